/-
  The last region of OpTexts.
-/
import Derived.Test.YtkdgneinjkongaaDoorCodesW
namespace Go.Proofs.YtkdgneinjkongaaDoor
open Go.RowKit

/-- two instructions in blocks of their own -/
structure TxS (w0 : World) (A : Nat) (c1 x1 c2 x2 : Int) (z : World) : Prop where
  a : Blk z A [.int .i64 c1, .int .i64 x1] 34
  b : Blk z (A + 1) [.int .i64 c2, .int .i64 x2] 34
  below : Below w0.heap.size w0 z
theorem TxS.next {w0 : World} {A : Nat} {c1 x1 c2 x2 : Int} {z z' : World} (h : TxS w0 A c1 x1 c2 x2 z) (hb : Below z.heap.size z z') : TxS w0 A c1 x1 c2 x2 z' :=
  ⟨h.a.below hb, h.b.below hb, h.below.trans (hb.mono h.below.size)⟩
theorem TxS.drew {w0 : World} {A : Nat} {c1 x1 c2 x2 : Int} {z : World} (h : TxS w0 A c1 x1 c2 x2 z) : TxS w0 A c1 x1 c2 x2 z.drew := ⟨h.a, h.b, h.below.drew⟩

theorem name_plain : ∀ k ∈ List.range 33, (nameN k).all (fun c => c != 32) = true := by decide +kernel
theorem tw_name (k : Nat) (h : k ≤ 32) (r : Bs) : (nameN k ++ 32 :: r).takeWhile (fun c => c != 32) = nameN k := by
  have h1 := List.all_eq_true.1 (name_plain k (List.mem_range.2 (by omega)))
  rw [List.takeWhile_append_of_pos h1]; simp
theorem tw_name0 (k : Nat) (h : k ≤ 32) : (nameN k).takeWhile (fun c => c != 32) = nameN k := by
  have h1 := List.all_eq_true.1 (name_plain k (List.mem_range.2 (by omega)))
  have := List.takeWhile_append_of_pos (l₂ := []) h1; simpa using this
def readD (l : Bs) : Nat := l.foldl (fun n c => n * 10 + (c.toNat - 48)) 0
theorem read_digits : ∀ k ∈ List.range 256, readD (Lib.itoa (k : Int)) = k := by decide +kernel
theorem itoa_inj {x y : Nat} (hx : x < 256) (hy : y < 256) (h : Lib.itoa (x : Int) = Lib.itoa (y : Int)) : x = y := by
  rw [← read_digits x (List.mem_range.2 hx), ← read_digits y (List.mem_range.2 hy), h]
/-- the number of an instruction that has none is 0 -/
def numF (k x : Nat) : Nat := if poolN k = 0 then 0 else x
theorem text_inj (k j x y : Nat) (hk : k ≤ 32) (hj : j ≤ 32) (hx : x < 256) (hy : y < 256) :
    (textN k (numF k x : Nat) = textN j (numF j y : Nat)) ↔ (k = j ∧ numF k x = numF j y) := by
  constructor
  · intro h
    have h1 := congrArg (fun l : Bs => l.takeWhile (fun c => c != 32)) h
    have tk : ∀ (i z : Nat), i ≤ 32 → (textN i (z : Nat)).takeWhile (fun c => c != 32) = nameN i := by
      intro i z hi
      unfold textN
      split
      · exact tw_name0 i hi
      · exact tw_name i hi _
    simp only [tk k _ hk, tk j _ hj] at h1
    have e := name_inj hk hj h1
    subst e
    refine ⟨rfl, ?_⟩
    unfold numF at h ⊢
    by_cases hp : poolN k = 0
    · simp [hp]
    · simp only [if_neg hp] at h ⊢
      unfold textN at h
      simp only [if_neg hp] at h
      have h2 := List.append_cancel_left h
      exact itoa_inj hx hy (by simpa using h2)
  · rintro ⟨rfl, h⟩; rw [h]

theorem str_beq (l r : Bs) : ((str l).toList == (str r).toList) = decide (l = r) := by
  rw [Lib.toList_data, Lib.toList_data, data_str, data_str, Bool.eq_iff_iff]; simp

end Go.Proofs.YtkdgneinjkongaaDoor
