/-
  head: the two examples.
-/
import Derived.Test.YtbpdeehpeflbeaaDoorHex
import Derived.Stop.BytesEq
namespace Go.Proofs.YtbpdeehpeflbeaaDoor
open Go.RowKit

theorem shaOf_length (l : List Nat) : (shaOf l).length = 32 := digestOf_length _
theorem shaOf_lt (l : List Nat) : ∀ x ∈ shaOf l, x < 256 := by
  intro x hx
  unfold shaOf digestOf at hx
  obtain ⟨i, _, rfl⟩ := List.mem_map.1 hx
  exact Nat.mod_lt _ (by omega)
theorem all1 (S : ByteArray) : allOf [S] = bsOf S := by simp [allOf]

theorem cells_of (D : List Nat) (h : ∀ x ∈ D, x < 256) : D.map U8 = (D.map (fun n => UInt8.ofNat n)).map Extern.Stop.cell := by
  rw [List.map_map]
  refine List.map_congr_left fun x hx => ?_
  have := h x hx
  simp [U8, Extern.Stop.cell, Nat.mod_eq_of_lt this]
theorem size5 (w : World) : (sizeOf 5).run Tryd.prog w = .ok 1 w := by
  have h : (Tryd.prog.info? 5).map (·.size) = some 1 := by kernel_rfl
  cases hi : Tryd.prog.info? 5 with
  | none => simp [hi] at h
  | some i =>
    simp [hi] at h
    simp [sizeOf, typeInfo, hi, h]
/-- two digests -/
theorem eq_any (D E : List Nat) (hD : D.length = 32) (hE : E.length = 32) (h1 : ∀ x ∈ D, x < 256) (h2 : ∀ x ∈ E, x < 256) (w : World) :
    (Op.equalIn 10000 24 (.agg (D.map U8).toArray) (.agg (E.map U8).toArray)).run Tryd.prog w = .ok (D.map (fun n => UInt8.ofNat n) == E.map (fun n => UInt8.ofNat n)) w := by
  rw [cells_of D h1, cells_of E h2]
  exact run_equalIn_bytes w 9998 24 5 32 Tryd.underlying24 Tryd.underlying5 size5 _ _ (by simpa using hD) (by simpa using hE)
theorem eq_same (D : List Nat) (hD : D.length = 32) (h1 : ∀ x ∈ D, x < 256) (w : World) :
    (Op.equalIn 10000 24 (.agg (D.map U8).toArray) (.agg (D.map U8).toArray)).run Tryd.prog w = .ok true w := by
  rw [eq_any D D hD hD h1 h1 w]
  simp

/-- one text -/
theorem sum_one (w : World) (S : ByteArray) (hS : S.size < 1000000) (hK : RdW 0 w K) :
    Calls Tryd.prog 9 #[.slice (some ⟨w.heap.size, 0, none⟩) 1 1] (w.alloc (.cells #[.string S] 9)) fun e w' => e = .returned (.agg ((shaOf (bsOf S)).map U8).toArray) ∧ Below w.heap.size w w' := by
  have h0 : 0 < w.heap.size := block_lt_of_cell (hK 0 (by omega))
  have hb : Below w.heap.size w (w.alloc (.cells #[.string S] 9)) := (Below.refl _ _).alloc (Nat.le_refl _) _
  have h := sum_any (w.alloc (.cells #[.string S] 9)) (some ⟨w.heap.size, 0, none⟩) w.heap.size 1 [S] (by rw [all1, bsOf_length]; exact hS) (by simp) (by
    intro i hi
    have hi0 : i = 0 := by simpa using hi
    subst hi0
    refine ⟨rfl, by simp, ?_⟩
    have e := heap_alloc_new w (.cells #[.string S] 9)
    simp only [World.cell?, e]
    rfl) (fun i hi => (hb.cell (by exact h0)).trans (hK i hi))
  rw [all1] at h
  refine h.mono ?_
  rintro e w' ⟨rfl, hb'⟩
  exact ⟨rfl, hb.trans (hb'.mono (by simp))⟩

def T1 : ByteArray := ⟨#[97, 98, 99]⟩
def T2 : ByteArray := ⟨#[97, 98, 99, 100, 98, 99, 100, 101, 99, 100, 101, 102, 100, 101, 102, 103, 101, 102, 103, 104, 102, 103, 104, 105, 103, 104, 105, 106, 104, 105, 106, 107, 105, 106, 107, 108, 106, 107, 108, 109, 107, 108, 109, 110, 108, 109, 110, 111, 109, 110, 111, 112, 110, 111, 112, 113]⟩
theorem ex1 : strOf (hexOf (shaOf (bsOf T1))) = ⟨#[98, 97, 55, 56, 49, 54, 98, 102, 56, 102, 48, 49, 99, 102, 101, 97, 52, 49, 52, 49, 52, 48, 100, 101, 53, 100, 97, 101, 50, 50, 50, 51, 98, 48, 48, 51, 54, 49, 97, 51, 57, 54, 49, 55, 55, 97, 57, 99, 98, 52, 49, 48, 102, 102, 54, 49, 102, 50, 48, 48, 49, 53, 97, 100]⟩ := by
  rw [show bsOf T1 = [97, 98, 99] from rfl, head1]
  rfl
theorem ex2 : strOf (hexOf (shaOf (bsOf T2))) = ⟨#[50, 52, 56, 100, 54, 97, 54, 49, 100, 50, 48, 54, 51, 56, 98, 56, 101, 53, 99, 48, 50, 54, 57, 51, 48, 99, 51, 101, 54, 48, 51, 57, 97, 51, 51, 99, 101, 52, 53, 57, 54, 52, 102, 102, 50, 49, 54, 55, 102, 54, 101, 99, 101, 100, 100, 52, 49, 57, 100, 98, 48, 54, 99, 49]⟩ := by
  rw [show bsOf T2 = [97, 98, 99, 100, 98, 99, 100, 101, 99, 100, 101, 102, 100, 101, 102, 103, 101, 102, 103, 104, 102, 103, 104, 105, 103, 104, 105, 106, 104, 105, 106, 107, 105, 106, 107, 108, 106, 107, 108, 109, 107, 108, 109, 110, 108, 109, 110, 111, 109, 110, 111, 112, 110, 111, 112, 113] from rfl, head2]
  rfl

set_option maxHeartbeats 1600000 in
set_option maxRecDepth 100000 in
theorem head_any (w : World) (hK : RdW 0 w K) :
    Calls Tryd.prog 8 #[] w fun e w' => e = .returned (.bool true) ∧ Below w.heap.size w w' := by
  have h0 : 0 < w.heap.size := block_lt_of_cell (hK 0 (by omega))
  go_enter Tryd.func8, Tryd.ntmps8
  go_wp2_with fail
  refine (sum_one w T1 (by decide) hK).mono ?_
  rintro e w1 ⟨rfl, hb1⟩
  obtain ⟨D1, HD1⟩ : ∃ D, Hid (D = shaOf (bsOf T1)) := ⟨_, Lib.hid rfl⟩
  rw [← HD1.out]
  go_wp2_with fail
  refine (hex_any w1 D1 (by rw [HD1.out]; exact shaOf_length _) (by rw [HD1.out]; exact shaOf_lt _)).mono ?_
  rintro e w2 ⟨rfl, hb2⟩
  have HE1 := Lib.hid ex1
  rw [← HD1.out] at HE1
  rw [HE1.out]
  have hb02 : Below w.heap.size w w2 := hb1.trans (hb2.mono hb1.size)
  have hK2 : RdW 0 w2 K := fun i hi => (hb02.cell (by exact h0)).trans (hK i hi)
  go_wp2_with fail
  refine (sum_one w2 T2 (by decide) hK2).mono ?_
  rintro e w3 ⟨rfl, hb3⟩
  obtain ⟨D2, HD2⟩ : ∃ D, Hid (D = shaOf (bsOf T2)) := ⟨_, Lib.hid rfl⟩
  rw [← HD2.out]
  go_wp2_with fail
  refine (hex_any w3 D2 (by rw [HD2.out]; exact shaOf_length _) (by rw [HD2.out]; exact shaOf_lt _)).mono ?_
  rintro e w4 ⟨rfl, hb4⟩
  have HE2 := Lib.hid ex2
  rw [← HD2.out] at HE2
  rw [HE2.out]
  have hb24 : Below w2.heap.size w2 w4 := hb3.trans (hb4.mono hb3.size)
  have hb04 : Below w.heap.size w w4 := hb02.trans (hb24.mono hb02.size)
  go_wp2
  go_ret
  exact ⟨rfl, hb04⟩

end Go.Proofs.YtbpdeehpeflbeaaDoor
