/-
  Texts that are put on a page, one behind the other.
-/
import Derived.Test.YtojkagfbdpjckaaDoorPage
namespace Go.Proofs.YtojkagfbdpjckaaDoor
open Go.RowKit

/-- Behind a call that has laid something on a page: the page, and what stays as it was. -/
def Lays (B b : Nat) (l : List UInt8) (w w' : World) : Prop := Pg B b (Lib.byteCells l) w' ∧ Below B w w' ∧ Lib.OthersKept 5 (some b) w w'

def cat (xs : List ByteArray) : List UInt8 := xs.flatMap (·.data.toList)
theorem cat_snoc (xs : List ByteArray) (k : Nat) (h : k < xs.length) : cat (xs.take (k + 1)) = cat (xs.take k) ++ xs[k].data.toList := by
  unfold cat
  rw [List.take_succ_eq_append_getElem h, List.flatMap_append]
  simp
theorem cat_take_le (xs : List ByteArray) (k : Nat) : (cat (xs.take k)).length ≤ (cat xs).length := by
  have h : cat xs = cat (xs.take k) ++ cat (xs.drop k) := by unfold cat; rw [← List.flatMap_append, List.take_append_drop]
  rw [h, List.length_append]; omega
theorem kept_row {b g : Nat} {w w' : World} {cs : Array Value} {t : TypeId} {fz : Nat × Nat} (h : Lib.OthersKept 5 (some b) w w') (hg : w.heap[g]? = some (.cells cs t fz)) (hgb : g ≠ b) (ht : t ≠ 5) : w'.heap[g]? = some (.cells cs t fz) :=
  h g _ hg (by simpa using hgb) (by intro c f e; cases e; exact ht rfl)
theorem Lays.trans {B b : Nat} {l l' : List UInt8} {w w1 w2 : World} (h : Lays B b l w w1) (h' : Lays B b l' w1 w2) : Lays B b l' w w2 := ⟨h'.1, h.2.1.trans h'.2.1, h.2.2.trans h'.2.2⟩
theorem Lays.size {B b : Nat} {l : List UInt8} {w w1 : World} (h : Lays B b l w w1) : w.heap.size ≤ w1.heap.size := h.2.1.size

set_option maxHeartbeats 1000000 in
theorem put_any (B b g c : Nat) (l : List UInt8) (xs : List ByteArray) (w : World) (h : Pg B b (Lib.byteCells l) w) (hg : w.heap[g]? = some (.cells (xs.map Value.string).toArray 9 (0, 0))) (hgb : g ≠ b)
    (hlen : l.length + (cat xs).length ≤ 140737488355328) (hx : xs.length ≤ maxLen) (hBw : B ≤ w.heap.size) :
    Calls Tryd.prog 39 #[.pointer (some ⟨b, 0, none⟩), .slice (some ⟨g, 0, none⟩) xs.length c] w fun e w' => e = .returned (.tuple #[]) ∧ Lays B b (l ++ cat xs) w w' := by
  unfold maxLen at hx
  have HG := Lib.hid hg
  clear hg
  go_enter Tryd.func39, Tryd.ntmps39
  go_wp2
  go_loopw [8] (fun i wr => ∃ k : Nat, k ≤ xs.length ∧ i = .int .i64 k ∧ Lays B b (l ++ cat (xs.take k)) w wr) (fun i _ => xs.length - (intOf i).toNat)
  case atStart => exact ⟨0, Nat.zero_le _, rfl, by simpa [cat] using h, Below.refl _ _, Lib.OthersKept.refl _ _ _⟩
  case round =>
    obtain ⟨k, hk, rfl, hL⟩ := hrel
    have HL := Lib.hid hL
    clear hL
    by_cases hlt : k < xs.length
    · have hgr := kept_row HL.out.2.2 HG.out hgb (by decide)
      have hc : wr.cell? ⟨g, k, none⟩ = some (.string xs[k]) := by rw [Lib.cell_of_heap hgr]; simp [hlt]
      have HC := Lib.hid (cat_snoc xs k hlt)
      have hl2 := cat_take_le xs (k + 1)
      have hl3 : (cat (xs.take (k + 1))).length = (cat (xs.take k)).length + xs[k].size := by rw [HC.out, List.length_append]; rfl
      have hsz := HL.out.size
      have HL3 := Lib.hid hl3
      clear hl3 hgr
      go_wp2_with fail
      refine (write_any B b _ _ _ HL.out.1 (by rw [Lib.byteCells_length, List.length_append]; have := HL3.out; omega) (by omega)).mono ?_
      rintro e w1 ⟨rfl, h1, h2, h3⟩
      go_wp2
      go_roundw
      case rel =>
        refine ⟨k + 1, by omega, by go_num, ?_⟩
        refine HL.out.trans ⟨Or.inr ?_, h2, h3⟩
        rw [HC.out, ← List.append_assoc, Lib.byteCells_append, ← Lib.strCells_eq]
        exact h1
      case measure => simp [intOf]; omega
    · have hkk : k = xs.length := by omega
      have HK := Lib.hid hkk
      clear hkk
      go_wp2
      go_end0
      refine ⟨rfl, ?_⟩
      have := HL.out
      rw [HK.out, List.take_length] at this
      exact this
end Go.Proofs.YtojkagfbdpjckaaDoor
