/-
  The Writer's Flag, Int; pack's Read; the statements' head.
-/
import Derived.Test.YtdcbeemjdpgjmaaDoorPkWmore
namespace Go.Proofs.YtdcbeemjdpgjmaaDoor.Pk
open Go.RowKit

def flagB (b : Bool) : UInt8 := if b then 1 else 0
def bools (fs : List Bool) : List Value := fs.map Value.bool
theorem take_map_snoc {α β : Type} (f : α → β) (fs : List α) (k : Nat) (h : k < fs.length) : (fs.take (k + 1)).map f = (fs.take k).map f ++ [f fs[k]] := by
  rw [List.take_succ_eq_append_getElem h, List.map_append]; rfl

set_option maxHeartbeats 800000 in
set_option maxRecDepth 100000 in
theorem flag_any (base bw : Nat) (fs : List Bool) (A : Option Addr) (c : Nat) (bs : List UInt8) (w : World) (hw : WAt base bw w bs) (hlt : bw < base) (hb : base ≤ w.heap.size)
    (hA : Vals base bw w A (bools fs)) (hlen : bs.length + fs.length + 9 ≤ 140737488355328) :
    Calls Tryd.prog 37 #[.pointer (some ⟨bw, 0, none⟩), .slice A fs.length c] w fun e w' => e = .returned (.pointer (some ⟨bw, 0, none⟩)) ∧ WAt base bw w' (bs ++ fs.map flagB) ∧ Kp base bw w w' := by
  go_enter Tryd.func37, Tryd.ntmps37
  go_wp2
  go_loopw [9] (fun s wr => ∃ k : Nat, s = .int .i64 k ∧ k ≤ fs.length ∧ WAt base bw wr (bs ++ (fs.take k).map flagB) ∧ Kp base bw w wr) (fun s _ => fs.length - (intOf s).toNat)
  case atStart => exact ⟨0, rfl, by omega, by simpa using hw, Kp.refl _ _ _⟩
  case round =>
    obtain ⟨k, rfl, hk, hw1, hk1⟩ := hrel
    by_cases hkl : k < fs.length
    · obtain ⟨f, HT⟩ : ∃ f, Hid (f = fs[k]) := ⟨fs[k], Lib.hid rfl⟩
      obtain ⟨ad, rfl, hc⟩ : ∃ ad, A = some ad ∧ wr.cell? (ad.add k) = some (.bool f) := by
        rcases hA.keep hk1 with h | ⟨ad, h1, h2, h3, h4⟩
        · simp [bools] at h; subst h; simp at hkl
        · exact ⟨ad, h1, by have := h4 k (by simpa [bools] using hkl); rw [HT.out]; simpa [bools] using this⟩
      have HS := Lib.hid (take_map_snoc flagB fs k hkl)
      have HL : Hid ((bs ++ (fs.take k).map flagB).length + 9 ≤ 140737488355328) := by
        show _ ≤ _
        simp only [List.length_append, List.length_map, List.length_take]
        omega
      have HB : Hid (base ≤ wr.heap.size) := Nat.le_trans hb hk1.size
      clear hA
      cases f
      · go_wp2_with fail
        refine (lay_int base bw _ (by omega) (by omega) _ wr hw1 hlt HB.out HL.out).mono ?_
        rintro e w2 ⟨rfl, hw2, hk2⟩
        go_wp2
        go_roundw
        case rel => exact ⟨k + 1, by go_num, by omega, by rw [HS.out, ← HT.out, ← List.append_assoc]; exact hw2, hk1.trans hk2⟩
        case measure => simp [intOf]; omega
      · go_wp2_with fail
        refine (lay_int base bw _ (by omega) (by omega) _ wr hw1 hlt HB.out HL.out).mono ?_
        rintro e w2 ⟨rfl, hw2, hk2⟩
        go_wp2
        go_roundw
        case rel => exact ⟨k + 1, by go_num, by omega, by rw [HS.out, ← HT.out, ← List.append_assoc]; exact hw2, hk1.trans hk2⟩
        case measure => simp [intOf]; omega
    · go_wp2
      go_ret
      refine ⟨rfl, ?_, hk1⟩
      rw [List.take_of_length_le (by omega)] at hw1
      exact hw1
theorem WAt.new (base : Nat) (w : World) : WAt base w.heap.size (w.alloc (.cells #[.slice none 0 0] 31)) [] := ⟨_, heap_alloc_new w _, World.ownsRow_nil _ _ _ _⟩
end Go.Proofs.YtdcbeemjdpgjmaaDoor.Pk
