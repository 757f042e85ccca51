/-
  The Writer's add, Text, Flag, Int.
-/
import Derived.Test.YtomlbfkkhhhfkaaDoorPkWr
import Derived.Test.YtomlbfkkhhhfkaaDoorPkSig
import Derived.Lib.AppendStr
namespace Go.Proofs.YtomlbfkkhhhfkaaDoor.Pk
open Go.RowKit

theorem row_shape {w : World} {base n : Nat} {e : TypeId} {size : Nat} {v : Value} {xs : List Value} (h : w.ownsRow base e size v n xs) : ∃ A m c, v = .slice A m c := by
  rcases h.2 with ⟨h0, _⟩ | ⟨g, cap, _, hv, _⟩
  · exact ⟨_, _, _, h0⟩
  · exact ⟨_, _, _, hv⟩

theorem WAt.added {base bw : Nat} {w w1 : World} {bs t : List UInt8} {v v' : Value} (hv : w.heap[bw]? = some (.cells #[v] 54 (0, 0))) (hrow : Row base w v bs) (hlt : bw < base) (hb : base ≤ w.heap.size)
    (hown : w1.ownsRow base 5 1 v' (bs.length + t.length) (bs.map B8 ++ t.map B8)) (hg : w.grownBy w1 v.ownBlock) :
    WAt base bw (w1.setCell ⟨bw, 0, none⟩ v') (bs ++ t) ∧ Kp base bw w (w1.setCell ⟨bw, 0, none⟩ v') ∧ w1.cell? ⟨bw, 0, none⟩ = some v ∧ w1.frozen? ⟨bw, 0, none⟩ = false := by
  have hbw : w1.heap[bw]? = some (.cells #[v] 54 (0, 0)) := by
    rw [hg.block bw (by omega) (fun e => by have := (World.ownsRow.lt hrow) bw e.symm; omega)]; exact hv
  have hk : Kp base bw w w1 := Kp.of_grown hg hb (fun k hk => ((World.ownsRow.lt hrow) k hk).1) (fun k hk hn => Row.nb hrow k hk hn)
  refine ⟨⟨v', one_setCell hbw, ?_⟩, hk.setCell 0 v', cell_of_one hbw, free_of_one hbw⟩
  unfold Row
  have := ownsRow_setCell_below hown (a := ⟨bw, 0, none⟩) hlt v'
  simpa using this

set_option maxHeartbeats 400000 in
theorem add_any (base bw : Nat) (t : List UInt8) (bs : List UInt8) (w : World) (hw : WAt base bw w bs) (hlt : bw < base) (hb : base ≤ w.heap.size)
    (hlen : bs.length + t.length ≤ 140737488355328) :
    Calls Tryd.prog 47 #[.pointer (some ⟨bw, 0, none⟩), .string ⟨t.toArray⟩] w fun e w' => e = .returned (.tuple #[]) ∧ WAt base bw w' (bs ++ t) ∧ Kp base bw w w' := by
  obtain ⟨i0, hi, hz0, hz1, hz2⟩ := info_parts byte_info
  obtain ⟨v, hv, hrow⟩ := hw
  have hc := cell_of_one hv
  have HV := Lib.hid hv
  have hst : (⟨t.toArray⟩ : ByteArray).size = t.length := by simp [ByteArray.size]
  have HT := Lib.hid hst
  have HN : Hid (Lib.strCells ⟨t.toArray⟩ = t.map B8) := rfl
  clear hv hst
  go_enter Tryd.func47, Tryd.ntmps47
  go_wp2_with (at_builtin; refine Lib.wpList_append_own_string _ rfl (.tmp 10) (.tmp 11) 52 9 rfl base 5 i0 Tryd.underlying52 Tryd.underlying9 hi hz0 hz1 hz2 v bs.length (bs.map B8) rfl hrow ⟨t.toArray⟩ rfl (by rw [HT.out]; unfold maxLen; omega) (by rw [HT.out]; omega) hb ?_)
  intro v' w1 hown' hgrow _
  rw [HN.out] at hown'
  obtain ⟨hw', hk', hcl, hfr⟩ := WAt.added HV.out hrow hlt hb hown' hgrow
  obtain ⟨A, m, c, hv'⟩ := row_shape hown'
  subst hv'
  clear hown' hgrow hrow
  go_wp2
  go_end0
  exact ⟨rfl, hw', hk'⟩

/-- a text as bytes: how many, and these -/
def textB (t : List UInt8) : List UInt8 := enc t.length ++ t
def strs (ts : List (List UInt8)) : List Value := ts.map fun t => .string ⟨t.toArray⟩
def textAll (ts : List (List UInt8)) : List UInt8 := ts.flatMap textB
theorem textAll_snoc (ts : List (List UInt8)) (k : Nat) (h : k < ts.length) : textAll (ts.take (k + 1)) = textAll (ts.take k) ++ textB ts[k] := by
  unfold textAll; rw [List.take_succ_eq_append_getElem h, List.flatMap_append, List.flatMap_singleton]
theorem textAll_take (ts : List (List UInt8)) (k : Nat) : (textAll (ts.take k)).length ≤ (textAll ts).length := by
  have : textAll ts = textAll (ts.take k) ++ textAll (ts.drop k) := by unfold textAll; rw [← List.flatMap_append, List.take_append_drop]
  rw [this]; simp

set_option maxHeartbeats 800000 in
set_option maxRecDepth 100000 in
theorem text_any (base bw : Nat) (ts : List (List UInt8)) (A : Option Addr) (c : Nat) (bs : List UInt8) (w : World) (hw : WAt base bw w bs) (hlt : bw < base) (hb : base ≤ w.heap.size)
    (hA : Vals base bw w A (strs ts)) (hts : ts.length < 9223372036854775807) (hlen : bs.length + (textAll ts).length + 9 ≤ 140737488355328) :
    Calls Tryd.prog 20 #[.pointer (some ⟨bw, 0, none⟩), .slice A ts.length c] w fun e w' => e = .returned (.pointer (some ⟨bw, 0, none⟩)) ∧ WAt base bw w' (bs ++ textAll ts) ∧ Kp base bw w w' := by
  go_enter Tryd.func20, Tryd.ntmps20
  go_wp2
  go_loopw [9] (fun s wr => ∃ k : Nat, s = .int .i64 k ∧ k ≤ ts.length ∧ WAt base bw wr (bs ++ textAll (ts.take k)) ∧ Kp base bw w wr) (fun s _ => ts.length - (intOf s).toNat)
  case atStart => exact ⟨0, rfl, by omega, by simpa [textAll] using hw, Kp.refl _ _ _⟩
  case round =>
    obtain ⟨k, rfl, hk, hw1, hk1⟩ := hrel
    by_cases hkl : k < ts.length
    · obtain ⟨t, HT⟩ : ∃ t, Hid (t = ts[k]) := ⟨ts[k], Lib.hid rfl⟩
      obtain ⟨ad, rfl, hc⟩ : ∃ ad, A = some ad ∧ wr.cell? (ad.add k) = some (.string ⟨t.toArray⟩) := by
        rcases hA.keep hk1 with h | ⟨ad, h1, h2, h3, h4⟩
        · simp [strs] at h; subst h; simp at hkl
        · exact ⟨ad, h1, by have := h4 k (by simpa [strs] using hkl); rw [HT.out]; simpa [strs] using this⟩
      have HS := Lib.hid (textAll_snoc ts k hkl)
      have HL : Hid ((bs ++ textAll (ts.take k)).length + (enc t.length).length + t.length ≤ 140737488355328) ∧ Hid ((bs ++ textAll (ts.take k)).length + 9 ≤ 140737488355328) ∧ t.length < 140737488355328 := by
        have h1 := textAll_take ts (k + 1)
        have h2 := congrArg List.length HS.out
        rw [← HT.out] at h2
        simp only [textB, List.length_append] at h2
        have h3 := enc_pos t.length
        refine ⟨?_, ?_, by omega⟩ <;> (show _ ≤ _; simp only [List.length_append]; omega)
      obtain ⟨HL1, HL2, htl⟩ := HL
      have hst : (⟨t.toArray⟩ : ByteArray).size = t.length := by simp [ByteArray.size]
      clear hA
      go_wp2_with fail
      refine (lay_int base bw _ (by omega) (by omega) _ wr hw1 hlt (Nat.le_trans hb hk1.size) HL2.out).mono ?_
      rintro e w2 ⟨rfl, hw2, hk2⟩
      have HB2 : Hid (base ≤ w2.heap.size) := Nat.le_trans hb (Nat.le_trans hk1.size hk2.size)
      go_wp2_with fail
      refine (add_any base bw t _ w2 hw2 hlt HB2.out (by simpa [encI, Nat.add_assoc] using HL1.out)).mono ?_
      rintro e w3 ⟨rfl, hw3, hk3⟩
      go_wp2
      go_roundw
      case rel =>
        refine ⟨k + 1, by go_num, by omega, ?_, hk1.trans (hk2.trans hk3)⟩
        rw [HS.out, ← HT.out]
        simpa [textB, encI, List.append_assoc] using hw3
      case measure => simp [intOf]; omega
    · go_wp2
      go_ret
      refine ⟨rfl, ?_, hk1⟩
      rw [List.take_of_length_le (by omega)] at hw1
      exact hw1

end Go.Proofs.YtomlbfkkhhhfkaaDoor.Pk
