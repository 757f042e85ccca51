/-
  The statement's own text of an expression: its two inner functions.
-/
import Derived.Test.YtojkagfbdpjckaaDoorKidsWalk
namespace Go.Proofs.YtojkagfbdpjckaaDoor
open Go.RowKit

/-- An expression has its text by the statement's own reckoning, in every world that is W but for what is new. -/
def TextOK (W : World) (t : Tree) (kk : Value) : Prop := ∀ w, Below W.heap.size W w → (tx t).length ≤ 140737488355328 → Calls Tryd.prog 11 #[exprV t kk] w fun e w' => e = .returned (.string ⟨(tx t).toArray⟩) ∧ Below w.heap.size w w'

set_option maxHeartbeats 1000000 in
theorem clos30 (W : World) (Q : Tree → Value → Prop) (hQ : ∀ t kk, t.ok → Q t kk → TextOK W t kk) (kids : List Tree) (ka : Option Addr) (kn kc : Nat) (hk : Kids W Q kids (.slice ka kn kc)) (b : Nat) (cs : Array Value) (i : Nat) (_hi : i ≤ 1) (w : World) (hw : Below W.heap.size W w)
    (hb : w.heap[b]? = some (.cells cs 29 (0, 0))) (h7 : cs[7]? = some (.slice ka kn kc)) (hlen : (nt (kids.map tx) i).length ≤ 140737488355328) :
    Calls Tryd.prog 30 #[.int .i64 i, .pointer (some ⟨b, 0, none⟩)] w fun e w' => e = .returned (.string ⟨(nt (kids.map tx) i).toArray⟩) ∧ Below w.heap.size w w' := by
  obtain ⟨hkn, hl, hc, hkk⟩ := hk.at
  have hc7 : w.cell? ⟨b, 7, none⟩ = some (.slice ka kn kc) := cell_row hb 7 h7
  rw [nt_map] at hlen ⊢
  unfold maxLen at hc
  clear hb h7
  by_cases hlt : i < kids.length
  · obtain ⟨g, o, kk, rfl, hcell, ⟨ka2, kn2, kc2, rfl⟩, hok, hq⟩ := hkk i kids[i] (List.getElem?_eq_getElem hlt)
    have hg : kids.getD i Tree.zero = kids[i] := by simp [List.getD_eq_getElem?_getD, hlt]
    rw [hg] at hlen ⊢
    have htext := hQ _ _ hok hq w hw hlen
    have hc2 := hcell.below hw
    have hik : i < kn := by omega
    clear hcell hq hok hg hkk hlen hk hkn
    generalize kids[i] = t at *
    clear hlt
    generalize (⟨(tx t).toArray⟩ : ByteArray) = Z at *
    obtain ⟨kind, ln, co, num, name, tn, ta, kids', fn, fa, ow⟩ := t
    have c0 : w.cell? ⟨g, o + i * 11, none⟩ = some (.int .i64 kind) := hc2 0 _ rfl
    have hgl : g < w.heap.size := World.block_lt_of_cell? _ _ c0
    have c1 := hc2 1 _ rfl
    have c2 := hc2 2 _ rfl
    have c3 := hc2 3 _ rfl
    have c4 := hc2 4 _ rfl
    have c5 := hc2 5 _ rfl
    have c6 := hc2 6 _ rfl
    have c7 := hc2 7 _ rfl
    have c8 := hc2 8 _ rfl
    have c9 := hc2 9 _ rfl
    have c10 := hc2 10 _ rfl
    clear hc2
    go_enter Tryd.func30, Tryd.ntmps30
    go_wp2_with fail
    refine htext.mono ?_
    rintro e w1 ⟨rfl, hb1⟩
    go_wp2
    go_ret
    exact ⟨rfl, hb1⟩
  · have hg : kids.getD i Tree.zero = Tree.zero := by simp [List.getD_eq_getElem?_getD, Nat.le_of_not_lt hlt]
    have hik : ¬ i < kn := by omega
    rw [hg, tx_zero]
    unfold nul
    clear hlen hg hkk hk hkn hlt hl
    go_enter Tryd.func30, Tryd.ntmps30
    go_wp2
    go_ret
    exact ⟨rfl, Below.refl _ _⟩

set_option maxHeartbeats 2000000 in
theorem clos31 (W : World) (Q : Tree → Value → Prop) (hQ : ∀ t kk, t.ok → Q t kk → TextOK W t kk) (kids : List Tree) (ka : Option Addr) (kn kc : Nat) (hk : Kids W Q kids (.slice ka kn kc)) (b : Nat) (cs : Array Value) (i : Nat) (hi : i ≤ 1) (w : World) (hw : Below W.heap.size W w)
    (hb : w.heap[b]? = some (.cells cs 29 (0, 0))) (h7 : cs[7]? = some (.slice ka kn kc)) (hlen : (cm ((kids.map tx).drop i)).length ≤ 140737488355328) :
    Calls Tryd.prog 31 #[.int .i64 i, .pointer (some ⟨b, 0, none⟩)] w fun e w' => e = .returned (.string ⟨(cm ((kids.map tx).drop i)).toArray⟩) ∧ Below w.heap.size w w' := by
  obtain ⟨hkn, hl, hc, hkk⟩ := hk.at
  unfold maxLen at hc
  have hB := hw.size
  have hbl : b < w.heap.size := (Array.getElem?_eq_some_iff.1 hb).1
  have HB := Lib.hid hb
  have H7 := Lib.hid h7
  have HK := Lib.hid hkk
  have HN := Lib.hid hkn
  have HL := Lib.hid hlen
  have hl2 : kn ≤ kc := by omega
  clear hb h7 hkk hkn hlen hk hl
  go_enter Tryd.func31, Tryd.ntmps31
  go_wp2
  go_loopw [4, 5] (fun s j wr => ∃ k : Nat, i ≤ k ∧ (k ≤ kn ∨ k = i) ∧ j = .int .i64 k ∧ s = .string ⟨(cm (((kids.map tx).drop i).take (k - i))).toArray⟩ ∧ Below w.heap.size w wr) (fun _ j _ => kn - (intOf j).toNat)
  case atStart => exact ⟨i, Nat.le_refl _, .inr rfl, rfl, by simp [cm], Below.refl _ _⟩
  case round =>
    obtain ⟨k, hik, hkk2, rfl, rfl, hbr⟩ := hrel
    have hwr : Below W.heap.size W wr := hw.trans (hbr.mono hB)
    have hsr := hbr.size
    have hc7 : wr.cell? ⟨b, 7, none⟩ = some (.slice ka kn kc) := cell_row ((hbr.block b hbl).trans HB.out) 7 H7.out
    by_cases hlt : k < kn
    · have hlt2 : k < kids.length := by rw [← HN.out]; exact hlt
      have hlt3 : k - i < ((kids.map tx).drop i).length := by simp; omega
      obtain ⟨g, o, kk, rfl, hcell, ⟨ka2, kn2, kc2, rfl⟩, hok, hq⟩ := HK.out k kids[k] (List.getElem?_eq_getElem hlt2)
      have hsn := cm_snoc ((kids.map tx).drop i) (k - i) hlt3
      have hel : ((kids.map tx).drop i)[k - i] = tx kids[k] := by
        simp only [List.getElem_drop, List.getElem_map]
        congr 2
        omega
      rw [hel] at hsn
      have hle := cm_take_le ((kids.map tx).drop i) (k - i + 1)
      have hlen3 : (cm (((kids.map tx).drop i).take (k - i))).length + ((if k - i = 0 then [] else [44, 32] : Bs).length + (tx kids[k]).length) ≤ 140737488355328 := by
        have h1 := congrArg List.length hsn
        rw [List.length_append, List.length_append] at h1
        have := HL.out
        omega
      have htl : (tx kids[k]).length ≤ 140737488355328 := by omega
      have HTX : Hid (∀ x, Below W.heap.size W x → Calls Tryd.prog 11 #[exprV kids[k] (.slice ka2 kn2 kc2)] x fun e w' => e = .returned (.string ⟨(tx kids[k]).toArray⟩) ∧ Below x.heap.size x w') := Lib.hid (fun x hx => hQ _ _ hok hq x hx htl)
      have HC := Lib.hid (hcell.below hwr)
      have e1 : k + 1 - i = k - i + 1 := by omega
      have HSN : Hid (cm (((kids.map tx).drop i).take (k + 1 - i)) = cm (((kids.map tx).drop i).take (k - i)) ++ ((if k - i = 0 then [] else [44, 32]) ++ tx kids[k])) := Lib.hid (by rw [e1]; exact hsn)
      have HL3 := Lib.hid hlen3
      clear hsn hel hle hlen3 htl hcell hok hq hlt3 e1
      generalize kids[k] = t at *
      generalize cm (((kids.map tx).drop i).take (k - i)) = S0 at *
      generalize hT0 : tx t = T0 at *
      clear hT0
      have hS0 : (⟨S0.toArray⟩ : ByteArray).size = S0.length := by simp [ByteArray.size]
      have hTs : (⟨T0.toArray⟩ : ByteArray).size = T0.length := by simp [ByteArray.size]
      obtain ⟨ZS, eZS⟩ : ∃ Z : ByteArray, Z = ⟨S0.toArray⟩ := ⟨_, rfl⟩
      obtain ⟨ZT, eZT⟩ : ∃ Z : ByteArray, Z = ⟨T0.toArray⟩ := ⟨_, rfl⟩
      rw [← eZS] at hS0
      rw [← eZT] at hTs
      rw [← eZT] at HTX
      rw [← eZS]
      have ES := Lib.hid eZS
      have ET := Lib.hid eZT
      have hb1 : ZS.size ≤ 140737488355328 := by have := HL3.out; omega
      have hb2 : ZT.size ≤ 140737488355328 := by have := HL3.out; omega
      have HS0 := Lib.hid hS0
      have HTs := Lib.hid hTs
      clear eZS eZT hS0 hTs
      obtain ⟨kind, ln, co, num, name, tn, ta, kids', fn, fa, ow⟩ := t
      have hc2 := HC.out
      have c0 : wr.cell? ⟨g, o + k * 11, none⟩ = some (.int .i64 kind) := hc2 0 _ rfl
      have hgl : g < wr.heap.size := World.block_lt_of_cell? _ _ c0
      have c1 := hc2 1 _ rfl
      have c2 := hc2 2 _ rfl
      have c3 := hc2 3 _ rfl
      have c4 := hc2 4 _ rfl
      have c5 := hc2 5 _ rfl
      have c6 := hc2 6 _ rfl
      have c7 := hc2 7 _ rfl
      have c8 := hc2 8 _ rfl
      have c9 := hc2 9 _ rfl
      have c10 := hc2 10 _ rfl
      clear hc2 HC
      have z1 : ¬ 9223372036854775807 < ZS.size + 2 := by omega
      have z2 : ¬ 9223372036854775807 < ZS.size + 2 + ZT.size := by omega
      have z3 : ¬ 9223372036854775807 < ZS.size + ZT.size := by omega
      by_cases h0 : i < k
      · go_wp2_with fail
        refine (HTX.out _ hwr).mono ?_
        rintro e w3 ⟨rfl, hb3⟩
        go_wp2
        go_roundw
        case rel =>
          refine ⟨k + 1, by omega, .inl (by omega), by go_num, ?_, hbr.trans (hb3.mono hsr)⟩
          have h9 := HSN.out
          rw [if_neg (by omega : ¬ k - i = 0)] at h9
          rw [h9, ES.out, ET.out]
          exact congrArg Value.string (ba_eq (by simp))
        case measure => simp [intOf]; omega
      · go_wp2_with fail
        refine (HTX.out _ hwr).mono ?_
        rintro e w3 ⟨rfl, hb3⟩
        go_wp2
        go_roundw
        case rel =>
          refine ⟨k + 1, by omega, .inl (by omega), by go_num, ?_, hbr.trans (hb3.mono hsr)⟩
          have h9 := HSN.out
          rw [if_pos (by omega : k - i = 0)] at h9
          rw [h9, ES.out, ET.out]
          exact congrArg Value.string (ba_eq (by simp))
        case measure => simp [intOf]; omega
    · have HE : Hid (((kids.map tx).drop i).take (k - i) = (kids.map tx).drop i) := Lib.hid (List.take_of_length_le (by have := HN.out; simp; omega))
      have hbr2 := hbr
      go_wp2
      go_ret
      rw [HE.out]
      exact ⟨rfl, hbr2⟩
end Go.Proofs.YtojkagfbdpjckaaDoor
