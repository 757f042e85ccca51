/-
  HierOrders walked.
-/
import Derived.Test.YtgnkkoeklipmiaaHead
namespace Go.Proofs.Ytgnkkoeklipmiaa
open Go.RowKit
set_option linter.unusedVariables false

theorem Ch.suffix {L : List Fc} {x : ByteArray} {t : List ByteArray} : ∀ {p : List ByteArray} {s : ByteArray}, Ch L s (p ++ x :: t) → Ch L x (x :: t)
  | [], s, h => by
    cases h with
    | cons h1 h2 h3 => exact .cons h1 h2 h3
  | a :: p, s, h => by
    cases h with
    | cons h1 h2 h3 => exact Ch.suffix h3
theorem Ch.lt {L : List Fc} {x y : ByteArray} {t0 t1 : List ByteArray} (h1 : Ch L y (y :: t1)) (h0 : Ch L x (x :: t0)) (hx : x ∈ t1) : t0.length < t1.length := by
  obtain ⟨p, q, e⟩ := List.append_of_mem hx
  subst e
  have h2 : Ch L x (x :: q) := Ch.suffix (p := y :: p) h1
  have := h0.unique h2
  injection this with _ e
  subst e
  simp
  omega
theorem com_mem {L : List Fc} {a b : ByteArray} (h : com L a b ≠ eE) : com L a b ∈ (ab L a).1 ∧ com L a b ∈ (ab L b).1 := by
  unfold com at h ⊢
  cases hf : (ab L a).1.find? (fun t => decide (t ∈ (ab L b).1)) with
  | none => rw [hf] at h; exact absurd rfl h
  | some x => exact ⟨List.mem_of_find?_eq_some hf, by simpa using List.find?_some hf⟩
theorem com_sym {L : List Fc} {a b : ByteArray} (ha : (ab L a).2 = true) (hb : (ab L b).2 = true) : com L a b = com L b a := by
  have ca := ab_ch ha
  have cb := ab_ch hb
  unfold com
  generalize (ab L a).1 = la at *
  generalize (ab L b).1 = lb at *
  cases hf : la.find? (fun t => decide (t ∈ lb)) with
  | none =>
    rw [List.find?_eq_none] at hf
    have : lb.find? (fun t => decide (t ∈ la)) = none := by
      rw [List.find?_eq_none]
      intro u hu hm
      simp at hm
      exact hf u hm (by simpa using hu)
    rw [this]
  | some x =>
    rw [List.find?_eq_some_iff_append] at hf
    obtain ⟨hx, p, t0, rfl, hp⟩ := hf
    simp at hx
    cases hg : lb.find? (fun t => decide (t ∈ p ++ x :: t0)) with
    | none =>
      rw [List.find?_eq_none] at hg
      exact absurd (by simp) (hg x hx)
    | some y =>
      rw [List.find?_eq_some_iff_append] at hg
      obtain ⟨hy, q, t1, rfl, hq⟩ := hg
      simp only [decide_eq_true_eq] at hy
      have h0 := ca.suffix
      have h1 := cb.suffix
      by_cases e : x = y
      · rw [e]
      · exfalso
        have hx1 : x ∈ t1 := by
          rw [List.mem_append, List.mem_cons] at hx
          rcases hx with hx | hx | hx
          · have := hq x hx
            simp at this
          · exact absurd hx e
          · exact hx
        have hy1 : y ∈ t0 := by
          rw [List.mem_append, List.mem_cons] at hy
          rcases hy with hy | hy | hy
          · have := hp y hy
            simp at this
          · exact absurd hy.symm e
          · exact hy
        have l1 := h1.lt h0 hx1
        have l2 := h0.lt h1 hy1
        omega
theorem bel_trans {L : List Fc} {a b c : ByteArray} (ha : (ab L a).2 = true) (hb : (ab L b).2 = true) (h1 : bel L a b = true) (h2 : bel L b c = true) : bel L a c = true := by
  unfold bel at *
  simp only [decide_eq_true_eq] at *
  have ca := ab_ch ha
  have cb := ab_ch hb
  generalize (ab L a).1 = la at *
  generalize (ab L b).1 = lb at *
  obtain ⟨p, q, e⟩ := List.append_of_mem h1
  subst e
  have := ca.suffix.unique cb
  rw [← this] at h2
  rw [List.mem_append]
  exact .inr h2

/-- the state between two calls of a table -/
def TS (W : World) (tb fm : Nat) (L : List Fc) (k : Nat) (w : World) : Prop := ∃ B sv c, Tb B w tb fm sv c L ∧ W.heap.size ≤ B ∧ B ≤ w.heap.size ∧ c ≤ k ∧ Below W.heap.size W w
theorem TS.start {W w w' : World} {tb fm : Nat} {L : List Fc} (hb : Below W.heap.size W w) (h : Tb w.heap.size w' tb fm (.map none) 0 L) (h2 : Below w.heap.size w w') : TS W tb fm L 0 w' := ⟨_, _, _, h, hb.size, h2.size, Nat.le_refl _, hb.trans (h2.mono hb.size)⟩
theorem TS.below {W w w' : World} {tb fm k : Nat} {L : List Fc} (h : TS W tb fm L k w) (hb : Below w.heap.size w w') : TS W tb fm L k w' := by
  obtain ⟨B, sv, c, h1, h2, h3, h4, h5⟩ := h
  exact ⟨B, sv, c, h1.below hb, h2, Nat.le_trans h3 hb.size, h4, h5.trans (hb.mono (Nat.le_trans h2 h3))⟩
theorem TS.bel {W w : World} {tb fm k : Nat} {L : List Fc} (h : TS W tb fm L k w) : Below W.heap.size W w := let ⟨_, _, _, _, _, _, _, h⟩ := h; h
/-- behind an answer of a table -/
theorem TS.next {W w w' : World} {tb fm k j B : Nat} {L : List Fc} {sv sv' : Value} {c c' : Nat} (h1 : Tb B w tb fm sv c L) (h2 : W.heap.size ≤ B) (h3 : B ≤ w.heap.size) (h4 : c ≤ k) (h5 : Below W.heap.size W w) (hT : Tb B w' tb fm sv' c' L) (hs : Stp tb w sv w' sv') (hc : c' ≤ c + j) : TS W tb fm L (k + j) w' ∧ Keeps w w' :=
  ⟨⟨B, sv', c', hT, h2, Nat.le_trans h3 hs.mods.size, by omega, h5.trans ((hs.below h1 h3).mono h2)⟩, hs.keeps⟩
theorem below_ts {W w : World} {tb fm k : Nat} {L : List Fc} (h : TS W tb fm L k w) (hL : L.length ≤ 100) (hk : k < 500000) (s t : ByteArray) (hs : s.size ≤ maxLen) :
    Calls Try.prog 17 #[.pointer (some ⟨tb, 0, none⟩), .string s, .string t] w fun e w' => e = .returned (.bool (bel L s t)) ∧ TS W tb fm L (k + 101) w' ∧ Keeps w w' := by
  obtain ⟨B, sv, c, h1, h2, h3, h4, h5⟩ := h
  refine (below17 B tb fm L hL s t hs w sv c h3 h1 (by omega)).mono ?_
  rintro e w' ⟨sv', c', rfl, hT, hst, hc⟩
  exact ⟨rfl, TS.next h1 h2 h3 h4 h5 hT hst hc⟩
theorem common_ts {W w : World} {tb fm k : Nat} {L : List Fc} (h : TS W tb fm L k w) (hL : L.length ≤ 100) (hk : k < 500000) (s t : ByteArray) (hs : s.size ≤ maxLen) (ht : t.size ≤ maxLen) :
    Calls Try.prog 18 #[.pointer (some ⟨tb, 0, none⟩), .string s, .string t] w fun e w' => e = .returned (.string (com L s t)) ∧ TS W tb fm L (k + 202) w' ∧ Keeps w w' := by
  obtain ⟨B, sv, c, h1, h2, h3, h4, h5⟩ := h
  refine (common18 B tb fm L hL s t hs ht w sv c h3 h1 (by omega)).mono ?_
  rintro e w' ⟨sv', c', rfl, hT, hst, hc⟩
  exact ⟨rfl, TS.next h1 h2 h3 h4 h5 hT hst hc⟩
theorem above_ts {W w : World} {tb fm k : Nat} {L : List Fc} (h : TS W tb fm L k w) (hL : L.length ≤ 100) (hk : k < 500000) (s : ByteArray) (hs : s.size ≤ maxLen) :
    Calls Try.prog 13 #[.pointer (some ⟨tb, 0, none⟩), .string s] w fun e w' => ∃ a c, e = .returned (.tuple #[.slice a (ab L s).1.length c, .bool (ab L s).2]) ∧ Sl w' 1 StrR (ab L s).1 (.slice a (ab L s).1.length c) ∧ TS W tb fm L (k + 101) w' ∧ Keeps w w' := by
  obtain ⟨B, sv, c, h1, h2, h3, h4, h5⟩ := h
  refine (above13 B tb fm L hL s hs w sv c h3 h1 (by omega)).mono ?_
  rintro e w' ⟨v, sv', c', rfl, hS, hT, hst, hc⟩
  obtain ⟨a, cp, rfl⟩ := hS.form
  exact ⟨a, cp, rfl, hS, TS.next h1 h2 h3 h4 h5 hT hst (by omega)⟩

set_option maxHeartbeats 4000000 in
set_option maxRecDepth 100000 in
theorem orders7 (W : World) (L : List Fc) (v0 : Option Addr) (n cp : Nat) (a b c : ByteArray) (h : Sl W 4 (FcR W) L (.slice v0 n cp)) (hz : a.size ≤ reachBytes ∧ b.size ≤ reachBytes ∧ c.size ≤ reachBytes) :
    Calls Try.prog 7 #[.slice v0 n cp, .string a, .string b, .string c] W fun e w' => e = .returned (.bool true) ∧ Below W.heap.size W w' := by
  have HH := Lib.hid h
  unfold reachBytes at hz
  obtain ⟨z1, z2, z3⟩ := hz
  obtain ⟨hn, hl, hc, _⟩ := h.at
  unfold maxLen at hc
  have HN := Lib.hid hn
  clear h hn
  go_enter Try.func7, Try.ntmps7
  go_wp2_with fail
  refine (head9 W).mono ?_
  rintro e w1 ⟨rfl, hb1⟩
  have HF := Lib.hid (few10 L v0 n cp w1 (fcs_keep (Keeps.of_below hb1) HH.out))
  have hz1 := hb1.size
  go_wp2_with fail
  refine HF.out.mono ?_
  rintro e w2 ⟨r, rfl, hr, hb2⟩
  have hB2 : Below W.heap.size W w2 := hb1.trans (hb2.mono hz1)
  clear HF hb2 hb1
  cases r with
  | false =>
    clear hr
    go_wp2
    go_ret
    exact ⟨rfl, hB2⟩
  | true =>
    obtain ⟨hl8, hsm⟩ := hr rfl
    have HSM := Lib.hid hsm
    clear hr hsm
    by_cases hlen : 100 < a.size + b.size + c.size
    · go_wp2
      go_ret
      exact ⟨rfl, hB2⟩
    have hma : a.size ≤ maxLen := by unfold maxLen; omega
    have hmb : b.size ≤ maxLen := by unfold maxLen; omega
    have hmc : c.size ≤ maxLen := by unfold maxLen; omega
    have HNW := Lib.hid (new11 w2 L v0 n cp (fcs_keep (Keeps.of_below hB2) HH.out) (by have := HN.out; omega) HSM.out)
    go_wp2_with fail
    refine HNW.out.mono ?_
    rintro e w3 ⟨tb, fm, rfl, hT, hb3⟩
    have HT0 : Hid (TS W tb fm L 0 (w3.alloc (.cells #[.string a, .string b, .string c] 9))) := Lib.hid ((TS.start hB2 hT hb3).below (below1 _ _))
    have HR0 : Hid (Sl (w3.alloc (.cells #[.string a, .string b, .string c] 9)) 1 StrR [a, b, c] (.slice (some ⟨w3.heap.size, 0, none⟩) 3 3)) := Lib.hid (by
      refine ⟨some ⟨w3.heap.size, 0, none⟩, 3, rfl, by simp, by unfold maxLen; omega, fun i x hi => ⟨w3.heap.size, 0, [.string x], rfl, fun j v hv => ?_, rfl⟩⟩
      have hj : j = 0 := by have := (List.getElem?_eq_some_iff.1 hv).1; simp at this; exact this
      subst hj
      rw [(Blk.new w3 [.string a, .string b, .string c] 9).cell]
      match i, hi with
      | 0, hi => simp at hi hv ⊢; rw [hi, hv]
      | 1, hi => simp at hi hv ⊢; rw [hi, hv]
      | 2, hi => simp at hi hv ⊢; rw [hi, hv])
    obtain ⟨ns, hns⟩ : ∃ ns, ns = [a, b, c] := ⟨_, rfl⟩
    have HNS := Lib.hid hns
    have hnl : ns.length = 3 := by rw [hns]; rfl
    have HNL := Lib.hid hnl
    rw [← hns] at HR0
    clear hnl hns
    clear HNW hT hb3
    go_wp2
    generalize decide ((100 : Int) < ↑a.size + ↑b.size + ↑c.size) = dd
    go_loopw [38] (fun i wr => ∃ k : Nat, k ≤ 3 ∧ i = .int .i64 k ∧ Hid (TS W tb fm L (101 * k) wr) ∧ Hid (Sl wr 1 StrR ns (.slice (some ⟨w3.heap.size, 0, none⟩) 3 3)) ∧ Hid (∀ s ∈ ns.take k, (ab L s).2 = true)) (fun i _ => 3 - (intOf i).toNat)
    case atStart => exact ⟨0, Nat.zero_le _, rfl, HT0, HR0, Lib.hid (by simp)⟩
    case round =>
      obtain ⟨k, hk1, rfl, HT, HR, HA⟩ := hrel
      clear HT0 HR0
      by_cases hlt : k < 3
      · obtain ⟨s, hs⟩ : ∃ s, ns[k]? = some s := ⟨_, List.getElem?_eq_getElem (by have := HNL.out; omega)⟩
        have hkk := HR.out.at.2.2.2
        obtain ⟨g, o, cs, ea, hcell, rfl⟩ := hkk k s hs
        cases ea
        have c0 : wr.cell? ⟨w3.heap.size, k, none⟩ = some (.string s) := by have := hcell 0 _ rfl; simpa using this
        have hmem : s ∈ [a, b, c] := by rw [← HNS.out]; exact List.mem_of_getElem? hs
        have hms : s.size ≤ maxLen := by
          simp at hmem
          rcases hmem with rfl | rfl | rfl <;> assumption
        have HAB := Lib.hid (above_ts HT.out (by omega) (by omega) s hms)
        have HS := Lib.hid hs
        clear hcell hkk hmem hs
        go_wp2_with fail
        refine HAB.out.mono ?_
        rintro e w4 ⟨a4, c4, rfl, hS4, hT4, hk4⟩
        have HT4 := Lib.hid hT4
        have HR4 := Lib.hid (strs_keep hk4 HR.out)
        clear HAB hS4 hT4 hk4 HT HR
        cases hw : (ab L s).2 with
        | false =>
          go_wp2
          go_ret
          exact ⟨rfl, HT4.out.bel⟩
        | true =>
          have HA2 := Lib.hid (all_snoc HS.out HA.out hw)
          clear HA
          go_wp2
          go_roundw
          case rel => exact ⟨k + 1, by omega, by go_num, HT4, HR4, HA2⟩
          case measure => simp [intOf]; omega
      · have HA2 := HA.out
        rw [List.take_of_length_le (by have := HNL.out; omega), HNS.out] at HA2
        have wa : (ab L a).2 = true := HA2 a (by simp)
        have wb : (ab L b).2 = true := HA2 b (by simp)
        have HSY := Lib.hid (com_sym wa wb)
        have HMM := Lib.hid (com_mem (L := L) (a := a) (b := b))
        have HTR := Lib.hid (fun h1 h2 => bel_trans (c := c) wa wb h1 h2)
        clear HA HA2 wa wb HNS HNL HR
        have HC := Lib.hid (common_ts HT.out (by omega) (by omega) a b hma hmb)
        clear HT
        go_wp2_with fail
        refine HC.out.mono ?_
        rintro e w4 ⟨rfl, hT4, _⟩
        have HC2 := Lib.hid (common_ts hT4 (by omega) (by omega) b a hmb hma)
        clear HC hT4
        rw [← HSY.out] at HC2
        clear HSY
        have HX1 : Hid (com L a b ≠ eE → bel L a (com L a b) = true ∧ bel L b (com L a b) = true) := Lib.hid (fun h => by
          obtain ⟨h1, h2⟩ := HMM.out h
          unfold bel
          exact ⟨by simpa using h1, by simpa using h2⟩)
        clear HMM
        generalize com L a b = x at *
        have hxx := teq (rfl : x = x)
        go_wp2_with fail
        refine HC2.out.mono ?_
        rintro e w5 ⟨rfl, hT5, _⟩
        clear HC2
        by_cases hxe : x = eE
        · have hx2 := tempty hxe
          clear hxe HX1
          cases h1 : bel L a b with
          | false =>
            have HB1 := Lib.hid (below_ts hT5 (by omega) (by omega) a b hma)
            rw [h1] at HB1
            clear hT5 h1
            go_wp2_with fail
            refine HB1.out.mono ?_
            rintro e w6 ⟨rfl, hT6, _⟩
            have HB6 := Lib.hid hT6.bel
            clear hT6 HB1
            go_wp2
            go_ret
            exact ⟨rfl, HB6.out⟩
          | true =>
            have HB1 := Lib.hid (below_ts hT5 (by omega) (by omega) a b hma)
            have HTR2 := Lib.hid (HTR.out h1)
            rw [h1] at HB1
            clear hT5 h1
            go_wp2_with fail
            refine HB1.out.mono ?_
            rintro e w6 ⟨rfl, hT6, _⟩
            have HB2 := Lib.hid (below_ts hT6 (by omega) (by omega) b c hmb)
            clear hT6 HB1
            cases h2 : bel L b c with
            | false =>
              rw [h2] at HB2
              clear h2 HTR2
              go_wp2_with fail
              refine HB2.out.mono ?_
              rintro e w7 ⟨rfl, hT7, _⟩
              have HB7 := Lib.hid hT7.bel
              clear hT7 HB2
              go_wp2
              go_ret
              exact ⟨rfl, HB7.out⟩
            | true =>
              have h3 := HTR2.out h2
              rw [h2] at HB2
              clear h2 HTR2
              go_wp2_with fail
              refine HB2.out.mono ?_
              rintro e w7 ⟨rfl, hT7, _⟩
              have HB3 := Lib.hid (below_ts hT7 (by omega) (by omega) a c hma)
              rw [h3] at HB3
              clear hT7 HB2 h3
              go_wp2_with fail
              refine HB3.out.mono ?_
              rintro e w8 ⟨rfl, hT8, _⟩
              have HB8 := Lib.hid hT8.bel
              clear hT8 HB3
              go_wp2
              go_ret
              exact ⟨rfl, HB8.out⟩
        · have hx2 := tfull hxe
          obtain ⟨b1, b2⟩ := HX1.out hxe
          have HY1 := Lib.hid (below_ts hT5 (by omega) (by omega) a x hma)
          rw [b1] at HY1
          clear hxe HX1 hT5 b1
          go_wp2_with fail
          refine HY1.out.mono ?_
          rintro e w10 ⟨rfl, hT10, _⟩
          have HY2 := Lib.hid (below_ts hT10 (by omega) (by omega) b x hmb)
          rw [b2] at HY2
          clear HY1 hT10 b2
          go_wp2_with fail
          refine HY2.out.mono ?_
          rintro e w11 ⟨rfl, hT11, _⟩
          clear HY2
          cases h1 : bel L a b with
          | false =>
            have HB1 := Lib.hid (below_ts hT11 (by omega) (by omega) a b hma)
            rw [h1] at HB1
            clear hT11 h1
            go_wp2_with fail
            refine HB1.out.mono ?_
            rintro e w6 ⟨rfl, hT6, _⟩
            have HB6 := Lib.hid hT6.bel
            clear hT6 HB1
            go_wp2
            go_ret
            exact ⟨rfl, HB6.out⟩
          | true =>
            have HB1 := Lib.hid (below_ts hT11 (by omega) (by omega) a b hma)
            have HTR2 := Lib.hid (HTR.out h1)
            rw [h1] at HB1
            clear hT11 h1
            go_wp2_with fail
            refine HB1.out.mono ?_
            rintro e w6 ⟨rfl, hT6, _⟩
            have HB2 := Lib.hid (below_ts hT6 (by omega) (by omega) b c hmb)
            clear hT6 HB1
            cases h2 : bel L b c with
            | false =>
              rw [h2] at HB2
              clear h2 HTR2
              go_wp2_with fail
              refine HB2.out.mono ?_
              rintro e w7 ⟨rfl, hT7, _⟩
              have HB7 := Lib.hid hT7.bel
              clear hT7 HB2
              go_wp2
              go_ret
              exact ⟨rfl, HB7.out⟩
            | true =>
              have h3 := HTR2.out h2
              rw [h2] at HB2
              clear h2 HTR2
              go_wp2_with fail
              refine HB2.out.mono ?_
              rintro e w7 ⟨rfl, hT7, _⟩
              have HB3 := Lib.hid (below_ts hT7 (by omega) (by omega) a c hma)
              rw [h3] at HB3
              clear hT7 HB2 h3
              go_wp2_with fail
              refine HB3.out.mono ?_
              rintro e w8 ⟨rfl, hT8, _⟩
              have HB8 := Lib.hid hT8.bel
              clear hT8 HB3
              go_wp2
              go_ret
              exact ⟨rfl, HB8.out⟩
end Go.Proofs.Ytgnkkoeklipmiaa
