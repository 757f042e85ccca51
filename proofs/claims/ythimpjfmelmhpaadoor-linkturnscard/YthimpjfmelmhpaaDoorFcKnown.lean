/-
  Which types are known.
-/
import Derived.Test.YthimpjfmelmhpaaDoorFcTyp
import Derived.Test.YthimpjfmelmhpaaDoorFcFace
import Derived.Test.YthimpjfmelmhpaaDoorFcFew
namespace Go.Proofs.YthimpjfmelmhpaaDoor.Fc
open Go.RowKit
set_option linter.unusedVariables false

def knB (L : List Fc) (n : ByteArray) : Bool := intB n || boolB n || (greatB n && decide ((n.size : Int) ≤ 40) && (fnd L n).isSome)
theorem great_no {n : ByteArray} {x : UInt8} {l : List UInt8} (h : n.toList = x :: l) (hx : 90 < x.toNat) : greatB n = false := by
  rw [ByteArray.toList_eq] at h
  unfold greatB
  split
  · rename_i h0
    have e : n[0] = x := by
      have h1 : n.data.toList[0]? = some x := by rw [h]; rfl
      have h2 : n.data.toList[0]? = some n.data[0] := by
        rw [List.getElem?_eq_getElem (by simpa using h0)]
        simp
      rw [h2] at h1
      exact Option.some.inj h1
    rw [e]
    have : decide ((x.toNat : Int) ≤ 90) = false := by simp; omega
    rw [this, Bool.and_false]
  · rfl
theorem int_great {n : ByteArray} (h : intB n = true) : greatB n = false := great_no (x := 105) (by simpa [intB] using h) (by decide)
theorem bool_great {n : ByteArray} (h : boolB n = true) : greatB n = false := great_no (x := 98) (by simpa [boolB] using h) (by decide)
theorem null_great {n : ByteArray} (h : nullB n = true) : greatB n = false := great_no (x := 110) (by simpa [nullB] using h) (by decide)
theorem kn_bad {L : List Fc} {n : ByteArray} (h : goodB n = false) : knB L n = false := by
  unfold goodB at h
  unfold knB
  cases h1 : intB n <;> cases h2 : boolB n <;> simp [h1, h2] at h ⊢
  intro h3 h4
  exact absurd (h h3) (by omega)
theorem kn_low {L : List Fc} {n : ByteArray} (h : goodB n = true) (hg : greatB n = false) : knB L n = true := by
  unfold goodB at h
  unfold knB
  rw [hg] at h ⊢
  simpa using h
theorem kn_great {L : List Fc} {n : ByteArray} (h : goodB n = true) (hg : greatB n = true) : knB L n = (fnd L n).isSome := by
  have h1 : intB n = false := by cases e : intB n; rfl; rw [int_great e] at hg; cases hg
  have h2 : boolB n = false := by cases e : boolB n; rfl; rw [bool_great e] at hg; cases hg
  unfold goodB at h
  unfold knB
  rw [h1, h2, hg] at h ⊢
  simp at h ⊢
  intro _
  exact h

structure KInv (B tb fm : Nat) (L : List Fc) (w : World) (sv0 : Value) (c0 : Nat) (ts : List Ty) (v : Value) (wr : World) (sv : Value) (c k : Nat) : Prop where
  tab : Tb B wr tb fm sv c L
  stp : Stp tb w sv0 wr sv
  cnt : c ≤ c0 + k
  tys : Sl wr 2 TyR ts v
section
variable {B tb fm : Nat} {L : List Fc} {w : World} {sv0 : Value} {c0 : Nat} {ts : List Ty} {v : Value} {wr : World} {sv : Value} {c k : Nat}
theorem KInv.below {w1 : World} (h : KInv B tb fm L w sv0 c0 ts v wr sv c k) (hb : Below wr.heap.size wr w1) : KInv B tb fm L w sv0 c0 ts v w1 sv c k :=
  ⟨h.tab.below hb, h.stp.post hb, h.cnt, tys_keep (Keeps.of_below hb) h.tys⟩
theorem KInv.looked {w1 : World} {sv2 : Value} {c2 : Nat} (h : KInv B tb fm L w sv0 c0 ts v wr sv c k) (hT2 : Tb B w1 tb fm sv2 c2 L) (hs2 : Stp tb wr sv w1 sv2) (hc2 : c2 ≤ c + 1) : KInv B tb fm L w sv0 c0 ts v w1 sv2 c2 (k + 1) :=
  ⟨hT2, h.stp.trans hs2, by have := h.cnt; omega, tys_keep hs2.keeps h.tys⟩
theorem KInv.weak (h : KInv B tb fm L w sv0 c0 ts v wr sv c k) : KInv B tb fm L w sv0 c0 ts v wr sv c (k + 1) := ⟨h.tab, h.stp, by have := h.cnt; omega, h.tys⟩
theorem KInv.post (h : KInv B tb fm L w sv0 c0 ts v wr sv c k) (r : Bool) (j : Nat) (hj : k ≤ j) : TPost B tb fm L w sv0 c0 j (.bool r) (.returned (.bool r)) wr := ⟨sv, c, rfl, h.tab, h.stp, by have := h.cnt; omega⟩
end

set_option maxHeartbeats 4000000 in
set_option maxRecDepth 100000 in
theorem known27 (B tb fm : Nat) (L : List Fc) (ts : List Ty) (hsz : ∀ t ∈ ts, t.n.size ≤ maxLen) (hln : ts.length ≤ 1000) (a : Option Addr) (n cp : Nat) (w : World) (sv : Value) (c : Nat) (hN : Sl w 2 TyR ts (.slice a n cp)) (hB : B ≤ w.heap.size) (hT : Tb B w tb fm sv c L) (hc : c < 900000000000) :
    Calls Tryd.prog 27 #[.pointer (some ⟨tb, 0, none⟩), .slice a n cp] w (TPost B tb fm L w sv c ts.length (.bool (ts.all (fun t => knB L t.n)))) := by
  have hn := hN.at.1
  have hl := hN.at.2.1
  have hcc := hN.at.2.2.1
  unfold maxLen at hcc
  have HN := Lib.hid hn
  have HSZ := Lib.hid hsz
  have H0 : Hid (∃ sv1 c1, KInv B tb fm L w sv c ts (.slice a n cp) w sv1 c1 0) := Lib.hid ⟨sv, c, hT, Stp.refl _ _ _, by omega, hN⟩
  clear hT hN hn hsz
  go_enter Tryd.func27, Tryd.ntmps27
  go_wp2
  go_loopw [12] (fun i wr => ∃ k : Nat, k ≤ n ∧ i = .int .i64 k ∧ Hid (∀ t ∈ ts.take k, knB L t.n = true) ∧ Hid (∃ sv1 c1, KInv B tb fm L w sv c ts (.slice a n cp) wr sv1 c1 k)) (fun i _ => n - (intOf i).toNat)
  case atStart => exact ⟨0, Nat.zero_le _, rfl, Lib.hid (by simp), H0⟩
  case round =>
    obtain ⟨k, hk1, rfl, HA, HI⟩ := hrel
    obtain ⟨sv1, c1, hI⟩ := HI.out
    have hsr := hI.stp.mods.size
    have HR := Lib.hid hI
    clear H0 HI hI
    by_cases hlt : k < n
    · obtain ⟨t, ht⟩ : ∃ t, ts[k]? = some t := ⟨_, List.getElem?_eq_getElem (by have := HN.out; omega)⟩
      obtain ⟨g, o, cs, rfl, hcell, rfl⟩ := HR.out.tys.at.2.2.2 k t ht
      have c0 : wr.cell? ⟨g, o + k * 2, none⟩ = some (.string t.n) := hcell 0 _ rfl
      have hgl : g < wr.heap.size := World.block_lt_of_cell? _ _ c0
      have c1' := hcell 1 _ rfl
      have hts := HSZ.out t (List.mem_of_getElem? ht)
      have HX := Lib.hid ht
      clear hcell ht
      obtain ⟨tn, ta⟩ := t
      dsimp only at c0 c1' hts
      have HNO : Hid (knB L tn = false → ts.all (fun t => knB L t.n) = false) := Lib.hid (fun h => List.all_eq_false.2 ⟨_, List.mem_of_getElem? HX.out, by simp [h]⟩)
      have HYES : Hid (knB L tn = true → ∀ t ∈ ts.take (k + 1), knB L t.n = true) := Lib.hid (fun h => all_snoc (P := fun t => knB L t.n = true) HX.out HA.out h)
      have HR1 := Lib.hid (HR.out.below (below1 wr (.cells #[.string tn, .bool ta] 49)))
      have HB1 := Lib.hid (Blk.new wr [.string tn, .bool ta] 49)
      clear HR HA HX
      go_wp2_with fail
      refine (good43 tn ta _).mono ?_
      rintro e w1 ⟨rfl, hb1⟩
      have HR2 := Lib.hid (HR1.out.below hb1)
      have B1 := HB1.out.below hb1
      have p0 : w1.cell? ⟨wr.heap.size, 0, none⟩ = some (.string tn) := B1.cell 0
      have p1 : w1.cell? ⟨wr.heap.size, 1, none⟩ = some (.bool ta) := B1.cell 1
      clear hb1 HR1 HB1 B1
      cases hg : goodB tn with
      | false =>
        have HE := Lib.hid (HNO.out (kn_bad hg))
        clear hg HNO HYES
        go_wp2
        go_ret
        rw [HE.out]
        exact HR2.out.post false _ (by have := HN.out; omega)
      | true =>
        go_wp2_with fail
        refine (elem44 tn ta _).mono ?_
        rintro e w2 ⟨rfl, hb2⟩
        have HR3 := Lib.hid ((HR2.out.below hb2).below (below1 w2 (.cells #[.string tn, .bool false] 49)))
        have HB3 := Lib.hid (Blk.new w2 [.string tn, .bool false] 49)
        clear hb2 HR2 p0 p1
        go_wp2_with fail
        refine (class42 tn false _).mono ?_
        rintro e w3 ⟨rfl, hb3⟩
        have HR4 := Lib.hid (HR3.out.below hb3)
        have q0 : w3.cell? ⟨w2.heap.size, 0, none⟩ = some (.string tn) := (HB3.out.below hb3).cell 0
        clear hb3 HR3 HB3
        simp only [Bool.not_false, Bool.true_and]
        cases hgr : greatB tn with
        | false =>
          have HA2 := Lib.hid (HYES.out (kn_low hg hgr))
          clear hg hgr HNO HYES
          go_wp2
          go_roundw
          case rel => exact ⟨k + 1, by omega, by go_num, HA2, Lib.hid ⟨_, _, HR4.out.weak⟩⟩
          case measure => simp [intOf]; omega
        | true =>
          have hkn := kn_great (L := L) hg hgr
          have HL := Lib.hid (look_any B tb fm L tn hts w3 sv1 c1 HR4.out.tab w3 sv1 c1 (Stp.refl _ _ _) (by have := HR4.out.stp.mods.size; omega) HR4.out.tab (by have := HR4.out.cnt; have := HN.out; omega))
          clear hg hgr
          go_wp2_with fail
          refine HL.out.mono ?_
          rintro e w4 ⟨cs, sv2, c2, rfl, hF, hT2, hs2, hc2⟩
          obtain ⟨x1, x2, x3, y1, y2, y3, rfl, _, _⟩ := hF
          have HR5 := Lib.hid (HR4.out.looked hT2 hs2 hc2)
          clear HL hT2 hs2 HR4
          cases hf : (fnd L tn).isSome with
          | false =>
            have HE := Lib.hid (HNO.out (hkn.trans hf))
            clear hkn hf HNO HYES
            go_wp2
            go_ret
            rw [HE.out]
            exact (HR5.out.below (below1 _ _)).post false _ (by have := HN.out; omega)
          | true =>
            have HA2 := Lib.hid (HYES.out (hkn.trans hf))
            clear hkn hf HNO HYES
            go_wp2
            go_roundw
            case rel => exact ⟨k + 1, by omega, by go_num, HA2, Lib.hid ⟨_, _, HR5.out.below (below1 _ _)⟩⟩
            case measure => simp [intOf]; omega
    · have HE : Hid (ts.all (fun t => knB L t.n) = true) := Lib.hid (by
        have := HA.out
        rw [List.take_of_length_le (by have := HN.out; omega)] at this
        exact List.all_eq_true.2 this)
      go_wp2
      go_ret
      rw [HE.out]
      exact HR.out.post true _ (by have := HN.out; omega)

end Go.Proofs.YthimpjfmelmhpaaDoor.Fc
