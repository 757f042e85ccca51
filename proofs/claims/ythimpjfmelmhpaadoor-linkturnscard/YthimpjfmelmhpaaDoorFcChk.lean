/-
  Fields and methods, one by one.
-/
import Derived.Test.YthimpjfmelmhpaaDoorFcTwice
import Derived.Test.YthimpjfmelmhpaaDoorFcKnown
namespace Go.Proofs.YthimpjfmelmhpaaDoor.Fc
open Go.RowKit
set_option linter.unusedVariables false

def brk (L : List Fc) (s : ByteArray) : Int := if (fnd L ((fnd L s).getD zF).sup).isSome then 26 else 23
def chkF (L : List Fc) (up : List ByteArray) : List Vr → Int
  | [] => 0
  | v :: r => if knB L v.tn = false then 23 else if (fldOf L up v.name).isSome then 6 else chkF L up r
def knM (L : List Fc) (m : Sg) : Bool := knB L m.rn && m.ps.all (fun t => knB L t.n)
def ovr (L : List Fc) (up : List ByteArray) (m : Sg) : Bool := !m.st && (mthOf L up m.name false).isSome && !decide (((mthOf L up m.name false).getD (eE, zS)).2 = m)
def chkM (L : List Fc) (up : List ByteArray) : List Sg → Int
  | [] => 0
  | m :: r => if knM L m = false then 23 else if ovr L up m = true then 27 else chkM L up r

theorem drop_at {α : Type} {l : List α} {k : Nat} {x : α} (hx : l[k]? = some x) : l.drop k = x :: l.drop (k + 1) := by
  have hk : k < l.length := (List.getElem?_eq_some_iff.1 hx).1
  rw [List.drop_eq_getElem_cons hk, (List.getElem?_eq_some_iff.1 hx).2]

set_option maxHeartbeats 2000000 in
theorem broken45 (B tb fm : Nat) (L : List Fc) (s : ByteArray) (hs : s.size ≤ maxLen) (w : World) (sv : Value) (c : Nat) (hB : B ≤ w.heap.size) (hT : Tb B w tb fm sv c L) (hc : c < 900000000000) :
    Calls Tryd.prog 44 #[.pointer (some ⟨tb, 0, none⟩), .string s] w (TPost B tb fm L w sv c 2 (.int .i64 (brk L s))) := by
  have HL := Lib.hid (look_any B tb fm L s hs w sv c hT w sv c (Stp.refl _ _ _) hB hT (by omega))
  have HSM := Lib.hid (hT.small s)
  clear hT
  go_enter Tryd.func44, Tryd.ntmps44
  go_wp2_with fail
  refine HL.out.mono ?_
  rintro e w1 ⟨cs, sv1, c1, rfl, hF, hT1, hs1, hc1⟩
  obtain ⟨x1, x2, x3, y1, y2, y3, rfl, _, _⟩ := hF
  have HBR : Hid (brk L s = if (fnd L ((fnd L s).getD zF).sup).isSome then 26 else 23) := Lib.hid rfl
  generalize (fnd L s).getD zF = f at *
  have hb1 := below1 w1 (.cells #[.string f.name, .string f.sup, .slice x1 x2 x3, .slice y1 y2 y3] 35)
  have hT1' := hT1.below hb1
  have HL2 := Lib.hid (look_any B tb fm L f.sup (by have := HSM.out.sup; unfold maxLen; omega) _ sv1 c1 hT1' _ sv1 c1 (Stp.refl _ _ _) (by have := hs1.mods.size; simp; omega) hT1' (by omega))
  have HS1 := Lib.hid (hs1.post hb1)
  clear HL hT1 hs1 hb1 hT1'
  go_wp2_with fail
  refine HL2.out.mono ?_
  rintro e w2 ⟨cs, sv2, c2, rfl, hF, hT2, hs2, hc2⟩
  obtain ⟨p1, p2, p3, q1, q2, q3, rfl, _, _⟩ := hF
  have HT2 := Lib.hid hT2
  have HS2 := Lib.hid (HS1.out.trans hs2)
  clear HL2 hT2 hs2 HS1
  cases hf : (fnd L f.sup).isSome with
  | true =>
    have HE : Hid (brk L s = 26) := Lib.hid (by rw [HBR.out, hf]; rfl)
    clear hf HBR
    go_wp2
    go_ret
    exact ⟨sv2, c2, by rw [HE.out]; rfl, HT2.out.below (below1 _ _), HS2.out.post (below1 _ _), by omega⟩
  | false =>
    have HE : Hid (brk L s = 23) := Lib.hid (by rw [HBR.out, hf]; rfl)
    clear hf HBR
    go_wp2
    go_ret
    exact ⟨sv2, c2, by rw [HE.out]; rfl, HT2.out.below (below1 _ _), HS2.out.post (below1 _ _), by omega⟩

/-- a way along members -/
structure GInv (B tb fm : Nat) (L : List Fc) (w : World) (sv0 : Value) (c0 : Nat) (up : List ByteArray) (v : Value) (wr : World) (sv : Value) (c k : Nat) : Prop where
  tab : Tb B wr tb fm sv c L
  stp : Stp tb w sv0 wr sv
  cnt : c ≤ c0 + k
  names : Sl wr 1 StrR up v
section
variable {B tb fm : Nat} {L : List Fc} {w : World} {sv0 : Value} {c0 : Nat} {up : List ByteArray} {v : Value} {wr : World} {sv : Value} {c k : Nat}
theorem GInv.below {w1 : World} (h : GInv B tb fm L w sv0 c0 up v wr sv c k) (hb : Below wr.heap.size wr w1) : GInv B tb fm L w sv0 c0 up v w1 sv c k :=
  ⟨h.tab.below hb, h.stp.post hb, h.cnt, strs_keep (Keeps.of_below hb) h.names⟩
theorem GInv.next {w1 : World} {sv2 : Value} {c2 j : Nat} (h : GInv B tb fm L w sv0 c0 up v wr sv c k) (hT2 : Tb B w1 tb fm sv2 c2 L) (hs2 : Stp tb wr sv w1 sv2) (hc2 : c2 ≤ c + j) : GInv B tb fm L w sv0 c0 up v w1 sv2 c2 (k + j) :=
  ⟨hT2, h.stp.trans hs2, by have := h.cnt; omega, strs_keep hs2.keeps h.names⟩
theorem GInv.weak {k' : Nat} (h : GInv B tb fm L w sv0 c0 up v wr sv c k) (hk : k ≤ k') : GInv B tb fm L w sv0 c0 up v wr sv c k' := ⟨h.tab, h.stp, by have := h.cnt; omega, h.names⟩
theorem GInv.post (h : GInv B tb fm L w sv0 c0 up v wr sv c k) (r : Value) (j : Nat) (hj : k ≤ j) : TPost B tb fm L w sv0 c0 j r (.returned r) wr := ⟨sv, c, rfl, h.tab, h.stp, by have := h.cnt; omega⟩
end
theorem tysOne (w : World) (an : ByteArray) (aa : Bool) : Sl (w.alloc (.cells #[.string an, .bool aa] 49)) 2 TyR [⟨an, aa⟩] (.slice (some ⟨w.heap.size, 0, none⟩) 1 1) := by
  refine ⟨some ⟨w.heap.size, 0, none⟩, 1, rfl, by simp, by unfold maxLen; omega, fun i x hi => ?_⟩
  have hB := Blk.new w [.string an, .bool aa] 49
  match i, hi with
  | 0, hi =>
    simp at hi
    subst hi
    refine ⟨w.heap.size, 0, _, rfl, fun j v hv => ?_, rfl⟩
    rw [hB.cell]
    simpa using hv

set_option maxHeartbeats 4000000 in
set_option maxRecDepth 100000 in
theorem checkFields47 (B tb fm : Nat) (L : List Fc) (fs : List Vr) (up : List ByteArray) (hfs : ∀ v ∈ fs, v.name.size ≤ 60 ∧ v.tn.size ≤ 60) (hfl : fs.length ≤ 1000) (hup : ∀ t ∈ up, t.size ≤ 60) (hul : up.length ≤ 350) (a1 : Option Addr) (n1 c1 : Nat) (a2 : Option Addr) (n2 c2 : Nat) (w : World) (sv : Value) (c : Nat)
    (hF : Sl w 3 VrR fs (.slice a1 n1 c1)) (hN : Sl w 1 StrR up (.slice a2 n2 c2)) (hB : B ≤ w.heap.size) (hT : Tb B w tb fm sv c L) (hc : c < 300000000000) :
    Calls Tryd.prog 46 #[.pointer (some ⟨tb, 0, none⟩), .slice a1 n1 c1, .slice a2 n2 c2] w (TPost B tb fm L w sv c (400 * fs.length) (.int .i64 (chkF L up fs))) := by
  have hn := hF.at.1
  have hl := hF.at.2.1
  have hcc := hF.at.2.2.1
  unfold maxLen at hcc
  have HN := Lib.hid hn
  have HFS := Lib.hid hfs
  have HUP := Lib.hid hup
  have HFK := Lib.hid hF
  have H0 : Hid (∃ sv1 k1, GInv B tb fm L w sv c up (.slice a2 n2 c2) w sv1 k1 0) := Lib.hid ⟨sv, c, hT, Stp.refl _ _ _, by omega, hN⟩
  clear hT hN hn hfs hup hF
  go_enter Tryd.func46, Tryd.ntmps46
  go_wp2
  go_loopw [14] (fun i wr => ∃ k : Nat, k ≤ n1 ∧ i = .int .i64 k ∧ Hid (chkF L up fs = chkF L up (fs.drop k)) ∧ Hid (∃ sv1 k1, GInv B tb fm L w sv c up (.slice a2 n2 c2) wr sv1 k1 (400 * k))) (fun i _ => n1 - (intOf i).toNat)
  case atStart => exact ⟨0, Nat.zero_le _, rfl, Lib.hid (by simp), H0⟩
  case round =>
    obtain ⟨k, hk1, rfl, HA, HI⟩ := hrel
    obtain ⟨sv1, k1, hI⟩ := HI.out
    have hsr := hI.stp.mods.size
    have HR := Lib.hid hI
    clear H0 HI hI
    by_cases hlt : k < n1
    · obtain ⟨v, hv⟩ : ∃ v, fs[k]? = some v := ⟨_, List.getElem?_eq_getElem (by have := HN.out; omega)⟩
      have hF := vrs_keep HR.out.stp.keeps HFK.out
      obtain ⟨g, o, cs, rfl, hcell, rfl⟩ := hF.at.2.2.2 k v hv
      have p0 : wr.cell? ⟨g, o + k * 3, none⟩ = some (.string v.name) := hcell 0 _ rfl
      have hgl : g < wr.heap.size := World.block_lt_of_cell? _ _ p0
      have p1 := hcell 1 _ rfl
      have p2 := hcell 2 _ rfl
      obtain ⟨hs1, hs2⟩ := HFS.out v (List.mem_of_getElem? hv)
      have HD : Hid (chkF L up fs = if knB L v.tn = false then 23 else if (fldOf L up v.name).isSome then 6 else chkF L up (fs.drop (k + 1))) := Lib.hid (by rw [HA.out, drop_at hv]; rfl)
      clear hcell hv HA hF
      obtain ⟨vn, tn, ta⟩ := v
      dsimp only at p0 p1 p2 hs1 hs2 HD
      have HR1 := Lib.hid ((HR.out.below (below1 wr (.cells #[.string vn, .string tn, .bool ta] 68))).below (below1 _ (.cells #[.string tn, .bool ta] 49)))
      have HB1 := Lib.hid ((Blk.new wr [.string vn, .string tn, .bool ta] 68).below (below1 _ (.cells #[.string tn, .bool ta] 49)))
      have HKN := Lib.hid (known27 B tb fm L [⟨tn, ta⟩] (by simp; unfold maxLen; omega) (by simp) _ 1 1 _ sv1 k1 (tysOne (wr.alloc (.cells #[.string vn, .string tn, .bool ta] 68)) tn ta) (by simp; omega) HR1.out.tab (by have := HR1.out.cnt; have := HN.out; omega))
      rw [show (wr.alloc (.cells #[.string vn, .string tn, .bool ta] 68)).heap.size = wr.heap.size + 1 by simp] at HKN
      simp only [List.all_cons, List.all_nil, Bool.and_true, List.length_cons, List.length_nil, Nat.zero_add] at HKN
      clear HR
      go_wp2_with fail
      refine HKN.out.mono ?_
      rintro e w1 ⟨sv2, k2, rfl, hT2, hst2, hk2⟩
      have HR2 := Lib.hid (HR1.out.next hT2 hst2 hk2)
      have q0 : w1.cell? ⟨wr.heap.size, 0, none⟩ = some (.string vn) := hst2.keeps _ _ (HB1.out.cell 0) (pl_str _)
      clear HKN HR1 hT2 hst2 HB1
      cases hkn : knB L tn with
      | false =>
        have HE : Hid (chkF L up fs = 23) := Lib.hid (by rw [HD.out, if_pos hkn])
        clear hkn HD
        go_wp2
        go_ret
        rw [HE.out]
        exact HR2.out.post _ _ (by have := HN.out; omega)
      | true =>
        have HFO := Lib.hid (fieldOf37 B tb fm L up HUP.out (by omega) a2 n2 c2 vn w1 sv2 k2 HR2.out.names (by have := HR2.out.stp.mods.size; omega) HR2.out.tab (by have := HR2.out.cnt; have := HN.out; omega))
        go_wp2_with fail
        refine HFO.out.mono ?_
        rintro e w2 ⟨sv3, k3, rfl, hT3, hst3, hk3⟩
        have HR3 := Lib.hid (HR2.out.next hT3 hst3 hk3)
        have HD2 : Hid (chkF L up fs = if (fldOf L up vn).isSome then 6 else chkF L up (fs.drop (k + 1))) := Lib.hid (by rw [HD.out, hkn]; rfl)
        clear HFO HR2 hT3 hst3 hkn HD
        generalize fldOf L up vn = fo at *
        generalize fo.getD (eE, zT) = fp
        obtain ⟨fc, ft⟩ := fp
        unfold tyV
        dsimp only
        cases hfo : fo.isSome with
        | true =>
          have HE : Hid (chkF L up fs = 6) := Lib.hid (by rw [HD2.out, hfo]; rfl)
          clear hfo HD2
          go_wp2
          go_ret
          rw [HE.out]
          exact (HR3.out.below (below1 _ _)).post _ _ (by have := HN.out; omega)
        | false =>
          have HA2 : Hid (chkF L up fs = chkF L up (fs.drop (k + 1))) := Lib.hid (by rw [HD2.out, hfo]; rfl)
          clear hfo HD2
          go_wp2
          go_roundw
          case rel => exact ⟨k + 1, by omega, by go_num, HA2, Lib.hid ⟨_, _, (HR3.out.below (below1 _ _)).weak (by omega)⟩⟩
          case measure => simp [intOf]; omega
    · have HE : Hid (chkF L up fs = 0) := Lib.hid (by rw [HA.out, List.drop_of_length_le (by have := HN.out; omega)]; rfl)
      go_wp2
      go_ret
      rw [HE.out]
      exact HR.out.post _ _ (by have := HN.out; omega)

set_option maxHeartbeats 8000000 in
set_option maxRecDepth 100000 in
theorem checkMethods48 (B tb fm : Nat) (L : List Fc) (ms : List Sg) (up : List ByteArray) (hms : ∀ m ∈ ms, m.name.size ≤ 60 ∧ m.rn.size ≤ 60 ∧ m.ps.length ≤ 10 ∧ ∀ p ∈ m.ps, p.n.size ≤ 60) (hml : ms.length ≤ 1000) (hup : ∀ t ∈ up, t.size ≤ 60) (hul : up.length ≤ 350) (a1 : Option Addr) (n1 c1 : Nat) (a2 : Option Addr) (n2 c2 : Nat) (w : World) (sv : Value) (c : Nat)
    (hF : Sl w 5 (SgR w) ms (.slice a1 n1 c1)) (hN : Sl w 1 StrR up (.slice a2 n2 c2)) (hB : B ≤ w.heap.size) (hT : Tb B w tb fm sv c L) (hc : c < 300000000000) :
    Calls Tryd.prog 47 #[.pointer (some ⟨tb, 0, none⟩), .slice a1 n1 c1, .slice a2 n2 c2] w (TPost B tb fm L w sv c (400 * ms.length) (.int .i64 (chkM L up ms))) := by
  have hn := hF.at.1
  have hl := hF.at.2.1
  have hcc := hF.at.2.2.1
  unfold maxLen at hcc
  have HN := Lib.hid hn
  have HMS := Lib.hid hms
  have HUP := Lib.hid hup
  have HFK := Lib.hid hF
  have H0 : Hid (∃ sv1 k1, GInv B tb fm L w sv c up (.slice a2 n2 c2) w sv1 k1 0) := Lib.hid ⟨sv, c, hT, Stp.refl _ _ _, by omega, hN⟩
  clear hT hN hn hms hup hF
  go_enter Tryd.func47, Tryd.ntmps47
  go_wp2
  go_loopw [14] (fun i wr => ∃ k : Nat, k ≤ n1 ∧ i = .int .i64 k ∧ Hid (chkM L up ms = chkM L up (ms.drop k)) ∧ Hid (∃ sv1 k1, GInv B tb fm L w sv c up (.slice a2 n2 c2) wr sv1 k1 (400 * k))) (fun i _ => n1 - (intOf i).toNat)
  case atStart => exact ⟨0, Nat.zero_le _, rfl, Lib.hid (by simp), H0⟩
  case round =>
    obtain ⟨k, hk1, rfl, HA, HI⟩ := hrel
    obtain ⟨sv1, k1, hI⟩ := HI.out
    have hsr := hI.stp.mods.size
    have HR := Lib.hid hI
    clear H0 HI hI
    by_cases hlt : k < n1
    · obtain ⟨m, hv⟩ : ∃ v, ms[k]? = some v := ⟨_, List.getElem?_eq_getElem (by have := HN.out; omega)⟩
      have hF := sgs_keep HR.out.stp.keeps HFK.out
      obtain ⟨g, o, cs, rfl, hcell, pa, pn, pc, rfl, hp⟩ := hF.at.2.2.2 k m hv
      have p0 : wr.cell? ⟨g, o + k * 5, none⟩ = some (.string m.name) := hcell 0 _ rfl
      have hgl : g < wr.heap.size := World.block_lt_of_cell? _ _ p0
      have p1 := hcell 1 _ rfl
      have p2 := hcell 2 _ rfl
      have p3 := hcell 3 _ rfl
      have p4 := hcell 4 _ rfl
      obtain ⟨hs1, hs2, hs3, hs4⟩ := HMS.out m (List.mem_of_getElem? hv)
      have HD : Hid (chkM L up ms = if knM L m = false then 23 else if ovr L up m = true then 27 else chkM L up (ms.drop (k + 1))) := Lib.hid (by rw [HA.out, drop_at hv]; rfl)
      have HP := Lib.hid hp
      have HS4 := Lib.hid hs4
      clear hcell hv HA hF hp hs4
      have HR1 := Lib.hid ((HR.out.below (below1 wr (.cells #[.string m.name, .bool m.st, .slice pa pn pc, .string m.rn, .bool m.ra] 51))).below (below1 _ (.cells #[.string m.rn, .bool m.ra] 49)))
      have HB1 := Lib.hid ((Blk.new wr [.string m.name, .bool m.st, .slice pa pn pc, .string m.rn, .bool m.ra] 51).below (below1 _ (.cells #[.string m.rn, .bool m.ra] 49)))
      have HP1 := Lib.hid (tys_keep (Keeps.of_below (below2 wr (.cells #[.string m.name, .bool m.st, .slice pa pn pc, .string m.rn, .bool m.ra] 51) (.cells #[.string m.rn, .bool m.ra] 49))) HP.out)
      have HKN := Lib.hid (known27 B tb fm L [⟨m.rn, m.ra⟩] (by simp; unfold maxLen; omega) (by simp) _ 1 1 _ sv1 k1 (tysOne (wr.alloc (.cells #[.string m.name, .bool m.st, .slice pa pn pc, .string m.rn, .bool m.ra] 51)) m.rn m.ra) (by simp; omega) HR1.out.tab (by have := HR1.out.cnt; have := HN.out; omega))
      rw [show (wr.alloc (.cells #[.string m.name, .bool m.st, .slice pa pn pc, .string m.rn, .bool m.ra] 51)).heap.size = wr.heap.size + 1 by simp] at HKN
      simp only [List.all_cons, List.all_nil, Bool.and_true, List.length_cons, List.length_nil, Nat.zero_add] at HKN
      clear HR HP
      go_wp2_with fail
      refine HKN.out.mono ?_
      rintro e w1 ⟨sv2, k2, rfl, hT2, hst2, hk2⟩
      have HR2 := Lib.hid (HR1.out.next hT2 hst2 hk2)
      have HP2 := Lib.hid (tys_keep hst2.keeps HP1.out)
      have HQ : Hid (w1.cell? ⟨wr.heap.size, 0, none⟩ = some (.string m.name) ∧ w1.cell? ⟨wr.heap.size, 1, none⟩ = some (.bool m.st) ∧ w1.cell? ⟨wr.heap.size, 2, none⟩ = some (.slice pa pn pc) ∧ w1.cell? ⟨wr.heap.size, 3, none⟩ = some (.string m.rn) ∧ w1.cell? ⟨wr.heap.size, 4, none⟩ = some (.bool m.ra)) := Lib.hid ⟨hst2.keeps _ _ (HB1.out.cell 0) (pl_str _), hst2.keeps _ _ (HB1.out.cell 1) (pl_bool _), hst2.keeps _ _ (HB1.out.cell 2) (pl_slice _ _ _), hst2.keeps _ _ (HB1.out.cell 3) (pl_str _), hst2.keeps _ _ (HB1.out.cell 4) (pl_bool _)⟩
      clear HKN HR1 hT2 hst2 HB1 HP1
      cases hkn : knB L m.rn with
      | false =>
        have HE : Hid (chkM L up ms = 23) := Lib.hid (by rw [HD.out, if_pos (by unfold knM; rw [hkn]; rfl)])
        clear hkn HD HQ HP2
        go_wp2
        go_ret
        rw [HE.out]
        exact HR2.out.post _ _ (by have := HN.out; omega)
      | true =>
        have HKM : Hid (knM L m = m.ps.all (fun t => knB L t.n)) := Lib.hid (by unfold knM; rw [hkn]; rfl)
        obtain ⟨q0, q1, q2, q3, q4⟩ := HQ.out
        have HKP := Lib.hid (known27 B tb fm L m.ps (fun t ht => by have := HS4.out t ht; unfold maxLen; omega) (by omega) pa pn pc w1 sv2 k2 HP2.out (by have := HR2.out.stp.mods.size; omega) HR2.out.tab (by have := HR2.out.cnt; have := HN.out; omega))
        clear hkn
        go_wp2_with fail
        refine HKP.out.mono ?_
        rintro e w2 ⟨sv3, k3, rfl, hT3, hst3, hk3⟩
        have HR3 := Lib.hid (HR2.out.next hT3 hst3 hk3)
        have HP3 := Lib.hid (tys_keep hst3.keeps HP2.out)
        have HQ3 : Hid (w2.cell? ⟨wr.heap.size, 0, none⟩ = some (.string m.name) ∧ w2.cell? ⟨wr.heap.size, 1, none⟩ = some (.bool m.st) ∧ w2.cell? ⟨wr.heap.size, 2, none⟩ = some (.slice pa pn pc) ∧ w2.cell? ⟨wr.heap.size, 3, none⟩ = some (.string m.rn) ∧ w2.cell? ⟨wr.heap.size, 4, none⟩ = some (.bool m.ra)) := Lib.hid ⟨hst3.keeps _ _ q0 (pl_str _), hst3.keeps _ _ q1 (pl_bool _), hst3.keeps _ _ q2 (pl_slice _ _ _), hst3.keeps _ _ q3 (pl_str _), hst3.keeps _ _ q4 (pl_bool _)⟩
        clear HKP HR2 hT3 hst3 HP2 HQ q0 q1 q2 q3 q4
        obtain ⟨q0, q1, q2, q3, q4⟩ := HQ3.out
        have hlw : wr.heap.size < w2.heap.size := World.block_lt_of_cell? _ _ q0
        generalize hap : m.ps.all (fun t => knB L t.n) = ap at *
        cases ap with
        | false =>
          have HE : Hid (chkM L up ms = 23) := Lib.hid (by rw [HD.out, if_pos HKM.out])
          clear HD HKM hap
          go_wp2
          go_ret
          rw [HE.out]
          exact HR3.out.post _ _ (by have := HN.out; omega)
        | true =>
          have HD2 : Hid (chkM L up ms = if ovr L up m = true then 27 else chkM L up (ms.drop (k + 1))) := Lib.hid (by rw [HD.out, HKM.out]; rfl)
          have HOV : Hid (ovr L up m = (!m.st && (mthOf L up m.name false).isSome && !decide (((mthOf L up m.name false).getD (eE, zS)).2 = m))) := Lib.hid rfl
          clear HD HKM hap
          cases hst : m.st with
          | true =>
            have HA2 : Hid (chkM L up ms = chkM L up (ms.drop (k + 1))) := Lib.hid (by rw [HD2.out, HOV.out, hst]; rfl)
            rw [hst] at q1
            clear HD2 HOV hst
            go_wp2
            go_roundw
            case rel => exact ⟨k + 1, by omega, by go_num, HA2, Lib.hid ⟨_, _, HR3.out.weak (by omega)⟩⟩
            case measure => simp [intOf]; omega
          | false =>
            rw [hst] at q1
            have HMO := Lib.hid (methodOf38 B tb fm L up HUP.out (by omega) a2 n2 c2 m.name false w2 sv3 k3 HR3.out.names (by have := HR3.out.stp.mods.size; omega) HR3.out.tab (by have := HR3.out.cnt; have := HN.out; omega))
            have HOV2 : Hid (ovr L up m = ((mthOf L up m.name false).isSome && !decide (((mthOf L up m.name false).getD (eE, zS)).2 = m))) := Lib.hid (by rw [HOV.out, hst]; rfl)
            have HST := Lib.hid hst
            clear hst HOV
            go_wp2_with fail
            refine HMO.out.mono ?_
            rintro e w3 ⟨qa, qn, qc, sv4, k4, rfl, hS4, _, hT4, hst4, hk4⟩
            have HR4 := Lib.hid (HR3.out.next hT4 hst4 hk4)
            have hkk := hst4.keeps
            generalize mthOf L up m.name false = mo at *
            generalize mo.getD (eE, zS) = mp at *
            generalize hmr : mo.isSome = mr at *
            obtain ⟨mc, o⟩ := mp
            dsimp only at hS4 HOV2 ⊢
            have hk5 := hkk.trans (Keeps.of_below (below1 w3 (.cells #[.string o.name, .bool o.st, .slice qa qn qc, .string o.rn, .bool o.ra] 51)))
            have r0 : (w3.alloc (.cells #[.string o.name, .bool o.st, .slice qa qn qc, .string o.rn, .bool o.ra] 51)).cell? ⟨wr.heap.size, 0, none⟩ = some (.string m.name) := hk5 _ _ q0 (pl_str _)
            have r1 : (w3.alloc (.cells #[.string o.name, .bool o.st, .slice qa qn qc, .string o.rn, .bool o.ra] 51)).cell? ⟨wr.heap.size, 1, none⟩ = some (.bool false) := hk5 _ _ q1 (pl_bool _)
            have r2 : (w3.alloc (.cells #[.string o.name, .bool o.st, .slice qa qn qc, .string o.rn, .bool o.ra] 51)).cell? ⟨wr.heap.size, 2, none⟩ = some (.slice pa pn pc) := hk5 _ _ q2 (pl_slice _ _ _)
            have r3 : (w3.alloc (.cells #[.string o.name, .bool o.st, .slice qa qn qc, .string o.rn, .bool o.ra] 51)).cell? ⟨wr.heap.size, 3, none⟩ = some (.string m.rn) := hk5 _ _ q3 (pl_str _)
            have r4 : (w3.alloc (.cells #[.string o.name, .bool o.st, .slice qa qn qc, .string o.rn, .bool o.ra] 51)).cell? ⟨wr.heap.size, 4, none⟩ = some (.bool m.ra) := hk5 _ _ q4 (pl_bool _)
            have HSA := Lib.hid (same24 o m qa qn qc pa pn pc (w3.alloc (.cells #[.string o.name, .bool o.st, .slice qa qn qc, .string o.rn, .bool o.ra] 51)) (tys_keep (Keeps.of_below (below1 _ _)) hS4) (tys_keep hk5 HP3.out))
            rw [HST.out] at HSA
            have HR5 := Lib.hid (HR4.out.below (below1 w3 (.cells #[.string o.name, .bool o.st, .slice qa qn qc, .string o.rn, .bool o.ra] 51)))
            clear HMO hS4 hT4 hst4 hkk hk5 HR4 HR3 HP3 HQ3 hmr q0 q1 q2 q3 q4
            cases mr with
            | false =>
              have HA2 : Hid (chkM L up ms = chkM L up (ms.drop (k + 1))) := Lib.hid (by rw [HD2.out, HOV2.out]; rfl)
              clear HD2 HOV2 HSA
              go_wp2
              go_roundw
              case rel => exact ⟨k + 1, by omega, by go_num, HA2, Lib.hid ⟨_, _, HR5.out.weak (by omega)⟩⟩
              case measure => simp [intOf]; omega
            | true =>
              obtain ⟨dd, HDD⟩ : ∃ d, Hid (decide (o = m) = d) := ⟨_, Lib.hid rfl⟩
              rw [HDD.out] at HSA HOV2
              go_wp2_with fail
              refine HSA.out.mono ?_
              rintro e w5 ⟨rfl, hb5⟩
              have HR6 := Lib.hid (HR5.out.below hb5)
              clear HSA hb5 HR5
              cases dd with
              | true =>
                have HA2 : Hid (chkM L up ms = chkM L up (ms.drop (k + 1))) := Lib.hid (by rw [HD2.out, HOV2.out]; rfl)
                clear HD2 HOV2
                go_wp2
                go_roundw
                case rel => exact ⟨k + 1, by omega, by go_num, HA2, Lib.hid ⟨_, _, HR6.out.weak (by omega)⟩⟩
                case measure => simp [intOf]; omega
              | false =>
                have HE : Hid (chkM L up ms = 27) := Lib.hid (by rw [HD2.out, HOV2.out]; rfl)
                clear HD2 HOV2
                go_wp2
                go_ret
                rw [HE.out]
                exact HR6.out.post _ _ (by have := HN.out; omega)
    · have HE : Hid (chkM L up ms = 0) := Lib.hid (by rw [HA.out, List.drop_of_length_le (by have := HN.out; omega)]; rfl)
      go_wp2
      go_ret
      rw [HE.out]
      exact HR.out.post _ _ (by have := HN.out; omega)
end Go.Proofs.YthimpjfmelmhpaaDoor.Fc
