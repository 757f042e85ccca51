/-
  A face's own fields and methods, by their names.
-/
import Derived.Test.YthimpjfmelmhpaaDoorFcFew
import Derived.Test.YthimpjfmelmhpaaDoorFcTab
import Derived.BigQuiet
import Derived.RegionTactic
import Derived.BigRegion
namespace Go.Proofs.YthimpjfmelmhpaaDoor.Fc
open Go.RowKit
set_option linter.unusedVariables false

def zT : Ty := ⟨⟨#[]⟩, false⟩
def zS : Sg := ⟨⟨#[]⟩, false, [], ⟨#[]⟩, false⟩
def fldF (fs : List Vr) (s : ByteArray) : Option Ty := (fs.find? (fun v => decide (v.name = s))).map (fun v => ⟨v.tn, v.ta⟩)
def mthF (ms : List Sg) (s : ByteArray) : Option Sg := ms.find? (fun m => decide (m.name = s))
abbrev tyV (t : Ty) : Value := .agg #[.string t.n, .bool t.a]
theorem find_at {α : Type} {l : List α} {p : α → Bool} {k : Nat} {x : α} (hx : l[k]? = some x) (hn : ∀ y ∈ l.take k, p y = false) (hp : p x = true) : l.find? p = some x := by
  have hk : k < l.length := (List.getElem?_eq_some_iff.1 hx).1
  rw [List.find?_eq_some_iff_append]
  refine ⟨hp, l.take k, l.drop (k + 1), ?_, fun u hu => by simp [hn u hu]⟩
  have := List.drop_eq_getElem_cons hk
  rw [(List.getElem?_eq_some_iff.1 hx).2] at this
  rw [← this, List.take_append_drop]
theorem find_no {α : Type} {l : List α} {p : α → Bool} {k : Nat} (hk : l.length ≤ k) (hn : ∀ y ∈ l.take k, p y = false) : l.find? p = none := by
  rw [List.take_of_length_le hk] at hn
  rw [List.find?_eq_none]
  intro x hx
  simp [hn x hx]

/-- an answer's own two cells are written -/
theorem out2 {w wr : World} {q : Nat} {u0 u1 : Value} (v0 v1 : Value) (hq : w.heap.size ≤ q) (hb : Below w.heap.size w wr) (hB : Blk wr q [u0, u1] 49) :
    Blk ((wr.setCell ⟨q, 0, none⟩ v0).setCell ⟨q, 1, none⟩ v1) q [v0, v1] 49 ∧ Below w.heap.size w ((wr.setCell ⟨q, 0, none⟩ v0).setCell ⟨q, 1, none⟩ v1) ∧ Mods (· = q) wr ((wr.setCell ⟨q, 0, none⟩ v0).setCell ⟨q, 1, none⟩ v1) := by
  have M : Mods (· = q) wr ((wr.setCell ⟨q, 0, none⟩ v0).setCell ⟨q, 1, none⟩ v1) := ((Mods.refl (· = q) wr).setCell (p := ⟨q, 0, none⟩) (.inl rfl) _).setCell (p := ⟨q, 1, none⟩) (.inl rfl) _
  exact ⟨(hB.set 0 v0).set 1 v1, hb.trans (M.below (fun k e => by omega) hb.size), M⟩
/-- an answer's own five cells are written -/
theorem out5 {wr : World} {q : Nat} {u0 u1 u2 u3 u4 : Value} (v0 v1 v2 v3 v4 : Value) (hB : Blk wr q [u0, u1, u2, u3, u4] 51) :
    Blk (((((wr.setCell ⟨q, 0, none⟩ v0).setCell ⟨q, 1, none⟩ v1).setCell ⟨q, 2, none⟩ v2).setCell ⟨q, 3, none⟩ v3).setCell ⟨q, 4, none⟩ v4) q [v0, v1, v2, v3, v4] 51 ∧ Mods (· = q) wr (((((wr.setCell ⟨q, 0, none⟩ v0).setCell ⟨q, 1, none⟩ v1).setCell ⟨q, 2, none⟩ v2).setCell ⟨q, 3, none⟩ v3).setCell ⟨q, 4, none⟩ v4) :=
  ⟨((((hB.set 0 v0).set 1 v1).set 2 v2).set 3 v3).set 4 v4, (((((Mods.refl (· = q) wr).setCell (p := ⟨q, 0, none⟩) (.inl rfl) _).setCell (p := ⟨q, 1, none⟩) (.inl rfl) _).setCell (p := ⟨q, 2, none⟩) (.inl rfl) _).setCell (p := ⟨q, 3, none⟩) (.inl rfl) _).setCell (p := ⟨q, 4, none⟩) (.inl rfl) _⟩

set_option maxHeartbeats 2000000 in
set_option maxRecDepth 100000 in
theorem field53 (x : Fc) (s : ByteArray) (a1 : Option Addr) (n1 c1 : Nat) (a2 : Option Addr) (n2 c2 : Nat) (w : World) (h : Sl w 3 VrR x.fs (.slice a1 n1 c1)) :
    Calls Tryd.prog 82 #[.agg #[.string x.name, .string x.sup, .slice a1 n1 c1, .slice a2 n2 c2], .string s] w fun e w' => e = .returned (.tuple #[tyV ((fldF x.fs s).getD zT), .bool (fldF x.fs s).isSome]) ∧ Below w.heap.size w w' := by
  obtain ⟨e1, l1, k1, hkk⟩ := h.at
  unfold maxLen at k1
  have E1 := Lib.hid e1
  have HK := Lib.hid hkk
  clear h e1 hkk
  have R0 : Blk ((w.alloc (.cells #[.string x.name, .string x.sup, .slice a1 n1 c1, .slice a2 n2 c2] 35)).alloc (.cells #[.string ⟨#[]⟩, .bool false] 49)) (w.heap.size + 1) [.string ⟨#[]⟩, .bool false] 49 := by
    have := Blk.new (w.alloc (.cells #[.string x.name, .string x.sup, .slice a1 n1 c1, .slice a2 n2 c2] 35)) [.string ⟨#[]⟩, .bool false] 49
    simpa using this
  have HR0 := Lib.hid R0
  clear R0
  go_enter Tryd.func82, Tryd.ntmps82
  go_wp2
  go_loopw [11] (fun i wr => ∃ k : Nat, k ≤ n1 ∧ i = .int .i64 k ∧ Hid (∀ v ∈ x.fs.take k, decide (v.name = s) = false) ∧ Hid (Blk wr (w.heap.size + 1) [.string ⟨#[]⟩, .bool false] 49) ∧ Below w.heap.size w wr) (fun i _ => n1 - (intOf i).toNat)
  case atStart => exact ⟨0, Nat.zero_le _, rfl, Lib.hid (by simp), HR0, below2 w _ _⟩
  case round =>
    obtain ⟨k, hk1, rfl, HA, HR, hbr⟩ := hrel
    have hsr := hbr.size
    have hl0 := HR.out.lt
    clear HR0
    by_cases hlt : k < n1
    · obtain ⟨v, hv⟩ : ∃ v, x.fs[k]? = some v := ⟨_, List.getElem?_eq_getElem (by have := E1.out; omega)⟩
      obtain ⟨g, o, cs, rfl, hcell, rfl⟩ := HK.out k v hv
      have c0 : wr.cell? ⟨g, o + k * 3, none⟩ = some (.string v.name) := (hbr.cell (World.block_lt_of_cell? _ _ (hcell 0 _ rfl))).trans (hcell 0 _ rfl)
      have hgl : g < wr.heap.size := World.block_lt_of_cell? _ _ c0
      have d1 := (hbr.cell (World.block_lt_of_cell? _ _ (hcell 1 _ rfl))).trans (hcell 1 _ rfl)
      have d2 := (hbr.cell (World.block_lt_of_cell? _ _ (hcell 2 _ rfl))).trans (hcell 2 _ rfl)
      have HV := Lib.hid hv
      clear hcell hv
      by_cases hn : v.name = s
      · have he := teq hn
        have HE : Hid (fldF x.fs s = some ⟨v.tn, v.ta⟩) := Lib.hid (by unfold fldF; rw [find_at HV.out HA.out (by simpa using hn)]; rfl)
        have HR2 := Lib.hid (HR.out.below (below1 wr (.cells #[.string v.name, .string v.tn, .bool v.ta] 68)))
        have r0 : wr.cell? ⟨w.heap.size + 1, 0, none⟩ = some (.string ⟨#[]⟩) := HR.out.cell 0
        have r1 : wr.cell? ⟨w.heap.size + 1, 1, none⟩ = some (.bool false) := HR.out.cell 1
        have f0 := HR.out.frozen 0
        have f1 := HR.out.frozen 1
        obtain ⟨hZ, hb4, _⟩ := out2 (.string v.tn) (.bool v.ta) (by omega) hbr HR.out
        have hZ2 := hZ.below (below1 _ (.cells #[.string v.name, .string v.tn, .bool v.ta] 68))
        have HB4 := Lib.hid (hb4.trans ((below1 _ (.cells #[.string v.name, .string v.tn, .bool v.ta] 68)).mono hb4.size))
        have z0 := hZ2.cell 0
        have z1 := hZ2.cell 1
        simp only [List.getElem?_cons_zero, List.getElem?_cons_succ] at z0 z1
        clear hn hZ hZ2 hb4
        go_wp2
        refine bodyPost_ret (v := .tuple #[.agg #[.string v.tn, .bool v.ta], .bool true]) (by simp [results, Tryd.results82, go_sem, z0, z1]) rfl ?_
        exact ⟨by rw [HE.out]; rfl, HB4.out⟩
      · have he := tne hn
        have HA2 := Lib.hid (all_snoc (P := fun v => decide (v.name = s) = false) HV.out HA.out (by simpa using hn))
        clear hn
        go_wp2
        go_roundw
        case rel => exact ⟨k + 1, by omega, by go_num, HA2, Lib.hid (HR.out.below (below1 _ _)), hbr.trans ((below1 wr _).mono hsr)⟩
        case measure => simp [intOf]; omega
    · have HE : Hid (fldF x.fs s = none) := Lib.hid (by unfold fldF; rw [find_no (by have := E1.out; omega) HA.out]; rfl)
      have r0 : wr.cell? ⟨w.heap.size + 1, 0, none⟩ = some (.string ⟨#[]⟩) := HR.out.cell 0
      have r1 : wr.cell? ⟨w.heap.size + 1, 1, none⟩ = some (.bool false) := HR.out.cell 1
      have f0 := HR.out.frozen 0
      have f1 := HR.out.frozen 1
      obtain ⟨hZ, hb4, _⟩ := out2 (.string ⟨#[]⟩) (.bool false) (by omega) hbr HR.out
      have z0 := hZ.cell 0
      have z1 := hZ.cell 1
      simp only [List.getElem?_cons_zero, List.getElem?_cons_succ] at z0 z1
      have HB4 := Lib.hid hb4
      clear hZ hb4
      go_wp2
      refine bodyPost_ret (v := .tuple #[.agg #[.string ⟨#[]⟩, .bool false], .bool false]) (by simp [results, Tryd.results82, go_sem, z0, z1]) rfl ?_
      exact ⟨by rw [HE.out]; rfl, HB4.out⟩

/-- what a method's name tells: the method, with parameters of memory of its own -/
def MthPost (o : Option Sg) (w : World) (e : Ending) (w' : World) : Prop :=
  ∃ a n c, e = .returned (.tuple #[.agg #[.string (o.getD zS).name, .bool (o.getD zS).st, .slice a n c, .string (o.getD zS).rn, .bool (o.getD zS).ra], .bool o.isSome]) ∧ Sl w' 2 TyR (o.getD zS).ps (.slice a n c) ∧ (∀ ad, a = some ad → n ≠ 0 → w.heap.size ≤ ad.block) ∧ Below w.heap.size w w'
set_option maxHeartbeats 2000000 in
set_option maxRecDepth 100000 in
theorem method54 (x : Fc) (s : ByteArray) (a1 : Option Addr) (n1 c1 : Nat) (a2 : Option Addr) (n2 c2 : Nat) (w : World) (h : Sl w 5 (SgR w) x.ms (.slice a2 n2 c2)) (hps : ∀ m ∈ x.ms, m.ps.length ≤ 1000) :
    Calls Tryd.prog 33 #[.agg #[.string x.name, .string x.sup, .slice a1 n1 c1, .slice a2 n2 c2], .string s] w (MthPost (mthF x.ms s) w) := by
  obtain ⟨e1, l1, k1, hkk⟩ := h.at
  unfold maxLen at k1
  have E1 := Lib.hid e1
  have HK := Lib.hid hkk
  have HPS := Lib.hid hps
  clear h e1 hkk hps
  have R0 : Blk ((w.alloc (.cells #[.string x.name, .string x.sup, .slice a1 n1 c1, .slice a2 n2 c2] 35)).alloc (.cells #[.string ⟨#[]⟩, .bool false, .slice none 0 0, .string ⟨#[]⟩, .bool false] 51)) (w.heap.size + 1) [.string ⟨#[]⟩, .bool false, .slice none 0 0, .string ⟨#[]⟩, .bool false] 51 := by
    have := Blk.new (w.alloc (.cells #[.string x.name, .string x.sup, .slice a1 n1 c1, .slice a2 n2 c2] 35)) [.string ⟨#[]⟩, .bool false, .slice none 0 0, .string ⟨#[]⟩, .bool false] 51
    simpa using this
  have HR0 := Lib.hid R0
  clear R0
  go_enter Tryd.func33, Tryd.ntmps33
  go_wp2
  go_loopw [11] (fun i wr => ∃ k : Nat, k ≤ n2 ∧ i = .int .i64 k ∧ Hid (∀ v ∈ x.ms.take k, decide (v.name = s) = false) ∧ Hid (Blk wr (w.heap.size + 1) [.string ⟨#[]⟩, .bool false, .slice none 0 0, .string ⟨#[]⟩, .bool false] 51) ∧ Below w.heap.size w wr) (fun i _ => n2 - (intOf i).toNat)
  case atStart => exact ⟨0, Nat.zero_le _, rfl, Lib.hid (by simp), HR0, below2 w _ _⟩
  case round =>
    obtain ⟨k, hk1, rfl, HA, HR, hbr⟩ := hrel
    have hsr := hbr.size
    have hl0 := HR.out.lt
    clear HR0
    by_cases hlt : k < n2
    · obtain ⟨m, hv⟩ : ∃ v, x.ms[k]? = some v := ⟨_, List.getElem?_eq_getElem (by have := E1.out; omega)⟩
      obtain ⟨g, o, cs, rfl, hcell, pa, pn, pc, rfl, hp⟩ := HK.out k m hv
      have c0 : wr.cell? ⟨g, o + k * 5, none⟩ = some (.string m.name) := (hbr.cell (World.block_lt_of_cell? _ _ (hcell 0 _ rfl))).trans (hcell 0 _ rfl)
      have hgl : g < wr.heap.size := World.block_lt_of_cell? _ _ c0
      have d1 := (hbr.cell (World.block_lt_of_cell? _ _ (hcell 1 _ rfl))).trans (hcell 1 _ rfl)
      have d2 := (hbr.cell (World.block_lt_of_cell? _ _ (hcell 2 _ rfl))).trans (hcell 2 _ rfl)
      have d3 := (hbr.cell (World.block_lt_of_cell? _ _ (hcell 3 _ rfl))).trans (hcell 3 _ rfl)
      have d4 := (hbr.cell (World.block_lt_of_cell? _ _ (hcell 4 _ rfl))).trans (hcell 4 _ rfl)
      have HV := Lib.hid hv
      clear hcell hv
      by_cases hn : m.name = s
      · have he := teq hn
        have HE : Hid (mthF x.ms s = some m) := Lib.hid (by unfold mthF; rw [find_at HV.out HA.out (by simpa using hn)])
        have hb1 := below1 wr (.cells #[.string m.name, .bool m.st, .slice pa pn pc, .string m.rn, .bool m.ra] 51)
        have HC := Lib.hid (cloneT_any m.ps (wr.alloc (.cells #[.string m.name, .bool m.st, .slice pa pn pc, .string m.rn, .bool m.ra] 51)) pa pn pc (tys_keep (Keeps.of_below (hbr.trans (hb1.mono hsr))) hp) (by obtain ⟨e, _⟩ := hp.at; have := HPS.out m (List.mem_of_getElem? HV.out); omega))
        have HR1 := Lib.hid (HR.out.below hb1)
        have HBX := Lib.hid (Blk.new wr [.string m.name, .bool m.st, .slice pa pn pc, .string m.rn, .bool m.ra] 51)
        clear hn hb1 hp
        go_wp2_with fail
        refine HC.out.mono ?_
        rintro e w3 ⟨pa', pc', rfl, hT3, hO3, hb3⟩
        have hz3 : wr.heap.size + 1 ≤ w3.heap.size := by have := hb3.size; simpa using this
        have B3 := HBX.out.below hb3
        have R3 := HR1.out.below hb3
        have b0 : w3.cell? ⟨wr.heap.size, 0, none⟩ = some (.string m.name) := B3.cell 0
        have b1 : w3.cell? ⟨wr.heap.size, 1, none⟩ = some (.bool m.st) := B3.cell 1
        have b2 : w3.cell? ⟨wr.heap.size, 2, none⟩ = some (.slice pa pn pc) := B3.cell 2
        have b3 : w3.cell? ⟨wr.heap.size, 3, none⟩ = some (.string m.rn) := B3.cell 3
        have b4 : w3.cell? ⟨wr.heap.size, 4, none⟩ = some (.bool m.ra) := B3.cell 4
        have bf := B3.frozen 2
        have r0 : w3.cell? ⟨w.heap.size + 1, 0, none⟩ = some (.string ⟨#[]⟩) := R3.cell 0
        have r1 : w3.cell? ⟨w.heap.size + 1, 1, none⟩ = some (.bool false) := R3.cell 1
        have r2 : w3.cell? ⟨w.heap.size + 1, 2, none⟩ = some (.slice none 0 0) := R3.cell 2
        have r3 : w3.cell? ⟨w.heap.size + 1, 3, none⟩ = some (.string ⟨#[]⟩) := R3.cell 3
        have r4 : w3.cell? ⟨w.heap.size + 1, 4, none⟩ = some (.bool false) := R3.cell 4
        have f0 := R3.frozen 0
        have f1 := R3.frozen 1
        have f2 := R3.frozen 2
        have f3 := R3.frozen 3
        have f4 := R3.frozen 4
        have M1 : Mods (· = wr.heap.size) w3 (w3.setCell ⟨wr.heap.size, 2, none⟩ (.slice pa' pn pc')) := (Mods.refl (· = wr.heap.size) w3).setCell (p := ⟨wr.heap.size, 2, none⟩) (.inl rfl) _
        obtain ⟨hZ, M2⟩ := out5 (.string m.name) (.bool m.st) (.slice pa' pn pc') (.string m.rn) (.bool m.ra) (R3.keep M1 (by omega))
        have z0 := hZ.cell 0
        have z1 := hZ.cell 1
        have z2 := hZ.cell 2
        have z3 := hZ.cell 3
        have z4 := hZ.cell 4
        simp only [List.getElem?_cons_zero, List.getElem?_cons_succ] at z0 z1 z2 z3 z4
        have hbb : Below w.heap.size w w3 := hbr.trans (((below1 wr _).trans (hb3.mono (by simp))).mono hsr)
        have HP3 := Lib.hid ((hT3.off M1 (fun ad e _ => by obtain ⟨b, e', hb, _⟩ := hO3 ad e; rw [e']; show b ≠ wr.heap.size; simp at hb; omega) (fun _ _ h => h)).off (R' := TyR) M2 (fun ad e _ => by obtain ⟨b, e', hb, _⟩ := hO3 ad e; rw [e']; show b ≠ w.heap.size + 1; simp at hb; omega) (fun _ _ h => h))
        have HOO : Hid (∀ ad, pa' = some ad → pn ≠ 0 → w.heap.size ≤ ad.block) := Lib.hid (fun ad e _ => by obtain ⟨b, e', hb, _⟩ := hO3 ad e; rw [e']; show w.heap.size ≤ b; simp at hb; omega)
        have HBB := Lib.hid ((hbb.trans (M1.below (fun k e => by omega) hbb.size)).trans (M2.below (fun k e => by omega) (Nat.le_trans hbb.size M1.size)))
        have HZ := Lib.hid hZ
        clear HC hT3 hO3 hb3 B3 R3 M1 M2 hbb HBX HR1 HR hZ
        go_wp2
        refine bodyPost_ret (v := .tuple #[.agg #[.string m.name, .bool m.st, .slice pa' pn pc', .string m.rn, .bool m.ra], .bool true]) (by simp [results, Tryd.results33, go_sem, z0, z1, z2, z3, z4]) rfl ?_
        exact ⟨pa', pn, pc', by rw [HE.out]; rfl, by rw [HE.out]; exact HP3.out, HOO.out, HBB.out⟩
      · have he := tne hn
        have HA2 := Lib.hid (all_snoc (P := fun v => decide (v.name = s) = false) HV.out HA.out (by simpa using hn))
        clear hn hp
        go_wp2
        go_roundw
        case rel => exact ⟨k + 1, by omega, by go_num, HA2, Lib.hid (HR.out.below (below1 _ _)), hbr.trans ((below1 wr _).mono hsr)⟩
        case measure => simp [intOf]; omega
    · have HE : Hid (mthF x.ms s = none) := Lib.hid (by unfold mthF; rw [find_no (by have := E1.out; omega) HA.out])
      have r0 : wr.cell? ⟨w.heap.size + 1, 0, none⟩ = some (.string ⟨#[]⟩) := HR.out.cell 0
      have r1 : wr.cell? ⟨w.heap.size + 1, 1, none⟩ = some (.bool false) := HR.out.cell 1
      have r2 : wr.cell? ⟨w.heap.size + 1, 2, none⟩ = some (.slice none 0 0) := HR.out.cell 2
      have r3 : wr.cell? ⟨w.heap.size + 1, 3, none⟩ = some (.string ⟨#[]⟩) := HR.out.cell 3
      have r4 : wr.cell? ⟨w.heap.size + 1, 4, none⟩ = some (.bool false) := HR.out.cell 4
      have f0 := HR.out.frozen 0
      have f1 := HR.out.frozen 1
      have f2 := HR.out.frozen 2
      have f3 := HR.out.frozen 3
      have f4 := HR.out.frozen 4
      obtain ⟨hZ, M2⟩ := out5 (.string ⟨#[]⟩) (.bool false) (.slice none 0 0) (.string ⟨#[]⟩) (.bool false) HR.out
      have z0 := hZ.cell 0
      have z1 := hZ.cell 1
      have z2 := hZ.cell 2
      have z3 := hZ.cell 3
      have z4 := hZ.cell 4
      simp only [List.getElem?_cons_zero, List.getElem?_cons_succ] at z0 z1 z2 z3 z4
      have HBB := Lib.hid (hbr.trans (M2.below (B := w.heap.size) (fun k e => by omega) hbr.size))
      clear hZ M2
      go_wp2
      refine bodyPost_ret (v := .tuple #[.agg #[.string ⟨#[]⟩, .bool false, .slice none 0 0, .string ⟨#[]⟩, .bool false], .bool false]) (by simp [results, Tryd.results33, go_sem, z0, z1, z2, z3, z4]) rfl ?_
      exact ⟨none, 0, 0, by rw [HE.out]; rfl, by rw [HE.out]; exact Sl.nil _ _ _, (fun _ e => by cases e), HBB.out⟩
end Go.Proofs.YthimpjfmelmhpaaDoor.Fc
