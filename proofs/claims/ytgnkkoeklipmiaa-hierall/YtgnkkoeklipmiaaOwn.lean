/-
  The statements' own fields and methods.
-/
import Derived.Test.YtgnkkoeklipmiaaFldOf
import Derived.Test.YtgnkkoeklipmiaaUps
namespace Go.Proofs.Ytgnkkoeklipmiaa
open Go.RowKit
set_option linter.unusedVariables false
def FOut (o : Option (ByteArray × Ty)) (w : World) (e : Ending) (w' : World) : Prop := e = .returned (.tuple #[.string (o.getD (eE, zT)).1, tyV (o.getD (eE, zT)).2, .bool o.isSome]) ∧ Below w.heap.size w w'
def MOut (o : Option (ByteArray × Sg)) (w : World) (e : Ending) (w' : World) : Prop :=
  ∃ a n cp, e = .returned (.tuple #[.string (o.getD (eE, zS)).1, .agg #[.string (o.getD (eE, zS)).2.name, .bool (o.getD (eE, zS)).2.st, .slice a n cp, .string (o.getD (eE, zS)).2.rn, .bool (o.getD (eE, zS)).2.ra], .bool o.isSome]) ∧ Sl w' 2 TyR (o.getD (eE, zS)).2.ps (.slice a n cp) ∧ Below w.heap.size w w'

set_option maxHeartbeats 4000000 in
set_option maxRecDepth 100000 in
theorem field21 (L : List Fc) (hL : L.length ≤ 8) (cl s : ByteArray) (a0 : Option Addr) (n0 c0 : Nat) (w : World) (h : Sl w 4 (FcR w) L (.slice a0 n0 c0)) :
    Calls Try.prog 21 #[.slice a0 n0 c0, .string cl, .string s] w (FOut (fldOf L (ab L cl).1 s) w) := by
  have HH := Lib.hid h
  have HU := Lib.hid (up12 L hL cl a0 n0 c0 (w.alloc (.cells #[.string ⟨#[]⟩, .bool false] 44)) (fcs_keep (Keeps.of_below (below1 _ _)) h))
  clear h
  go_enter Try.func21, Try.ntmps21
  go_wp2_with fail
  refine HU.out.mono ?_
  rintro e w1 ⟨a, c, rfl, hS, hb1⟩
  have hB1 : Below w.heap.size w w1 := (below1 w _).trans (hb1.mono (by simp))
  have HR1 := Lib.hid ((Blk.new w [.string ⟨#[]⟩, .bool false] 44).below hb1)
  have HS1 := Lib.hid hS
  have hl := hS.at.2.1
  have hc := hS.at.2.2.1
  unfold maxLen at hc
  generalize (ab L cl).1 = cls at *
  clear HU hS hb1
  go_wp2
  go_loopw [25] (fun i wr => ∃ k : Nat, k ≤ cls.length ∧ i = .int .i64 k ∧ Hid (∀ z ∈ cls.take k, fOne L s z = none) ∧ Hid (Blk wr w.heap.size [.string ⟨#[]⟩, .bool false] 44) ∧ Hid (Sl wr 1 StrR cls (.slice a cls.length c)) ∧ Below w.heap.size w wr) (fun i _ => cls.length - (intOf i).toNat)
  case atStart => exact ⟨0, Nat.zero_le _, rfl, Lib.hid (by simp), HR1, HS1, hB1⟩
  case round =>
    obtain ⟨k, hk1, rfl, HA, HR, HS, hbr⟩ := hrel
    have hsr := hbr.size
    have hl0 := HR.out.lt
    clear HR1 HS1
    by_cases hlt : k < cls.length
    · obtain ⟨x, hx⟩ : ∃ x, cls[k]? = some x := ⟨_, List.getElem?_eq_getElem hlt⟩
      obtain ⟨g, o, cs, rfl, hcell, rfl⟩ := HS.out.at.2.2.2 k x hx
      have c0 : wr.cell? ⟨g, o + k, none⟩ = some (.string x) := by have := hcell 0 _ rfl; simpa using this
      have HX := Lib.hid hx
      have HF := Lib.hid (find16g L x a0 n0 _ w wr hbr HH.out)
      clear hcell hx
      go_wp2_with fail
      refine HF.out.mono ?_
      rintro e w2 ⟨cs, rfl, hF, hb2⟩
      obtain ⟨x1, x2, x3, y1, y2, y3, rfl, hfs, hms⟩ := hF
      have HO : Hid (fOne L s x = (fldF ((fnd L x).getD zF).fs s).map (fun t => (x, t))) := Lib.hid rfl
      generalize (fnd L x).getD zF = f at *
      have hb3 : Below wr.heap.size wr (w2.alloc (.cells #[.string f.name, .string f.sup, .slice x1 x2 x3, .slice y1 y2 y3] 35)) := hb2.trans ((below1 w2 _).mono hb2.size)
      have HR3 := Lib.hid (HR.out.below hb3)
      have HS3 := Lib.hid (strs_keep (Keeps.of_below hb3) HS.out)
      have HB3 := Lib.hid (hbr.trans (hb3.mono hsr))
      have hfl := hfs.at.2.1
      have hfc := hfs.at.2.2.1
      unfold maxLen at hfc
      have E1 := Lib.hid hfs.at.1
      have HK := Lib.hid hfs.at.2.2.2
      clear HF hfs hms hb2 hb3 HR HS
      obtain ⟨wq, hwq⟩ : ∃ wq, wq = wr := ⟨_, rfl⟩
      subst hwq
      go_wp2
      go_loopw [38] (fun i wr => ∃ j : Nat, j ≤ x2 ∧ i = .int .i64 j ∧ Hid (∀ v ∈ f.fs.take j, decide (v.name = s) = false) ∧ Hid (Blk wr w.heap.size [.string ⟨#[]⟩, .bool false] 44) ∧ Hid (Sl wr 1 StrR cls (.slice (some ⟨g, o, none⟩) cls.length c)) ∧ Below w.heap.size w wr) (fun i _ => x2 - (intOf i).toNat)
      case atStart => exact ⟨0, Nat.zero_le _, rfl, Lib.hid (by simp), HR3, HS3, HB3.out⟩
      case round =>
        obtain ⟨j, hj1, rfl, HJ, HR, HS, hbr2⟩ := hrel
        have hsr2 := hbr2.size
        have hl2 := HR.out.lt
        clear HR3 HS3 HB3
        by_cases hlt2 : j < x2
        · obtain ⟨v, hv⟩ : ∃ v, f.fs[j]? = some v := ⟨_, List.getElem?_eq_getElem (by have := E1.out; omega)⟩
          obtain ⟨g', o', cs, rfl, hcell, rfl⟩ := HK.out j v hv
          have q0 : wr.cell? ⟨g', o' + j * 3, none⟩ = some (.string v.name) := (hbr2.cell (World.block_lt_of_cell? _ _ (hcell 0 _ rfl))).trans (hcell 0 _ rfl)
          have hgl' : g' < wr.heap.size := World.block_lt_of_cell? _ _ q0
          have q1 := (hbr2.cell (World.block_lt_of_cell? _ _ (hcell 1 _ rfl))).trans (hcell 1 _ rfl)
          have q2 := (hbr2.cell (World.block_lt_of_cell? _ _ (hcell 2 _ rfl))).trans (hcell 2 _ rfl)
          have HV := Lib.hid hv
          clear hcell hv
          by_cases hn : v.name = s
          · have he := teq hn
            have HE : Hid (fldOf L cls s = some (x, ⟨v.tn, v.ta⟩)) := Lib.hid (some_at' HX.out HA.out (by rw [HO.out]; unfold fldF; rw [find_at HV.out HJ.out (by simpa using hn)]; rfl))
            have r0 : wr.cell? ⟨w.heap.size, 0, none⟩ = some (.string ⟨#[]⟩) := HR.out.cell 0
            have r1 : wr.cell? ⟨w.heap.size, 1, none⟩ = some (.bool false) := HR.out.cell 1
            have f0 := HR.out.frozen 0
            have f1 := HR.out.frozen 1
            obtain ⟨hZ, M⟩ := out2' (.string v.tn) (.bool v.ta) HR.out
            have hZ2 := hZ.below (below1 _ (.cells #[.string v.name, .string v.tn, .bool v.ta] 69))
            have z0 := hZ2.cell 0
            have z1 := hZ2.cell 1
            simp only [List.getElem?_cons_zero, List.getElem?_cons_succ] at z0 z1
            have HM := Lib.hid (hbr2.trans ((M.alloc (.cells #[.string v.name, .string v.tn, .bool v.ta] 69)).drew.below (B := w.heap.size) (fun k e => by omega) hsr2))
            clear hn hZ hZ2 M
            go_wp2
            go_region
            go_wp2
            refine bodyPost_ret (v := .tuple #[.string x, .agg #[.string v.tn, .bool v.ta], .bool true]) (by simp [results, Try.results21, go_sem, z0, z1]) rfl ?_
            exact ⟨by rw [HE.out]; rfl, HM.out⟩
          · have he := tne hn
            have HJ2 := Lib.hid (all_snoc (P := fun v => decide (v.name = s) = false) HV.out HJ.out (by simpa using hn))
            clear hn
            go_wp2
            go_roundw
            case rel => exact ⟨j + 1, by omega, by go_num, HJ2, Lib.hid (HR.out.below (below1 _ _)), Lib.hid (strs_keep (Keeps.of_below (below1 _ _)) HS.out), hbr2.trans ((below1 wr _).mono hsr2)⟩
            case measure => simp [intOf]; omega
        · have HA2 := Lib.hid (all_snoc (P := fun z => fOne L s z = none) HX.out HA.out (by rw [HO.out]; unfold fldF; rw [find_no (by have := E1.out; omega) HJ.out]; rfl))
          go_wp2
          go_roundw
          case rel => exact ⟨k + 1, by omega, by go_num, HA2, HR, HS, hbr2⟩
          case measure => simp [intOf]; omega
    · have HE : Hid (fldOf L cls s = none) := Lib.hid (some_no (by omega) HA.out)
      have r0 : wr.cell? ⟨w.heap.size, 0, none⟩ = some (.string ⟨#[]⟩) := HR.out.cell 0
      have r1 : wr.cell? ⟨w.heap.size, 1, none⟩ = some (.bool false) := HR.out.cell 1
      have f0 := HR.out.frozen 0
      have f1 := HR.out.frozen 1
      obtain ⟨hZ, M⟩ := out2' (.string ⟨#[]⟩) (.bool false) HR.out
      have z0 := hZ.cell 0
      have z1 := hZ.cell 1
      simp only [List.getElem?_cons_zero, List.getElem?_cons_succ] at z0 z1
      have HM := Lib.hid (hbr.trans (M.below (B := w.heap.size) (fun k e => by omega) hsr))
      clear hZ M
      go_wp2
      refine bodyPost_ret (v := .tuple #[.string ⟨#[]⟩, .agg #[.string ⟨#[]⟩, .bool false], .bool false]) (by simp [results, Try.results21, go_sem, z0, z1]) rfl ?_
      exact ⟨by rw [HE.out]; rfl, HM.out⟩

set_option maxHeartbeats 4000000 in
set_option maxRecDepth 100000 in
theorem method23 (L : List Fc) (hL : L.length ≤ 8) (cl s : ByteArray) (st : Bool) (a0 : Option Addr) (n0 c0 : Nat) (w : World) (h : Sl w 4 (FcR w) L (.slice a0 n0 c0)) :
    Calls Try.prog 23 #[.slice a0 n0 c0, .string cl, .string s, .bool st] w (MOut (mthOf L (ab L cl).1 s st) w) := by
  have HH := Lib.hid h
  have HU := Lib.hid (up12 L hL cl a0 n0 c0 (w.alloc (.cells #[.string ⟨#[]⟩, .bool false, .slice none 0 0, .string ⟨#[]⟩, .bool false] 50)) (fcs_keep (Keeps.of_below (below1 _ _)) h))
  clear h
  go_enter Try.func23, Try.ntmps23
  go_wp2_with fail
  refine HU.out.mono ?_
  rintro e w1 ⟨a, c, rfl, hS, hb1⟩
  have hB1 : Below w.heap.size w w1 := (below1 w _).trans (hb1.mono (by simp))
  have HR1 := Lib.hid ((Blk.new w [.string ⟨#[]⟩, .bool false, .slice none 0 0, .string ⟨#[]⟩, .bool false] 50).below hb1)
  have HS1 := Lib.hid hS
  have hl := hS.at.2.1
  have hc := hS.at.2.2.1
  unfold maxLen at hc
  generalize (ab L cl).1 = cls at *
  clear HU hS hb1
  go_wp2
  go_loopw [27] (fun i wr => ∃ k : Nat, k ≤ cls.length ∧ i = .int .i64 k ∧ Hid (∀ z ∈ cls.take k, mOne L s st z = none) ∧ Hid (Blk wr w.heap.size [.string ⟨#[]⟩, .bool false, .slice none 0 0, .string ⟨#[]⟩, .bool false] 50) ∧ Hid (Sl wr 1 StrR cls (.slice a cls.length c)) ∧ Below w.heap.size w wr) (fun i _ => cls.length - (intOf i).toNat)
  case atStart => exact ⟨0, Nat.zero_le _, rfl, Lib.hid (by simp), HR1, HS1, hB1⟩
  case round =>
    obtain ⟨k, hk1, rfl, HA, HR, HS, hbr⟩ := hrel
    have hsr := hbr.size
    have hl0 := HR.out.lt
    clear HR1 HS1
    by_cases hlt : k < cls.length
    · obtain ⟨x, hx⟩ : ∃ x, cls[k]? = some x := ⟨_, List.getElem?_eq_getElem hlt⟩
      obtain ⟨g, o, cs, rfl, hcell, rfl⟩ := HS.out.at.2.2.2 k x hx
      have c0 : wr.cell? ⟨g, o + k, none⟩ = some (.string x) := by have := hcell 0 _ rfl; simpa using this
      have HX := Lib.hid hx
      have HF := Lib.hid (find16g L x a0 n0 _ w wr hbr HH.out)
      clear hcell hx
      go_wp2_with fail
      refine HF.out.mono ?_
      rintro e w2 ⟨cs, rfl, hF, hb2⟩
      obtain ⟨x1, x2, x3, y1, y2, y3, rfl, hfs, hms⟩ := hF
      have HO : Hid (mOne L s st x = match mthF ((fnd L x).getD zF).ms s with
        | none => none
        | some m => if m.st = st then some (x, m) else none) := Lib.hid rfl
      generalize (fnd L x).getD zF = f at *
      have hb3 : Below wr.heap.size wr (w2.alloc (.cells #[.string f.name, .string f.sup, .slice x1 x2 x3, .slice y1 y2 y3] 35)) := hb2.trans ((below1 w2 _).mono hb2.size)
      have HR3 := Lib.hid (HR.out.below hb3)
      have HS3 := Lib.hid (strs_keep (Keeps.of_below hb3) HS.out)
      have HB3 := Lib.hid (hbr.trans (hb3.mono hsr))
      have hfl := hms.at.2.1
      have hfc := hms.at.2.2.1
      unfold maxLen at hfc
      have E1 := Lib.hid hms.at.1
      have HK := Lib.hid hms.at.2.2.2
      clear HF hfs hms hb2 hb3 HR HS
      obtain ⟨wq, hwq⟩ : ∃ wq, wq = wr := ⟨_, rfl⟩
      subst hwq
      go_wp2
      go_loopw [40] (fun i wr => ∃ j : Nat, j ≤ y2 ∧ i = .int .i64 j ∧ Hid (∀ v ∈ f.ms.take j, decide (v.name = s) = false) ∧ Hid (Blk wr w.heap.size [.string ⟨#[]⟩, .bool false, .slice none 0 0, .string ⟨#[]⟩, .bool false] 50) ∧ Hid (Sl wr 1 StrR cls (.slice (some ⟨g, o, none⟩) cls.length c)) ∧ Below w.heap.size w wr) (fun i _ => y2 - (intOf i).toNat)
      case atStart => exact ⟨0, Nat.zero_le _, rfl, Lib.hid (by simp), HR3, HS3, HB3.out⟩
      case round =>
        obtain ⟨j, hj1, rfl, HJ, HR, HS, hbr2⟩ := hrel
        have hsr2 := hbr2.size
        have hl2 := HR.out.lt
        clear HR3 HS3 HB3
        by_cases hlt2 : j < y2
        · obtain ⟨m, hv⟩ : ∃ v, f.ms[j]? = some v := ⟨_, List.getElem?_eq_getElem (by have := E1.out; omega)⟩
          obtain ⟨g', o', cs, rfl, hcell, pa, pn, pc, rfl, hp⟩ := HK.out j m hv
          have q0 : wr.cell? ⟨g', o' + j * 5, none⟩ = some (.string m.name) := (hbr2.cell (World.block_lt_of_cell? _ _ (hcell 0 _ rfl))).trans (hcell 0 _ rfl)
          have hgl' : g' < wr.heap.size := World.block_lt_of_cell? _ _ q0
          have q1 := (hbr2.cell (World.block_lt_of_cell? _ _ (hcell 1 _ rfl))).trans (hcell 1 _ rfl)
          have q2 := (hbr2.cell (World.block_lt_of_cell? _ _ (hcell 2 _ rfl))).trans (hcell 2 _ rfl)
          have q3 := (hbr2.cell (World.block_lt_of_cell? _ _ (hcell 3 _ rfl))).trans (hcell 3 _ rfl)
          have q4 := (hbr2.cell (World.block_lt_of_cell? _ _ (hcell 4 _ rfl))).trans (hcell 4 _ rfl)
          have HV := Lib.hid hv
          have HP := Lib.hid hp
          clear hcell hv hp
          by_cases hn : m.name = s
          · have he := teq hn
            have HFM : Hid (mthF f.ms s = some m) := Lib.hid (by unfold mthF; rw [find_at HV.out HJ.out (by simpa using hn)])
            by_cases hst : m.st = st
            · have hbb : (m.st == st) = true := by simpa using hst
              have HE : Hid (mthOf L cls s st = some (x, m)) := Lib.hid (some_at' HX.out HA.out (by rw [HO.out, HFM.out]; simp [hst]))
              have r0 : wr.cell? ⟨w.heap.size, 0, none⟩ = some (.string ⟨#[]⟩) := HR.out.cell 0
              have r1 : wr.cell? ⟨w.heap.size, 1, none⟩ = some (.bool false) := HR.out.cell 1
              have r2 : wr.cell? ⟨w.heap.size, 2, none⟩ = some (.slice none 0 0) := HR.out.cell 2
              have r3 : wr.cell? ⟨w.heap.size, 3, none⟩ = some (.string ⟨#[]⟩) := HR.out.cell 3
              have r4 : wr.cell? ⟨w.heap.size, 4, none⟩ = some (.bool false) := HR.out.cell 4
              have f0 := HR.out.frozen 0
              have f1 := HR.out.frozen 1
              have f2 := HR.out.frozen 2
              have f3 := HR.out.frozen 3
              have f4 := HR.out.frozen 4
              obtain ⟨hZ, M⟩ := out5 (.string m.name) (.bool m.st) (.slice pa pn pc) (.string m.rn) (.bool m.ra) HR.out
              have hZ2 := hZ.below (below1 _ (.cells #[.string m.name, .bool m.st, .slice pa pn pc, .string m.rn, .bool m.ra] 50))
              have z0 := hZ2.cell 0
              have z1 := hZ2.cell 1
              have z2 := hZ2.cell 2
              have z3 := hZ2.cell 3
              have z4 := hZ2.cell 4
              simp only [List.getElem?_cons_zero, List.getElem?_cons_succ] at z0 z1 z2 z3 z4
              have HM := Lib.hid (hbr2.trans ((M.alloc (.cells #[.string m.name, .bool m.st, .slice pa pn pc, .string m.rn, .bool m.ra] 50)).drew.below (B := w.heap.size) (fun k e => by omega) hsr2))
              clear hn hst hZ hZ2 M
              go_wp2
              go_region
              go_wp2
              refine bodyPost_ret (v := .tuple #[.string x, .agg #[.string m.name, .bool m.st, .slice pa pn pc, .string m.rn, .bool m.ra], .bool true]) (by simp [results, Try.results23, go_sem, z0, z1, z2, z3, z4]) rfl ?_
              exact ⟨pa, pn, pc, by rw [HE.out]; rfl, by rw [HE.out]; exact tys_keep (Keeps.of_below HM.out) HP.out, HM.out⟩
            · have hbb : (m.st == st) = false := by simpa using hst
              have HA2 := Lib.hid (all_snoc (P := fun z => mOne L s st z = none) HX.out HA.out (by rw [HO.out, HFM.out]; simp [hst]))
              clear hn hst
              go_wp2
              go_roundw
              case rel => exact ⟨k + 1, by omega, by go_num, HA2, Lib.hid (HR.out.below (below1 _ _)), Lib.hid (strs_keep (Keeps.of_below (below1 _ _)) HS.out), hbr2.trans ((below1 wr _).mono hsr2)⟩
              case measure => simp [intOf]; omega
          · have he := tne hn
            have HJ2 := Lib.hid (all_snoc (P := fun v => decide (v.name = s) = false) HV.out HJ.out (by simpa using hn))
            clear hn
            go_wp2
            go_roundw
            case rel => exact ⟨j + 1, by omega, by go_num, HJ2, Lib.hid (HR.out.below (below1 _ _)), Lib.hid (strs_keep (Keeps.of_below (below1 _ _)) HS.out), hbr2.trans ((below1 wr _).mono hsr2)⟩
            case measure => simp [intOf]; omega
        · have HA2 := Lib.hid (all_snoc (P := fun z => mOne L s st z = none) HX.out HA.out (by rw [HO.out]; unfold mthF; rw [find_no (by have := E1.out; omega) HJ.out]))
          go_wp2
          go_roundw
          case rel => exact ⟨k + 1, by omega, by go_num, HA2, HR, HS, hbr2⟩
          case measure => simp [intOf]; omega
    · have HE : Hid (mthOf L cls s st = none) := Lib.hid (some_no (by omega) HA.out)
      have r0 : wr.cell? ⟨w.heap.size, 0, none⟩ = some (.string ⟨#[]⟩) := HR.out.cell 0
      have r1 : wr.cell? ⟨w.heap.size, 1, none⟩ = some (.bool false) := HR.out.cell 1
      have r2 : wr.cell? ⟨w.heap.size, 2, none⟩ = some (.slice none 0 0) := HR.out.cell 2
      have r3 : wr.cell? ⟨w.heap.size, 3, none⟩ = some (.string ⟨#[]⟩) := HR.out.cell 3
      have r4 : wr.cell? ⟨w.heap.size, 4, none⟩ = some (.bool false) := HR.out.cell 4
      have f0 := HR.out.frozen 0
      have f1 := HR.out.frozen 1
      have f2 := HR.out.frozen 2
      have f3 := HR.out.frozen 3
      have f4 := HR.out.frozen 4
      obtain ⟨hZ, M⟩ := out5 (.string ⟨#[]⟩) (.bool false) (.slice none 0 0) (.string ⟨#[]⟩) (.bool false) HR.out
      have z0 := hZ.cell 0
      have z1 := hZ.cell 1
      have z2 := hZ.cell 2
      have z3 := hZ.cell 3
      have z4 := hZ.cell 4
      simp only [List.getElem?_cons_zero, List.getElem?_cons_succ] at z0 z1 z2 z3 z4
      have HM := Lib.hid (hbr.trans (M.below (B := w.heap.size) (fun k e => by omega) hsr))
      clear hZ M
      go_wp2
      refine bodyPost_ret (v := .tuple #[.string ⟨#[]⟩, .agg #[.string ⟨#[]⟩, .bool false, .slice none 0 0, .string ⟨#[]⟩, .bool false], .bool false]) (by simp [results, Try.results23, go_sem, z0, z1, z2, z3, z4]) rfl ?_
      exact ⟨none, 0, 0, by rw [HE.out]; rfl, by rw [HE.out]; exact Sl.nil _ _ _, HM.out⟩
end Go.Proofs.Ytgnkkoeklipmiaa
