/-
  Has a face few members, of short names?
-/
import Derived.Test.YthimpjfmelmhpaaDoorFcSame
import Derived.Test.YthimpjfmelmhpaaDoorFcTab
namespace Go.Proofs.YthimpjfmelmhpaaDoor.Fc
open Go.RowKit
set_option linter.unusedVariables false

/-- Some answer; if it is yes, so it is. -/
def FewP (P : Prop) (w : World) (e : Ending) (w' : World) : Prop := ∃ r, e = .returned (.bool r) ∧ (r = true → P) ∧ Below w.heap.size w w'
theorem FewP.no {P : Prop} {w : World} {e : Ending} {w' : World} (he : e = .returned (.bool false)) (hb : Below w.heap.size w w') : FewP P w e w' := ⟨false, he, by simp, hb⟩
theorem FewP.yes {P : Prop} {w : World} {e : Ending} {w' : World} (he : e = .returned (.bool true)) (hl : P) (hb : Below w.heap.size w w') : FewP P w e w' := ⟨true, he, fun _ => hl, hb⟩
theorem all_snoc {α : Type} {P : α → Prop} {l : List α} {k : Nat} {x : α} (hx : l[k]? = some x) (h : ∀ y ∈ l.take k, P y) (hp : P x) : ∀ y ∈ l.take (k + 1), P y := by
  have hkl : k < l.length := (List.getElem?_eq_some_iff.1 hx).1
  intro y hy
  rw [List.take_succ_eq_append_getElem hkl, List.mem_append] at hy
  rcases hy with hy | hy
  · exact h y hy
  · rw [(List.getElem?_eq_some_iff.1 hx).2] at hy
    simp at hy
    subst hy
    exact hp

set_option maxHeartbeats 4000000 in
set_option maxRecDepth 100000 in
theorem few31 (x : Fc) (a1 : Option Addr) (n1 c1 : Nat) (a2 : Option Addr) (n2 c2 : Nat) (w : World) (h1 : Sl w 3 VrR x.fs (.slice a1 n1 c1)) (h2 : Sl w 5 (SgR w) x.ms (.slice a2 n2 c2)) :
    Calls Tryd.prog 37 #[.agg #[.string x.name, .string x.sup, .slice a1 n1 c1, .slice a2 n2 c2]] w (FewP (Small x) w) := by
  obtain ⟨e1, l1, k1, hk1⟩ := h1.at
  obtain ⟨e2, l2, k2, hk2⟩ := h2.at
  unfold maxLen at k1 k2
  have E1 := Lib.hid e1
  have E2 := Lib.hid e2
  have HK1 := Lib.hid hk1
  have HK2 := Lib.hid hk2
  clear e1 e2 hk1 hk2 h1 h2
  by_cases t1 : 12 < n1
  · go_enter Tryd.func37, Tryd.ntmps37
    go_wp2
    go_ret
    exact FewP.no rfl (below1 w _)
  by_cases t2 : 12 < n2
  · go_enter Tryd.func37, Tryd.ntmps37
    go_wp2
    go_ret
    exact FewP.no rfl (below1 w _)
  by_cases t3 : 60 < x.name.size
  · go_enter Tryd.func37, Tryd.ntmps37
    go_wp2
    go_ret
    exact FewP.no rfl (below1 w _)
  by_cases t4 : 60 < x.sup.size
  · go_enter Tryd.func37, Tryd.ntmps37
    go_wp2
    go_ret
    exact FewP.no rfl (below1 w _)
  go_enter Tryd.func37, Tryd.ntmps37
  go_wp2
  go_loopw [34] (fun i wr => ∃ k : Nat, k ≤ n1 ∧ i = .int .i64 k ∧ Hid (∀ v ∈ x.fs.take k, v.name.size ≤ 60 ∧ v.tn.size ≤ 60) ∧ Hid (Blk wr w.heap.size [.string x.name, .string x.sup, .slice a1 n1 c1, .slice a2 n2 c2] 35) ∧ Below w.heap.size w wr) (fun i _ => n1 - (intOf i).toNat)
  case atStart => exact ⟨0, Nat.zero_le _, rfl, Lib.hid (by simp), Lib.hid (Blk.new w _ _), below1 w _⟩
  case round =>
    obtain ⟨k, hk1, rfl, HA, HB, hbr⟩ := hrel
    have hsr := hbr.size
    by_cases hlt : k < n1
    · obtain ⟨v, hv⟩ : ∃ v, x.fs[k]? = some v := ⟨_, List.getElem?_eq_getElem (by have := E1.out; omega)⟩
      obtain ⟨g, o, cs, rfl, hcell, rfl⟩ := HK1.out k v hv
      have c0 : wr.cell? ⟨g, o + k * 3, none⟩ = some (.string v.name) := (hbr.cell (World.block_lt_of_cell? _ _ (hcell 0 _ rfl))).trans (hcell 0 _ rfl)
      have hgl : g < wr.heap.size := World.block_lt_of_cell? _ _ c0
      have d1 := (hbr.cell (World.block_lt_of_cell? _ _ (hcell 1 _ rfl))).trans (hcell 1 _ rfl)
      have d2 := (hbr.cell (World.block_lt_of_cell? _ _ (hcell 2 _ rfl))).trans (hcell 2 _ rfl)
      have HV := Lib.hid hv
      clear hcell hv
      by_cases s1 : 60 < v.name.size
      · go_wp2
        go_ret
        exact FewP.no rfl (hbr.trans ((below1 wr _).mono hsr))
      by_cases s2 : 60 < v.tn.size
      · go_wp2
        go_ret
        exact FewP.no rfl (hbr.trans ((below1 wr _).mono hsr))
      have HA2 := Lib.hid (all_snoc HV.out HA.out ⟨by omega, by omega⟩)
      go_wp2
      go_roundw
      case rel => exact ⟨k + 1, by omega, by go_num, HA2, Lib.hid (HB.out.below (below1 _ _)), hbr.trans ((below1 wr _).mono hsr)⟩
      case measure => simp [intOf]; omega
    · have HA1 : Hid (∀ v ∈ x.fs, v.name.size ≤ 60 ∧ v.tn.size ≤ 60) := Lib.hid (by have := HA.out; rwa [List.take_of_length_le (by have := E1.out; omega)] at this)
      have b3 : wr.cell? ⟨w.heap.size, 3, none⟩ = some (.slice a2 n2 c2) := HB.out.cell 3
      obtain ⟨wq, hwq⟩ : ∃ wq, wq = wr := ⟨_, rfl⟩
      subst hwq
      have hbq := hbr
      clear HA HB hbr
      go_wp2
      go_loopw [53] (fun i wr => ∃ k : Nat, k ≤ n2 ∧ i = .int .i64 k ∧ Hid (∀ m ∈ x.ms.take k, m.name.size ≤ 60 ∧ m.rn.size ≤ 60 ∧ m.ps.length ≤ 10 ∧ ∀ p ∈ m.ps, p.n.size ≤ 60) ∧ Below w.heap.size w wr) (fun i _ => n2 - (intOf i).toNat)
      case atStart => exact ⟨0, Nat.zero_le _, rfl, Lib.hid (by simp), hbq⟩
      case round =>
        obtain ⟨k, hk1, rfl, HA, hbr⟩ := hrel
        have hsr := hbr.size
        by_cases hlt : k < n2
        · obtain ⟨m, hm⟩ : ∃ v, x.ms[k]? = some v := ⟨_, List.getElem?_eq_getElem (by have := E2.out; omega)⟩
          obtain ⟨g, o, cs, rfl, hcell, pa, pn, pc, rfl, hp⟩ := HK2.out k m hm
          have c0 : wr.cell? ⟨g, o + k * 5, none⟩ = some (.string m.name) := (hbr.cell (World.block_lt_of_cell? _ _ (hcell 0 _ rfl))).trans (hcell 0 _ rfl)
          have hgl : g < wr.heap.size := World.block_lt_of_cell? _ _ c0
          have d1 := (hbr.cell (World.block_lt_of_cell? _ _ (hcell 1 _ rfl))).trans (hcell 1 _ rfl)
          have d2 := (hbr.cell (World.block_lt_of_cell? _ _ (hcell 2 _ rfl))).trans (hcell 2 _ rfl)
          have d3 := (hbr.cell (World.block_lt_of_cell? _ _ (hcell 3 _ rfl))).trans (hcell 3 _ rfl)
          have d4 := (hbr.cell (World.block_lt_of_cell? _ _ (hcell 4 _ rfl))).trans (hcell 4 _ rfl)
          have HM := Lib.hid hm
          obtain ⟨e3, l3, k3, hkp⟩ := hp.at
          unfold maxLen at k3
          have E3 := Lib.hid e3
          have HKP := Lib.hid hkp
          clear hcell hm hp hkp e3
          by_cases s1 : 60 < m.name.size
          · go_wp2
            go_ret
            exact FewP.no rfl (hbr.trans ((below1 wr _).mono hsr))
          by_cases s2 : 60 < m.rn.size
          · go_wp2
            go_ret
            exact FewP.no rfl (hbr.trans ((below1 wr _).mono hsr))
          by_cases s3 : 10 < pn
          · go_wp2
            go_ret
            exact FewP.no rfl (hbr.trans ((below1 wr _).mono hsr))
          obtain ⟨wp, hwp⟩ : ∃ wp, wp = wr := ⟨_, rfl⟩
          subst hwp
          go_wp2
          go_loopw [77] (fun i wr => ∃ j : Nat, j ≤ pn ∧ i = .int .i64 j ∧ Hid (∀ p ∈ m.ps.take j, p.n.size ≤ 60) ∧ Below w.heap.size w wr) (fun i _ => pn - (intOf i).toNat)
          case atStart => exact ⟨0, Nat.zero_le _, rfl, Lib.hid (by simp), hbr.trans ((below1 wp _).mono hsr)⟩
          case round =>
            obtain ⟨j, hj1, rfl, HJ, hbr2⟩ := hrel
            have hsr2 := hbr2.size
            by_cases hlt2 : j < pn
            · obtain ⟨p, hpj⟩ : ∃ v, m.ps[j]? = some v := ⟨_, List.getElem?_eq_getElem (by have := E3.out; omega)⟩
              obtain ⟨g', o', cs, rfl, hcell, rfl⟩ := HKP.out j p hpj
              have q0 : wr.cell? ⟨g', o' + j * 2, none⟩ = some (.string p.n) := (hbr2.cell (World.block_lt_of_cell? _ _ (hcell 0 _ rfl))).trans (hcell 0 _ rfl)
              have hgl' : g' < wr.heap.size := World.block_lt_of_cell? _ _ q0
              have q1 := (hbr2.cell (World.block_lt_of_cell? _ _ (hcell 1 _ rfl))).trans (hcell 1 _ rfl)
              have HP := Lib.hid hpj
              clear hcell hpj
              by_cases s4 : 60 < p.n.size
              · go_wp2
                go_ret
                exact FewP.no rfl (hbr2.trans ((below1 wr _).mono hsr2))
              have HJ2 := Lib.hid (all_snoc (P := fun p => p.n.size ≤ 60) HP.out HJ.out (by omega))
              go_wp2
              go_roundw
              case rel => exact ⟨j + 1, by omega, by go_num, HJ2, hbr2.trans ((below1 wr _).mono hsr2)⟩
              case measure => simp [intOf]; omega
            · have HA2 : Hid (∀ m ∈ x.ms.take (k + 1), m.name.size ≤ 60 ∧ m.rn.size ≤ 60 ∧ m.ps.length ≤ 10 ∧ ∀ p ∈ m.ps, p.n.size ≤ 60) := Lib.hid (all_snoc HM.out HA.out ⟨by omega, by omega, by have := E3.out; omega, by have := HJ.out; rwa [List.take_of_length_le (by have := E3.out; omega)] at this⟩)
              go_wp2
              go_roundw
              case rel => exact ⟨k + 1, by omega, by go_num, HA2, hbr2⟩
              case measure => simp [intOf]; omega
        · have HA2 := HA.out
          rw [List.take_of_length_le (by have := E2.out; omega)] at HA2
          have HS : Hid (Small x) := Lib.hid ⟨by omega, by omega, by have := E1.out; omega, by have := E2.out; omega, HA1.out, HA2⟩
          clear HA2
          go_wp2
          go_ret
          exact FewP.yes rfl HS.out hbr
end Go.Proofs.YthimpjfmelmhpaaDoor.Fc
