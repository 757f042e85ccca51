/-
  Has a class few members?
-/
import Derived.Test.YtojkagfbdpjckaaDoorFewS
namespace Go.Proofs.YtojkagfbdpjckaaDoor
open Go.RowKit

def ClassFew (fs : List Vr) (ms : List Mt) : Prop := fs.length ≤ 10 ∧ ms.length ≤ 10 ∧ ∀ m ∈ ms, m.params.length ≤ 8 ∧ m.body.length ≤ 10
/-- Some answer; if it is yes, there are few. -/
def FewCPost (fs : List Vr) (ms : List Mt) (w : World) (e : Ending) (w' : World) : Prop := ∃ r, e = .returned (.bool r) ∧ (r = true → ClassFew fs ms) ∧ Below w.heap.size w w'
theorem FewCPost.no {fs : List Vr} {ms : List Mt} {w : World} {e : Ending} {w' : World} (he : e = .returned (.bool false)) (hb : Below w.heap.size w w') : FewCPost fs ms w e w' := ⟨false, he, by simp, hb⟩
theorem FewCPost.yes {fs : List Vr} {ms : List Mt} {w : World} {e : Ending} {w' : World} (he : e = .returned (.bool true)) (hl : ClassFew fs ms) (hb : Below w.heap.size w w') : FewCPost fs ms w e w' := ⟨true, he, fun _ => hl, hb⟩

set_option maxHeartbeats 4000000 in
set_option maxRecDepth 100000 in
theorem few13 (ln co : Int) (name sup : ByteArray) (fs : List Vr) (ms : List Mt) (a1 : Option Addr) (n1 c1 : Nat) (a2 : Option Addr) (n2 c2 : Nat) (w : World) (h1 : Sl w 3 VrR fs (.slice a1 n1 c1)) (h2 : Sl w 8 (MtR w) ms (.slice a2 n2 c2)) (hz : name.size + sup.size ≤ 9223372036854775807) :
    Calls Tryd.prog 13 #[.agg #[.int .i64 ln, .int .i64 co, .string name, .string sup, .slice a1 n1 c1, .slice a2 n2 c2]] w (FewCPost fs ms w) := by
  obtain ⟨e1, _, _, _⟩ := h1.at
  obtain ⟨e2, hl, hc, hkk⟩ := h2.at
  unfold maxLen at hc
  have E1 := Lib.hid e1
  have E2 := Lib.hid e2
  have HK := Lib.hid hkk
  clear e1 e2 hkk h1 h2
  by_cases t1 : 10 < n1
  · go_enter Tryd.func13, Tryd.ntmps13
    go_wp2
    go_ret
    exact FewCPost.no rfl (below1 w _)
  by_cases t2 : 10 < n2
  · go_enter Tryd.func13, Tryd.ntmps13
    go_wp2
    go_ret
    exact FewCPost.no rfl (below1 w _)
  by_cases t3 : 80 < name.size + sup.size
  · go_enter Tryd.func13, Tryd.ntmps13
    go_wp2
    go_ret
    exact FewCPost.no rfl (below1 w _)
  go_enter Tryd.func13, Tryd.ntmps13
  go_wp2
  go_loopw [28] (fun i wr => ∃ k : Nat, k ≤ n2 ∧ i = .int .i64 k ∧ Hid (∀ m ∈ ms.take k, m.params.length ≤ 8 ∧ m.body.length ≤ 10) ∧ Below w.heap.size w wr) (fun i _ => n2 - (intOf i).toNat)
  case atStart => exact ⟨0, Nat.zero_le _, rfl, Lib.hid (by simp), below1 w _⟩
  case round =>
    obtain ⟨k, hk1, rfl, HA, hbr⟩ := hrel
    have hsr := hbr.size
    by_cases hlt : k < n2
    · have hxk : k < ms.length := by rw [← E2.out]; exact hlt
      obtain ⟨g, o, cs, rfl, hcell, pv, bv, rfl, hp, d, hb⟩ := HK.out k ms[k] (List.getElem?_eq_getElem hxk)
      obtain ⟨pa, pc, rfl⟩ := hp.form
      obtain ⟨ba, bc, rfl⟩ := hb.form
      have HF := Lib.hid (fewS_any w d _ _ hb)
      have HT : Hid (∀ (h1 : ms[k].params.length ≤ 8) (h2 : ms[k].body.length ≤ 10), ∀ m ∈ ms.take (k + 1), m.params.length ≤ 8 ∧ m.body.length ≤ 10) := Lib.hid (fun h1 h2 m hm => by
        rw [List.take_succ_eq_append_getElem hxk, List.mem_append] at hm
        rcases hm with hm | hm
        · exact HA.out m hm
        · simp at hm; subst hm; exact ⟨h1, h2⟩)
      have c0 : wr.cell? ⟨g, o + k * 8, none⟩ = some (.int .i64 ms[k].ln) := (hbr.cell (World.block_lt_of_cell? _ _ (hcell 0 _ rfl))).trans (hcell 0 _ rfl)
      have hgl : g < wr.heap.size := World.block_lt_of_cell? _ _ c0
      have k1 := (hbr.cell (World.block_lt_of_cell? _ _ (hcell 1 _ rfl))).trans (hcell 1 _ rfl)
      have k2 := (hbr.cell (World.block_lt_of_cell? _ _ (hcell 2 _ rfl))).trans (hcell 2 _ rfl)
      have k3 := (hbr.cell (World.block_lt_of_cell? _ _ (hcell 3 _ rfl))).trans (hcell 3 _ rfl)
      have k4 := (hbr.cell (World.block_lt_of_cell? _ _ (hcell 4 _ rfl))).trans (hcell 4 _ rfl)
      have k5 := (hbr.cell (World.block_lt_of_cell? _ _ (hcell 5 _ rfl))).trans (hcell 5 _ rfl)
      have k6 := (hbr.cell (World.block_lt_of_cell? _ _ (hcell 6 _ rfl))).trans (hcell 6 _ rfl)
      have k7 := (hbr.cell (World.block_lt_of_cell? _ _ (hcell 7 _ rfl))).trans (hcell 7 _ rfl)
      clear hcell hp hb HA
      generalize ms[k] = m at *
      clear hxk
      obtain ⟨mln, mco, mname, mst, mps, mrn, mra, mbody⟩ := m
      dsimp only [mtC] at HT HF c0 k1 k2 k3 k4 k5 k6 k7
      generalize hps : mps.length = np at *
      generalize hbs : mbody.length = nb at *
      have HT2 := HT
      clear HT hps hbs
      by_cases s1 : 8 < np
      · go_wp2
        go_ret
        exact FewCPost.no rfl (hbr.trans ((below1 wr _).mono hsr))
      by_cases s2 : 40 < mname.size
      · go_wp2
        go_ret
        exact FewCPost.no rfl (hbr.trans ((below1 wr _).mono hsr))
      go_wp2_with fail
      refine (HF.out 0 _ (by omega) (hbr.trans ((below1 wr _).mono hsr))).mono ?_
      rintro e1 w1 ⟨r1, rfl, hr1, hb1⟩
      have hB1 : Below wr.heap.size wr w1 := (below1 wr _).trans (hb1.mono (by simp))
      clear hb1
      cases r1 with
      | false =>
        go_wp2
        go_ret
        exact FewCPost.no rfl (hbr.trans (hB1.mono hsr))
      | true =>
        have HT3 := Lib.hid (HT2.out (by omega) (hr1 rfl))
        clear hr1 HT2
        go_wp2
        go_roundw
        case rel => exact ⟨k + 1, by omega, by go_num, HT3, hbr.trans (hB1.mono hsr)⟩
        case measure => simp [intOf]; omega
    · have HCl : Hid (ClassFew fs ms) := Lib.hid ⟨by rw [← E1.out]; omega, by rw [← E2.out]; omega, fun m hm => HA.out m (by rw [List.take_of_length_le (by rw [← E2.out]; omega)]; exact hm)⟩
      go_wp2
      go_ret
      exact FewCPost.yes rfl HCl.out hbr
end Go.Proofs.YtojkagfbdpjckaaDoor
