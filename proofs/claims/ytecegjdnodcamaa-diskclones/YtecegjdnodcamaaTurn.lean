/-
  The model's files: turn.
-/
import Derived.Test.YtecegjdnodcamaaAct
import Derived.Maps.Ext
namespace Go.Proofs.Ytecegjdnodcamaa
open Go.RowKit Go.Maps Go.Sort

/-- a map of texts by texts in memory -/
def MF (w : World) (b : Nat) (D : Dt) : Prop := w.ownsMap Try.prog 9 (plainElem Try.prog 9) b (Maps.size D) D
theorem zero9 (w : World) : (zeroValue 9).run Try.prog w = .ok (.string ByteArray.empty) w := by kernel_rfl
theorem plain9 {s : ByteArray} (h : s.size ≤ maxLen) : plainElem (H := Unit) Try.prog 9 (.string s) = some (tx s, []) := plainElem_string Try.underlying9 h

section
variable {w w' : World} {b : Nat} {D : Dt} {fp : Nat → Prop}
theorem MF.keep (h : MF w b D) (hm : Mods fp w w') (hn : ¬ fp b) : MF w' b D := by
  have hlt := World.ownsMap.lt h
  obtain ⟨es, clock, hb, r⟩ := h
  exact ⟨es, clock, (hm.block b hlt hn).trans hb, r⟩
theorem MF.lt (h : MF w b D) : b < w.heap.size := World.ownsMap.lt h
theorem MF.below (h : MF w b D) (hb : Below w.heap.size w w') : MF w' b D := h.keep (fp := fun _ => False) (Mods.of_below hb) id
theorem MF.look (h : MF w b D) (hG : Good D) (name : ByteArray) (hn : name.size ≤ maxLen) : (Instr.lookup 38 (.map (some b)) (.string name) false).run Try.prog w = .ok (.string (get D name)) w := by
  obtain ⟨v, ps, hrun, hv⟩ := World.ownsMap.lookup h law Try.underlying38 (zero9 w) (plain9 (by simp)) (key9 hn)
  rw [hrun]
  obtain ⟨s, rfl, hz, _⟩ := plainElem_string_inv Try.underlying9 hv
  have := atKey_get hG name
  rw [(Prod.mk.inj hz).1] at this
  have e : s = get D name := by have := congrArg unT this; rwa [show (DataW.lit (Lit.string s.data.toList) : Dt) = tx s from rfl, unT_tx, unT_tx] at this
  rw [e]
theorem MF.look_ok (h : MF w b D) (hG : Good D) (name : ByteArray) (hn : name.size ≤ maxLen) : (Instr.lookup 38 (.map (some b)) (.string name) true).run Try.prog w = .ok (.tuple #[.string (get D name), .bool (hasF D name)]) w := by
  obtain ⟨v, ps, hrun, hv⟩ := World.ownsMap.look_ok h law Try.underlying38 (zero9 w) (plain9 (by simp)) (key9 hn)
  rw [hrun]
  obtain ⟨s, rfl, hz, _⟩ := plainElem_string_inv Try.underlying9 hv
  have := atKey_get hG name
  rw [(Prod.mk.inj hz).1] at this
  have e : s = get D name := by have := congrArg unT this; rwa [show (DataW.lit (Lit.string s.data.toList) : Dt) = tx s from rfl, unT_tx, unT_tx] at this
  rw [e]
  rfl
theorem MF.get_le (h : MF w b D) (hG : Good D) (name : ByteArray) (hn : name.size ≤ maxLen) : (get D name).size ≤ maxLen := by
  obtain ⟨v, ps, hrun, hv⟩ := World.ownsMap.lookup h law Try.underlying38 (zero9 w) (plain9 (by simp)) (key9 hn)
  obtain ⟨s, rfl, hz, hl⟩ := plainElem_string_inv Try.underlying9 hv
  have := atKey_get hG name
  rw [(Prod.mk.inj hz).1] at this
  have e : s = get D name := by have := congrArg unT this; rwa [show (DataW.lit (Lit.string s.data.toList) : Dt) = tx s from rfl, unT_tx, unT_tx] at this
  rw [← e]
  exact hl
theorem MF.put {name s : ByteArray} (h : w.ownsMap Try.prog 9 (plainElem Try.prog 9) b (Maps.size D + 1) (D.put (ky name) (tx s))) : MF w b (putF D name s) := own_exact h
theorem MF.del {name : ByteArray} (h : w.ownsMap Try.prog 9 (plainElem Try.prog 9) b (Maps.size D) (D.del (ky name))) : MF w b (delF D name) := own_exact h
end

/-- an act that was done, as a change -/
def toChg (a : ActD) : Chg := if a.kind = 2 then ⟨1, a.name, a.to_⟩ else if a.kind = 3 then ⟨2, a.name, ByteArray.empty⟩ else ⟨0, a.name, a.text⟩
/-- files behind an act -/
def actD (D : Dt) (a : ActD) : Dt := if a.kind = 4 ∨ a.kind = 5 then D else app D (toChg a)

theorem actD_2 (D : Dt) (a : ActD) (hk : a.kind = 2) : actD D a = if hasF D a.name then putF (delF D a.name) a.to_ (get D a.name) else D := by
  have e : toChg a = ⟨1, a.name, a.to_⟩ := by unfold toChg; rw [if_pos hk]
  unfold actD
  rw [if_neg (by rw [hk]; decide), e]
  rfl

set_option maxHeartbeats 3200000 in
set_option maxRecDepth 100000 in
theorem turn_any (w : World) (b : Nat) (D : Dt) (hM : MF w b D) (hG : Good D) (hf : Maps.size D < 900000) (a : ActD) (hs : a.small) :
    Calls Try.prog 21 #[.map (some b), actV a] w fun e w' => ∃ b', e = .returned (.map (some b')) ∧ MF w' b' (actD D a) ∧ w.heap.size ≤ b' ∧ Below w.heap.size w w' := by
  unfold actV
  have hmm := @run_makeMap Try.prog
  have hbl := hM.lt
  have hs1 : a.name.size ≤ maxLen := by have := hs.name; unfold maxLen; omega
  have hs2 : a.to_.size ≤ maxLen := by have := hs.to_; unfold maxLen; omega
  have hs3 : a.text.size ≤ maxLen := by have := hs.text; unfold maxLen; omega
  obtain ⟨W0, HW0⟩ : ∃ W0, Hid (W0 = (w.alloc (.cells #[.int .i64 a.K, .int .i64 a.N, .string a.name, .string a.to_, .string a.text] 30)).alloc (.map #[] 0)) := ⟨_, Lib.hid rfl⟩
  have hown0 : W0.ownsMap Try.prog 9 (plainElem Try.prog 9) b (Maps.size D) D := by rw [HW0.out]; exact (World.ownsMap.alloc hM _).alloc _
  have hB0 : Below w.heap.size w W0 := by rw [HW0.out]; exact ((Below.refl _ w).alloc (Nat.le_refl _) _).alloc (by simp) _
  have hz0 : W0.heap.size = w.heap.size + 2 := by rw [HW0.out]; simp
  have hout0 : W0.ownsMap (H := Unit) Try.prog 9 (plainElem Try.prog 9) (w.heap.size + 1) 0 (.map []) := by
    rw [HW0.out]
    have := World.ownsMap_made (H := Unit) (w.alloc (.cells #[.int .i64 a.K, .int .i64 a.N, .string a.name, .string a.to_, .string a.text] 30)) Try.prog 9 (plainElem Try.prog 9)
    simpa using this
  have hbk0 : Blk W0 w.heap.size (actL a) 30 := by
    rw [HW0.out]
    have h1 : Blk (w.alloc (.cells #[.int .i64 a.K, .int .i64 a.N, .string a.name, .string a.to_, .string a.text] 30)) w.heap.size (actL a) 30 := (MapKept.heap_alloc w _).1
    exact h1.keep (fp := fun _ => False) ((Mods.refl _ _).alloc _) id
  have HZ0 := Lib.hid hz0
  clear hz0
  have HOW := Lib.hid ((World.ownsMap.alloc hM (.cells #[.int .i64 a.K, .int .i64 a.N, .string a.name, .string a.to_, .string a.text] 30)).alloc (.map #[] 0))
  go_enter Try.func21, Try.ntmps21
  go_wp2_with (first
    | (at_range; refine wpList_range_own _ rfl _ 38 rfl 9 9 law Try.underlying38 _ b (Maps.size D) D rfl HOW.out ?_; rw [← HW0.out]; intro w0 hrg0 hg0 hs0)
    | go_in)
  rw [HZ0.out] at hrg0 ⊢
  have HSZ := Lib.hid hs0
  clear hs0
  go_frame
  go_loopw [6] (fun _ wr => ∃ (left : Lit → Bool) (cnt : Nat) (Dout : Dt), wr.ranges Try.prog 9 (plainElem Try.prog 9) b (w.heap.size + 2) (Maps.size D) D left cnt ∧ cnt ≤ Maps.size D ∧
      wr.ownsMap Try.prog 9 (plainElem Try.prog 9) (w.heap.size + 1) (Maps.size D - cnt) Dout ∧ Agree Dout D left ∧ Below w.heap.size w wr ∧ Blk wr w.heap.size (actL a) 30 ∧ w.heap.size + 2 < wr.heap.size)
    (fun _ wr => wr.rangeLeft b (w.heap.size + 2))
  case atStart =>
    refine ⟨_, _, .map [], hrg0, Nat.le_refl _, (hout0.kept hg0 (by simp)).mono (Nat.zero_le _), agree_start D, hB0.grown hg0 (by have := HZ0.out; omega) (fun j hj => by cases hj), ?_, by have := HZ0.out; have := HSZ.out; omega⟩
    exact (hg0.block w.heap.size hbk0.lt (by simp)).trans hbk0
  case round =>
    obtain ⟨left, cnt, Dout, hrg, hcs, hout, hA, hnx, hbk, hzr⟩ := hrel
    clear hown0 hout0 hbk0 hB0 hg0 hrg0
    go_wp2_with (first
      | (at_next; refine wpList_next_ranges _ rfl _ rfl 9 law (plainElem Try.prog 9) encStr Value.string (fun key kl hk => by obtain ⟨x, hx, _⟩ := Maps.keyOf_str Try.underlying9 hk; exact ⟨x, hx⟩) (fun v y hv => by obtain ⟨c, rfl, _⟩ := plainElem_string_inv Try.underlying9 hv; exact ⟨c, rfl⟩) b (w.heap.size + 2) (Maps.size D) _ _ _ rfl hrg ?_ ?_)
      | go_in)
    · intro hc0 hl0
      have hDD := agree_end hA hl0 (hout.canon law) (World.ownsMap.canon hM law)
      have hMF : MF wr (w.heap.size + 1) D := by rw [hDD] at hout; exact own_exact hout
      have b0 : wr.cell? ⟨w.heap.size, 0, none⟩ = some (.int .i64 a.K) := hbk.cell 0
      have b2 : wr.cell? ⟨w.heap.size, 2, none⟩ = some (.string a.name) := hbk.cell 2
      have b3 : wr.cell? ⟨w.heap.size, 3, none⟩ = some (.string a.to_) := hbk.cell 3
      have b4 : wr.cell? ⟨w.heap.size, 4, none⟩ = some (.string a.text) := hbk.cell 4
      have hlk := hMF.look_ok hG a.name hs1
      have hgl := hMF.get_le hG a.name hs1
      have HMF := Lib.hid hMF
      have HBK := Lib.hid hbk
      clear hDD hMF hbk hrg hout hA hc0 hl0
      rcases a.kinds with hk | hk | hk | hk | hk | hk
      · have HE : Hid (actD D a = putF D a.name a.text) := Lib.hid (by unfold actD toChg app; rw [hk]; rfl)
        unfold ActD.kind at hk
        go_wp2_with (first | (at_mapUpdate; refine wpList_mapUpdate_own _ rfl _ _ _ 38 rfl 9 9 law Try.underlying38 _ (w.heap.size + 1) (Maps.size D) D rfl HMF.out (by unfold maxLen; omega) _ _ _ rfl rfl (key9 hs1) _ [] (plain9 hs3) ?_; intro w2 hM2 hg2; have b22 : w2.cell? ⟨w.heap.size, 2, none⟩ = some (.string a.name) := hg2.cell b2 (by simp)) | go_in)
        go_ret
        exact ⟨_, rfl, by rw [HE.out]; exact MF.put hM2, by omega, hnx.grown hg2 hnx.size (fun j hj => by cases hj; omega)⟩
      · have HE : Hid (actD D a = putF D a.name a.text) := Lib.hid (by unfold actD toChg app; rw [hk]; rfl)
        unfold ActD.kind at hk
        go_wp2_with (first | (at_mapUpdate; refine wpList_mapUpdate_own _ rfl _ _ _ 38 rfl 9 9 law Try.underlying38 _ (w.heap.size + 1) (Maps.size D) D rfl HMF.out (by unfold maxLen; omega) _ _ _ rfl rfl (key9 hs1) _ [] (plain9 hs3) ?_; intro w2 hM2 hg2; have b22 : w2.cell? ⟨w.heap.size, 2, none⟩ = some (.string a.name) := hg2.cell b2 (by simp)) | go_in)
        go_ret
        exact ⟨_, rfl, by rw [HE.out]; exact MF.put hM2, by omega, hnx.grown hg2 hnx.size (fun j hj => by cases hj; omega)⟩
      · cases hh : hasF D a.name
        · have HE : Hid (actD D a = D) := Lib.hid (by rw [actD_2 D a hk, hh]; rfl)
          rw [hh] at hlk
          unfold ActD.kind at hk
          clear hh
          go_wp2
          go_ret
          exact ⟨_, rfl, by rw [HE.out]; exact HMF.out, by omega, hnx⟩
        · have HE : Hid (actD D a = putF (delF D a.name) a.to_ (get D a.name)) := Lib.hid (by rw [actD_2 D a hk, hh]; rfl)
          rw [hh] at hlk
          have hsd := size_del_le hG a.name
          unfold ActD.kind at hk
          clear hh
          go_wp2_with (first
            | (at_delete; refine wpList_delete_own _ rfl _ _ 38 9 rfl 9 law Try.underlying38 _ (w.heap.size + 1) (Maps.size D) D rfl HMF.out _ _ rfl (key9 hs1) ?_; intro w2 hM2 hg2; have b32 : w2.cell? ⟨w.heap.size, 3, none⟩ = some (.string a.to_) := hg2.grown.cell b3 (by simp))
            | (at_mapUpdate; refine wpList_mapUpdate_own _ rfl _ _ _ 38 rfl 9 9 law Try.underlying38 _ (w.heap.size + 1) (Maps.size (delF D a.name)) (delF D a.name) rfl (MF.del hM2) (by unfold maxLen; omega) _ _ _ rfl rfl (key9 hs2) _ [] (plain9 hgl) ?_; intro w3 hM3 hg3)
            | go_in)
          go_ret
          exact ⟨_, rfl, by rw [HE.out]; exact MF.put hM3, by omega, (hnx.grown hg2.grown hnx.size (fun j hj => by cases hj; omega)).grown hg3 (by have := hg2.grown.size; omega) (fun j hj => by cases hj; omega)⟩
      · have HE : Hid (actD D a = delF D a.name) := Lib.hid (by unfold actD toChg app; rw [hk]; rfl)
        unfold ActD.kind at hk
        go_wp2_with (first
          | (at_delete; refine wpList_delete_own _ rfl _ _ 38 9 rfl 9 law Try.underlying38 _ (w.heap.size + 1) (Maps.size D) D rfl HMF.out _ _ rfl (key9 hs1) ?_; intro w2 hM2 hg2)
          | go_in)
        go_ret
        exact ⟨_, rfl, by rw [HE.out]; exact MF.del hM2, by omega, hnx.grown hg2.grown hnx.size (fun j hj => by cases hj; omega)⟩
      · have HE : Hid (actD D a = D) := Lib.hid (by unfold actD; rw [if_pos (.inl hk)])
        unfold ActD.kind at hk
        go_wp2
        go_ret
        exact ⟨_, rfl, by rw [HE.out]; exact HMF.out, by omega, hnx⟩
      · have HE : Hid (actD D a = D) := Lib.hid (by unfold actD; rw [if_pos (.inr hk)])
        unfold ActD.kind at hk
        go_wp2
        go_ret
        exact ⟨_, rfl, by rw [HE.out]; exact HMF.out, by omega, hnx⟩
    · intro x c kl yd yp w1 cnt1 hkey hlk hv hat hrg1 hlt hg1 hs1' hen
      obtain ⟨x', ex, rfl, hxl⟩ := Maps.keyOf_str Try.underlying9 hkey
      obtain rfl : x = x' := encStr_inj ex
      obtain ⟨c', ec, hcz, hcl⟩ := plainElem_string_inv Try.underlying9 hv
      cases ec
      obtain ⟨rfl, rfl⟩ := Prod.mk.inj hcz
      have hout1 := hout.kept hg1 (by simp)
      have hbk1 : Blk w1 w.heap.size (actL a) 30 := (hg1.block w.heap.size hbk.lt (by simp)).trans hbk
      have HSX := Lib.hid hs1'
      clear hs1'
      go_wp2_with (first
        | (at_mapUpdate; refine wpList_mapUpdate_own _ rfl _ _ _ 38 rfl 9 9 law Try.underlying38 _ (w.heap.size + 1) _ _ rfl hout1 (by unfold maxLen; omega) _ _ _ rfl rfl hkey _ [] (plainElem_string Try.underlying9 hcl) ?_; intro w2 hout2 hg2; go_frame)
        | go_in)
      have hrg2 := hrg1.kept hg2 (fun e => by have := Option.some.inj e; omega) (fun e => by have := Option.some.inj e; omega)
      go_roundw
      case rel =>
        refine ⟨_, cnt1, _, hrg2, by omega, hout2.mono (by omega), agree_step hA hout.isMap trivial hat,
          (hnx.grown hg1 hnx.size (fun j hj => by cases hj; exact Nat.le_add_right _ _)).grown hg2 (by have := hnx.size; have := HSX.out; omega) (fun j hj => by cases hj; exact Nat.le_succ _), ?_, by have := HSX.out; have := hg2.size; omega⟩
        exact (hg2.block w.heap.size hbk1.lt (by simp)).trans hbk1
      case measure => rw [hrg2.left_eq, hrg.left_eq]; exact hlt

end Go.Proofs.Ytecegjdnodcamaa
