/-
  The model's Do, with power: act 1.
-/
import Derived.Test.YtecegjdnodcamaaLive
import Derived.Deep.RegionLaw
import Derived.Deep.AppendLies
namespace Go.Proofs.Ytecegjdnodcamaa
open Go.RowKit Go.Maps Go.Sort

set_option maxHeartbeats 12800000 in
set_option maxRecDepth 100000 in
theorem do_live1 (w : World) (bm bs : Nat) (sv : Value) (S : DS) (l : List ActD) (h : MV w bm bs sv S l) (a : ActD) (hs : a.small) (hk : a.kind = 1) (ht : (turnS S).1 = true) (h1 : S.wt + 100 ≤ 1099511627776) (h2 : S.cnt + 1 ≤ 500000) :
    Calls Try.prog 16 #[.pointer (some ⟨bm, 0, none⟩), actV a] w fun e w' => e = .returned (.int .i64 ((doS S a).1 : Int)) ∧ MPost w bm bs sv (doS S a).2 w' := by
  unfold actV
  have HK := Lib.hid hk
  unfold ActD.kind at hk
  obtain ⟨i0, hi, hz0, hz1, hz2⟩ := info_parts info30
  have hlt := h.blk.lt
  have hs1 : a.name.size ≤ maxLen := by have := hs.name; unfold maxLen; omega
  have hs2 : a.to_.size ≤ maxLen := by have := hs.to_; unfold maxLen; omega
  have hs3 : a.text.size ≤ maxLen := by have := hs.text; unfold maxLen; omega
  have q1 := hs.name
  have q2 := hs.to_
  have q3 := hs.text
  obtain ⟨hdn, hf1, hf2, hf3, hP1, hP2⟩ := live_pre h ht a
  obtain ⟨S1, HS1⟩ : ∃ S1, Hid (S1 = (turnS S).2) := ⟨_, Lib.hid rfl⟩
  rw [← HS1.out] at hP1 hP2
  have HOK1 : Hid S1.ok := Lib.hid (by rw [HS1.out]; exact h.ok.turn)
  have HD1 : Hid (S1.now = S.now ∧ S1.wt = S.wt ∧ S1.cnt = S.cnt ∧ S1.room = S.room ∧ S1.ch = S.ch ∧ S1.safe = S.safe) := Lib.hid (by rw [HS1.out]; exact ⟨turnS_now S, turnS_wt S, turnS_cnt S, (turnS_ch S).2.2, (turnS_ch S).1, (turnS_ch S).2.1⟩)
  have c3 : w.cell? ⟨bm, 3, none⟩ = some (.int .i64 (flI S)) := h.blk.cell 3
  have f3 := h.blk.frozen 3
  have c4 : w.cell? ⟨bm, 4, none⟩ = some (.bool S.down) := h.blk.cell 4
  rw [hdn] at c4
  have H := Lib.hid h
  have HT := Lib.hid ht
  have HP1 := Lib.hid hP1
  have HP2 := Lib.hid hP2
  generalize flI S = f at *
  have hr9 := HOK1.out.room
  have ht9 := HOK1.out.totn
  clear h ht hdn hP1 hP2
  go_enter Try.func16, Try.ntmps16
  go_wp2_with fail
  all_goals
    refine (files_box w _ bm bs w.heap.size sv S1 l a (by first | exact HP1.out (by omega) | exact HP2.out (by omega))).mono ?_
    rintro e w1 ⟨b', rfl, hM1, hbb, hMV1, hbk1, hm1⟩
    have c2 : w1.cell? ⟨bm, 2, none⟩ = some (.int .i64 (S1.room : Int)) := hMV1.blk.cell 2
    have HBB := Lib.hid hbb
    have HMV1 := Lib.hid hMV1
    have HBK1 := Lib.hid hbk1
    have HM1 := Lib.hid hm1
    have hMo : w1.ownsMap Try.prog 9 (plainElem Try.prog 9) b' (Maps.size S1.now) S1.now := hM1
    have HMO := Lib.hid hMo
    clear hbb hMV1 hbk1 hm1 hM1 hMo c3 c4 f3
    go_wp2_with (first
      | (at_range; refine wpList_range_own _ rfl _ 38 rfl 9 9 law Try.underlying38 _ b' (Maps.size S1.now) S1.now rfl HMO.out ?_; intro w0 hrg0 hg0 hs0)
      | go_in)
    try go_frame
    go_loopw [7] (fun u wr => ∃ (left : Lit → Bool) (cnt : Nat) (F : Int), u = .int .i64 F ∧ FreeRel S1 left F ∧ wr.ranges Try.prog 9 (plainElem Try.prog 9) b' w1.heap.size (Maps.size S1.now) S1.now left cnt ∧ Below w1.heap.size w1 wr) (fun _ wr => wr.rangeLeft b' w1.heap.size)
    case atStart => exact ⟨_, _, _, rfl, FreeRel.start HOK1.out, hrg0, (Below.refl _ _).grown hg0 (Nat.le_refl _) (fun j hj => by cases hj)⟩
    case round =>
      obtain ⟨left, cnt, F, rfl, hF, hrg, hnx⟩ := hrel
      have HFR := Lib.hid hF
      clear hF hrg0 hg0 hs0
      go_wp2_with (first
        | (at_next; refine wpList_next_ranges _ rfl _ rfl 9 law (plainElem Try.prog 9) encStr Value.string (fun key kl hk => by obtain ⟨x, hx, _⟩ := Maps.keyOf_str Try.underlying9 hk; exact ⟨x, hx⟩) (fun v y hv => by obtain ⟨c, rfl, _⟩ := plainElem_string_inv Try.underlying9 hv; exact ⟨c, rfl⟩) b' w1.heap.size (Maps.size S1.now) _ _ _ rfl hrg ?_ ?_)
        | go_in)
      · intro hc0 hl0
        have hFe := HFR.out.done hl0
        subst hFe
        have hMVr := HMV1.out.keep (fq := fun _ => False) (Mods.of_below hnx) (fun _ _ => id)
        have hMFr : MF wr b' S1.now := hrg.owns
        have hbkr := HBK1.out.keep (fp := fun _ => False) (Mods.of_below hnx) id
        have HMR : Hid (Mods (· = bm) w wr) := Lib.hid (HM1.out.trans (Mods.of_below (fp := fun _ => False) hnx) (fun _ _ e => e) (fun _ _ e => e.elim))
        have b0 : wr.cell? ⟨w.heap.size, 0, none⟩ = some (.int .i64 a.K) := hbkr.cell 0
        have b1 : wr.cell? ⟨w.heap.size, 1, none⟩ = some (.int .i64 a.N) := hbkr.cell 1
        have b2 : wr.cell? ⟨w.heap.size, 2, none⟩ = some (.string a.name) := hbkr.cell 2
        have b3 : wr.cell? ⟨w.heap.size, 3, none⟩ = some (.string a.to_) := hbkr.cell 3
        have b4 : wr.cell? ⟨w.heap.size, 4, none⟩ = some (.string a.text) := hbkr.cell 4
        have hlk := hMFr.look_ok HOK1.out.goodn a.name hs1
        have hlk2 := hMFr.look HOK1.out.goodn a.name hs1
        have hgl := hMFr.get_le HOK1.out.goodn a.name hs1
        have hgt : (get S1.now a.name).size ≤ tot S1.now := by have := tot_del HOK1.out.goodn a.name; omega
        have k0 : wr.cell? ⟨bm, 0, none⟩ = some (.map (some bs)) := hMVr.blk.cell 0
        have k1 : wr.cell? ⟨bm, 1, none⟩ = some sv := hMVr.blk.cell 1
        have z0 := hMVr.blk.frozen 0
        have z1 := hMVr.blk.frozen 1
        have hbmr : bm < wr.heap.size := hMVr.blk.lt
        have hwr : w.heap.size < wr.heap.size := hbkr.lt
        have HNEW : Hid (∀ j u, (actL a)[j]? = some u → ((wr.alloc (.cells #[.int .i64 a.K, .int .i64 a.N, .string a.name, .string a.to_, .string a.text] 30)).drew).cell? ((⟨wr.heap.size, 0, none⟩ : Addr).add j) = some u) := Lib.hid (fun j u hu => by
          have BW2 : Blk ((wr.alloc (.cells #[.int .i64 a.K, .int .i64 a.N, .string a.name, .string a.to_, .string a.text] 30)).drew) wr.heap.size (actL a) 30 := (MapKept.heap_alloc wr _).1
          rw [← hu]
          have : (⟨wr.heap.size, 0, none⟩ : Addr).add j = ⟨wr.heap.size, j, none⟩ := by simp [Addr.add]; intro h; omega
          rw [this]
          exact BW2.cell j)
        have HONE : Hid (∀ u ∈ actL a, u.oneCell' = true) := Lib.hid (by intro u hu; simp [actL] at hu; rcases hu with rfl | rfl | rfl | rfl | rfl <;> rfl)
        have hmW2 : Mods (fun _ => False) wr ((wr.alloc (.cells #[.int .i64 a.K, .int .i64 a.N, .string a.name, .string a.to_, .string a.text] 30)).drew) := ((Mods.refl _ wr).alloc _).drew
        have HROW := Lib.hid (row_keep5 hMVr.row hmW2 (fun _ _ => id))
        have hll : l.length ≤ 500000 := by
          have e1 : S1.ch.length = l.length := by rw [← hMVr.ch, List.length_map]
          have := HOK1.out.cnt
          unfold DS.cnt at this
          omega
        have HL1 : Hid (l.length + 1 ≤ maxLen) := Lib.hid (by unfold maxLen; omega)
        have HL2 : Hid ((l.length + 1) * 64 ≤ 140737488355328) := Lib.hid (by omega)
        have HBL := Lib.hid (hMVr.blk.keep hmW2 id)
        have HNO := Lib.hid (row_no_blk hMVr.row hMVr.blk)
        have HMVR := Lib.hid hMVr
        have HMFR := Lib.hid hMFr
        clear hMVr hMFr hbkr hmW2 hrg hnx hc0 hl0
        have hdo : doS S a = wrS S a.name a.text := by unfold doS; rw [if_neg (by rw [HK.out]; decide), if_pos HK.out]
        by_cases hn0 : a.name.size = 0
        · have e1 : a.name.toList.isEmpty = true := by rw [toList_empty, hn0]; rfl
          have e3 : a.name.toList = [] := by simpa using e1
          have HE : Hid (doS S a = (1, S1)) := Lib.hid (by rw [hdo]; unfold wrS; rw [if_neg (by simp [HT.out]), if_pos (by simp [nameOk, hn0]), HS1.out])
          clear hdo
          go_wp2
          go_ret
          exact ⟨by rw [HE.out]; rfl, by rw [HE.out]; exact mpost_same HMVR.out HMR.out⟩
        · have e1 : a.name.toList.isEmpty = false := by rw [toList_empty]; simpa using hn0
          have e3 : ¬ a.name.toList = [] := by simpa using e1
          by_cases hn80 : 80 < a.name.size
          · have d1 : decide ((80 : Int) < (a.name.size : Int)) = true := decide_eq_true (by omega)
            have HE : Hid (doS S a = (1, S1)) := Lib.hid (by rw [hdo]; unfold wrS; rw [if_neg (by simp [HT.out]), if_pos (by simp [nameOk]; omega), HS1.out])
            clear hdo
            go_wp2
            go_ret
            exact ⟨by rw [HE.out]; rfl, by rw [HE.out]; exact mpost_same HMVR.out HMR.out⟩
          · have d1 : decide ((80 : Int) < (a.name.size : Int)) = false := decide_eq_false (by omega)
            have hnok : nameOk a.name = true := by simp [nameOk]; omega
            by_cases hfull : (S1.room : Int) - tot S1.now + (get S1.now a.name).size < a.text.size
            · have d2 : decide ((S1.room : Int) - tot S1.now + (get S1.now a.name).size < a.text.size) = true := decide_eq_true hfull
              have HE : Hid (doS S a = (7, S1)) := Lib.hid (by rw [hdo]; unfold wrS; rw [if_neg (by simp [HT.out]), if_neg (by simp [hnok]), if_pos (by rw [← HD1.out.1, ← HD1.out.2.2.2.1]; exact hfull), HS1.out])
              clear hdo hnok
              go_wp2
              go_ret
              exact ⟨by rw [HE.out]; rfl, by rw [HE.out]; exact mpost_same HMVR.out HMR.out⟩
            · have d2 : decide ((S1.room : Int) - tot S1.now + (get S1.now a.name).size < a.text.size) = false := decide_eq_false hfull
              have HE : Hid (doS S a = (0, addS S1 (toChg a))) := Lib.hid (by
                have e : toChg a = ⟨0, a.name, a.text⟩ := by unfold toChg; rw [if_neg (by rw [HK.out]; decide), if_neg (by rw [HK.out]; decide)]
                rw [hdo, e]; unfold wrS; rw [if_neg (by simp [HT.out]), if_neg (by simp [hnok]), if_neg (by rw [← HD1.out.1, ← HD1.out.2.2.2.1]; exact hfull), HS1.out])
              have HDONE : Hid a.done := Lib.hid ⟨hs, by rw [HK.out]; decide, by rw [HK.out]; decide⟩
              have HADD : Hid (addS S1 (toChg a)).ok := Lib.hid (by
                have e : toChg a = ⟨0, a.name, a.text⟩ := by unfold toChg; rw [if_neg (by rw [HK.out]; decide), if_neg (by rw [HK.out]; decide)]
                rw [e]
                exact HOK1.out.add _ ⟨by show (0:Nat) ≤ 2; omega, hs1, hs3⟩ (by rw [HD1.out.2.1]; show S.wt + a.text.size ≤ _; omega) (by rw [HD1.out.2.2.1]; exact h2))
              clear hdo hnok
              go_wp2
              go_region_law (refine step_append_lies _ rfl (.tmp 126) (.tmp 128) 22 rfl 0 30 i0 _ 5 64 Try.underlying22 hi hz0 hz1 hz2 rfl (by decide) sv l.length (l.flatMap actL) rfl HROW.out ⟨wr.heap.size, 0, none⟩ 1 1 (actL a) rfl rfl HNEW.out HONE.out (by omega) HL1.out HL2.out (Nat.zero_le _) _ rfl ?_; intro g cap w2 hown2 hgrow2 hat hglt; have hm2 : Mods (fun k => sv.ownBlock = some k) ((wr.alloc (.cells #[.int .i64 a.K, .int .i64 a.N, .string a.name, .string a.to_, .string a.text] 30)).drew) w2 := ⟨hgrow2.os, hgrow2.tape, hgrow2.output, hgrow2.size, fun k hk hn => hgrow2.block k hk (fun e => hn e.symm)⟩; have hb2 := HBL.out.keep hm2 HNO.out; have f1 := hb2.frozen 1; have c12 : w2.cell? ⟨bm, 1, none⟩ = some sv := hb2.cell 1; clear hb2)
              all_goals
                go_wp2
                go_ret
                exact ⟨by rw [HE.out]; rfl, by rw [HE.out]; exact mpost_add HMVR.out HMR.out HDONE.out HADD.out hown2 hm2 hat⟩
      · intro x c kl yd yp w2 cnt2 hkey hlk hv hat hrg2 hlt2 hg2 hs2' hen
        obtain ⟨x', ex, rfl, hxl⟩ := Maps.keyOf_str Try.underlying9 hkey
        obtain rfl : x = x' := encStr_inj ex
        obtain ⟨c', ec, hcz, hcl⟩ := plainElem_string_inv Try.underlying9 hv
        cases ec
        obtain ⟨rfl, rfl⟩ := Prod.mk.inj hcz
        obtain ⟨n1, n2, n3, n4⟩ := HFR.out.step HOK1.out hlk hat
        have HN1 := Lib.hid n1
        unfold maxLen at hcl
        clear hs2' n1
        go_wp2
        go_roundw
        case rel => exact ⟨_, cnt2, _, rfl, HN1.out, hrg2, hnx.grown hg2 hnx.size (fun j hj => by cases hj; exact Nat.le_refl _)⟩
        case measure => rw [hrg2.left_eq, hrg.left_eq]; exact hlt2

end Go.Proofs.Ytecegjdnodcamaa
