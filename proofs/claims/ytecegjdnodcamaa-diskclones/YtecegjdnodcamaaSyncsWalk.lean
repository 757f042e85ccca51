/-
  The walk of DiskSyncs.
-/
import Derived.Test.YtecegjdnodcamaaActsWalk
namespace Go.Proofs.Ytecegjdnodcamaa
open Go.RowKit Go.Maps Go.Sort

theorem Pair.bar' {n bd bm : Nat} {ex : Nat → Prop} {w : World} {S S' : DS} (h : Pair n ex w bd bm S S') (o : Obj) : Pair n (fun k => ex k ∨ k = w.heap.size) (w.alloc o) bd bm S S' := by
  obtain ⟨fd, fm, h1, h2, h3, h4, h5⟩ := h
  have hm : Mods (fun _ => False) w (w.alloc o) := (Mods.refl _ w).alloc o
  refine ⟨fd, fm, h1.keep hm (fun _ _ => id), h2.keep hm (fun _ _ => id), fun k hk => ⟨(h3 k hk).1, ?_, ?_⟩, fun k hk => ⟨(h4 k hk).1, ?_, ?_⟩, h5⟩
  · have := (h3 k hk).2.1; simp; omega
  · rintro (e | e)
    · exact (h3 k hk).2.2 e
    · have := (h3 k hk).2.1; omega
  · have := (h4 k hk).2.1; simp; omega
  · rintro (e | e)
    · exact (h4 k hk).2.2 e
    · have := (h4 k hk).2.1; omega
theorem Pair.less {n bd bm : Nat} {ex ex' : Nat → Prop} {w : World} {S S' : DS} (h : Pair n ex w bd bm S S') (hx : ∀ k, ex' k → ex k ∨ w.heap.size ≤ k) : Pair n ex' w bd bm S S' := by
  obtain ⟨fd, fm, h1, h2, h3, h4, h5⟩ := h
  refine ⟨fd, fm, h1, h2, fun k hk => ⟨(h3 k hk).1, (h3 k hk).2.1, fun e => ?_⟩, fun k hk => ⟨(h4 k hk).1, (h4 k hk).2.1, fun e => ?_⟩, h5⟩
  · rcases hx k e with e | e
    · exact (h3 k hk).2.2 e
    · have := (h3 k hk).2.1; omega
  · rcases hx k e with e | e
    · exact (h4 k hk).2.2 e
    · have := (h4 k hk).2.1; omega

theorem row_keep1 {w w' : World} {base : Nat} {v : Value} {n : Nat} {xs : List Value} {fp : Nat → Prop} (h : w.ownsRow base 4 1 v n xs) (hm : Mods fp w w') (hn : ∀ k, v.ownBlock = some k → ¬ fp k) : w'.ownsRow base 4 1 v n xs := by
  have hlt := h.lt
  obtain ⟨hl, h⟩ := h
  refine ⟨hl, ?_⟩
  rcases h with h | ⟨g, cap, cur, rfl, hb, hg, r⟩
  · exact .inl h
  · exact .inr ⟨g, cap, cur, rfl, hb, (hm.block g (hlt g rfl).2 (hn g rfl)).trans hg, r⟩

/-- what the loop over acts knows: as many trues as acts that aren't Fall -/
def SRel (w : World) (n bd bm k : Nat) (v : Value) (wr : World) : Prop :=
  ∃ (S : DS) (A : Option Addr) (j c : Nat), v = .slice A j c ∧ j ≤ k ∧ wr.ownsRow n 4 1 (.slice A j c) j ((List.replicate j true).map Value.bool) ∧ Pair n (fun k => (Value.slice A j c).ownBlock = some k) wr bd bm S S ∧ S.wt ≤ 100 * k ∧ S.cnt ≤ k ∧ S.ch.length ≤ j ∧ S.falls = false ∧ S.down = false ∧ S.room = 1048576 ∧ Below w.heap.size w wr ∧ n ≤ wr.heap.size

theorem doS_calm (S : DS) (a : ActD) (h5 : a.kind ≠ 5) (hf : S.falls = false) (hd : S.down = false) : (doS S a).2.falls = false ∧ (doS S a).2.down = false ∧ (doS S a).2.room = S.room ∧ (doS S a).2.ch.length ≤ S.ch.length + 1 := by
  have ht : turnS S = (true, S) := by unfold turnS; rw [hd, hf]; rfl
  have hadd : ∀ c, (addS S c).falls = false ∧ (addS S c).down = false ∧ (addS S c).room = S.room ∧ (addS S c).ch.length ≤ S.ch.length + 1 := fun c => ⟨hf, hd, rfl, by simp [addS]⟩
  have hsame : S.falls = false ∧ S.down = false ∧ S.room = S.room ∧ S.ch.length ≤ S.ch.length + 1 := ⟨hf, hd, rfl, by omega⟩
  unfold doS wrS rnS rmS syS
  rw [ht]
  simp only [Bool.true_eq_false, if_false]
  rcases a.kinds with hk | hk | hk | hk | hk | hk
  · rw [if_pos hk]; split; exact hsame; split; exact hsame; exact hadd _
  · rw [if_neg (by rw [hk]; decide), if_pos hk]; split; exact hsame; split; exact hsame; exact hadd _
  · rw [if_neg (by rw [hk]; decide), if_neg (by rw [hk]; decide), if_pos hk]; split; exact hsame; split; exact hsame; exact hadd _
  · rw [if_neg (by rw [hk]; decide), if_neg (by rw [hk]; decide), if_neg (by rw [hk]; decide), if_pos hk]; split; exact hsame; exact hadd _
  · rw [if_neg (by rw [hk]; decide), if_neg (by rw [hk]; decide), if_neg (by rw [hk]; decide), if_neg (by rw [hk]; decide), if_pos hk]
    exact ⟨hf, hd, rfl, by simp [syncedS]⟩
  · exact absurd hk h5

theorem own_of_dat {w : World} {bd : Nat} {fd : Nat → Prop} {S : DS} (h : DAt w bd fd S) (hf : ∀ k, fd k → k < w.heap.size) : Own 0 (fun _ => False) w bd S := ⟨fd, h, fun k hk => ⟨Nat.zero_le _, hf k hk, id⟩⟩

/-- a disk without changes that aren't safe -/
def still (r : Nat) (D : Dt) : DS := ⟨r, D, [], false, 0, false⟩
theorem still_ok {S : DS} (h : S.ok) : (still S.room S.now).ok ∧ (still S.room S.safe).ok := by
  have h1 := h.synced
  have h2 := h.wt
  have h3 := h.cnt
  unfold DS.wt at h2
  unfold DS.cnt at h3
  refine ⟨⟨h1.good, by simp [still], h1.wt, h1.cnt, h.room, by simp [still]⟩, ⟨h.good, by simp [still], ?_, ?_, h.room, by simp [still]⟩⟩
  · show tot S.safe + 0 ≤ _; omega
  · show Maps.size S.safe + 0 ≤ _; omega
theorem mat_still {w : World} {bs r : Nat} {D : Dt} (hM : MF w bs D) (hok : (still r D).ok) : MAt (w.alloc (.cells #[.map (some bs), .slice none 0 0, .int .i64 (r : Int), .int .i64 (-1), .bool false] 41)) w.heap.size (fun k => k = w.heap.size ∨ k = bs) (still r D) := by
  refine ⟨bs, .slice none 0 0, [], ⟨(MapKept.heap_alloc w _).1, hM.keep (fp := fun _ => False) ((Mods.refl _ w).alloc _) id, World.ownsRow_nil _ _ _ _, rfl, by simp, hok⟩, ?_⟩
  rintro k (e | e | e)
  · exact .inl e
  · exact .inr e
  · cases e

theorem crash_dat (w : World) (bd : Nat) (fd : Nat → Prop) (S : DS) (h : DAt w bd fd S) (A : Option Addr) (c : Nat) (ks : List Bool) (hA : BArg w A ks) (hkl : ks.length ≤ maxLen) (m : Nat) (hm : m = ks.length) :
    Calls Try.prog 20 #[.pointer (some ⟨bd, 0, none⟩), .slice A m c] w fun e w' => ∃ b', e = .returned (.pointer (some ⟨b', 0, none⟩)) ∧ Own 0 (fun _ => False) w' b' (crS S ks) ∧ Below w.heap.size w w' := by
  subst hm
  refine (crash_any w bd fd S h A c ks hA hkl).mono ?_
  rintro e w' ⟨b', he, _, hd, hb⟩
  exact ⟨b', he, own_of_dat hd (fun k hk => hk.2), hb⟩

set_option maxHeartbeats 12800000 in
set_option maxRecDepth 100000 in
theorem diskSyncs_walk (w : World) (A : Option Addr) (c : Nat) (l : List ActD) (hA : AArg w A l) (hl : l.length ≤ maxLen) (hN : ∀ a ∈ l, a.N ≤ 9223372036854775807) :
    Calls Try.prog 6 #[.slice A l.length c] w fun e w' => e = .returned (.bool true) ∧ Below w.heap.size w w' := by
  have HF := Lib.hid (fun u (hb : Below w.heap.size w u) => few_any l A c u (hA.keep hb) hl)
  unfold maxLen at hl
  cases hfew : fewB l
  · rw [hfew] at HF
    clear hfew
    go_enter Try.func6, Try.ntmps6
    go_wp2_with fail
    refine (head_any w).mono ?_
    rintro e u0 ⟨rfl, hb0⟩
    go_wp2_with fail
    refine (HF.out u0 hb0).mono ?_
    rintro e u1 ⟨rfl, hb1⟩
    go_wp2
    go_ret
    exact ⟨rfl, hb0.trans (hb1.mono hb0.size)⟩
  · obtain ⟨hl40, hsm⟩ := few_small hfew hN
    rw [hfew] at HF
    clear hfew
    obtain ⟨i0, hi, hz0, hz1', hz2⟩ := info_parts info4
    go_enter Try.func6, Try.ntmps6
    go_wp2_with fail
    refine (head_any w).mono ?_
    rintro e u0 ⟨rfl, hb0⟩
    go_wp2_with fail
    refine (HF.out u0 hb0).mono ?_
    rintro e u1 ⟨rfl, hb1⟩
    have hb01 := hb0.trans (hb1.mono hb0.size)
    go_wp2_with fail
    refine (new_any 1048576 u1).mono ?_
    rintro e u2 ⟨rfl, o2, hb2, hz2'⟩
    have HZ2 := Lib.hid hz2'
    clear hz2'
    go_wp2_with fail
    refine (mnew_any 1048576 u2).mono ?_
    rintro e u3 ⟨bm, rfl, m3, hb3⟩
    have HP3 := Lib.hid (pair_new o2 HZ2.out m3 hb3)
    have HB3 := Lib.hid ((hb01.trans (hb2.mono hb01.size)).trans (hb3.mono (Nat.le_trans hb01.size hb2.size)))
    have hs3 : u1.heap.size ≤ u3.heap.size := Nat.le_trans hb2.size hb3.size
    have hs01 := hb01.size
    clear o2 m3 hb3 hb2 hb1 hb0 hb01
    have HR0 : Hid (SRel w u1.heap.size u1.heap.size bm 0 (.slice (some ⟨u3.heap.size, 0, none⟩) 0 0) (u3.alloc (.cells #[] 4))) := Lib.hid (by
      refine ⟨newS 1048576, _, 0, 0, rfl, Nat.le_refl _, World.ownsRow_lit u3 #[] 0 hs3 (by simp [maxLen]) rfl, ?_, by show tot (.map []) + 0 ≤ _; exact Nat.le_refl _, by show 0 + 0 ≤ _; omega, by show 0 ≤ 0; omega, rfl, rfl, rfl, HB3.out.alloc HB3.out.size _, by simp; omega⟩
      refine (HP3.out.bar' (.cells #[] 4)).less (fun k e => .inl (.inr ?_))
      simp [Value.ownBlock] at e
      exact e.symm)
    go_wp2
    go_loopw [5, 20] (fun v i wr => ∃ k : Nat, i = .int .i64 k ∧ k ≤ l.length ∧ SRel w u1.heap.size u1.heap.size bm k v wr) (fun _ i _ => l.length - (intOf i).toNat)
    case atStart => exact ⟨0, rfl, by omega, HR0.out⟩
    case round =>
      obtain ⟨k, rfl, hk, S, B, j, cb, rfl, hjk, hrow, hP, hwt, hct, hcl, hfl, hdn, hrm, hbk, hnk⟩ := hrel
      have HROW := Lib.hid hrow
      have HP := Lib.hid hP
      have HST : Hid (S.falls = false ∧ S.down = false ∧ S.room = 1048576) := Lib.hid ⟨hfl, hdn, hrm⟩
      clear hrow hP hfl hdn hrm HR0 HP3
      by_cases hkl : k < l.length
      · obtain ⟨ad, rfl, c0, c1, c2, c3, c4⟩ := hA.at_ hbk k hkl
        obtain ⟨a, HAa⟩ : ∃ a, Hid (a = l[k]) := ⟨_, Lib.hid rfl⟩
        rw [← HAa.out] at c0 c1 c2 c3 c4
        have hsa : a.small := by rw [HAa.out]; exact hsm _ (List.getElem_mem hkl)
        clear hA
        by_cases h5 : a.kind = 5
        · have h5' : wrap64 ((IntKind.u64.wrap a.K).tmod 6) = 5 := h5
          have HRs : Hid (SRel w u1.heap.size u1.heap.size bm (k + 1) (.slice B j cb) (wr.alloc (.cells #[.int .i64 a.K, .int .i64 a.N, .string a.name, .string a.to_, .string a.text] 30))) := Lib.hid
            ⟨S, B, j, cb, rfl, by omega, HROW.out.alloc _, HP.out.alloc _, by omega, by omega, hcl, HST.out.1, HST.out.2.1, HST.out.2.2, hbk.alloc hbk.size _, by simp; omega⟩
          clear h5
          go_wp2
          go_roundw
          case rel => exact ⟨k + 1, by go_num, by omega, HRs.out⟩
          case measure => simp [intOf]; omega
        · have h5' : (wrap64 ((IntKind.u64.wrap a.K).tmod 6) == 5) = false := by rw [beq_eq_false_iff_ne]; exact h5
          have HQ := Lib.hid (HP.out.bar' (.cells #[.int .i64 a.K, .int .i64 a.N, .string a.name, .string a.to_, .string a.text] 30))
          have HBx : Hid (Blk (wr.alloc (.cells #[.int .i64 a.K, .int .i64 a.N, .string a.name, .string a.to_, .string a.text] 30)) wr.heap.size (actL a) 30) := Lib.hid (MapKept.heap_alloc wr _).1
          have HW1 : Hid (S.wt + 100 ≤ 1099511627776) := Lib.hid (by omega)
          have HW2 : Hid (S.cnt + 1 ≤ 500000) := Lib.hid (by omega)
          have HBD := Lib.hid (doS_bounds S HP.out.own.ok a hsa)
          have HCM := Lib.hid (doS_calm S a h5 HST.out.1 HST.out.2.1)
          have HXL : Hid (∀ k, (Value.slice B j cb).ownBlock = some k ∨ k = wr.heap.size → k < (wr.alloc (.cells #[.int .i64 a.K, .int .i64 a.N, .string a.name, .string a.to_, .string a.text] 30)).heap.size) := Lib.hid (by
            rintro k (e | e)
            · have := (HROW.out.lt k e).2; simp; omega
            · simp; omega)
          clear h5
          go_wp2_with fail
          refine (pair_play' HQ.out (by simp; omega) HXL.out a hsa HW1.out HW2.out).mono ?_
          rintro e w2 ⟨rfl, hp2, hm2⟩
          have hB2 := HBx.out.keep hm2 (fun e => e.2 (.inr rfl))
          have HB2 := Lib.hid hB2
          obtain ⟨g0, g1, g2, g3, g4⟩ := cells5 hB2
          have HP2 := Lib.hid hp2
          have HROW2 := Lib.hid (row_keep1 (HROW.out.alloc _) hm2 (fun k hk e => e.2 (.inl hk)))
          have HM2 := Lib.hid (May.trans ((Mods.refl (May u1.heap.size (fun k => (Value.slice B j cb).ownBlock = some k ∨ k = wr.heap.size)) wr).alloc _) hm2)
          clear hp2 hm2 hB2
          go_wp2_with fail
          refine (pair_do' HP2.out (Nat.le_trans hnk HM2.out.size) (by rintro k (e | e); exact (HROW2.out.lt k e).2; rw [e]; exact HB2.out.lt) a hsa HW1.out HW2.out).mono ?_
          rintro e w3 ⟨rfl, hp3, hm3⟩
          have HP3 := Lib.hid hp3
          have HROW3 := Lib.hid (row_keep1 HROW2.out hm3 (fun k hk e => e.2 (.inl hk)))
          have HM3 := Lib.hid (May.trans HM2.out hm3)
          clear hp3 hm3
          have hz3 : u1.heap.size ≤ w3.heap.size := Nat.le_trans hnk HM3.out.size
          have HBW3 := Lib.hid (hbk.trans (May.below HM3.out hs01 hnk))
          go_wp2_with (first | (at_builtin; refine wpList_append_lies _ rfl _ _ 43 rfl u1.heap.size 4 i0 (.bool false) 1 1 Try.underlying43 hi hz0 hz1' hz2 rfl (by decide) (.slice B j cb) j ((List.replicate j true).map Value.bool) rfl (HROW3.out.alloc _) ⟨w3.heap.size, 0, none⟩ 1 1 [.bool true] rfl rfl (cell_one_new _ _ _) (by simp [Value.oneCell']) (by omega) (by unfold maxLen; omega) (by omega) (by simp; omega) _ rfl ?_; intro g cap w4 hown4 hgrow4 hat4 hlt4; go_frame) | go_in)
          have hm4 : Mods (fun k => (Value.slice B j cb).ownBlock = some k) w3 w4 := ((Mods.refl (fun k => (Value.slice B j cb).ownBlock = some k) w3).alloc (.cells #[.bool true] 4)).trans (⟨hgrow4.os, hgrow4.tape, hgrow4.output, hgrow4.size, fun k hk hn => hgrow4.block k hk (fun e => hn e.symm)⟩ : Mods (fun k => (Value.slice B j cb).ownBlock = some k) _ w4) (fun _ _ e => e) (fun _ _ e => e)
          have HRs : Hid (SRel w u1.heap.size u1.heap.size bm (k + 1) (.slice (some ⟨g, 0, none⟩) (j + 1) cap) w4) := Lib.hid (by
            refine ⟨(doS S a).2, some ⟨g, 0, none⟩, j + 1, cap, rfl, by omega, ?_, ?_, by have := HBD.out.1; omega, by have := HBD.out.2; omega, by have := HCM.out.2.2.2; omega, HCM.out.1, HCM.out.2.1, by rw [HCM.out.2.2.1]; exact HST.out.2.2, HBW3.out.trans (hm4.below (fun k e => Nat.le_trans hs01 (HROW3.out.lt k e).1) HBW3.out.size), Nat.le_trans hz3 hm4.size⟩
            · have : (List.replicate (j + 1) true).map Value.bool = (List.replicate j true).map Value.bool ++ [.bool true] := by
                rw [List.replicate_succ', List.map_append]
                rfl
              rw [this]
              exact hown4
            · have hg5 : Pair u1.heap.size (fun k => (Value.slice B j cb).ownBlock = some k ∨ (Value.slice (some ⟨g, 0, none⟩) (j + 1) cap).ownBlock = some k) w3 u1.heap.size bm (doS S a).2 (doS S a).2 := HP3.out.less (fun k e => by
                rcases e with e | e
                · exact .inl (.inl e)
                · simp [Value.ownBlock] at e
                  subst e
                  rcases hat4 with e | e
                  · exact .inl (.inl e)
                  · right; rw [e]; simp)
              have hg6 := hg5.keep hm4 (fun k _ hn _ e => hn (.inl e))
              exact hg6.less (fun k e => .inl (.inr e)))
          go_roundw
          case rel => exact ⟨k + 1, by go_num, by omega, HRs.out⟩
          case measure => simp [intOf]; omega
      · obtain ⟨fd, fm, hD, ⟨bs, sv, l', hMV, hfm⟩, h3, h4, h5⟩ := HP.out
        have HD := Lib.hid hD
        have HMV := Lib.hid hMV
        have H3 := Lib.hid h3
        have H4 := Lib.hid h4
        have H5 := Lib.hid h5
        have HFM := Lib.hid hfm
        clear h3 h4 h5 hfm
        have hokS := hMV.ok
        have HOKS := Lib.hid hokS
        have k2 : wr.cell? ⟨bm, 2, none⟩ = some (.int .i64 (S.room : Int)) := hMV.blk.cell 2
        have k0 : wr.cell? ⟨bm, 0, none⟩ = some (.map (some bs)) := hMV.blk.cell 0
        have hbml : bm < wr.heap.size := hMV.blk.lt
        have HC := Lib.hid (files_mv wr.drew bm bs sv S l' (hMV.keep (fq := fun _ => False) (Mods.refl _ wr).drew (fun _ _ => id)))
        have HK2 : Hid (∀ W, Below wr.heap.size wr W → W.cell? ⟨bm, 2, none⟩ = some (.int .i64 (S.room : Int))) := Lib.hid (fun W hW => (hW.cell (p := ⟨bm, 2, none⟩) hbml).trans k2)
        have HK0 : Hid (∀ W, Below wr.heap.size wr W → W.cell? ⟨bm, 0, none⟩ = some (.map (some bs))) := Lib.hid (fun W hW => (hW.cell (p := ⟨bm, 0, none⟩) hbml).trans k0)
        have HSM := Lib.hid hsm
        have HNN := Lib.hid hN
        clear hD hMV hokS k0 hA hsm hN hi hz0 hz1' hz2
        go_wp2
        go_region_held3 (fun w' => w'.cell? ⟨bm, 2, none⟩ = some (.int .i64 (S.room : Int)))
          (first | go_keep | exact HK2.out _ (below_drew hb2) | exact HK2.out _ ((below_drew hb2).alloc hb2.size _))
          (first | ((with_reducible refine HC.out.mono ?_); rintro e w2 ⟨b', rfl, hM2, hbb, hb2⟩))
        obtain ⟨x3, HX3⟩ : ∃ x3, Hid (x3 = w2.alloc (.cells #[.map (some b'), .slice none 0 0, .int .i64 (S.room : Int), .int .i64 (-1), .bool false] 41)) := ⟨_, Lib.hid rfl⟩
        rw [← HX3.out]
        have hbx3 : Below wr.heap.size wr x3 := by rw [HX3.out]; exact (below_drew hb2).alloc hb2.size _
        have HBX3 := Lib.hid hbx3
        have HFULL : Hid (MAt x3 w2.heap.size (fun k => k = w2.heap.size ∨ k = b') (still S.room S.now)) := Lib.hid (by rw [HX3.out]; exact mat_still hM2 (still_ok HOKS.out).1)
        have HBB : Hid (b' = bs ∨ wr.heap.size ≤ b') := Lib.hid hbb
        have hz2w : wr.heap.size ≤ w2.heap.size := hb2.size
        have kk2 := HK2.out x3 hbx3
        have kk0 := HK0.out x3 hbx3
        have hbm3 : bm < x3.heap.size := Nat.lt_of_lt_of_le hbml hbx3.size
        clear hM2 hbb hb2 hbx3
        go_wp2
        go_region
        obtain ⟨x4, HX4⟩ : ∃ x4, Hid (x4 = (x3.alloc (.cells #[.map (some bs), .slice none 0 0, .int .i64 (S.room : Int), .int .i64 (-1), .bool false] 41)).drew) := ⟨_, Lib.hid rfl⟩
        have HB34 : Hid (Below x3.heap.size x3 x4) := Lib.hid (by rw [HX4.out]; exact ((Below.refl _ x3).alloc (Nat.le_refl _) _).drew)
        have HBARE : Hid (MAt x4 x3.heap.size (fun k => k = x3.heap.size ∨ k = bs) (still S.room S.safe)) := Lib.hid (by
          rw [HX4.out]
          have hs3 : MF x3 bs S.safe := HMV.out.safe.keep (fp := fun _ => False) (Mods.of_below HBX3.out) id
          exact (mat_still hs3 (still_ok HOKS.out).2).keep (fq := fun _ => False) (Mods.refl _ _).drew (fun _ _ => id))
        rw [← HX4.out]
        have HB04 : Hid (Below wr.heap.size wr x4) := Lib.hid (HBX3.out.trans (HB34.out.mono HBX3.out.size))
        have HFULL4 := Lib.hid (HFULL.out.below HB34.out)
        have HD4 := Lib.hid (HD.out.below HB04.out)
        have HFDL : Hid (∀ k, fd k → k < wr.heap.size) := Lib.hid (fun k hk => (H3.out k hk).2.1)
        have HBW : Hid (Below w.heap.size w x4) := Lib.hid (hbk.trans (HB04.out.mono hbk.size))
        have HARG : Hid (BArg x4 B (List.replicate j true)) := Lib.hid (barg_row (row_keep1 (fp := fun _ => False) HROW.out (Mods.of_below HB04.out) (fun _ _ => id)) (by simp))
        have HT : Hid (turnS S = (true, S)) := Lib.hid (by unfold turnS; rw [HST.out.2.1, HST.out.1]; rfl)
        have HC1 : Hid (crS S (List.replicate j true) = still S.room S.now) := Lib.hid (by unfold crS; rw [kept_all _ _ hcl]; rfl)
        have HC2 : Hid (crS S [] = still S.room S.safe) := Lib.hid (by unfold crS; rw [kept_none]; rfl)
        have HC3 : Hid (crS (syncedS S) [] = still S.room S.now) := Lib.hid (by unfold crS; rw [kept_none]; rfl)
        have HSY : Hid (syS S = (0, syncedS S)) := Lib.hid (by unfold syS; rw [HT.out]; rfl)
        have hj40 : j ≤ 40 := by omega
        have hz4 : wr.heap.size ≤ x4.heap.size := HB04.out.size
        clear kk2 kk0 hbm3 k2
        go_wp2_with fail
        refine (crash_dat x4 u1.heap.size fd S HD4.out B cb (List.replicate j true) HARG.out (by simp [maxLen]; omega) j (by simp)).mono ?_
        rintro e y1 ⟨b1, rfl, p1, hc1⟩
        rw [HC1.out] at p1
        have P1 := Lib.hid p1
        have HF1 := Lib.hid (HFULL4.out.below hc1)
        have HR1 := Lib.hid (HBARE.out.below hc1)
        have HD1 := Lib.hid (HD4.out.below hc1)
        have HW1 := Lib.hid (HBW.out.trans (hc1.mono HBW.out.size))
        have hz5 : wr.heap.size ≤ y1.heap.size := Nat.le_trans hz4 hc1.size
        clear p1 hc1
        go_wp2_with fail
        refine (same_any y1 0 b1 w2.heap.size _ _ _ _ P1.out HF1.out rfl rfl rfl).mono ?_
        rintro e y2 ⟨rfl, hc2⟩
        have HF2 := Lib.hid (HF1.out.below hc2)
        have HR2 := Lib.hid (HR1.out.below hc2)
        have HD2 := Lib.hid (HD1.out.below hc2)
        have HW2 := Lib.hid (HW1.out.trans (hc2.mono HW1.out.size))
        have hz6 : wr.heap.size ≤ y2.heap.size := Nat.le_trans hz5 hc2.size
        clear hc2
        go_wp2_with fail
        refine (crash_dat y2 u1.heap.size fd S HD2.out none 0 [] (.inl rfl) (by simp) 0 rfl).mono ?_
        rintro e y3 ⟨b3, rfl, p3, hc3⟩
        rw [HC2.out] at p3
        have P3 := Lib.hid p3
        have HF3 := Lib.hid (HF2.out.below hc3)
        have HR3 := Lib.hid (HR2.out.below hc3)
        have HD3 := Lib.hid (HD2.out.below hc3)
        have HW3 := Lib.hid (HW2.out.trans (hc3.mono HW2.out.size))
        have hz7 : wr.heap.size ≤ y3.heap.size := Nat.le_trans hz6 hc3.size
        clear p3 hc3
        go_wp2_with fail
        refine (same_any y3 0 b3 x3.heap.size _ _ _ _ P3.out HR3.out rfl rfl rfl).mono ?_
        rintro e y4 ⟨rfl, hc4⟩
        have HF4 := Lib.hid (HF3.out.below hc4)
        have HD4' := Lib.hid (HD3.out.below hc4)
        have HW4 := Lib.hid (HW3.out.trans (hc4.mono HW3.out.size))
        have hz8 : wr.heap.size ≤ y4.heap.size := Nat.le_trans hz7 hc4.size
        clear hc4
        go_wp2_with fail
        refine (sync_any y4 u1.heap.size fd S HD4'.out).mono ?_
        rintro e y5 ⟨rfl, p5, m5⟩
        rw [HSY.out] at p5 ⊢
        have P5 := Lib.hid p5
        have HF5 : Hid (MAt y5 w2.heap.size (fun k => k = w2.heap.size ∨ k = b') (still S.room S.now)) := Lib.hid (HF4.out.keep m5 (fun k hk e => by
          have hlt := HFDL.out k e
          rcases hk with hk | hk
          · omega
          · rcases HBB.out with h | h
            · exact H5.out k e (HFM.out k (.inr (.inl (by rw [hk, h]))))
            · omega))
        have HW5 := Lib.hid (HW4.out.trans (m5.below (fun k e => Nat.le_trans hs01 (H3.out k e).1) HW4.out.size))
        have hz9 : wr.heap.size ≤ y5.heap.size := Nat.le_trans hz8 m5.size
        clear p5 m5
        go_wp2_with fail
        refine (crash_dat y5 u1.heap.size _ (syncedS S) P5.out none 0 [] (.inl rfl) (by simp) 0 rfl).mono ?_
        rintro e y6 ⟨b6, rfl, p6, hc6⟩
        rw [HC3.out] at p6
        have P6 := Lib.hid p6
        have HF6 := Lib.hid (HF5.out.below hc6)
        have HW6 := Lib.hid (HW5.out.trans (hc6.mono HW5.out.size))
        clear p6 hc6
        go_wp2_with fail
        refine (same_any y6 0 b6 w2.heap.size _ _ _ _ P6.out HF6.out rfl rfl rfl).mono ?_
        rintro e y7 ⟨rfl, hc7⟩
        go_wp2
        go_ret
        exact ⟨rfl, HW6.out.trans (hc7.mono HW6.out.size)⟩

end Go.Proofs.Ytecegjdnodcamaa
