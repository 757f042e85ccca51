/-
  The walk of DiskActs.
-/
import Derived.Test.YtecegjdnodcamaaActs
namespace Go.Proofs.Ytecegjdnodcamaa
open Go.RowKit Go.Maps Go.Sort

theorem cells5 {w : World} {b : Nat} {a : ActD} (h : Blk w b (actL a) 30) : w.cell? ⟨b, 0, none⟩ = some (.int .i64 a.K) ∧ w.cell? ⟨b, 1, none⟩ = some (.int .i64 a.N) ∧ w.cell? ⟨b, 2, none⟩ = some (.string a.name) ∧ w.cell? ⟨b, 3, none⟩ = some (.string a.to_) ∧ w.cell? ⟨b, 4, none⟩ = some (.string a.text) :=
  ⟨h.cell 0, h.cell 1, h.cell 2, h.cell 3, h.cell 4⟩
theorem pair_play' {n bd bm : Nat} {ex : Nat → Prop} {w : World} {S S' : DS} (h : Pair n ex w bd bm S S') (hn : n ≤ w.heap.size) (hex : ∀ k, ex k → k < w.heap.size) (a : ActD) (hs : a.small) (h3 : S.wt + 100 ≤ 1099511627776) (h4 : S.cnt + 1 ≤ 500000) :
    Calls Try.prog 15 #[.pointer (some ⟨bd, 0, none⟩), .agg #[.int .i64 a.K, .int .i64 a.N, .string a.name, .string a.to_, .string a.text]] w fun e w' => e = .returned (.int .i64 ((doS S a).1 : Int)) ∧ Pair n ex w' bd bm (doS S a).2 S' ∧ Mods (May n ex) w w' := pair_play h hn hex a hs h3 h4
theorem pair_do' {n bd bm : Nat} {ex : Nat → Prop} {w : World} {S S' : DS} (h : Pair n ex w bd bm S S') (hn : n ≤ w.heap.size) (hex : ∀ k, ex k → k < w.heap.size) (a : ActD) (hs : a.small) (h3 : S'.wt + 100 ≤ 1099511627776) (h4 : S'.cnt + 1 ≤ 500000) :
    Calls Try.prog 16 #[.pointer (some ⟨bm, 0, none⟩), .agg #[.int .i64 a.K, .int .i64 a.N, .string a.name, .string a.to_, .string a.text]] w fun e w' => e = .returned (.int .i64 ((doS S' a).1 : Int)) ∧ Pair n ex w' bd bm S (doS S' a).2 ∧ Mods (May n ex) w w' := pair_do h hn hex a hs h3 h4
theorem Blk.exlt {w : World} {b : Nat} {cs : List Value} {t : TypeId} (h : Blk w b cs t) : ∀ k, k = b → k < w.heap.size := by
  rintro k rfl
  exact h.lt
theorem Pair.bar {n bd bm : Nat} {ex : Nat → Prop} {w : World} {S S' : DS} (h : Pair n ex w bd bm S S') (o : Obj) : Pair n (fun k => k = w.heap.size) (w.alloc o) bd bm S S' := by
  obtain ⟨fd, fm, h1, h2, h3, h4, h5⟩ := h
  have hm : Mods (fun _ => False) w (w.alloc o) := (Mods.refl _ w).alloc o
  refine ⟨fd, fm, h1.keep hm (fun _ _ => id), h2.keep hm (fun _ _ => id), fun k hk => ⟨(h3 k hk).1, ?_, ?_⟩, fun k hk => ⟨(h4 k hk).1, ?_, ?_⟩, h5⟩
  · have := (h3 k hk).2.1; simp; omega
  · have := (h3 k hk).2.1; omega
  · have := (h4 k hk).2.1; simp; omega
  · have := (h4 k hk).2.1; omega
theorem Pair.unbar {n bd bm : Nat} {ex : Nat → Prop} {w : World} {S S' : DS} (h : Pair n ex w bd bm S S') : Pair n (fun _ => False) w bd bm S S' := by
  obtain ⟨fd, fm, h1, h2, h3, h4, h5⟩ := h
  exact ⟨fd, fm, h1, h2, fun k hk => ⟨(h3 k hk).1, (h3 k hk).2.1, id⟩, fun k hk => ⟨(h4 k hk).1, (h4 k hk).2.1, id⟩, h5⟩
theorem Pair.drew {n bd bm : Nat} {ex : Nat → Prop} {w : World} {S S' : DS} (h : Pair n ex w bd bm S S') : Pair n ex w.drew bd bm S S' := h.keep (fq := fun _ => False) (Mods.refl _ w).drew (fun _ _ _ _ => id)
theorem pair_new {u0 u1 u2 : World} {bm : Nat} {S S' : DS} (h1 : DAt u1 u0.heap.size (fun k => k = u0.heap.size) S) (hz : u1.heap.size = u0.heap.size + 1) (h2 : MAt u2 bm (fun k => u1.heap.size ≤ k ∧ k < u2.heap.size) S') (hb : Below u1.heap.size u1 u2) : Pair u0.heap.size (fun _ => False) u2 u0.heap.size bm S S' := by
  have hs := hb.size
  refine ⟨_, _, h1.below hb, h2, ?_, ?_, ?_⟩
  · rintro k rfl; exact ⟨Nat.le_refl _, by omega, id⟩
  · rintro k ⟨e1, e2⟩; exact ⟨by omega, e2, id⟩
  · rintro k rfl ⟨e1, e2⟩; omega

/-- what the loop over acts knows -/
def ARel (w : World) (n bd bm k : Nat) (wr : World) : Prop := ∃ S, Pair n (fun _ => False) wr bd bm S S ∧ S.wt ≤ 100 * k ∧ S.cnt ≤ k ∧ Below w.heap.size w wr ∧ n ≤ wr.heap.size

set_option maxHeartbeats 12800000 in
set_option maxRecDepth 100000 in
theorem diskActs_walk (w : World) (room : Int) (A : Option Addr) (c : Nat) (l : List ActD) (name : ByteArray) (hA : AArg w A l) (hl : l.length ≤ maxLen) (hN : ∀ a ∈ l, a.N ≤ 9223372036854775807) (hnm : name.size ≤ maxLen) :
    Calls Try.prog 3 #[.int .i64 room, .slice A l.length c, .string name] w fun e w' => e = .returned (.bool true) ∧ Below w.heap.size w w' := by
  have HF := Lib.hid (fun u (hb : Below w.heap.size w u) => few_any l A c u (hA.keep hb) hl)
  unfold maxLen at hl hnm
  cases hfew : fewB l
  · rw [hfew] at HF
    clear hfew
    go_enter Try.func3, Try.ntmps3
    go_wp2_with fail
    refine (head_any w).mono ?_
    rintro e u0 ⟨rfl, hb0⟩
    go_wp2_with fail
    refine (HF.out u0 hb0).mono ?_
    rintro e u1 ⟨rfl, hb1⟩
    go_wp2
    go_ret
    exact ⟨rfl, hb0.trans (hb1.mono hb0.size)⟩
  · obtain ⟨hl40, hsm⟩ := few_small hfew hN
    rw [hfew] at HF
    clear hfew
    by_cases hn100 : 100 < name.size
    · have d1 : decide ((100 : Int) < (name.size : Int)) = true := decide_eq_true (by omega)
      go_enter Try.func3, Try.ntmps3
      go_wp2_with fail
      refine (head_any w).mono ?_
      rintro e u0 ⟨rfl, hb0⟩
      go_wp2_with fail
      refine (HF.out u0 hb0).mono ?_
      rintro e u1 ⟨rfl, hb1⟩
      go_wp2
      go_ret
      exact ⟨rfl, hb0.trans (hb1.mono hb0.size)⟩
    · have d1 : decide ((100 : Int) < (name.size : Int)) = false := decide_eq_false (by omega)
      have hnm' : name.size ≤ maxLen := by unfold maxLen; omega
      go_enter Try.func3, Try.ntmps3
      go_wp2_with fail
      refine (head_any w).mono ?_
      rintro e u0 ⟨rfl, hb0⟩
      go_wp2_with fail
      refine (HF.out u0 hb0).mono ?_
      rintro e u1 ⟨rfl, hb1⟩
      have hb01 := hb0.trans (hb1.mono hb0.size)
      go_wp2_with fail
      refine (new_any room u1).mono ?_
      rintro e u2 ⟨rfl, o2, hb2, hz2⟩
      have HZ2 := Lib.hid hz2
      clear hz2
      go_wp2_with fail
      refine (mnew_any room u2).mono ?_
      rintro e u3 ⟨bm, rfl, m3, hb3⟩
      have HP3 := Lib.hid (pair_new o2 HZ2.out m3 hb3)
      have HB3 := Lib.hid ((hb01.trans (hb2.mono hb01.size)).trans (hb3.mono (Nat.le_trans hb01.size hb2.size)))
      have hs3 : u1.heap.size ≤ u3.heap.size := Nat.le_trans hb2.size hb3.size
      have hs01 := hb01.size
      clear o2 m3 hb3 hb2 hb1 hb0 hb01
      go_wp2
      go_loopw [31] (fun i wr => ∃ k : Nat, i = .int .i64 k ∧ k ≤ l.length ∧ ARel w u1.heap.size u1.heap.size bm k wr) (fun i _ => l.length - (intOf i).toNat)
      case atStart => exact ⟨0, rfl, by omega, newS room, HP3.out, by show tot (.map []) + 0 ≤ _; exact Nat.le_refl _, by show 0 + 0 ≤ _; omega, HB3.out, hs3⟩
      case round =>
        obtain ⟨k, rfl, hk, S, hP, hwt, hct, hbk, hnk⟩ := hrel
        by_cases hkl : k < l.length
        · obtain ⟨ad, rfl, c0, c1, c2, c3, c4⟩ := hA.at_ hbk k hkl
          obtain ⟨a, HAa⟩ : ∃ a, Hid (a = l[k]) := ⟨_, Lib.hid rfl⟩
          rw [← HAa.out] at c0 c1 c2 c3 c4
          have hsa : a.small := by rw [HAa.out]; exact hsm _ (List.getElem_mem hkl)
          have HP := Lib.hid (hP.bar (.cells #[.int .i64 a.K, .int .i64 a.N, .string a.name, .string a.to_, .string a.text] 30)).drew
          have hBx : Blk ((wr.alloc (.cells #[.int .i64 a.K, .int .i64 a.N, .string a.name, .string a.to_, .string a.text] 30)).drew) wr.heap.size (actL a) 30 := (MapKept.heap_alloc wr _).1
          have HBx := Lib.hid hBx
          have hm0 : Mods (May u1.heap.size (fun k => k = wr.heap.size)) wr ((wr.alloc (.cells #[.int .i64 a.K, .int .i64 a.N, .string a.name, .string a.to_, .string a.text] 30)).drew) := ((Mods.refl _ wr).alloc _).drew
          have HM0 := Lib.hid hm0
          obtain ⟨bx, HBXE⟩ : ∃ bx, Hid (bx = wr.heap.size) := ⟨_, Lib.hid rfl⟩
          have HNX : Hid (u1.heap.size ≤ ((wr.alloc (.cells #[.int .i64 a.K, .int .i64 a.N, .string a.name, .string a.to_, .string a.text] 30)).drew).heap.size ∧ ∀ k, k = wr.heap.size → k < ((wr.alloc (.cells #[.int .i64 a.K, .int .i64 a.N, .string a.name, .string a.to_, .string a.text] 30)).drew).heap.size) := Lib.hid ⟨by simp; omega, by rintro k rfl; simp⟩
          have hokS := hP.own.ok
          have HBD := Lib.hid (doS_bounds S hokS a hsa)
          have HOKS := Lib.hid hokS
          have HW1 : Hid (S.wt + 100 ≤ 1099511627776) := Lib.hid (by omega)
          have HW2 : Hid (S.cnt + 1 ≤ 500000) := Lib.hid (by omega)
          have hne : (((doS S a).1 : Int) != ((doS S a).1 : Int)) = false := by simp
          clear hBx hP hm0 hokS
          go_wp2
          go_region_held3 (fun w' => w'.cell? ⟨wr.heap.size, 0, none⟩ = some (.int .i64 a.K) ∧ w'.cell? ⟨wr.heap.size, 1, none⟩ = some (.int .i64 a.N) ∧ w'.cell? ⟨wr.heap.size, 2, none⟩ = some (.string a.name) ∧ w'.cell? ⟨wr.heap.size, 3, none⟩ = some (.string a.to_) ∧ w'.cell? ⟨wr.heap.size, 4, none⟩ = some (.string a.text))
            (first | go_keep | exact cells5 HB2.out | exact cells5 HB3.out | exact cells5 HB4.out)
            (first
              | ((with_reducible refine (pair_play' HP.out HNX.out.1 HNX.out.2 a hsa HW1.out HW2.out).mono ?_); rintro e w2 ⟨rfl, hp2, hm2⟩; have HB2 := Lib.hid (HBx.out.keep hm2 (fun e => e.2 rfl)); have HP2 := Lib.hid hp2; have HM2 := Lib.hid (May.trans HM0.out hm2); clear hp2 hm2)
              | ((with_reducible refine (pair_do' HP2.out (Nat.le_trans hnk HM2.out.size) HB2.out.exlt a hsa HW1.out HW2.out).mono ?_); rintro e w3 ⟨rfl, hp3, hm3⟩; have HB3 := Lib.hid (HB2.out.keep hm3 (fun e => e.2 rfl)); have HP3 := Lib.hid hp3; have HM3 := Lib.hid (May.trans HM2.out hm3); clear hp3 hm3)
              | ((with_reducible refine (same_any w3 u1.heap.size u1.heap.size bm _ _ (doS S a).2 (doS S a).2 HP3.out.own HP3.out.mat.choose_spec rfl rfl rfl).mono ?_); rintro e w4 ⟨rfl, hb4⟩; have HB4 := Lib.hid (HB3.out.keep (fp := fun _ => False) (Mods.of_below hb4) id); have HP4 := Lib.hid (HP3.out.below hb4); have HM4 := Lib.hid (May.trans HM3.out (Mods.of_below hb4)); clear hb4))
          obtain ⟨S1, HS1⟩ : ∃ S1, Hid (S1 = (doS S a).2) := ⟨_, Lib.hid rfl⟩
          rw [← HS1.out] at HP4 HBD
          have HOK1 := Lib.hid HP4.out.own.ok
          obtain ⟨fm, bs, sv, l', hMV, _⟩ := HP4.out.mat
          have HMV := Lib.hid hMV
          clear hMV HP3 HP2 HP HB2 HB3 HB4
          cases hd : S1.down
          · cases hh : hasF S1.now name
            · have HRD : Hid (rdS S1 name = (ByteArray.empty, 5)) := Lib.hid (by simp [rdS, hd, hh])
              have HHS : Hid (hasF S1.now name = false) := Lib.hid hh
              have HDW : Hid (S1.down = false) := Lib.hid hd
              have hge : get S1.now name = ByteArray.empty := get_of_not hh
              clear hd hh
              go_wp2_with fail
              refine (read_own HP4.out.own name hnm').mono ?_
              rintro e w5 ⟨rfl, hb5⟩
              rw [HRD.out]
              have HMV5 := Lib.hid (HMV.out.keep (fq := fun _ => False) (Mods.of_below hb5) (fun _ _ => id))
              go_wp2_with fail
              refine (files_mv w5 bm bs sv S1 l' HMV5.out).mono ?_
              rintro e w6 ⟨b', rfl, hM6, hbb6, hb6⟩
              have hlk := hM6.look_ok HOK1.out.goodn name hnm'
              rw [HHS.out, hge] at hlk
              have c46 : w6.cell? ⟨bm, 4, none⟩ = some (.bool S1.down) := (HMV5.out.blk.keep (fp := fun _ => False) (Mods.of_below hb6) id).cell 4
              rw [HDW.out] at c46
              have HR6 : Hid (ARel w u1.heap.size u1.heap.size bm (k + 1) w6) := Lib.hid (by
                have hb46 : Below w4.heap.size w4 w6 := hb5.trans (hb6.mono hb5.size)
                have hbw4 : Below w.heap.size w w4 := hbk.trans (May.below HM4.out hs01 hnk)
                exact ⟨S1, (HP4.out.below hb46).unbar, by have := HBD.out.1; omega, by have := HBD.out.2; omega, hbw4.trans (hb46.mono hbw4.size), Nat.le_trans (Nat.le_trans hnk HM4.out.size) hb46.size⟩)
              clear hbb6 hM6 hb6 hb5
              go_wp2
              go_roundw
              case rel => exact ⟨k + 1, by go_num, by omega, HR6.out⟩
              case measure => simp [intOf]; omega
            · have HRD : Hid (rdS S1 name = (get S1.now name, 0)) := Lib.hid (by simp [rdS, hd, hh])
              have HHS : Hid (hasF S1.now name = true) := Lib.hid hh
              have HDW : Hid (S1.down = false) := Lib.hid hd
              clear hd hh
              go_wp2_with fail
              refine (read_own HP4.out.own name hnm').mono ?_
              rintro e w5 ⟨rfl, hb5⟩
              rw [HRD.out]
              have HMV5 := Lib.hid (HMV.out.keep (fq := fun _ => False) (Mods.of_below hb5) (fun _ _ => id))
              go_wp2_with fail
              refine (files_mv w5 bm bs sv S1 l' HMV5.out).mono ?_
              rintro e w6 ⟨b', rfl, hM6, hbb6, hb6⟩
              have hlk := hM6.look_ok HOK1.out.goodn name hnm'
              rw [HHS.out] at hlk
              have c46 : w6.cell? ⟨bm, 4, none⟩ = some (.bool S1.down) := (HMV5.out.blk.keep (fp := fun _ => False) (Mods.of_below hb6) id).cell 4
              rw [HDW.out] at c46
              have HR6 : Hid (ARel w u1.heap.size u1.heap.size bm (k + 1) w6) := Lib.hid (by
                have hb46 : Below w4.heap.size w4 w6 := hb5.trans (hb6.mono hb5.size)
                have hbw4 : Below w.heap.size w w4 := hbk.trans (May.below HM4.out hs01 hnk)
                exact ⟨S1, (HP4.out.below hb46).unbar, by have := HBD.out.1; omega, by have := HBD.out.2; omega, hbw4.trans (hb46.mono hbw4.size), Nat.le_trans (Nat.le_trans hnk HM4.out.size) hb46.size⟩)
              clear hbb6 hM6 hb6 hb5
              go_wp2
              go_roundw
              case rel => exact ⟨k + 1, by go_num, by omega, HR6.out⟩
              case measure => simp [intOf]; omega
          · obtain ⟨hh, HHS⟩ : ∃ b, Hid (hasF S1.now name = b) := ⟨_, Lib.hid rfl⟩
            have HRD : Hid (rdS S1 name = (ByteArray.empty, 8)) := Lib.hid (by simp [rdS, hd])
            have HDW : Hid (S1.down = true) := Lib.hid hd
            clear hd
            go_wp2_with fail
            refine (read_own HP4.out.own name hnm').mono ?_
            rintro e w5 ⟨rfl, hb5⟩
            rw [HRD.out]
            have HMV5 := Lib.hid (HMV.out.keep (fq := fun _ => False) (Mods.of_below hb5) (fun _ _ => id))
            go_wp2_with fail
            refine (files_mv w5 bm bs sv S1 l' HMV5.out).mono ?_
            rintro e w6 ⟨b', rfl, hM6, hbb6, hb6⟩
            have hlk := hM6.look_ok HOK1.out.goodn name hnm'
            rw [HHS.out] at hlk
            have c46 : w6.cell? ⟨bm, 4, none⟩ = some (.bool S1.down) := (HMV5.out.blk.keep (fp := fun _ => False) (Mods.of_below hb6) id).cell 4
            rw [HDW.out] at c46
            have HR6 : Hid (ARel w u1.heap.size u1.heap.size bm (k + 1) w6) := Lib.hid (by
              have hb46 : Below w4.heap.size w4 w6 := hb5.trans (hb6.mono hb5.size)
              have hbw4 : Below w.heap.size w w4 := hbk.trans (May.below HM4.out hs01 hnk)
              exact ⟨S1, (HP4.out.below hb46).unbar, by have := HBD.out.1; omega, by have := HBD.out.2; omega, hbw4.trans (hb46.mono hbw4.size), Nat.le_trans (Nat.le_trans hnk HM4.out.size) hb46.size⟩)
            clear hbb6 hM6 hb6 hb5
            go_wp2
            go_roundw
            case rel => exact ⟨k + 1, by go_num, by omega, HR6.out⟩
            case measure => simp [intOf]; omega
        · go_wp2
          go_ret
          exact ⟨rfl, hbk⟩

end Go.Proofs.Ytecegjdnodcamaa
