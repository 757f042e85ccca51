/-
  The walk of DiskClones.
-/
import Derived.Test.YtecegjdnodcamaaTrio
namespace Go.Proofs.Ytecegjdnodcamaa
open Go.RowKit Go.Maps Go.Sort

/-- what the second loop knows: the first disk runs on alone -/
def L2 (w : World) (n bd bc bm : Nat) (S1 : DS) (l : List ActD) (k : Nat) (wr : World) : Prop :=
  ∃ S, S = runS S1 (l.take k) ∧ Trio n (fun _ => False) wr bd bc bm S S1 S1 ∧ S.wt ≤ 4000 + 100 * k ∧ S.cnt ≤ 40 + k ∧ Below w.heap.size w wr ∧ n ≤ wr.heap.size
/-- what the third loop knows: the clone and the model run behind it -/
def L3 (w : World) (n bd bc bm : Nat) (S1 : DS) (l : List ActD) (k : Nat) (wr : World) : Prop :=
  ∃ S, S = runS S1 (l.take k) ∧ Trio n (fun _ => False) wr bd bc bm (runS S1 l) S S ∧ S.wt ≤ 4000 + 100 * k ∧ S.cnt ≤ 40 + k ∧ Below w.heap.size w wr ∧ n ≤ wr.heap.size

theorem new_room : ((newS 4194304).room : Int) - tot (newS 4194304).now = 4194304 := by
  show (((min (max (4194304 : Int) 0) 4194304).toNat : Nat) : Int) - (tot (apps (.map []) []) : Nat) = 4194304
  have : tot (apps (.map []) []) = 0 := rfl
  omega
theorem crash_nil' (w : World) (A : Option Addr) (n c : Nat) : Calls Try.prog 20 #[.pointer none, .slice A n c] w fun e w' => e = .returned (.pointer (some ⟨w.heap.size, 0, none⟩)) ∧ Calls Try.prog 27 #[.pointer (some ⟨w.heap.size, 0, none⟩)] w' (fun e w'' => e = .returned (.int .i64 4194304) ∧ ∃ n, w'' = w'.drewN n) ∧ Below w.heap.size w w' :=
  (crash_nil w A n c).mono fun _ w' h => ⟨h.1, (room_any w' _ _ _ h.2.1).mono fun _ _ h' => ⟨h'.1.trans (congrArg (fun z => Ending.returned (Value.int .i64 z)) new_room), h'.2⟩, h.2.2⟩

set_option maxHeartbeats 25600000 in
set_option maxRecDepth 100000 in
theorem diskClones_main (w : World) (room : Int) (A A2 : Option Addr) (c c2 : Nat) (l l2 : List ActD) (hA : AArg w A l) (hA2 : AArg w A2 l2)
    (hf : fewB l = true) (hf2 : fewB l2 = true) (hN : ∀ a ∈ l, a.N ≤ 9223372036854775807) (hN2 : ∀ a ∈ l2, a.N ≤ 9223372036854775807) :
    Calls Try.prog 5 #[.int .i64 room, .slice A l.length c, .slice A2 l2.length c2] w fun e w' => e = .returned (.bool true) ∧ Below w.heap.size w w' := by
  obtain ⟨hl40, hsm⟩ := few_small hf hN
  obtain ⟨hl402, hsm2⟩ := few_small hf2 hN2
  have HF := Lib.hid (fun u (hb : Below w.heap.size w u) => few_any l A c u (hA.keep hb) (by unfold maxLen; omega))
  have HF2 := Lib.hid (fun u (hb : Below w.heap.size w u) => few_any l2 A2 c2 u (hA2.keep hb) (by unfold maxLen; omega))
  rw [hf] at HF
  rw [hf2] at HF2
  have HSM := Lib.hid hsm
  have HSM2 := Lib.hid hsm2
  have HA := Lib.hid hA
  have HA2 := Lib.hid hA2
  clear hf hf2 hN hN2 hsm hsm2 hA hA2
  go_enter Try.func5, Try.ntmps5
  go_wp2_with fail
  refine (head_any w).mono ?_
  rintro e u0 ⟨rfl, hb0⟩
  go_wp2_with fail
  refine (HF.out u0 hb0).mono ?_
  rintro e u0b ⟨rfl, hb0b⟩
  have hb00 := hb0.trans (hb0b.mono hb0.size)
  go_wp2_with fail
  refine (HF2.out u0b hb00).mono ?_
  rintro e u1 ⟨rfl, hb1⟩
  have hb01 := hb00.trans (hb1.mono hb00.size)
  go_wp2_with fail
  refine (new_any room u1).mono ?_
  rintro e u2 ⟨rfl, o2, hb2, hz2'⟩
  have HZ2 := Lib.hid hz2'
  clear hz2'
  go_wp2_with fail
  refine (mnew_any room u2).mono ?_
  rintro e u3 ⟨bm, rfl, m3, hb3⟩
  have HP3 := Lib.hid (pair_new o2 HZ2.out m3 hb3)
  have HB3 := Lib.hid ((hb01.trans (hb2.mono hb01.size)).trans (hb3.mono (Nat.le_trans hb01.size hb2.size)))
  have hs3 : u1.heap.size ≤ u3.heap.size := Nat.le_trans hb2.size hb3.size
  have hs01 := hb01.size
  clear o2 m3 hb3 hb2 hb1 hb0 hb01 hb0b hb00
  go_wp2
  go_loopw [35] (fun i wr => ∃ k : Nat, i = .int .i64 k ∧ k ≤ l.length ∧ ARel w u1.heap.size u1.heap.size bm k wr) (fun i _ => l.length - (intOf i).toNat)
  case atStart => exact ⟨0, rfl, by omega, newS room, HP3.out, by show tot (.map []) + 0 ≤ _; exact Nat.le_refl _, by show 0 + 0 ≤ _; omega, HB3.out, hs3⟩
  case round =>
    obtain ⟨k, rfl, hk, S, hP, hwt, hct, hbk, hnk⟩ := hrel
    have HPk := Lib.hid hP
    clear hP HP3
    by_cases hkl : k < l.length
    · obtain ⟨ad, hade, c0', c1', c2', c3', c4'⟩ := HA.out.at_ hbk k hkl
      subst hade
      obtain ⟨a, HAa⟩ : ∃ a, Hid (a = l[k]) := ⟨_, Lib.hid rfl⟩
      rw [← HAa.out] at c0' c1' c2' c3' c4'
      have hsa : a.small := by rw [HAa.out]; exact HSM.out _ (List.getElem_mem hkl)
      have HP := Lib.hid (HPk.out.bar (.cells #[.int .i64 a.K, .int .i64 a.N, .string a.name, .string a.to_, .string a.text] 30))
      have HBx : Hid (Blk (wr.alloc (.cells #[.int .i64 a.K, .int .i64 a.N, .string a.name, .string a.to_, .string a.text] 30)) wr.heap.size (actL a) 30) := Lib.hid (MapKept.heap_alloc wr _).1
      have HM0 : Hid (Mods (May u1.heap.size (fun k => k = wr.heap.size)) wr (wr.alloc (.cells #[.int .i64 a.K, .int .i64 a.N, .string a.name, .string a.to_, .string a.text] 30))) := Lib.hid ((Mods.refl _ wr).alloc _)
      have HBD := Lib.hid (doS_bounds S HPk.out.own.ok a hsa)
      have HW1 : Hid (S.wt + 100 ≤ 1099511627776) := Lib.hid (by omega)
      have HW2 : Hid (S.cnt + 1 ≤ 500000) := Lib.hid (by omega)
      go_wp2_with fail
      refine (pair_play' HP.out (by simp; omega) HBx.out.exlt a hsa HW1.out HW2.out).mono ?_
      rintro e w2 ⟨rfl, hp2, hm2⟩
      have HB2 := Lib.hid (HBx.out.keep hm2 (fun e => e.2 rfl))
      have HP2 := Lib.hid hp2
      have HM2 := Lib.hid (May.trans HM0.out hm2)
      clear hp2 hm2
      obtain ⟨b0, b1, b2, b3, b4⟩ := cells5 HB2.out
      go_wp2_with fail
      refine (pair_do' HP2.out (Nat.le_trans hnk HM2.out.size) HB2.out.exlt a hsa HW1.out HW2.out).mono ?_
      rintro e w3 ⟨rfl, hp3, hm3⟩
      have HM3 := Lib.hid (May.trans HM2.out hm3)
      have HRn : Hid (ARel w u1.heap.size u1.heap.size bm (k + 1) w3) := Lib.hid
        ⟨(doS S a).2, hp3.unbar, by have := HBD.out.1; omega, by have := HBD.out.2; omega, hbk.trans (May.below HM3.out hs01 hnk), Nat.le_trans hnk HM3.out.size⟩
      clear hp3 hm3 b0 b1 b2 b3 b4
      go_wp2
      go_roundw
      case rel => exact ⟨k + 1, by go_num, by omega, HRn.out⟩
      case measure => simp [intOf]; omega
    · obtain ⟨y0, hy0⟩ : ∃ y0, y0 = wr := ⟨wr, rfl⟩
      subst hy0
      have HCL : Hid (Calls Try.prog 22 #[.pointer (some ⟨u1.heap.size, 0, none⟩)] y0 fun e w' => e = .returned (.pointer (some ⟨y0.heap.size, 0, none⟩)) ∧ DAt w' y0.heap.size (fun k => y0.heap.size ≤ k ∧ k < w'.heap.size) S ∧ Below y0.heap.size y0 w') := Lib.hid (by
        obtain ⟨fd, fm, hD, _⟩ := HPk.out
        exact clone_any y0 u1.heap.size fd S hD)
      go_wp2_with fail
      refine HCL.out.mono ?_
      rintro e y1 ⟨rfl, hd1, hc1⟩
      have HL2 : Hid (L2 w u1.heap.size u1.heap.size y0.heap.size bm S l2 0 y1) := Lib.hid
        ⟨S, rfl, trio_clone HPk.out hnk hd1 hc1, by omega, by omega, hbk.trans (hc1.mono hbk.size), Nat.le_trans hnk hc1.size⟩
      clear hd1 hc1 HCL
      go_wp2
      go_loopw [50] (fun i wr => ∃ k : Nat, i = .int .i64 k ∧ k ≤ l2.length ∧ L2 w u1.heap.size u1.heap.size y0.heap.size bm S l2 k wr) (fun i _ => l2.length - (intOf i).toNat)
      case atStart => exact ⟨0, rfl, by omega, HL2.out⟩
      case round =>
        obtain ⟨j, rfl, hj, Sd, hSd, hT, hwd, hcd, hbj, hnj⟩ := hrel
        have HSD := Lib.hid hSd
        have HT := Lib.hid hT
        clear hSd hT HL2
        by_cases hjl : j < l2.length
        · obtain ⟨ad, hade, c0', c1', c2', c3', c4'⟩ := HA2.out.at_ hbj j hjl
          subst hade
          obtain ⟨a, HAa⟩ : ∃ a, Hid (a = l2[j]) := ⟨_, Lib.hid rfl⟩
          rw [← HAa.out] at c0' c1' c2' c3' c4'
          have hsa : a.small := by rw [HAa.out]; exact HSM2.out _ (List.getElem_mem hjl)
          have HP := Lib.hid (HT.out.bar (.cells #[.int .i64 a.K, .int .i64 a.N, .string a.name, .string a.to_, .string a.text] 30))
          have HBx : Hid (Blk (wr.alloc (.cells #[.int .i64 a.K, .int .i64 a.N, .string a.name, .string a.to_, .string a.text] 30)) wr.heap.size (actL a) 30) := Lib.hid (MapKept.heap_alloc wr _).1
          have HM0 : Hid (Mods (May u1.heap.size (fun k => k = wr.heap.size)) wr (wr.alloc (.cells #[.int .i64 a.K, .int .i64 a.N, .string a.name, .string a.to_, .string a.text] 30))) := Lib.hid ((Mods.refl _ wr).alloc _)
          have HBD := Lib.hid (doS_bounds Sd HT.out.own.ok a hsa)
          have HW1 : Hid (Sd.wt + 100 ≤ 1099511627776) := Lib.hid (by omega)
          have HW2 : Hid (Sd.cnt + 1 ≤ 500000) := Lib.hid (by omega)
          have HRUN : Hid ((doS Sd a).2 = runS S (l2.take (j + 1))) := Lib.hid (by rw [runS_take _ _ _ hjl, ← HSD.out, ← HAa.out])
          go_wp2_with fail
          refine (trio_play_d HP.out (by simp; omega) HBx.out.exlt a hsa HW1.out HW2.out).mono ?_
          rintro e w2 ⟨rfl, hp2, hm2⟩
          have HM2 := Lib.hid (May.trans HM0.out hm2)
          have HRn : Hid (L2 w u1.heap.size u1.heap.size y0.heap.size bm S l2 (j + 1) w2) := Lib.hid
            ⟨(doS Sd a).2, HRUN.out, hp2.unbar, by have := HBD.out.1; omega, by have := HBD.out.2; omega, hbj.trans (May.below HM2.out hs01 hnj), Nat.le_trans hnj HM2.out.size⟩
          clear hp2 hm2
          go_wp2
          go_roundw
          case rel => exact ⟨j + 1, by go_num, by omega, HRn.out⟩
          case measure => simp [intOf]; omega
        · obtain ⟨z0, hz0⟩ : ∃ z0, z0 = wr := ⟨wr, rfl⟩
          subst hz0
          have HSE : Hid (Sd = runS S l2) := Lib.hid (by rw [HSD.out, List.take_of_length_le (by omega)])
          obtain ⟨fm, HMT⟩ : ∃ fm, Hid (MAt z0 bm fm S) := by
            obtain ⟨fm, h⟩ := HT.out.pair.mat
            exact ⟨fm, Lib.hid h⟩
          go_wp2_with fail
          refine (same_any z0 _ y0.heap.size bm _ _ _ _ HT.out.pair.own HMT.out rfl rfl rfl).mono ?_
          rintro e z1 ⟨rfl, hc1⟩
          have HL3 : Hid (L3 w u1.heap.size u1.heap.size y0.heap.size bm S l2 0 z1) := Lib.hid
            ⟨S, rfl, by rw [← HSE.out]; exact HT.out.below hc1, by omega, by omega, hbj.trans (hc1.mono hbj.size), Nat.le_trans hnj hc1.size⟩
          clear hc1
          go_wp2
          go_loopw [64] (fun i wr => ∃ k : Nat, i = .int .i64 k ∧ k ≤ l2.length ∧ L3 w u1.heap.size u1.heap.size y0.heap.size bm S l2 k wr) (fun i _ => l2.length - (intOf i).toNat)
          case atStart => exact ⟨0, rfl, by omega, HL3.out⟩
          case round =>
            obtain ⟨m, rfl, hm, Sc, hSc, hTc, hwc, hcc, hbm, hnm⟩ := hrel
            have HSC := Lib.hid hSc
            have HTc := Lib.hid hTc
            clear hSc hTc HL3
            by_cases hml : m < l2.length
            · obtain ⟨ad, hade, c0', c1', c2', c3', c4'⟩ := HA2.out.at_ hbm m hml
              subst hade
              obtain ⟨a, HAa⟩ : ∃ a, Hid (a = l2[m]) := ⟨_, Lib.hid rfl⟩
              rw [← HAa.out] at c0' c1' c2' c3' c4'
              have hsa : a.small := by rw [HAa.out]; exact HSM2.out _ (List.getElem_mem hml)
              have HP := Lib.hid (HTc.out.bar (.cells #[.int .i64 a.K, .int .i64 a.N, .string a.name, .string a.to_, .string a.text] 30)).drew
              have HBx : Hid (Blk ((wr.alloc (.cells #[.int .i64 a.K, .int .i64 a.N, .string a.name, .string a.to_, .string a.text] 30)).drew) wr.heap.size (actL a) 30) := Lib.hid (MapKept.heap_alloc wr _).1
              have HM0 : Hid (Mods (May u1.heap.size (fun k => k = wr.heap.size)) wr ((wr.alloc (.cells #[.int .i64 a.K, .int .i64 a.N, .string a.name, .string a.to_, .string a.text] 30)).drew)) := Lib.hid ((Mods.refl _ wr).alloc _).drew
              have HNX1 : Hid (u1.heap.size ≤ ((wr.alloc (.cells #[.int .i64 a.K, .int .i64 a.N, .string a.name, .string a.to_, .string a.text] 30)).drew).heap.size) := Lib.hid (by simp; omega)
              have HBD := Lib.hid (doS_bounds Sc HTc.out.pair.own.ok a hsa)
              have HW1 : Hid (Sc.wt + 100 ≤ 1099511627776) := Lib.hid (by omega)
              have HW2 : Hid (Sc.cnt + 1 ≤ 500000) := Lib.hid (by omega)
              have HRUN : Hid ((doS Sc a).2 = runS S (l2.take (m + 1))) := Lib.hid (by rw [runS_take _ _ _ hml, ← HSC.out, ← HAa.out])
              have hne : (((doS Sc a).1 : Int) != ((doS Sc a).1 : Int)) = false := by simp
              go_wp2
              go_region_held3 (fun w' => w'.cell? ⟨wr.heap.size, 0, none⟩ = some (.int .i64 a.K) ∧ w'.cell? ⟨wr.heap.size, 1, none⟩ = some (.int .i64 a.N) ∧ w'.cell? ⟨wr.heap.size, 2, none⟩ = some (.string a.name) ∧ w'.cell? ⟨wr.heap.size, 3, none⟩ = some (.string a.to_) ∧ w'.cell? ⟨wr.heap.size, 4, none⟩ = some (.string a.text))
                (first | go_keep | exact cells5 HB2.out | exact cells5 HB3.out)
                (first
                  | ((with_reducible refine (trio_play_c HP.out HNX1.out HBx.out.exlt a hsa HW1.out HW2.out).mono ?_); rintro e w2 ⟨rfl, hp2, hm2⟩; have HB2 := Lib.hid (HBx.out.keep hm2 (fun e => e.2 rfl)); have HP2 := Lib.hid hp2; have HM2 := Lib.hid (May.trans HM0.out hm2); clear hp2 hm2)
                  | ((with_reducible refine (trio_do HP2.out (Nat.le_trans hnm HM2.out.size) HB2.out.exlt a hsa HW1.out HW2.out).mono ?_); rintro e w3 ⟨rfl, hp3, hm3⟩; have HB3 := Lib.hid (HB2.out.keep hm3 (fun e => e.2 rfl)); have HP3 := Lib.hid hp3; have HM3 := Lib.hid (May.trans HM2.out hm3); clear hp3 hm3))
              have HRn : Hid (L3 w u1.heap.size u1.heap.size y0.heap.size bm S l2 (m + 1) w3) := Lib.hid
                ⟨(doS Sc a).2, HRUN.out, HP3.out.unbar, by have := HBD.out.1; omega, by have := HBD.out.2; omega, hbm.trans (May.below HM3.out hs01 hnm), Nat.le_trans hnm HM3.out.size⟩
              go_wp2
              go_roundw
              case rel => exact ⟨m + 1, by go_num, by omega, HRn.out⟩
              case measure => simp [intOf]; omega
            · have HSE3 : Hid (Sc = runS S l2) := Lib.hid (by rw [HSC.out, List.take_of_length_le (by omega)])
              have HQ : Hid (Trio u1.heap.size (fun _ => False) wr u1.heap.size y0.heap.size bm Sc Sc Sc) := Lib.hid (by
                have := HTc.out
                rw [← HSE3.out] at this
                exact this)
              obtain ⟨fm3, HMT3⟩ : ∃ fm, Hid (MAt wr bm fm Sc) := by
                obtain ⟨fm, h⟩ := HQ.out.pair.mat
                exact ⟨fm, Lib.hid h⟩
              clear HMT
              go_wp2_with fail
              refine (read_nil wr _).mono ?_
              rintro e x1 ⟨rfl, rfl⟩
              go_wp2_with fail
              refine (fall_nil wr 3).mono ?_
              rintro e x2 ⟨rfl, rfl⟩
              go_wp2_with fail
              refine (same_any wr _ y0.heap.size bm _ _ _ _ HQ.out.pair.own HMT3.out rfl rfl rfl).mono ?_
              rintro e x3 ⟨rfl, hc3⟩
              have HQ3 := Lib.hid (HQ.out.below hc3)
              have HMT4 := Lib.hid (HMT3.out.below hc3)
              have HX3 := Lib.hid (hbm.trans (hc3.mono hbm.size))
              clear hc3
              go_wp2_with fail
              refine (same_any x3 _ u1.heap.size bm _ _ _ _ HQ3.out.own HMT4.out rfl rfl rfl).mono ?_
              rintro e x4 ⟨rfl, hc4⟩
              have HX4 := Lib.hid (HX3.out.trans (hc4.mono HX3.out.size))
              clear hc4
              go_wp2_with fail
              refine (write_nil x4 _ _).mono ?_
              rintro e x5 ⟨rfl, rfl⟩
              go_wp2_with fail
              refine (sync_nil x4).mono ?_
              rintro e x6 ⟨rfl, rfl⟩
              go_wp2_with fail
              refine (down_nil x4).mono ?_
              rintro e x7 ⟨rfl, rfl⟩
              go_wp2_with fail
              refine (room_nil x4).mono ?_
              rintro e x8 ⟨rfl, rfl⟩
              go_wp2_with fail
              refine (clone_nil x4).mono ?_
              rintro e x9 ⟨rfl, rfl⟩
              go_wp2_with fail
              refine (crash_nil' _ _ _ _).mono ?_
              rintro e x10 ⟨rfl, hd10, hc10⟩
              have HX10 := Lib.hid ((HX4.out.alloc HX4.out.size (.cells #[.bool true] 4)).trans (hc10.mono (HX4.out.alloc HX4.out.size _).size))
              rw [show (x4.alloc (.cells #[.bool true] 4)).heap.size = x4.heap.size + 1 by simp] at hd10
              have HD10 := Lib.hid hd10
              clear hd10 hc10
              go_wp2_with fail
              refine HD10.out.mono ?_
              rintro e x11 ⟨rfl, nn, rfl⟩
              go_wp2_with fail
              refine (names_nilD _).mono ?_
              rintro e x12 ⟨rfl, rfl⟩
              go_wp2
              go_ret
              exact ⟨rfl, ⟨HX10.out.os, HX10.out.tape, HX10.out.output, HX10.out.size, HX10.out.block⟩⟩

end Go.Proofs.Ytecegjdnodcamaa
