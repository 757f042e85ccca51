/-
  The walk of DiskCrashes.
-/
import Derived.Test.YtecegjdnodcamaaSyncsWalk
namespace Go.Proofs.Ytecegjdnodcamaa
open Go.RowKit Go.Maps Go.Sort

/-- what the outer loop knows: behind so many rounds -/
def CRel (w : World) (n bq : Nat) (Q : List Value) (kk bd bm : Nat) (wr : World) : Prop :=
  ∃ S, Pair n (fun k => k = bq) wr bd bm S S ∧ S.wt ≤ 4000 * kk ∧ S.cnt ≤ 40 * kk ∧ Below w.heap.size w wr ∧ n ≤ wr.heap.size ∧ Blk wr bq Q 22
/-- what the inner loop knows -/
def CIn (w : World) (n bq : Nat) (Q : List Value) (kk j bd bm : Nat) (wr : World) : Prop :=
  ∃ S, Pair n (fun k => k = bq) wr bd bm S S ∧ S.wt ≤ 4000 * kk + 100 * j ∧ S.cnt ≤ 40 * kk + j ∧ Below w.heap.size w wr ∧ n ≤ wr.heap.size ∧ Blk wr bq Q 22

theorem crS_bounds (S : DS) (h : S.ok) (ks : List Bool) : (crS S ks).wt ≤ S.wt ∧ (crS S ks).cnt ≤ S.cnt := by
  obtain ⟨g1, g2, g3⟩ := CMid.bound h ks S.ch.length (Nat.le_refl _)
  rw [List.take_length] at g1 g2 g3
  constructor
  · show tot (apps S.safe (kept S.ch ks)) + 0 ≤ tot S.safe + wt S.ch
    omega
  · show Maps.size (apps S.safe (kept S.ch ks)) + 0 ≤ Maps.size S.safe + S.ch.length
    omega

theorem crS_twice (S : DS) (ks : List Bool) : crS (crS S ks) [] = crS S ks := by
  unfold crS
  simp [kept, apps]

/-- the pair behind a Crash -/
theorem crash_pair {n bq bs b' b1 bm1 : Nat} {y0 y1 x : World} {S' : DS} (hD : DAt x b1 (fun k => y0.heap.size ≤ k ∧ k < y1.heap.size) S') (hM : MAt x bm1 (fun k => k = bm1 ∨ k = b') S') (hn : n ≤ y0.heap.size) (hbq : bq < y0.heap.size)
    (h1 : y1.heap.size ≤ bm1) (h2 : (b' = bs ∧ n ≤ bs ∧ bs < y0.heap.size ∧ bs ≠ bq) ∨ y1.heap.size ≤ b') (h3 : bm1 < x.heap.size) (h4 : b' < x.heap.size) (_h5 : y1.heap.size ≤ x.heap.size) (h6 : y0.heap.size ≤ y1.heap.size) : Pair n (fun k => k = bq) x b1 bm1 S' S' := by
  refine ⟨_, _, hD, hM, ?_, ?_, ?_⟩
  · rintro k ⟨e1, e2⟩
    exact ⟨by omega, by omega, by omega⟩
  · rintro k (e | e)
    · subst e; exact ⟨by omega, h3, by omega⟩
    · subst e
      rcases h2 with ⟨g1, g2, g3, g4⟩ | g
      · exact ⟨by omega, h4, by omega⟩
      · exact ⟨by omega, h4, by omega⟩
  · rintro k ⟨e1, e2⟩ (e | e)
    · omega
    · rcases h2 with ⟨g1, g2, g3, g4⟩ | g <;> omega

theorem ex2lt {w : World} {a b : Nat} {ca cb : List Value} {ta tb : TypeId} (h1 : Blk w a ca ta) (h2 : Blk w b cb tb) : ∀ k, k = a ∨ k = b → k < w.heap.size := by
  rintro k (e | e)
  · rw [e]; exact h1.lt
  · rw [e]; exact h2.lt

set_option maxHeartbeats 25600000 in
set_option maxRecDepth 100000 in
theorem diskCrashes_main (w : World) (room : Int) (A A3 B B4 : Option Addr) (c c3 d d4 : Nat) (l l3 : List ActD) (ks ks4 : List Bool) (hA : AArg w A l) (hA3 : AArg w A3 l3) (hB : BArg w B ks) (hB4 : BArg w B4 ks4)
    (hf : fewB l = true) (hf3 : fewB l3 = true) (hN : ∀ a ∈ l, a.N ≤ 9223372036854775807) (hN3 : ∀ a ∈ l3, a.N ≤ 9223372036854775807) (hk60 : ks.length ≤ 60) (hk604 : ks4.length ≤ 60) :
    Calls Try.prog 4 #[.int .i64 room, .slice A l.length c, .slice B ks.length d, .slice A3 l3.length c3, .slice B4 ks4.length d4] w fun e w' => e = .returned (.bool true) ∧ Below w.heap.size w w' := by
  obtain ⟨hl40, hsm⟩ := few_small hf hN
  obtain ⟨hl403, hsm3⟩ := few_small hf3 hN3
  have HF := Lib.hid (fun u (hb : Below w.heap.size w u) => few_any l A c u (hA.keep hb) (by unfold maxLen; omega))
  have HF3 := Lib.hid (fun u (hb : Below w.heap.size w u) => few_any l3 A3 c3 u (hA3.keep hb) (by unfold maxLen; omega))
  rw [hf] at HF
  rw [hf3] at HF3
  have d1 : decide ((60 : Int) < (ks.length : Int)) = false := decide_eq_false (by omega)
  have d2 : decide ((60 : Int) < (ks4.length : Int)) = false := decide_eq_false (by omega)
  have HSM := Lib.hid hsm
  have HSM3 := Lib.hid hsm3
  have HA := Lib.hid hA
  have HA3 := Lib.hid hA3
  have HB := Lib.hid hB
  have HB4 := Lib.hid hB4
  clear hf hf3 hN hN3 hsm hsm3 hA hA3 hB hB4
  go_enter Try.func4, Try.ntmps4
  go_wp2_with fail
  refine (head_any w).mono ?_
  rintro e u0 ⟨rfl, hb0⟩
  go_wp2_with fail
  refine (HF.out u0 hb0).mono ?_
  rintro e u0b ⟨rfl, hb0b⟩
  have hb00 := hb0.trans (hb0b.mono hb0.size)
  go_wp2_with fail
  refine (HF3.out u0b hb00).mono ?_
  rintro e u1 ⟨rfl, hb1⟩
  have hb01 := hb00.trans (hb1.mono hb00.size)
  go_wp2_with fail
  refine (new_any room u1).mono ?_
  rintro e u2 ⟨rfl, o2, hb2, hz2'⟩
  have HZ2 := Lib.hid hz2'
  clear hz2'
  go_wp2_with fail
  refine (mnew_any room u2).mono ?_
  rintro e u3 ⟨bm0, rfl, m3, hb3⟩
  have HP3 := Lib.hid (pair_new o2 HZ2.out m3 hb3)
  have HB3 := Lib.hid ((hb01.trans (hb2.mono hb01.size)).trans (hb3.mono (Nat.le_trans hb01.size hb2.size)))
  have hs3 : u1.heap.size ≤ u3.heap.size := Nat.le_trans hb2.size hb3.size
  have hs01 := hb01.size
  clear o2 m3 hb3 hb2 hb1 hb0 hb01 hb0b hb00
  obtain ⟨Q, HQ⟩ : ∃ Q : List Value, Hid (Q = [.slice A l.length c, .slice A3 l3.length c3]) := ⟨_, Lib.hid rfl⟩
  have HR0 : Hid (CRel w u1.heap.size u3.heap.size Q 0 u1.heap.size bm0 (u3.alloc (.cells #[.slice A l.length c, .slice A3 l3.length c3] 22))) := Lib.hid
    ⟨newS room, HP3.out.bar _, by show tot (.map []) + 0 ≤ _; exact Nat.le_refl _, by show 0 + 0 ≤ _; omega, HB3.out.alloc HB3.out.size _, by simp; omega, by rw [HQ.out]; exact (MapKept.heap_alloc u3 _).1⟩
  go_wp2
  go_loopw [11, 12, 49] (fun vd vm i wr => ∃ (kk bd bm : Nat) (z : Int), i = .int .i64 z ∧ z = (kk : Int) ∧ kk ≤ 2 ∧ vd = .pointer (some ⟨bd, 0, none⟩) ∧ vm = .pointer (some ⟨bm, 0, none⟩) ∧ CRel w u1.heap.size u3.heap.size Q kk bd bm wr) (fun _ _ i _ => 2 - (intOf i).toNat)
  case atStart => exact ⟨0, u1.heap.size, bm0, 0, rfl, rfl, by omega, rfl, rfl, HR0.out⟩
  case round =>
    obtain ⟨kk, bd, bm, z, rfl, hz, hkk, rfl, rfl, hrel⟩ := hrel
    obtain ⟨wq, hwq⟩ : ∃ wq, wq = wr := ⟨wr, rfl⟩
    subst hwq
    obtain ⟨S0, hP0, hwt0, hct0, hbel0, hnk0, hbq0⟩ := hrel
    have HP0 := Lib.hid hP0
    have HBQ0 := Lib.hid hbq0
    have hbq0' := hbq0
    rw [HQ.out] at hbq0'
    have t0 : wq.cell? ⟨u3.heap.size, 0, none⟩ = some (.slice A l.length c) := hbq0'.cell 0
    have t1 : wq.cell? ⟨u3.heap.size, 1, none⟩ = some (.slice A3 l3.length c3) := hbq0'.cell 1
    clear hP0 hbq0 hbq0' HR0 HP3
    have hk3 : kk = 0 ∨ kk = 1 ∨ kk = 2 := by omega
    rcases hk3 with rfl | rfl | rfl
    · obtain rfl : z = 0 := by omega
      clear hz hkk
      have HCI0 : Hid (CIn w u1.heap.size u3.heap.size Q 0 0 bd bm wq) := Lib.hid ⟨S0, HP0.out, by omega, by omega, hbel0, hnk0, HBQ0.out⟩
      go_wp2
      go_loopw [56] (fun i wr => ∃ j : Nat, i = .int .i64 j ∧ j ≤ l.length ∧ CIn w u1.heap.size u3.heap.size Q 0 j bd bm wr) (fun i _ => l.length - (intOf i).toNat)
      case atStart => exact ⟨0, rfl, by omega, HCI0.out⟩
      case round =>
        obtain ⟨j, rfl, hj, S, hP, hwt, hct, hbk, hnk, hbq⟩ := hrel
        have HPj := Lib.hid hP
        have HBQ := Lib.hid hbq
        clear hP hbq HCI0
        by_cases hjl : j < l.length
        · obtain ⟨ad, hade, c0', c1', c2', c3', c4'⟩ := HA.out.at_ hbk j hjl
          subst hade
          obtain ⟨a, HAa⟩ : ∃ a, Hid (a = l[j]) := ⟨_, Lib.hid rfl⟩
          rw [← HAa.out] at c0' c1' c2' c3' c4'
          have hsa : a.small := by rw [HAa.out]; exact HSM.out _ (List.getElem_mem hjl)
          have HP := Lib.hid (HPj.out.bar' (.cells #[.int .i64 a.K, .int .i64 a.N, .string a.name, .string a.to_, .string a.text] 30)).drew
          have HBx : Hid (Blk ((wr.alloc (.cells #[.int .i64 a.K, .int .i64 a.N, .string a.name, .string a.to_, .string a.text] 30)).drew) wr.heap.size (actL a) 30) := Lib.hid (MapKept.heap_alloc wr _).1
          have HM0 : Hid (Mods (May u1.heap.size (fun k => k = u3.heap.size ∨ k = wr.heap.size)) wr ((wr.alloc (.cells #[.int .i64 a.K, .int .i64 a.N, .string a.name, .string a.to_, .string a.text] 30)).drew)) := Lib.hid ((Mods.refl _ wr).alloc _).drew
          have HBQd : Hid (Blk ((wr.alloc (.cells #[.int .i64 a.K, .int .i64 a.N, .string a.name, .string a.to_, .string a.text] 30)).drew) u3.heap.size Q 22) := Lib.hid (HBQ.out.keep (fp := fun _ => False) ((Mods.refl _ wr).alloc _).drew id)
          have HNX1 : Hid (u1.heap.size ≤ ((wr.alloc (.cells #[.int .i64 a.K, .int .i64 a.N, .string a.name, .string a.to_, .string a.text] 30)).drew).heap.size) := Lib.hid (by simp; omega)
          have HNX2 : Hid (∀ k, k = u3.heap.size ∨ k = wr.heap.size → k < ((wr.alloc (.cells #[.int .i64 a.K, .int .i64 a.N, .string a.name, .string a.to_, .string a.text] 30)).drew).heap.size) := Lib.hid (by
            rintro k (e | e)
            · rw [e]; exact HBQd.out.lt
            · rw [e]; exact HBx.out.lt)
          have HBD := Lib.hid (doS_bounds S HPj.out.own.ok a hsa)
          have HW1 : Hid (S.wt + 100 ≤ 1099511627776) := Lib.hid (by omega)
          have HW2 : Hid (S.cnt + 1 ≤ 500000) := Lib.hid (by omega)
          have hne : (((doS S a).1 : Int) != ((doS S a).1 : Int)) = false := by simp
          go_wp2
          go_region_held3 (fun w' => w'.cell? ⟨wr.heap.size, 0, none⟩ = some (.int .i64 a.K) ∧ w'.cell? ⟨wr.heap.size, 1, none⟩ = some (.int .i64 a.N) ∧ w'.cell? ⟨wr.heap.size, 2, none⟩ = some (.string a.name) ∧ w'.cell? ⟨wr.heap.size, 3, none⟩ = some (.string a.to_) ∧ w'.cell? ⟨wr.heap.size, 4, none⟩ = some (.string a.text))
            (first | go_keep | exact cells5 HB2.out | exact cells5 HB3.out)
            (first
              | ((with_reducible refine (pair_play' HP.out HNX1.out HNX2.out a hsa HW1.out HW2.out).mono ?_); rintro e w2 ⟨rfl, hp2, hm2⟩; have HB2 := Lib.hid (HBx.out.keep hm2 (fun e => e.2 (.inr rfl))); have HBQ2 := Lib.hid (HBQd.out.keep hm2 (fun e => e.2 (.inl rfl))); have HP2 := Lib.hid hp2; have HM2 := Lib.hid (May.trans HM0.out hm2); clear hp2 hm2)
              | ((with_reducible refine (pair_do' HP2.out (Nat.le_trans hnk HM2.out.size) (ex2lt HBQ2.out HB2.out) a hsa HW1.out HW2.out).mono ?_); rintro e w3 ⟨rfl, hp3, hm3⟩; have HB3 := Lib.hid (HB2.out.keep hm3 (fun e => e.2 (.inr rfl))); have HBQ3 := Lib.hid (HBQ2.out.keep hm3 (fun e => e.2 (.inl rfl))); have HP3 := Lib.hid hp3; have HM3 := Lib.hid (May.trans HM2.out hm3); clear hp3 hm3))
          have HRn : Hid (CIn w u1.heap.size u3.heap.size Q 0 (j + 1) bd bm w3) := Lib.hid
            ⟨(doS S a).2, HP3.out.less (fun k e => .inl (.inl e)), by have := HBD.out.1; omega, by have := HBD.out.2; omega, hbk.trans (May.below HM3.out hs01 hnk), Nat.le_trans hnk HM3.out.size, HBQ3.out⟩
          go_wp2
          go_roundw
          case rel => exact ⟨j + 1, by go_num, by omega, HRn.out⟩
          case measure => simp [intOf]; omega
        · obtain ⟨y0, hy0⟩ : ∃ y0, y0 = wr := ⟨wr, rfl⟩
          subst hy0
          obtain ⟨fd, fm, hD, ⟨bs, sv, l', hMV, hfm⟩, h3, h4, h5⟩ := HPj.out
          have HMV := Lib.hid hMV
          have HOKS := Lib.hid hMV.ok
          have HBSF : Hid (u1.heap.size ≤ bs ∧ bs < y0.heap.size ∧ bs ≠ u3.heap.size) := Lib.hid (h4 bs (hfm bs (.inr (.inl rfl))))
          obtain ⟨yA, HYA⟩ : ∃ yA, Hid (yA = y0.alloc (.cells #[.slice B ks.length d, .slice B4 ks4.length d4] 43)) := ⟨_, Lib.hid rfl⟩
          have HBYA : Hid (Below y0.heap.size y0 yA) := Lib.hid (by rw [HYA.out]; exact (Below.refl _ y0).alloc (Nat.le_refl _) _)
          have HWYA := Lib.hid (hbk.trans (HBYA.out.mono hbk.size))
          have HBAR := Lib.hid (HB.out.keep HWYA.out)
          have HCR := Lib.hid (crash_any yA bd fd S (hD.below HBYA.out) B d ks HBAR.out (by unfold maxLen; omega))
          have HZA : Hid (yA.heap.size = y0.heap.size + 1) := Lib.hid (by rw [HYA.out]; simp)
          have hbqlt : u3.heap.size < y0.heap.size := HBQ.out.lt
          clear hD hMV hfm h3 h4 h5
          go_wp2_with fail
          rw [← HYA.out]
          refine HCR.out.mono ?_
          rintro e y1 ⟨b1, rfl, hb1g, hD1, hc1⟩
          have HD1 := Lib.hid hD1
          have HB01 : Hid (Below y0.heap.size y0 y1) := Lib.hid (HBYA.out.trans (hc1.mono HBYA.out.size))
          have HMV1 := Lib.hid (HMV.out.keep (fq := fun _ => False) (Mods.of_below HB01.out) (fun _ _ => id))
          have k0 : y1.cell? ⟨bm, 0, none⟩ = some (.map (some bs)) := HMV1.out.blk.cell 0
          have k1 : y1.cell? ⟨bm, 1, none⟩ = some sv := HMV1.out.blk.cell 1
          obtain ⟨Bs, cap, HV, HV2⟩ : ∃ Bs cap, Hid (sv = .slice Bs l'.length cap) ∧ Hid (0 < l'.length → ∃ g, Bs = some ⟨g, 0, none⟩) := by
            rcases HMV1.out.row.2 with ⟨e, h0⟩ | ⟨g, cap, cur, e, _⟩
            · exact ⟨none, 0, Lib.hid (by rw [e, h0]), Lib.hid (by omega)⟩
            · exact ⟨some ⟨g, 0, none⟩, cap, Lib.hid e, Lib.hid (fun _ => ⟨g, rfl⟩)⟩
          have HCL : Hid (S.ch.length = l'.length) := Lib.hid (by rw [← HMV.out.ch, List.length_map])
          have hll : l'.length ≤ 500000 := by have := HCL.out; have := HOKS.out.cnt; unfold DS.cnt at this; omega
          have hszy1 : y0.heap.size ≤ y1.heap.size := HB01.out.size
          rw [HV.out] at k1
          clear hD1
          go_wp2
          go_loopw [18, 86] (fun o i wr => ∃ (j b' : Nat), i = .int .i64 j ∧ j ≤ l'.length ∧ o = .map (some b') ∧ MF wr b' (apps S.safe (kept (S.ch.take j) ks)) ∧ (b' = bs ∨ y1.heap.size ≤ b') ∧ Below y1.heap.size y1 wr) (fun _ i _ => l'.length - (intOf i).toNat)
          case atStart => exact ⟨0, bs, rfl, by omega, rfl, HMV1.out.safe, .inl rfl, Below.refl _ _⟩
          case round =>
            obtain ⟨m, b', rfl, hm, rfl, hMF, hb', hbel⟩ := hrel
            have HMF := Lib.hid hMF
            have HBB := Lib.hid hb'
            clear hMF hb'
            have hbely0 : Below y0.heap.size y0 wr := HB01.out.trans (hbel.mono HB01.out.size)
            have HBW : Hid (Below w.heap.size w wr) := Lib.hid (hbk.trans (hbely0.mono hbk.size))
            by_cases hml : m < l'.length
            · obtain ⟨g, hge⟩ := HV2.out (by omega)
              subst hge
              have hrow := row_keep5 (fp := fun _ => False) HMV1.out.row (Mods.of_below hbel) (fun _ _ => id)
              rw [HV.out] at hrow
              have e0 := row_cells5 hrow m hml 0 (by omega)
              have e1 := row_cells5 hrow m hml 1 (by omega)
              have e2 := row_cells5 hrow m hml 2 (by omega)
              have e3 := row_cells5 hrow m hml 3 (by omega)
              have e4 := row_cells5 hrow m hml 4 (by omega)
              obtain ⟨a, HCK⟩ : ∃ a, Hid (a = l'[m]) := ⟨_, Lib.hid rfl⟩
              rw [← HCK.out] at e0 e1 e2 e3 e4
              simp only [actL, List.getElem?_cons_zero, List.getElem?_cons_succ, Nat.add_zero] at e0 e1 e2 e3 e4
              have hdone := HMV1.out.acts l'[m] (List.getElem_mem hml)
              rw [← HCK.out] at hdone
              have hmc : m < S.ch.length := by have := HCL.out; omega
              have HTC : Hid (S.ch[m]'hmc = toChg a) := Lib.hid (by
                rw [HCK.out]
                have : S.ch[m]'hmc = (l'.map toChg)[m]'(by simpa using hml) := by congr 1; exact HMV.out.ch.symm
                rw [this, List.getElem_map])
              have HKT := Lib.hid (kept_take S.ch ks m hmc)
              obtain ⟨g1, g2, g3⟩ := CMid.bound HOKS.out ks m (by omega)
              have HG1 := Lib.hid g1
              have HG3 : Hid (Maps.size (apps S.safe (kept (S.ch.take m) ks)) < 900000) := Lib.hid (by have := HOKS.out.cnt; unfold DS.cnt at this; omega)
              have HX : Hid (∀ (p : Addr) (v : Value), wr.cell? p = some v → (wr.alloc (.cells #[.int .i64 a.K, .int .i64 a.N, .string a.name, .string a.to_, .string a.text] 30)).cell? p = some v) := Lib.hid (fun p v hp => (((Below.refl _ wr).alloc (Nat.le_refl _) _).cell (block_lt_of_cell hp)).trans hp)
              clear hrow g1 g2 g3
              by_cases hkm : m < ks.length
              · obtain ⟨bb, hbbe, hkc⟩ := HB.out.at_ HBW.out m hkm
                subst hbbe
                cases hkv : ks[m]
                · rw [hkv] at hkc
                  have hkc' := HX.out _ _ hkc
                  have HG : Hid (ks.getD m false = false) := Lib.hid (by simp [List.getD, List.getElem?_eq_getElem hkm, hkv])
                  clear hkv
                  go_wp2
                  go_roundw
                  case rel => exact ⟨m + 1, b', by go_num, by omega, rfl, by rw [HKT.out, HG.out]; exact HMF.out.keep (fp := fun _ => False) ((Mods.refl _ wr).alloc _) id, HBB.out, hbel.alloc hbel.size _⟩
                  case measure => simp [intOf]; omega
                · rw [hkv] at hkc
                  have hkc' := HX.out _ _ hkc
                  have HG : Hid (ks.getD m false = true) := Lib.hid (by simp [List.getD, List.getElem?_eq_getElem hkm, hkv])
                  clear hkv
                  go_wp2_with fail
                  refine (turn_any _ b' _ (HMF.out.keep (fp := fun _ => False) ((Mods.refl _ wr).alloc _) id) HG1.out HG3.out a hdone.1).mono ?_
                  rintro e w2 ⟨b2, rfl, hM2, hb2, hbel2⟩
                  have HM2 : Hid (MF w2 b2 (apps S.safe (kept (S.ch.take (m + 1)) ks))) := Lib.hid (by
                    rw [HKT.out, HG.out, if_pos rfl, apps_snoc, HTC.out, ← actD_done _ _ hdone]
                    exact hM2)
                  have hbz := hbel.size
                  clear hM2
                  go_wp2
                  go_roundw
                  case rel => exact ⟨m + 1, b2, by go_num, by omega, rfl, HM2.out, .inr (by simp at hb2; omega), (hbel.alloc hbz _).trans (hbel2.mono (by simp; omega))⟩
                  case measure => simp [intOf]; omega
              · have HG : Hid (ks.getD m false = false) := Lib.hid (by simp [List.getD, List.getElem?_eq_none (Nat.le_of_not_lt hkm)])
                go_wp2
                go_roundw
                case rel => exact ⟨m + 1, b', by go_num, by omega, rfl, by rw [HKT.out, HG.out]; exact HMF.out.keep (fp := fun _ => False) ((Mods.refl _ wr).alloc _) id, HBB.out, hbel.alloc hbel.size _⟩
                case measure => simp [intOf]; omega
            · have HMFe : Hid (MF wr b' (apps S.safe (kept S.ch ks))) := Lib.hid (by
                have := HMF.out
                rw [List.take_of_length_le (by have := HCL.out; omega)] at this
                exact this)
              have k2 : wr.cell? ⟨bm, 2, none⟩ = some (.int .i64 (S.room : Int)) := (HMV1.out.blk.keep (fp := fun _ => False) (Mods.of_below hbel) id).cell 2
              obtain ⟨x4, HX4⟩ : ∃ x4, Hid (x4 = wr.alloc (.cells #[.map (some b'), .slice none 0 0, .int .i64 (S.room : Int), .int .i64 (-1), .bool false] 41)) := ⟨_, Lib.hid rfl⟩
              have HBX4 : Hid (Below wr.heap.size wr x4) := Lib.hid (by rw [HX4.out]; exact (Below.refl _ wr).alloc (Nat.le_refl _) _)
              have HZ4 : Hid (x4.heap.size = wr.heap.size + 1) := Lib.hid (by rw [HX4.out]; simp)
              have HOKC : Hid (crS S ks).ok := Lib.hid HD1.out.ok
              have HMT : Hid (MAt x4 wr.heap.size (fun k => k = wr.heap.size ∨ k = b') (crS S ks)) := Lib.hid (by rw [HX4.out]; exact mat_still HMFe.out HOKC.out)
              have HD4 := Lib.hid (HD1.out.below (hbel.trans (HBX4.out.mono hbel.size)))
              have hszr : y1.heap.size ≤ wr.heap.size := hbel.size
              have HBLT : Hid (b' < wr.heap.size) := Lib.hid HMFe.out.lt
              have HPR : Hid (Pair u1.heap.size (fun k => k = u3.heap.size) x4 b1 wr.heap.size (crS S ks) (crS S ks)) := Lib.hid (crash_pair (bs := bs) (y0 := yA) HD4.out HMT.out (by have := HZA.out; omega) (by have := HZA.out; omega) hszr (HBB.out.imp (fun e => ⟨e, HBSF.out.1, by have := HBSF.out.2.1; have := HZA.out; omega, HBSF.out.2.2⟩) id) (by have := HZ4.out; omega) (by have := HZ4.out; have := HBLT.out; omega) (by have := HZ4.out; omega) (by have := hc1.size; omega))
              have HWX4 := Lib.hid (HBW.out.trans (HBX4.out.mono HBW.out.size))
              have HBQ4 : Hid (Blk x4 u3.heap.size Q 22) := Lib.hid ((HBQ.out.keep (fp := fun _ => False) (Mods.of_below hbely0) id).keep (fp := fun _ => False) (Mods.of_below HBX4.out) id)
              have HCB := Lib.hid (crS_bounds S HOKS.out ks)
              have HC2 : Hid (crS (crS S ks) [] = crS S ks) := Lib.hid (crS_twice S ks)
              have hx4n : u1.heap.size ≤ x4.heap.size := by have := HZ4.out; omega
              clear hbely0
              go_wp2_with fail
              rw [← HX4.out]
              refine (same_any x4 _ b1 wr.heap.size _ _ _ _ HPR.out.own HMT.out rfl rfl rfl).mono ?_
              rintro e x5 ⟨rfl, hc5⟩
              have HP5 := Lib.hid (HPR.out.below hc5)
              have HMT5 := Lib.hid (HMT.out.below hc5)
              have HW5 := Lib.hid (HWX4.out.trans (hc5.mono HWX4.out.size))
              have HBQ5 := Lib.hid (HBQ4.out.keep (fp := fun _ => False) (Mods.of_below hc5) id)
              have hx5 : x4.heap.size ≤ x5.heap.size := hc5.size
              clear hc5
              go_wp2_with fail
              refine (crash_dat x5 b1 _ _ HP5.out.own.choose_spec.1 none 0 [] (.inl rfl) (by simp) 0 rfl).mono ?_
              rintro e x6 ⟨b6, rfl, p6, hc6⟩
              rw [HC2.out] at p6
              have P6 := Lib.hid p6
              have HP6 := Lib.hid (HP5.out.below hc6)
              have HMT6 := Lib.hid (HMT5.out.below hc6)
              have HW6 := Lib.hid (HW5.out.trans (hc6.mono HW5.out.size))
              have HBQ6 := Lib.hid (HBQ5.out.keep (fp := fun _ => False) (Mods.of_below hc6) id)
              have hx6 : x5.heap.size ≤ x6.heap.size := hc6.size
              clear p6 hc6
              go_wp2_with fail
              refine (same_any x6 0 b6 wr.heap.size _ _ _ _ P6.out HMT6.out rfl rfl rfl).mono ?_
              rintro e x7 ⟨rfl, hc7⟩
              have HRn : Hid (CRel w u1.heap.size u3.heap.size Q 1 b1 wr.heap.size x7) := Lib.hid
                ⟨crS S ks, HP6.out.below hc7, by have := HCB.out.1; omega, by have := HCB.out.2; omega, HW6.out.trans (hc7.mono HW6.out.size), by have := hc7.size; omega, HBQ6.out.keep (fp := fun _ => False) (Mods.of_below hc7) id⟩
              clear hc7
              go_wp2
              go_roundw
              case rel => exact ⟨1, b1, wr.heap.size, _, rfl, by decide, by omega, rfl, rfl, HRn.out⟩
              case measure => simp [intOf]
    · obtain rfl : z = 1 := by omega
      clear hz hkk
      have HCI0 : Hid (CIn w u1.heap.size u3.heap.size Q 1 0 bd bm wq) := Lib.hid ⟨S0, HP0.out, by omega, by omega, hbel0, hnk0, HBQ0.out⟩
      go_wp2
      go_loopw [56] (fun i wr => ∃ j : Nat, i = .int .i64 j ∧ j ≤ l3.length ∧ CIn w u1.heap.size u3.heap.size Q 1 j bd bm wr) (fun i _ => l3.length - (intOf i).toNat)
      case atStart => exact ⟨0, rfl, by omega, HCI0.out⟩
      case round =>
        obtain ⟨j, rfl, hj, S, hP, hwt, hct, hbk, hnk, hbq⟩ := hrel
        have HPj := Lib.hid hP
        have HBQ := Lib.hid hbq
        clear hP hbq HCI0
        by_cases hjl : j < l3.length
        · obtain ⟨ad, hade, c0', c1', c2', c3', c4'⟩ := HA3.out.at_ hbk j hjl
          subst hade
          obtain ⟨a, HAa⟩ : ∃ a, Hid (a = l3[j]) := ⟨_, Lib.hid rfl⟩
          rw [← HAa.out] at c0' c1' c2' c3' c4'
          have hsa : a.small := by rw [HAa.out]; exact HSM3.out _ (List.getElem_mem hjl)
          have HP := Lib.hid (HPj.out.bar' (.cells #[.int .i64 a.K, .int .i64 a.N, .string a.name, .string a.to_, .string a.text] 30)).drew
          have HBx : Hid (Blk ((wr.alloc (.cells #[.int .i64 a.K, .int .i64 a.N, .string a.name, .string a.to_, .string a.text] 30)).drew) wr.heap.size (actL a) 30) := Lib.hid (MapKept.heap_alloc wr _).1
          have HM0 : Hid (Mods (May u1.heap.size (fun k => k = u3.heap.size ∨ k = wr.heap.size)) wr ((wr.alloc (.cells #[.int .i64 a.K, .int .i64 a.N, .string a.name, .string a.to_, .string a.text] 30)).drew)) := Lib.hid ((Mods.refl _ wr).alloc _).drew
          have HBQd : Hid (Blk ((wr.alloc (.cells #[.int .i64 a.K, .int .i64 a.N, .string a.name, .string a.to_, .string a.text] 30)).drew) u3.heap.size Q 22) := Lib.hid (HBQ.out.keep (fp := fun _ => False) ((Mods.refl _ wr).alloc _).drew id)
          have HNX1 : Hid (u1.heap.size ≤ ((wr.alloc (.cells #[.int .i64 a.K, .int .i64 a.N, .string a.name, .string a.to_, .string a.text] 30)).drew).heap.size) := Lib.hid (by simp; omega)
          have HNX2 : Hid (∀ k, k = u3.heap.size ∨ k = wr.heap.size → k < ((wr.alloc (.cells #[.int .i64 a.K, .int .i64 a.N, .string a.name, .string a.to_, .string a.text] 30)).drew).heap.size) := Lib.hid (by
            rintro k (e | e)
            · rw [e]; exact HBQd.out.lt
            · rw [e]; exact HBx.out.lt)
          have HBD := Lib.hid (doS_bounds S HPj.out.own.ok a hsa)
          have HW1 : Hid (S.wt + 100 ≤ 1099511627776) := Lib.hid (by omega)
          have HW2 : Hid (S.cnt + 1 ≤ 500000) := Lib.hid (by omega)
          have hne : (((doS S a).1 : Int) != ((doS S a).1 : Int)) = false := by simp
          go_wp2
          go_region_held3 (fun w' => w'.cell? ⟨wr.heap.size, 0, none⟩ = some (.int .i64 a.K) ∧ w'.cell? ⟨wr.heap.size, 1, none⟩ = some (.int .i64 a.N) ∧ w'.cell? ⟨wr.heap.size, 2, none⟩ = some (.string a.name) ∧ w'.cell? ⟨wr.heap.size, 3, none⟩ = some (.string a.to_) ∧ w'.cell? ⟨wr.heap.size, 4, none⟩ = some (.string a.text))
            (first | go_keep | exact cells5 HB2.out | exact cells5 HB3.out)
            (first
              | ((with_reducible refine (pair_play' HP.out HNX1.out HNX2.out a hsa HW1.out HW2.out).mono ?_); rintro e w2 ⟨rfl, hp2, hm2⟩; have HB2 := Lib.hid (HBx.out.keep hm2 (fun e => e.2 (.inr rfl))); have HBQ2 := Lib.hid (HBQd.out.keep hm2 (fun e => e.2 (.inl rfl))); have HP2 := Lib.hid hp2; have HM2 := Lib.hid (May.trans HM0.out hm2); clear hp2 hm2)
              | ((with_reducible refine (pair_do' HP2.out (Nat.le_trans hnk HM2.out.size) (ex2lt HBQ2.out HB2.out) a hsa HW1.out HW2.out).mono ?_); rintro e w3 ⟨rfl, hp3, hm3⟩; have HB3 := Lib.hid (HB2.out.keep hm3 (fun e => e.2 (.inr rfl))); have HBQ3 := Lib.hid (HBQ2.out.keep hm3 (fun e => e.2 (.inl rfl))); have HP3 := Lib.hid hp3; have HM3 := Lib.hid (May.trans HM2.out hm3); clear hp3 hm3))
          have HRn : Hid (CIn w u1.heap.size u3.heap.size Q 1 (j + 1) bd bm w3) := Lib.hid
            ⟨(doS S a).2, HP3.out.less (fun k e => .inl (.inl e)), by have := HBD.out.1; omega, by have := HBD.out.2; omega, hbk.trans (May.below HM3.out hs01 hnk), Nat.le_trans hnk HM3.out.size, HBQ3.out⟩
          go_wp2
          go_roundw
          case rel => exact ⟨j + 1, by go_num, by omega, HRn.out⟩
          case measure => simp [intOf]; omega
        · obtain ⟨y0, hy0⟩ : ∃ y0, y0 = wr := ⟨wr, rfl⟩
          subst hy0
          obtain ⟨fd, fm, hD, ⟨bs, sv, l', hMV, hfm⟩, h3, h4, h5⟩ := HPj.out
          have HMV := Lib.hid hMV
          have HOKS := Lib.hid hMV.ok
          have HBSF : Hid (u1.heap.size ≤ bs ∧ bs < y0.heap.size ∧ bs ≠ u3.heap.size) := Lib.hid (h4 bs (hfm bs (.inr (.inl rfl))))
          obtain ⟨yA, HYA⟩ : ∃ yA, Hid (yA = y0.alloc (.cells #[.slice B ks.length d, .slice B4 ks4.length d4] 43)) := ⟨_, Lib.hid rfl⟩
          have HBYA : Hid (Below y0.heap.size y0 yA) := Lib.hid (by rw [HYA.out]; exact (Below.refl _ y0).alloc (Nat.le_refl _) _)
          have HWYA := Lib.hid (hbk.trans (HBYA.out.mono hbk.size))
          have HBAR := Lib.hid (HB4.out.keep HWYA.out)
          have HCR := Lib.hid (crash_any yA bd fd S (hD.below HBYA.out) B4 d4 ks4 HBAR.out (by unfold maxLen; omega))
          have HZA : Hid (yA.heap.size = y0.heap.size + 1) := Lib.hid (by rw [HYA.out]; simp)
          have hbqlt : u3.heap.size < y0.heap.size := HBQ.out.lt
          clear hD hMV hfm h3 h4 h5
          go_wp2_with fail
          rw [← HYA.out]
          refine HCR.out.mono ?_
          rintro e y1 ⟨b1, rfl, hb1g, hD1, hc1⟩
          have HD1 := Lib.hid hD1
          have HB01 : Hid (Below y0.heap.size y0 y1) := Lib.hid (HBYA.out.trans (hc1.mono HBYA.out.size))
          have HMV1 := Lib.hid (HMV.out.keep (fq := fun _ => False) (Mods.of_below HB01.out) (fun _ _ => id))
          have k0 : y1.cell? ⟨bm, 0, none⟩ = some (.map (some bs)) := HMV1.out.blk.cell 0
          have k1 : y1.cell? ⟨bm, 1, none⟩ = some sv := HMV1.out.blk.cell 1
          obtain ⟨Bs, cap, HV, HV2⟩ : ∃ Bs cap, Hid (sv = .slice Bs l'.length cap) ∧ Hid (0 < l'.length → ∃ g, Bs = some ⟨g, 0, none⟩) := by
            rcases HMV1.out.row.2 with ⟨e, h0⟩ | ⟨g, cap, cur, e, _⟩
            · exact ⟨none, 0, Lib.hid (by rw [e, h0]), Lib.hid (by omega)⟩
            · exact ⟨some ⟨g, 0, none⟩, cap, Lib.hid e, Lib.hid (fun _ => ⟨g, rfl⟩)⟩
          have HCL : Hid (S.ch.length = l'.length) := Lib.hid (by rw [← HMV.out.ch, List.length_map])
          have hll : l'.length ≤ 500000 := by have := HCL.out; have := HOKS.out.cnt; unfold DS.cnt at this; omega
          have hszy1 : y0.heap.size ≤ y1.heap.size := HB01.out.size
          rw [HV.out] at k1
          clear hD1
          go_wp2
          go_loopw [18, 86] (fun o i wr => ∃ (j b' : Nat), i = .int .i64 j ∧ j ≤ l'.length ∧ o = .map (some b') ∧ MF wr b' (apps S.safe (kept (S.ch.take j) ks4)) ∧ (b' = bs ∨ y1.heap.size ≤ b') ∧ Below y1.heap.size y1 wr) (fun _ i _ => l'.length - (intOf i).toNat)
          case atStart => exact ⟨0, bs, rfl, by omega, rfl, HMV1.out.safe, .inl rfl, Below.refl _ _⟩
          case round =>
            obtain ⟨m, b', rfl, hm, rfl, hMF, hb', hbel⟩ := hrel
            have HMF := Lib.hid hMF
            have HBB := Lib.hid hb'
            clear hMF hb'
            have hbely0 : Below y0.heap.size y0 wr := HB01.out.trans (hbel.mono HB01.out.size)
            have HBW : Hid (Below w.heap.size w wr) := Lib.hid (hbk.trans (hbely0.mono hbk.size))
            by_cases hml : m < l'.length
            · obtain ⟨g, hge⟩ := HV2.out (by omega)
              subst hge
              have hrow := row_keep5 (fp := fun _ => False) HMV1.out.row (Mods.of_below hbel) (fun _ _ => id)
              rw [HV.out] at hrow
              have e0 := row_cells5 hrow m hml 0 (by omega)
              have e1 := row_cells5 hrow m hml 1 (by omega)
              have e2 := row_cells5 hrow m hml 2 (by omega)
              have e3 := row_cells5 hrow m hml 3 (by omega)
              have e4 := row_cells5 hrow m hml 4 (by omega)
              obtain ⟨a, HCK⟩ : ∃ a, Hid (a = l'[m]) := ⟨_, Lib.hid rfl⟩
              rw [← HCK.out] at e0 e1 e2 e3 e4
              simp only [actL, List.getElem?_cons_zero, List.getElem?_cons_succ, Nat.add_zero] at e0 e1 e2 e3 e4
              have hdone := HMV1.out.acts l'[m] (List.getElem_mem hml)
              rw [← HCK.out] at hdone
              have hmc : m < S.ch.length := by have := HCL.out; omega
              have HTC : Hid (S.ch[m]'hmc = toChg a) := Lib.hid (by
                rw [HCK.out]
                have : S.ch[m]'hmc = (l'.map toChg)[m]'(by simpa using hml) := by congr 1; exact HMV.out.ch.symm
                rw [this, List.getElem_map])
              have HKT := Lib.hid (kept_take S.ch ks4 m hmc)
              obtain ⟨g1, g2, g3⟩ := CMid.bound HOKS.out ks4 m (by omega)
              have HG1 := Lib.hid g1
              have HG3 : Hid (Maps.size (apps S.safe (kept (S.ch.take m) ks4)) < 900000) := Lib.hid (by have := HOKS.out.cnt; unfold DS.cnt at this; omega)
              have HX : Hid (∀ (p : Addr) (v : Value), wr.cell? p = some v → (wr.alloc (.cells #[.int .i64 a.K, .int .i64 a.N, .string a.name, .string a.to_, .string a.text] 30)).cell? p = some v) := Lib.hid (fun p v hp => (((Below.refl _ wr).alloc (Nat.le_refl _) _).cell (block_lt_of_cell hp)).trans hp)
              clear hrow g1 g2 g3
              by_cases hkm : m < ks4.length
              · obtain ⟨bb, hbbe, hkc⟩ := HB4.out.at_ HBW.out m hkm
                subst hbbe
                cases hkv : ks4[m]
                · rw [hkv] at hkc
                  have hkc' := HX.out _ _ hkc
                  have HG : Hid (ks4.getD m false = false) := Lib.hid (by simp [List.getD, List.getElem?_eq_getElem hkm, hkv])
                  clear hkv
                  go_wp2
                  go_roundw
                  case rel => exact ⟨m + 1, b', by go_num, by omega, rfl, by rw [HKT.out, HG.out]; exact HMF.out.keep (fp := fun _ => False) ((Mods.refl _ wr).alloc _) id, HBB.out, hbel.alloc hbel.size _⟩
                  case measure => simp [intOf]; omega
                · rw [hkv] at hkc
                  have hkc' := HX.out _ _ hkc
                  have HG : Hid (ks4.getD m false = true) := Lib.hid (by simp [List.getD, List.getElem?_eq_getElem hkm, hkv])
                  clear hkv
                  go_wp2_with fail
                  refine (turn_any _ b' _ (HMF.out.keep (fp := fun _ => False) ((Mods.refl _ wr).alloc _) id) HG1.out HG3.out a hdone.1).mono ?_
                  rintro e w2 ⟨b2, rfl, hM2, hb2, hbel2⟩
                  have HM2 : Hid (MF w2 b2 (apps S.safe (kept (S.ch.take (m + 1)) ks4))) := Lib.hid (by
                    rw [HKT.out, HG.out, if_pos rfl, apps_snoc, HTC.out, ← actD_done _ _ hdone]
                    exact hM2)
                  have hbz := hbel.size
                  clear hM2
                  go_wp2
                  go_roundw
                  case rel => exact ⟨m + 1, b2, by go_num, by omega, rfl, HM2.out, .inr (by simp at hb2; omega), (hbel.alloc hbz _).trans (hbel2.mono (by simp; omega))⟩
                  case measure => simp [intOf]; omega
              · have HG : Hid (ks4.getD m false = false) := Lib.hid (by simp [List.getD, List.getElem?_eq_none (Nat.le_of_not_lt hkm)])
                go_wp2
                go_roundw
                case rel => exact ⟨m + 1, b', by go_num, by omega, rfl, by rw [HKT.out, HG.out]; exact HMF.out.keep (fp := fun _ => False) ((Mods.refl _ wr).alloc _) id, HBB.out, hbel.alloc hbel.size _⟩
                case measure => simp [intOf]; omega
            · have HMFe : Hid (MF wr b' (apps S.safe (kept S.ch ks4))) := Lib.hid (by
                have := HMF.out
                rw [List.take_of_length_le (by have := HCL.out; omega)] at this
                exact this)
              have k2 : wr.cell? ⟨bm, 2, none⟩ = some (.int .i64 (S.room : Int)) := (HMV1.out.blk.keep (fp := fun _ => False) (Mods.of_below hbel) id).cell 2
              obtain ⟨x4, HX4⟩ : ∃ x4, Hid (x4 = wr.alloc (.cells #[.map (some b'), .slice none 0 0, .int .i64 (S.room : Int), .int .i64 (-1), .bool false] 41)) := ⟨_, Lib.hid rfl⟩
              have HBX4 : Hid (Below wr.heap.size wr x4) := Lib.hid (by rw [HX4.out]; exact (Below.refl _ wr).alloc (Nat.le_refl _) _)
              have HZ4 : Hid (x4.heap.size = wr.heap.size + 1) := Lib.hid (by rw [HX4.out]; simp)
              have HOKC : Hid (crS S ks4).ok := Lib.hid HD1.out.ok
              have HMT : Hid (MAt x4 wr.heap.size (fun k => k = wr.heap.size ∨ k = b') (crS S ks4)) := Lib.hid (by rw [HX4.out]; exact mat_still HMFe.out HOKC.out)
              have HD4 := Lib.hid (HD1.out.below (hbel.trans (HBX4.out.mono hbel.size)))
              have hszr : y1.heap.size ≤ wr.heap.size := hbel.size
              have HBLT : Hid (b' < wr.heap.size) := Lib.hid HMFe.out.lt
              have HPR : Hid (Pair u1.heap.size (fun k => k = u3.heap.size) x4 b1 wr.heap.size (crS S ks4) (crS S ks4)) := Lib.hid (crash_pair (bs := bs) (y0 := yA) HD4.out HMT.out (by have := HZA.out; omega) (by have := HZA.out; omega) hszr (HBB.out.imp (fun e => ⟨e, HBSF.out.1, by have := HBSF.out.2.1; have := HZA.out; omega, HBSF.out.2.2⟩) id) (by have := HZ4.out; omega) (by have := HZ4.out; have := HBLT.out; omega) (by have := HZ4.out; omega) (by have := hc1.size; omega))
              have HWX4 := Lib.hid (HBW.out.trans (HBX4.out.mono HBW.out.size))
              have HBQ4 : Hid (Blk x4 u3.heap.size Q 22) := Lib.hid ((HBQ.out.keep (fp := fun _ => False) (Mods.of_below hbely0) id).keep (fp := fun _ => False) (Mods.of_below HBX4.out) id)
              have HCB := Lib.hid (crS_bounds S HOKS.out ks4)
              have HC2 : Hid (crS (crS S ks4) [] = crS S ks4) := Lib.hid (crS_twice S ks4)
              have hx4n : u1.heap.size ≤ x4.heap.size := by have := HZ4.out; omega
              clear hbely0
              go_wp2_with fail
              rw [← HX4.out]
              refine (same_any x4 _ b1 wr.heap.size _ _ _ _ HPR.out.own HMT.out rfl rfl rfl).mono ?_
              rintro e x5 ⟨rfl, hc5⟩
              have HP5 := Lib.hid (HPR.out.below hc5)
              have HMT5 := Lib.hid (HMT.out.below hc5)
              have HW5 := Lib.hid (HWX4.out.trans (hc5.mono HWX4.out.size))
              have HBQ5 := Lib.hid (HBQ4.out.keep (fp := fun _ => False) (Mods.of_below hc5) id)
              have hx5 : x4.heap.size ≤ x5.heap.size := hc5.size
              clear hc5
              go_wp2_with fail
              refine (crash_dat x5 b1 _ _ HP5.out.own.choose_spec.1 none 0 [] (.inl rfl) (by simp) 0 rfl).mono ?_
              rintro e x6 ⟨b6, rfl, p6, hc6⟩
              rw [HC2.out] at p6
              have P6 := Lib.hid p6
              have HP6 := Lib.hid (HP5.out.below hc6)
              have HMT6 := Lib.hid (HMT5.out.below hc6)
              have HW6 := Lib.hid (HW5.out.trans (hc6.mono HW5.out.size))
              have HBQ6 := Lib.hid (HBQ5.out.keep (fp := fun _ => False) (Mods.of_below hc6) id)
              have hx6 : x5.heap.size ≤ x6.heap.size := hc6.size
              clear p6 hc6
              go_wp2_with fail
              refine (same_any x6 0 b6 wr.heap.size _ _ _ _ P6.out HMT6.out rfl rfl rfl).mono ?_
              rintro e x7 ⟨rfl, hc7⟩
              have HRn : Hid (CRel w u1.heap.size u3.heap.size Q 2 b1 wr.heap.size x7) := Lib.hid
                ⟨crS S ks4, HP6.out.below hc7, by have := HCB.out.1; omega, by have := HCB.out.2; omega, HW6.out.trans (hc7.mono HW6.out.size), by have := hc7.size; omega, HBQ6.out.keep (fp := fun _ => False) (Mods.of_below hc7) id⟩
              clear hc7
              go_wp2
              go_roundw
              case rel => exact ⟨2, b1, wr.heap.size, _, rfl, by decide, by omega, rfl, rfl, HRn.out⟩
              case measure => simp [intOf]
    · obtain rfl : z = 2 := by omega
      clear hz hkk
      go_wp2
      go_ret
      exact ⟨rfl, hbel0⟩

end Go.Proofs.Ytecegjdnodcamaa
