/-
  The walk of DiskFalls.
-/
import Derived.Test.YtecegjdnodcamaaSwapsWalk
import Derived.Laws.IdiomStrings
namespace Go.Proofs.Ytecegjdnodcamaa
open Go.RowKit Go.Maps Go.Sort

/-- the name of one byte -/
def nk (j : Nat) : ByteArray := ⟨#[UInt8.ofNat (97 + j)]⟩
theorem nk_inj {i j : Nat} (hi : i < 100) (hj : j < 100) (h : nk i = nk j) : i = j := by
  have := congrArg (fun s : ByteArray => s.data.toList) h
  simp only [nk, List.cons.injEq, and_true] at this
  have := congrArg UInt8.toNat this
  simp only [UInt8.toNat_ofNat'] at this
  omega
theorem nk_size (j : Nat) : (nk j).size = 1 := rfl
theorem nk_ok (j : Nat) : nameOk (nk j) = true := by simp [nameOk, nk_size]
def tX : ByteArray := ⟨#[120]⟩
def wn (j : Nat) : Chg := ⟨0, nk j, tX⟩
def fallD (m : Nat) : Dt := apps (.map []) ((List.range m).map wn)
theorem fallD_succ (m : Nat) : fallD (m + 1) = putF (fallD m) (nk m) tX := by
  unfold fallD
  rw [List.range_succ, List.map_append, List.map_singleton, apps_snoc]
  simp [app, wn]
theorem fallD_good (m : Nat) : Good (fallD m) := good_empty.apps _
theorem fallD_facts (m : Nat) (hm : m ≤ 50) : Maps.size (fallD m) = m ∧ tot (fallD m) = m ∧ ∀ j, m ≤ j → j < 100 → hasF (fallD m) (nk j) = false := by
  induction m with
  | zero => exact ⟨rfl, rfl, fun _ _ _ => rfl⟩
  | succ m ih =>
    obtain ⟨h1, h2, h3⟩ := ih (by omega)
    have h4 := h3 m (Nat.le_refl _) (by omega)
    rw [fallD_succ]
    refine ⟨?_, ?_, ?_⟩
    · have := size_put (k := ky (nk m)) (fallD_good m).tidy (tx tX)
      unfold hasF at h4
      rw [h4] at this
      show Maps.size ((fallD m).put (ky (nk m)) (tx tX)) = m + 1
      rw [this, h1]
      rfl
    · rw [tot_put (fallD_good m)]
      rw [del_of_not h4, h2]
      rfl
    · intro j hj hj2
      rw [has_put_other' (fun e => by have := nk_inj hj2 (by omega) e; omega)]
      exact h3 j (by omega) hj2

def fallS (n i : Nat) : DS := ⟨1000, .map [], (List.range (min i n)).map wn, true, n - i, decide (n < i)⟩
theorem fall_lt (n i : Nat) (h : i < n) (hn : n ≤ 40) : wrS (fallS n i) (nk i) tX = (0, fallS n (i + 1)) := by
  have hm : min i n = i := by omega
  obtain ⟨f1, f2, f3⟩ := fallD_facts i (by omega)
  have ht : turnS (fallS n i) = (true, { fallS n i with left := n - i - 1 }) := by
    unfold turnS fallS
    simp only [show decide (n < i) = false from decide_eq_false (by omega), Bool.false_eq_true, if_false, if_true]
    rw [if_neg (by omega)]
  have hnow : (fallS n i).now = fallD i := by unfold DS.now fallS fallD; rw [hm]
  unfold wrS
  rw [ht, if_neg (by simp), if_neg (by simp [nk_ok]), if_neg]
  · unfold addS fallS
    rw [show min (i + 1) n = i + 1 by omega, hm, List.range_succ, List.map_append]
    simp only [show decide (n < i) = false from decide_eq_false (by omega), show decide (n < i + 1) = false from decide_eq_false (by omega), List.map_singleton]
    rfl
  · rw [hnow, f2]
    show ¬ ((1000 : Nat) : Int) - _ + _ < ((1 : Nat) : Int)
    omega
theorem fall_ge (n i : Nat) (h : n ≤ i) : wrS (fallS n i) (nk i) tX = (8, fallS n (i + 1)) := by
  have ht : turnS (fallS n i) = (false, fallS n (i + 1)) := by
    unfold turnS fallS
    rw [show min (i + 1) n = n by omega, show min i n = n by omega, show n - (i + 1) = 0 by omega, show n - i = 0 by omega, show decide (n < i + 1) = true from decide_eq_true (by omega)]
    by_cases hi : n < i
    · simp [hi]
    · simp [hi]
  unfold wrS
  rw [ht, if_pos rfl]

theorem kept_all (l : List Chg) (m : Nat) (h : l.length ≤ m) : kept l (List.replicate m true) = l := by
  have : ∀ k, k ≤ l.length → kept (l.take k) (List.replicate m true) = l.take k := by
    intro k hk
    induction k with
    | zero => rfl
    | succ k ih =>
      rw [kept_take _ _ _ (by omega), ih (by omega), List.take_succ_eq_append_getElem (by omega)]
      rw [if_pos (by simp [List.getD, show k < m by omega])]
  have := this l.length (Nat.le_refl _)
  rwa [List.take_length] at this
theorem kept_none (l : List Chg) : kept l [] = [] := by
  unfold kept
  simp

theorem conv1 (w : World) (c : Nat) : (convert 58 9 (.slice (some ⟨w.heap.size, 0, none⟩) 1 1)).run Try.prog (w.alloc (.cells #[.int .u8 (c : Int)] 5)) = .ok (.string ⟨#[UInt8.ofNat c]⟩) (w.alloc (.cells #[.int .u8 (c : Int)] 5)) := by
  have hb : Blk (w.alloc (.cells #[.int .u8 (c : Int)] 5)) w.heap.size [.int .u8 (c : Int)] 5 := (MapKept.heap_alloc w _).1
  have := run_convert_bytes_arg (P := Try.prog) (w.alloc (.cells #[.int .u8 (c : Int)] 5)) 58 5 Try.underlying58 Try.underlying5 w.heap.size 0 1 1 [(c : Int)] (by simp) (by
    intro i hi
    have : i = 0 := by omega
    subst this
    exact hb.cell 0) 9 Try.underlying9
  rw [this]
  rfl

theorem fall_small (n k : Nat) (hn : n ≤ 40) : (fallS n k).wt ≤ 100 ∧ (fallS n k).cnt ≤ 100 := by
  have h1 : ∀ m, wt ((List.range m).map wn) = m := by
    intro m
    induction m with
    | zero => rfl
    | succ m ih => rw [List.range_succ, List.map_append, List.map_singleton, wt_snoc, ih]; rfl
  constructor
  · show tot (.map []) + wt ((List.range (min k n)).map wn) ≤ 100
    rw [h1]
    have : tot (.map []) = 0 := rfl
    omega
  · show 0 + ((List.range (min k n)).map wn).length ≤ 100
    simp
    omega
theorem crash_own' (w : World) (n bd : Nat) (S : DS) (h : Own n (fun _ => False) w bd S) (A : Option Addr) (c : Nat) (ks : List Bool) (hA : BArg w A ks) (hkl : ks.length ≤ maxLen) (m : Nat) (hm : m = ks.length) :
    Calls Try.prog 20 #[.pointer (some ⟨bd, 0, none⟩), .slice A m c] w fun e w' => ∃ b', e = .returned (.pointer (some ⟨b', 0, none⟩)) ∧ Own w.heap.size (fun _ => False) w' b' (crS S ks) ∧ Below w.heap.size w w' := by
  subst hm
  exact crash_own w n bd _ S h (fun _ e => e.elim) A c ks hA hkl
theorem conv_nk (w : World) (k : Nat) : (convert 58 9 (.slice (some ⟨w.heap.size, 0, none⟩) 1 1)).run Try.prog (w.alloc (.cells #[.int .u8 (97 + (k : Int))] 5)) = .ok (.string (nk k)) (w.alloc (.cells #[.int .u8 (97 + (k : Int))] 5)) := by
  have := conv1 w (97 + k)
  rw [show ((97 + k : Nat) : Int) = 97 + (k : Int) by omega] at this
  exact this

theorem Own.bar {n bd : Nat} {ex : Nat → Prop} {w : World} {S : DS} (h : Own n ex w bd S) : Own n (fun k => w.heap.size ≤ k) w bd S := by
  obtain ⟨fp, h, hf⟩ := h
  exact ⟨fp, h, fun k hk => ⟨(hf k hk).1, (hf k hk).2.1, fun e => by have := (hf k hk).2.1; omega⟩⟩
theorem Own.unbar {n bd : Nat} {ex : Nat → Prop} {w : World} {S : DS} (h : Own n ex w bd S) : Own n (fun _ => False) w bd S := by
  obtain ⟨fp, h, hf⟩ := h
  exact ⟨fp, h, fun k hk => ⟨(hf k hk).1, (hf k hk).2.1, id⟩⟩
theorem barg_row {w : World} {base n c : Nat} {A : Option Addr} {ks : List Bool} (h : w.ownsRow base 4 1 (.slice A n c) n (ks.map Value.bool)) (hn : n = ks.length) : BArg w A ks := by
  subst hn
  rcases h.2 with ⟨e, h0⟩ | ⟨g, cap, cur, e, hb, hg, r⟩
  · exact .inl (List.eq_nil_of_length_eq_zero h0)
  · cases e
    refine .inr ⟨_, rfl, lt_of_block hg, fun i hi => ?_⟩
    exact h.cells rfl i _ (by simp [hi])
theorem info4 : (Try.prog.info? 4).map (fun i => (i.zero, i.size, i.bytes)) = some (some (.bool false), 1, 1) := by kernel_rfl

set_option maxHeartbeats 3200000 in
set_option maxRecDepth 100000 in
theorem diskFalls_walk (w : World) (n0 m0 : Int) :
    Calls Try.prog 7 #[.int .i64 n0, .int .i64 m0] w fun e w' => e = .returned (.bool true) ∧ Below w.heap.size w w' := by
  obtain ⟨n, hn, hn31⟩ : ∃ n : Nat, bits .and .i64 n0 31 = (n : Int) ∧ n < 32 := ⟨(n0 % 32).toNat, by rw [i64_and31]; omega, by omega⟩
  obtain ⟨m, hm, hm31⟩ : ∃ m : Nat, bits .and .i64 m0 31 = (m : Int) ∧ m < 32 := ⟨(m0 % 32).toNat, by rw [i64_and31]; omega, by omega⟩
  have nof : ∀ (u : World) k, (fun _ : Nat => False) k → k < u.heap.size := fun _ _ e => e.elim
  go_enter Try.func7, Try.ntmps7
  go_wp2_with fail
  refine (head_any w).mono ?_
  rintro e u0 ⟨rfl, hb0⟩
  go_wp2_with fail
  refine (new_own 1000 u0 (fun _ => False) (nof u0)).mono ?_
  rintro e u1 ⟨rfl, o1, hb1, hz1⟩
  have HZ1 := Lib.hid hz1
  have hs1 := hb1.size
  clear hz1
  go_wp2_with fail
  refine (fall_own u1 u0.heap.size u0.heap.size _ _ o1 hs1 (nof u1) (n : Int) (by omega)).mono ?_
  rintro e u2 ⟨rfl, o2, m2⟩
  have O2 : Hid (Own u0.heap.size (fun _ => False) u2 u0.heap.size (fallS n 0)) := Lib.hid (by
    have e1 : fallS n 0 = ⟨1000, .map [], [], true, n, false⟩ := by simp [fallS]
    have e2 : ({ newS 1000 with falls := true, left := (n : Int).toNat } : DS) = ⟨1000, .map [], [], true, n, false⟩ := rfl
    rw [e1, ← e2]
    exact o2)
  have HB2 := Lib.hid ((hb0.trans (hb1.mono hb0.size)).trans (May.below m2 hb0.size hs1))
  have hs2 := m2.size
  clear o1 o2 m2 hb1
  go_wp2
  go_loopw [6] (fun i wr => ∃ k : Nat, i = .int .i64 k ∧ k ≤ m ∧ Own u0.heap.size (fun _ => False) wr u0.heap.size (fallS n k) ∧ Below w.heap.size w wr ∧ u0.heap.size ≤ wr.heap.size) (fun i _ => m - (intOf i).toNat)
  case atStart => exact ⟨0, rfl, by omega, O2.out, HB2.out, by omega⟩
  case round =>
    obtain ⟨k, rfl, hk, ho, hbk, hsk⟩ := hrel
    have HO := Lib.hid ho
    clear ho
    by_cases hkm : k < m
    · by_cases hkn : k < n
      · have hd : decide (n ≤ k) = false := decide_eq_false (by omega)
        have hd2 : decide ((n : Int) ≤ (k : Int)) = false := decide_eq_false (by omega)
        have hcv := conv_nk wr k
        have HE := Lib.hid (fall_lt n k hkn (by omega))
        have HDn : Hid ((fallS n (k + 1)).down = false) := Lib.hid (decide_eq_false (by omega))
        have HW : Hid ((fallS n k).wt ≤ 100 ∧ (fallS n k).cnt ≤ 100) := Lib.hid (fall_small n k (by omega))
        go_wp2_with fail
        refine (write_own _ u0.heap.size u0.heap.size _ _ (HO.out.alloc _) (by simp; omega) (nof _) (nk k) tX (by rw [nk_size]; simp [maxLen]) (of_decide_eq_true (by kernel_rfl)) (by have := HW.out.1; have : tX.size = 1 := rfl; omega) (by have := HW.out.2; omega)).mono ?_
        rintro e u3 ⟨rfl, o3, m3⟩
        rw [HE.out] at o3 ⊢
        have O3 := Lib.hid o3
        have hs3 : u0.heap.size ≤ u3.heap.size := by have := m3.size; simp at this; omega
        have HB3 := Lib.hid ((hbk.alloc hbk.size (.cells #[.int .u8 (97 + (k : Int))] 5)).trans (May.below m3 hb0.size (by simp; omega)))
        clear o3 m3 hcv
        go_wp2_with fail
        refine (down_own O3.out).mono ?_
        rintro e u3' ⟨rfl, rfl⟩
        rw [HDn.out]
        go_wp2
        go_roundw
        case rel => exact ⟨k + 1, by go_num, by omega, O3.out, HB3.out, hs3⟩
        case measure => simp [intOf]; omega
      · have hd : decide (n ≤ k) = true := decide_eq_true (by omega)
        have hd2 : decide ((n : Int) ≤ (k : Int)) = true := decide_eq_true (by omega)
        have hcv := conv_nk wr k
        have HE := Lib.hid (fall_ge n k (by omega))
        have HDn : Hid ((fallS n (k + 1)).down = true) := Lib.hid (decide_eq_true (by omega))
        have HW : Hid ((fallS n k).wt ≤ 100 ∧ (fallS n k).cnt ≤ 100) := Lib.hid (fall_small n k (by omega))
        go_wp2_with fail
        refine (write_own _ u0.heap.size u0.heap.size _ _ (HO.out.alloc _) (by simp; omega) (nof _) (nk k) tX (by rw [nk_size]; simp [maxLen]) (of_decide_eq_true (by kernel_rfl)) (by have := HW.out.1; have : tX.size = 1 := rfl; omega) (by have := HW.out.2; omega)).mono ?_
        rintro e u3 ⟨rfl, o3, m3⟩
        rw [HE.out] at o3 ⊢
        have O3 := Lib.hid o3
        have hs3 : u0.heap.size ≤ u3.heap.size := by have := m3.size; simp at this; omega
        have HB3 := Lib.hid ((hbk.alloc hbk.size (.cells #[.int .u8 (97 + (k : Int))] 5)).trans (May.below m3 hb0.size (by simp; omega)))
        clear o3 m3 hcv
        go_wp2_with fail
        refine (down_own O3.out).mono ?_
        rintro e u3' ⟨rfl, rfl⟩
        rw [HDn.out]
        go_wp2
        go_roundw
        case rel => exact ⟨k + 1, by go_num, by omega, O3.out, HB3.out, hs3⟩
        case measure => simp [intOf]; omega
    · have hkE : k = m := by omega
      obtain ⟨wq, hwq⟩ : ∃ wq, wq = wr := ⟨wr, rfl⟩
      subst hwq
      obtain ⟨i0, hi, hz0, hz1', hz2⟩ := info_parts info4
      have HO2 := Lib.hid (HO.out.bar)
      have HR := Lib.hid (World.ownsRow_lit wq #[] 0 (base := wq.heap.size) (e := 4) (size := 1) (Nat.le_refl _) (by simp [maxLen]) rfl)
      go_wp2
      go_loopw [8, 9] (fun v i wr => ∃ (j : Nat) (A : Option Addr) (c : Nat), i = .int .i64 j ∧ j ≤ m ∧ v = .slice A j c ∧ wr.ownsRow wq.heap.size 4 1 (.slice A j c) j ((List.replicate j true).map Value.bool) ∧ Own u0.heap.size (fun k => wq.heap.size ≤ k) wr u0.heap.size (fallS n k) ∧ Below w.heap.size w wr ∧ wq.heap.size ≤ wr.heap.size) (fun _ i _ => m - (intOf i).toNat)
      case atStart => exact ⟨0, _, _, rfl, by omega, rfl, HR.out, HO2.out.alloc _, hbk.alloc hbk.size _, by simp⟩
      case round =>
        obtain ⟨j, A, c, rfl, hj, rfl, hrow, ho, hbj, hsj⟩ := hrel
        have HROW := Lib.hid hrow
        have HOJ := Lib.hid ho
        clear hrow ho
        by_cases hjm : j < m
        · go_wp2_with (first | (at_builtin; refine wpList_append_lies _ rfl _ _ 43 rfl wq.heap.size 4 i0 (.bool false) 1 1 Try.underlying43 hi hz0 hz1' hz2 rfl (by decide) (.slice A j c) j ((List.replicate j true).map Value.bool) rfl (HROW.out.alloc _) ⟨wr.heap.size, 0, none⟩ 1 1 [.bool true] rfl rfl (cell_one_new _ _ _) (by simp [Value.oneCell']) (by omega) (by unfold maxLen; omega) (by omega) (by simp; omega) _ rfl ?_; intro g cap w3 hown3 hgrow3 hat3 hlt3; go_frame) | go_in)
          have hm3 : Mods (fun k => wq.heap.size ≤ k) wr w3 := (((Mods.refl (fun k => wq.heap.size ≤ k) wr).alloc (.cells #[.bool true] 4))).trans (⟨hgrow3.os, hgrow3.tape, hgrow3.output, hgrow3.size, fun k hk hn => hgrow3.block k hk (fun e => hn e.symm)⟩ : Mods (fun k => (Value.slice A j c).ownBlock = some k) _ w3) (fun _ _ e => e) (fun i _ e => (HROW.out.lt i e).1)
          go_roundw
          case rel =>
            refine ⟨j + 1, _, cap, by go_num, by omega, rfl, ?_, HOJ.out.keep hm3 (fun k _ hk _ e => hk e), hbj.trans (hm3.below (fun k e => Nat.le_trans hbk.size e) hbj.size), by have := hm3.size; omega⟩
            have : (List.replicate (j + 1) true).map Value.bool = (List.replicate j true).map Value.bool ++ [.bool true] := by
              rw [List.replicate_succ', List.map_append]
              rfl
            rw [this]
            exact hown3
          case measure => simp [intOf]; omega
        · have hjE : j = m := by omega
          subst hjE
          have HBA := Lib.hid (barg_row HROW.out (by simp))
          have HC1 : Hid (crS (fallS n k) (List.replicate j true) = ⟨1000, fallD (min k n), [], false, 0, false⟩) := Lib.hid (by
            unfold crS
            rw [kept_all _ _ (by simp [fallS]; omega)]
            rfl)
          have HC2 : Hid (crS (fallS n k) [] = ⟨1000, fallD 0, [], false, 0, false⟩) := Lib.hid (by
            unfold crS
            rw [kept_none]
            rfl)
          have HN1 := Lib.hid (nm_of 1000 (fallD (min k n)) (min n j) (by rw [(fallD_facts (min k n) (by omega)).1]; omega))
          have HN2 := Lib.hid (nm_of 1000 (fallD 0) 0 (fallD_facts 0 (by omega)).1)
          have HU := Lib.hid HOJ.out.unbar
          go_wp2_with fail
          refine (crash_own' wr u0.heap.size u0.heap.size _ HU.out A c (List.replicate j true) HBA.out (by simp [maxLen]; omega) j (by simp)).mono ?_
          rintro e x1 ⟨b1, rfl, p1, hc1⟩
          rw [HC1.out] at p1
          have P1 := Lib.hid p1
          have HU1 := Lib.hid (HU.out.below hc1)
          have HB1 := Lib.hid (hbj.trans (hc1.mono hbj.size))
          clear p1 hc1
          go_wp2_with fail
          refine (names_own P1.out).mono ?_
          rintro e x2 ⟨A2, c2, rfl, _, hc2⟩
          rw [HN1.out]
          have HU2 := Lib.hid (HU1.out.below hc2)
          have HB2' := Lib.hid (HB1.out.trans (hc2.mono HB1.out.size))
          clear hc2 hjm hkm hk hj
          have HKE := Lib.hid hkE
          clear hkE
          obtain ⟨N, HN⟩ : ∃ N : Int, Hid ((n : Int) = N) := ⟨_, Lib.hid rfl⟩
          obtain ⟨J, HJ⟩ : ∃ J : Int, Hid ((j : Int) = J) := ⟨_, Lib.hid rfl⟩
          obtain ⟨M, HM⟩ : ∃ M : Nat, Hid (M = min n j) := ⟨_, Lib.hid rfl⟩
          rw [HN.out, HJ.out, ← HM.out]
          clear hn hm
          have hMN : (if J < N then J else N) = (M : Int) := by have h1 := HN.out; have h2 := HJ.out; have h3 := HM.out; split <;> omega
          go_wp2_with fail
          all_goals
            refine (crash_own' x2 u0.heap.size u0.heap.size _ HU2.out none 0 [] (.inl rfl) (by simp) 0 rfl).mono ?_
            rintro e x3 ⟨b3, rfl, p3, hc3⟩
            rw [HC2.out] at p3
            have P3 := Lib.hid p3
            have HB3 := Lib.hid (HB2'.out.trans (hc3.mono HB2'.out.size))
            clear p3 hc3
            go_wp2_with fail
            refine (names_own P3.out).mono ?_
            rintro e x4 ⟨A4, c4, rfl, _, hc4⟩
            rw [HN2.out]
            go_wp2
            go_ret
            exact ⟨rfl, HB3.out.trans (hc4.mono HB3.out.size)⟩

end Go.Proofs.Ytecegjdnodcamaa
