/-
  The walk of DiskLast.
-/
import Derived.Test.YtecegjdnodcamaaOwn
namespace Go.Proofs.Ytecegjdnodcamaa
open Go.RowKit Go.Maps

theorem filter_insert_miss {f : Lit × Dt → Bool} {x : Lit × Dt} (hx : f x = false) : ∀ l : List (Lit × Dt), (DataW.insert x l).filter f = l.filter f
  | [] => by simp [DataW.insert, hx]
  | y :: r => by
    unfold DataW.insert
    split
    · simp [hx]
    · simp [List.filter_cons, filter_insert_miss hx r]
theorem del_put (D : Dt) (k s : ByteArray) : delF (putF D k s) k = delF D k := by
  unfold putF delF
  cases D <;> try rfl
  rename_i es
  show DataW.map ((DataW.insert (ky k, tx s) (es.filter fun p => !p.1.sameKey (ky k))).filter fun p => !p.1.sameKey (ky k)) = DataW.map (es.filter fun p => !p.1.sameKey (ky k))
  rw [filter_insert_miss (by simp [WideAt.sameKey_self (ky_key k)]), List.filter_filter]
  simp
theorem put_put (D : Dt) (k a b : ByteArray) : putF (putF D k a) k b = putF D k b := by
  rw [← put_del (putF D k a), del_put, put_del]

def tF : ByteArray := ⟨#[102]⟩
def wf (s : ByteArray) : Chg := ⟨0, tF, s⟩
theorem app_wf (D : Dt) (s : ByteArray) : app D (wf s) = putF D tF s := by simp [app, wf]
theorem apps_wf (l : List ByteArray) (s : ByteArray) : apps (.map []) ((l ++ [s]).map wf) = putF (.map []) tF s := by
  rw [List.map_append, List.map_singleton, apps_snoc, app_wf]
  rcases List.eq_nil_or_concat l with rfl | ⟨l', a, rfl⟩
  · rfl
  · rw [List.concat_eq_append, apps_wf l' a, put_put]
termination_by l.length
theorem tot_wf (l : List ByteArray) (h : ∀ s ∈ l, s.size ≤ 100) : tot (apps (.map []) (l.map wf)) ≤ 100 := by
  rcases List.eq_nil_or_concat l with rfl | ⟨l', a, rfl⟩
  · simp [apps, tot]
  · rw [List.concat_eq_append, apps_wf, tot_put good_empty]
    have := h a (by simp)
    have e : tot (delF (.map []) tF) = 0 := rfl
    omega
theorem wt_wf (l : List ByteArray) (h : ∀ s ∈ l, s.size ≤ 100) : wt (l.map wf) ≤ 100 * l.length := by
  induction l with
  | nil => simp [wt]
  | cons a l ih =>
    have h1 := ih (fun s hs => h s (by simp [hs]))
    have h2 := h a (by simp)
    simp only [wt, List.map_cons, List.sum_cons, List.length_cons] at *
    show a.size + _ ≤ _
    omega

/-- a slice of strings that came in -/
def SArg (w : World) (A : Option Addr) (ts : List ByteArray) : Prop := ts = [] ∨ ∃ ad : Addr, A = some ad ∧ ad.block < w.heap.size ∧ ∀ i (h : i < ts.length), w.cell? (ad.add i) = some (.string ts[i])
theorem SArg.at_ {w w' : World} {A : Option Addr} {ts : List ByteArray} (h : SArg w A ts) (hb : Below w.heap.size w w') (i : Nat) (hi : i < ts.length) : ∃ ad, A = some ad ∧ w'.cell? (ad.add i) = some (.string ts[i]) := by
  rcases h with h | ⟨ad, e, hlt, hc⟩
  · subst h; simp at hi
  · exact ⟨ad, e, (hb.cell (by rw [add_block]; exact hlt)).trans (hc i hi)⟩
theorem BArg.keep {w w' : World} {A : Option Addr} {ks : List Bool} (h : BArg w A ks) (hb : Below w.heap.size w w') : BArg w' A ks := by
  rcases h with h | ⟨ad, e, hlt, hc⟩
  · exact .inl h
  · exact .inr ⟨ad, e, Nat.lt_of_lt_of_le hlt hb.size, fun i hi => (hb.cell (by rw [add_block]; exact hlt)).trans (hc i hi)⟩

/-- the disk behind so many writes -/
def lastS (l : List ByteArray) : DS := ⟨1048576, .map [], l.map wf, false, 0, false⟩
theorem wr_last (l : List ByteArray) (h : ∀ s ∈ l, s.size ≤ 100) (s : ByteArray) (hs : s.size ≤ 100) : wrS (lastS l) tF s = (0, lastS (l ++ [s])) := by
  have ht := tot_wf l h
  unfold wrS
  rw [if_neg (by simp [turnS, lastS]), if_neg (by decide +kernel), if_neg]
  · simp [turnS, lastS, addS, wf]
  · show ¬ ((1048576 : Nat) : Int) - tot (apps (.map []) (l.map wf)) + _ < _
    omega

/-- what is to be read: there or not, and which text -/
def Want (D : Dt) (there : Bool) (want : ByteArray) : Prop := (there = false ∧ want = ByteArray.empty ∧ D = .map []) ∨ (there = true ∧ D = putF (.map []) tF want)
theorem Want.put {D : Dt} {there : Bool} {want : ByteArray} (h : Want D there want) (s : ByteArray) : Want (app D (wf s)) true s := by
  rcases h with ⟨_, _, rfl⟩ | ⟨_, rfl⟩
  · exact .inr ⟨rfl, app_wf _ _⟩
  · exact .inr ⟨rfl, by rw [app_wf, put_put]⟩
theorem Want.read {D : Dt} {there : Bool} {want : ByteArray} (h : Want D there want) (r : Nat) : rdS ⟨r, D, [], false, 0, false⟩ tF = if there then (want, 0) else (ByteArray.empty, 5) := by
  rcases h with ⟨rfl, rfl, rfl⟩ | ⟨rfl, rfl⟩
  · rfl
  · have e1 : hasF (putF (.map []) tF want) tF = true := has_put_same' good_empty _ _
    have e2 : get (putF (.map []) tF want) tF = want := get_put_same good_empty _ _
    unfold rdS DS.now
    simp only [apps, List.foldl_nil, e1, e2, Bool.false_eq_true, if_false, if_true]
theorem Want.want {D : Dt} {there : Bool} {want : ByteArray} (h : Want D there want) (ht : there = false) : want = ByteArray.empty := by
  rcases h with ⟨_, h, _⟩ | ⟨h, _⟩
  · exact h
  · rw [h] at ht; cases ht

/-- what the loop knows -/
structure LRel (w : World) (n : Nat) (ts : List ByteArray) (ks : List Bool) (k : Nat) (want : ByteArray) (there : Bool) (wr : World) : Prop where
  small : ∀ s ∈ ts.take k, s.size ≤ 100
  own : Own n (fun _ => False) wr n (lastS (ts.take k))
  want : Want (apps (.map []) (kept ((ts.map wf).take k) ks)) there want
  bel : Below w.heap.size w wr
  size : n ≤ wr.heap.size

theorem LRel.next {w wr w' : World} {n k : Nat} {ts : List ByteArray} {ks : List Bool} {want : ByteArray} {there : Bool} (h : LRel w n ts ks k want there wr) (hk : k < ts.length) (hs : ts[k].size ≤ 100) (hn : w.heap.size ≤ n)
    (ho : Own n (fun _ => False) w' n (lastS (ts.take k ++ [ts[k]]))) (hm : Mods (May n (fun _ => False)) wr w') :
    (ks.getD k false = true → LRel w n ts ks (k + 1) ts[k] true w') ∧ (ks.getD k false = false → LRel w n ts ks (k + 1) want there w') := by
  have e1 : ts.take (k + 1) = ts.take k ++ [ts[k]] := List.take_succ_eq_append_getElem hk
  have hsm : ∀ s ∈ ts.take (k + 1), s.size ≤ 100 := by
    rw [e1]
    intro s hs'
    rcases List.mem_append.1 hs' with h1 | h1
    · exact h.small s h1
    · rw [List.mem_singleton] at h1; rw [h1]; exact hs
  have hkt := kept_take (ts.map wf) ks k (by simpa using hk)
  have hb : Below w.heap.size w w' := h.bel.trans (May.below hm hn h.size)
  have hz := Nat.le_trans h.size hm.size
  constructor
  · intro hy
    rw [hy, if_pos rfl] at hkt
    refine ⟨hsm, by rw [e1]; exact ho, ?_, hb, hz⟩
    rw [hkt, apps_snoc]
    have := h.want.put ts[k]
    simpa using this
  · intro hy
    rw [hy] at hkt
    refine ⟨hsm, by rw [e1]; exact ho, ?_, hb, hz⟩
    rw [hkt]
    exact h.want

set_option maxHeartbeats 3200000 in
set_option maxRecDepth 100000 in
theorem diskLast_walk (w : World) (A B : Option Addr) (ca cb : Nat) (ts : List ByteArray) (ks : List Bool) (hA : SArg w A ts) (hB : BArg w B ks) (hlt : ts.length ≤ maxLen) (hlk : ks.length ≤ maxLen) (hts : ∀ s ∈ ts, s.size ≤ maxLen) :
    Calls Try.prog 9 #[.slice A ts.length ca, .slice B ks.length cb] w fun e w' => e = .returned (.bool true) ∧ Below w.heap.size w w' := by
  by_cases hg : 30 < ts.length ∨ 60 < ks.length
  · unfold maxLen at hlt hlk
    by_cases h30 : 30 < ts.length
    · go_enter Try.func9, Try.ntmps9
      go_wp2_with fail
      refine (head_any w).mono ?_
      rintro e w1 ⟨rfl, hb1⟩
      go_wp2
      go_ret
      exact ⟨rfl, hb1⟩
    · have h60 : 60 < ks.length := by omega
      have d1 : decide ((30 : Int) < (ts.length : Int)) = false := decide_eq_false (by omega)
      go_enter Try.func9, Try.ntmps9
      go_wp2_with fail
      refine (head_any w).mono ?_
      rintro e w1 ⟨rfl, hb1⟩
      go_wp2
      go_ret
      exact ⟨rfl, hb1⟩
  · have h30 : ¬ 30 < ts.length := by omega
    have h60 : ¬ 60 < ks.length := by omega
    have d1 : decide ((30 : Int) < (ts.length : Int)) = false := decide_eq_false (by omega)
    have d2 : decide ((60 : Int) < (ks.length : Int)) = false := decide_eq_false (by omega)
    unfold maxLen at hlt hlk
    have nof : ∀ (u : World) k, (fun _ : Nat => False) k → k < u.heap.size := fun _ _ e => e.elim
    go_enter Try.func9, Try.ntmps9
    go_wp2_with fail
    refine (head_any w).mono ?_
    rintro e w1 ⟨rfl, hb1⟩
    go_wp2_with fail
    refine (new_own 1048576 w1 (fun _ => False) (nof w1)).mono ?_
    rintro e w2 ⟨rfl, o2, hb2, hz2⟩
    have hs1 := hb1.size
    have HB2 := Lib.hid (hb1.trans (hb2.mono hs1))
    have hs2 := hb2.size
    clear hz2 hb2
    have O2 := Lib.hid o2
    clear o2
    go_wp2
    go_loopw [6, 7, 25] (fun sw st i wr => ∃ (k : Nat) (want : ByteArray) (there : Bool), i = .int .i64 k ∧ k ≤ ts.length ∧ sw = .string want ∧ st = .bool there ∧ LRel w w1.heap.size ts ks k want there wr) (fun _ _ i _ => ts.length - (intOf i).toNat)
    case atStart => exact ⟨0, ByteArray.empty, false, rfl, by omega, rfl, rfl, ⟨by simp, O2.out, .inl ⟨rfl, rfl, rfl⟩, HB2.out, hs2⟩⟩
    case round =>
      obtain ⟨k, want, there, rfl, hk, rfl, rfl, hR⟩ := hrel
      have HR := Lib.hid hR
      clear hR
      by_cases hk1 : k < ts.length
      · obtain ⟨ad, rfl, hc⟩ := hA.at_ HR.out.bel k hk1
        obtain ⟨sk, HSK⟩ : ∃ sk, Hid (sk = ts[k]) := ⟨_, Lib.hid rfl⟩
        rw [← HSK.out] at hc
        have hml : sk.size ≤ maxLen := by rw [HSK.out]; exact hts _ (List.getElem_mem hk1)
        unfold maxLen at hml
        by_cases h100 : 100 < sk.size
        · have d3 : decide (((100 : Int)) < (sk.size : Int)) = true := decide_eq_true (by omega)
          clear hA hB
          go_wp2
          go_ret
          exact ⟨rfl, HR.out.bel⟩
        · have d3 : decide (((100 : Int)) < (sk.size : Int)) = false := decide_eq_false (by omega)
          have HE : Hid (wrS (lastS (ts.take k)) tF sk = (0, lastS (ts.take k ++ [sk]))) := Lib.hid (wr_last _ HR.out.small sk (by omega))
          have HW1 : Hid ((lastS (ts.take k)).wt + sk.size ≤ 1099511627776) := Lib.hid (by
            have h1 := wt_wf _ HR.out.small
            have h2 := List.length_take_le k ts
            show tot (.map []) + wt ((ts.take k).map wf) + _ ≤ _
            have h3 : tot (.map []) = 0 := rfl
            omega)
          have HW2 : Hid ((lastS (ts.take k)).cnt + 1 ≤ 500000) := Lib.hid (by
            have h2 := List.length_take_le k ts
            show 0 + ((ts.take k).map wf).length + 1 ≤ _
            rw [List.length_map]
            omega)
          go_wp2_with fail
          refine (write_own wr w1.heap.size w1.heap.size _ _ HR.out.own HR.out.size (nof wr) tF sk (of_decide_eq_true (by kernel_rfl)) (by unfold maxLen; omega) HW1.out HW2.out).mono ?_
          rintro e w3 ⟨rfl, o3, m3⟩
          rw [HE.out] at o3 ⊢
          obtain ⟨N1, N2⟩ := HR.out.next hk1 (by rw [← HSK.out]; omega) hs1 (by rw [← HSK.out]; exact o3) m3
          rw [← HSK.out] at N1
          have HN1 := Lib.hid N1
          have HN2 := Lib.hid N2
          have hbw := m3
          clear o3 m3 N1 N2
          by_cases hkk : k < ks.length
          · obtain ⟨bd, rfl, hkc⟩ := hB.at_ (HR.out.bel.trans (May.below hbw hs1 HR.out.size)) k hkk
            cases hkv : ks[k]
            · rw [hkv] at hkc
              have HG : Hid (ks.getD k false = false) := Lib.hid (by simp [List.getD, List.getElem?_eq_getElem hkk, hkv])
              clear hkv hA hB
              go_wp2
              go_roundw
              case rel => exact ⟨k + 1, want, there, by go_num, by omega, rfl, rfl, HN2.out HG.out⟩
              case measure => simp [intOf]; omega
            · rw [hkv] at hkc
              have HG : Hid (ks.getD k false = true) := Lib.hid (by simp [List.getD, List.getElem?_eq_getElem hkk, hkv])
              clear hkv hA hB
              go_wp2
              go_roundw
              case rel => exact ⟨k + 1, sk, true, by go_num, by omega, rfl, rfl, HN1.out HG.out⟩
              case measure => simp [intOf]; omega
          · have HG : Hid (ks.getD k false = false) := Lib.hid (by simp [List.getD, List.getElem?_eq_none (Nat.le_of_not_lt hkk)])
            clear hA hB
            go_wp2
            go_roundw
            case rel => exact ⟨k + 1, want, there, by go_num, by omega, rfl, rfl, HN2.out HG.out⟩
            case measure => simp [intOf]; omega
      · have hkE : k = ts.length := by omega
        have HQ : Hid (rdS (crS (lastS (ts.take k)) ks) tF = if there then (want, 0) else (ByteArray.empty, 5)) := Lib.hid (by
          have := HR.out.want.read 1048576
          rw [← List.map_take] at this
          exact this)
        have HBk := Lib.hid (hB.keep HR.out.bel)
        have HWt := Lib.hid (HR.out.want.want)
        clear hA hB
        go_wp2_with fail
        refine (crash_own wr w1.heap.size w1.heap.size _ _ HR.out.own (nof wr) B cb ks HBk.out (by unfold maxLen; omega)).mono ?_
        rintro e w4 ⟨b', rfl, o4, hb4⟩
        go_wp2_with fail
        refine (read_own o4 tF (of_decide_eq_true (by kernel_rfl))).mono ?_
        rintro e w5 ⟨rfl, hb5⟩
        rw [HQ.out]
        have HBB := Lib.hid ((HR.out.bel.trans (hb4.mono HR.out.bel.size)).trans (hb5.mono (Nat.le_trans HR.out.bel.size hb4.size)))
        cases there
        · have hwe := HWt.out rfl
          simp only [Bool.false_eq_true, if_false]
          subst hwe
          go_wp2
          go_ret
          exact ⟨rfl, HBB.out⟩
        · simp only [if_true]
          go_wp2
          go_ret
          exact ⟨by simp, HBB.out⟩

end Go.Proofs.Ytecegjdnodcamaa
