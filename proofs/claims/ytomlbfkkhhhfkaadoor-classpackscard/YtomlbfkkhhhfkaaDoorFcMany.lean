/-
  Several types, several fields, as they are read.
-/
import Derived.Test.YtomlbfkkhhhfkaaDoorFcRead
namespace Go.Proofs.YtomlbfkkhhhfkaaDoor.Fc
open Go.RowKit
set_option linter.unusedVariables false

theorem rNum_le (st : Pk.St) (most : Int) : ((Pk.rNum st most).1 : Int) ≤ max most 0 := by
  unfold Pk.rNum
  split
  · simp only; omega
  · split
    · simp only; omega
    · split
      · simp only; omega
      · simp only; omega
theorem rMany_le (st : Pk.St) (most : Int) : ((Pk.rMany st most).1 : Int) ≤ max most 0 := by
  unfold Pk.rMany
  split
  · simp only; omega
  · exact rNum_le st most
theorem flatMap_at {α : Type} {enc : α → List Value} {size : Nat} (hk : ∀ x, (enc x).length = size) : ∀ (xs : List α) (i j : Nat) (x : α), xs[i]? = some x → j < size → (xs.flatMap enc)[i * size + j]? = (enc x)[j]?
  | [], i, j, x, h, _ => by simp at h
  | y :: ys, 0, j, x, h, hj => by
    simp at h
    subst h
    rw [List.flatMap_cons, Nat.zero_mul, Nat.zero_add, List.getElem?_append_left (by rw [hk]; exact hj)]
  | y :: ys, i + 1, j, x, h, hj => by
    rw [List.flatMap_cons, List.getElem?_append_right (by rw [hk, Nat.succ_mul]; omega), hk, show (i + 1) * size + j - size = i * size + j by rw [Nat.succ_mul]; omega]
    exact flatMap_at hk ys i j x (by simpa using h) hj
theorem flatMap_len {α : Type} {enc : α → List Value} {size : Nat} (hk : ∀ x, (enc x).length = size) (xs : List α) : (xs.flatMap enc).length = xs.length * size := by
  induction xs with
  | nil => simp
  | cons x xs ih => rw [List.flatMap_cons, List.length_append, ih, hk, List.length_cons, Nat.succ_mul]; omega
theorem row_sl {α : Type} {enc : α → List Value} {base size n : Nat} {e : TypeId} {v : Value} {w : World} {xs : List α} (hk : ∀ x, (enc x).length = size) (hn : xs.length = n) (h : w.ownsRow base e size v n (xs.flatMap enc)) :
    ∃ a c, v = .slice a n c ∧ Sl w size (fun x cs => cs = enc x) xs (.slice a n c) ∧ Own base w e a := by
  rcases h.2 with ⟨hnil, h0⟩ | ⟨g, cap, cur, rfl, hb, hg, hn', hcm, hcs, htk⟩
  · subst h0
    have hx : xs = [] := List.eq_nil_of_length_eq_zero hn
    subst hx
    exact ⟨none, 0, hnil, Sl.nil _ _ _, fun _ e => by cases e⟩
  · refine ⟨_, _, rfl, ⟨some ⟨g, 0, none⟩, cap, by rw [hn], by omega, hcm, fun i x hi => ⟨g, 0, enc x, rfl, fun j u hu => ?_, rfl⟩⟩, fun ad e => by cases e; exact ⟨g, rfl, hb, cur, hg⟩⟩
    have hj : j < size := by rw [← hk x]; exact (List.getElem?_eq_some_iff.1 hu).1
    have h1 := flatMap_at hk xs i j x hi hj
    rw [hu, ← htk, List.getElem?_take] at h1
    split at h1
    · simp only [World.cell?, hg, Nat.zero_add]
      simpa using h1
    · cases h1
/-- a row of one's own, where nothing but another block has turned -/
theorem row_mods {base size n q : Nat} {e : TypeId} {v : Value} {w w' : World} {xs : List Value} (h : w.ownsRow base e size v n xs) (hm : Mods (· = q) w w') (hq : ∀ cur, w.heap[q]? ≠ some (.cells cur e (0, 0))) : w'.ownsRow base e size v n xs := by
  refine ⟨h.1, ?_⟩
  rcases h.2 with h0 | ⟨g, cap, cur, rfl, hb, hg, r⟩
  · exact .inl h0
  · exact .inr ⟨g, cap, cur, rfl, hb, (hm.block g (lt_of_block hg) (fun e => hq cur (by rw [← e]; exact hg))).trans hg, r⟩
theorem rat_no {br : Nat} {w : World} {st : Pk.St} (h : Pk.RAt br w st) (e : TypeId) (he : e ≠ 120) : ∀ cur, w.heap[br]? ≠ some (.cells cur e (0, 0)) := fun cur hc => by
  rw [show w.heap[br]? = _ from h] at hc
  cases hc
  exact he rfl
theorem mods_grown {br base n size : Nat} {e : TypeId} {v : Value} {w x y : World} {xs : List Value} {o : Obj} (hm : Mods (· = br) w x) (hrow : x.ownsRow base e size v n xs) (hg : (x.alloc o).grownBy y v.ownBlock) (hb : w.heap.size ≤ base) : Mods (· = br) w y := by
  refine ⟨hg.os.trans hm.os, hg.tape.trans hm.tape, hg.output.trans hm.output, Nat.le_trans hm.size (Nat.le_trans (by simp) hg.size), fun k hk hne => ?_⟩
  have h1 : k < x.heap.size := Nat.lt_of_lt_of_le hk hm.size
  rw [hg.block k (by simp; omega) (fun e => by have := (World.ownsRow.lt hrow k e.symm).1; omega), Below.heap_alloc _ _ _ h1]
  exact hm.block k hk hne
theorem rat_grown {br base n size : Nat} {e : TypeId} {v : Value} {x y : World} {xs : List Value} {o : Obj} {st : Pk.St} (h : Pk.RAt br x st) (hrow : x.ownsRow base e size v n xs) (hg : (x.alloc o).grownBy y v.ownBlock) (hb : br < base) : Pk.RAt br y st := by
  have h1 := rat_lt h
  refine (hg.block br (by simp; omega) (fun e => by have := (World.ownsRow.lt hrow br e.symm).1; omega)).trans ((Below.heap_alloc _ _ _ h1).trans h)
theorem add_pl (b o j : Nat) : (⟨b, o, none⟩ : Addr).add j = ⟨b, o + j, none⟩ := by cases j <;> simp [Addr.add]
abbrev encT (t : Ty) : List Value := [.string t.n, .bool t.a]
abbrev encW (v : Vr) : List Value := [.string v.name, .string v.tn, .bool v.ta]
set_option maxHeartbeats 2000000 in
set_option maxRecDepth 100000 in
theorem many71 (br : Nat) (st : Pk.St) (w : World) (h : Pk.RAt br w st) (hs : st.s.length ≤ 140737488355328) :
    Calls Tryd.prog 100 #[.pointer (some ⟨br, 0, none⟩), .func (.func 91) #[] #[]] w fun e w' => ∃ a n c, e = .returned (.slice a n c) ∧ Sl w' 2 TyR (rdMany (rdTy 40) 200 st).1 (.slice a n c) ∧ Own w.heap.size w' 60 a ∧ Pk.RAt br w' (rdMany (rdTy 40) 200 st).2 ∧ Mods (· = br) w w' := by
  obtain ⟨i0, hi, hii⟩ := info45
  simp only [Prod.mk.injEq, Option.map_eq_some_iff] at hii
  obtain ⟨z1, z2, z, ez, z3⟩ := hii
  have hlt := rat_lt h
  have H1 := Lib.hid (Pk.rmany_any br st 200 w h hs)
  have HL := Lib.hid (Pk.rMany_len st 200)
  have HN := Lib.hid (rMany_le st 200)
  have HE : Hid (rdMany (rdTy 40) 200 st = rdN (rdTy 40) (Pk.rMany st 200).1 (Pk.rMany st 200).2) := Lib.hid rfl
  rw [HE.out]
  generalize Pk.rMany st 200 = r at *
  obtain ⟨n, st1⟩ := r
  dsimp only at H1 HL HN HE ⊢
  have hn : n ≤ 200 := by have := HN.out; omega
  have HLN : Hid (∀ k, (rdN (rdTy 40) k st1).2.s.length ≤ 140737488355328) := Lib.hid (fun k => Nat.le_trans (rdN_len (cod_ty 40) k st1) (Nat.le_trans HL.out hs))
  have HQ : Hid (∀ w' : World, w'.ownsRow w.heap.size 60 2 (.slice none 0 0) 0 ((rdN (rdTy 40) 0 st1).1.flatMap encT)) := Lib.hid (fun w' => World.ownsRow_nil _ _ _ _)
  clear h HL HE HN
  go_enter Tryd.func100, Tryd.ntmps100
  go_wp2_with (go_at_call 43; refine H1.out.mono ?_; rintro e w1 ⟨rfl, hr1, ho1⟩)
  have HM1 := Lib.hid (mods_on ho1)
  have HR1 := Lib.hid hr1
  have hs1 := ho1.size
  have HS1 : Hid (w1.heap.size = w.heap.size) := Lib.hid hs1
  clear hr1 ho1 H1 hs1
  go_loopw [5, 8] (fun v i wr => ∃ k : Nat, k ≤ n ∧ i = .int .i64 k ∧ Hid (wr.ownsRow w.heap.size 60 2 v k ((rdN (rdTy 40) k st1).1.flatMap encT)) ∧ (∃ a m c, v = .slice a m c) ∧ Hid (Pk.RAt br wr (rdN (rdTy 40) k st1).2) ∧ Mods (· = br) w wr) (fun _ i _ => n - (intOf i).toNat)
  case atStart => exact ⟨0, Nat.zero_le _, rfl, Lib.hid (HQ.out w1), ⟨_, _, _, rfl⟩, HR1, HM1.out⟩
  case round =>
    clear HR1 HM1 HS1
    obtain ⟨k, hk, rfl, HO, ⟨a, m, c, rfl⟩, HR, hm⟩ := hrel
    have hsr := hm.size
    by_cases hkl : k < n
    · have HP := Lib.hid (type20 br (rdN (rdTy 40) k st1).2 wr HR.out (HLN.out k))
      have HSN : Hid (rdN (rdTy 40) (k + 1) st1 = ((rdN (rdTy 40) k st1).1 ++ [(rdTy 40 (rdN (rdTy 40) k st1).2).1], (rdTy 40 (rdN (rdTy 40) k st1).2).2)) := Lib.hid rfl
      have HXL := Lib.hid (rdN_count (rdTy 40) k st1)
      generalize rdN (rdTy 40) k st1 = q at *
      generalize rdTy 40 q.2 = x at *
      obtain ⟨x, st2⟩ := x
      dsimp only at HP HSN
      go_wp2_with (first
        | (go_at_call 91; refine HP.out.mono ?_; rintro e w2 ⟨rfl, hr2, hm2⟩; have hrow2 := row_mods HO.out hm2 (rat_no HR.out 60 (by decide)); have hs2 := hm2.size)
        | (at_builtin; refine wpList_append_own _ rfl (.tmp 10) (.tmp 14) 28 rfl w.heap.size 60 i0 z 2 24 Tryd.underlying28 hi ez z1 z2 z3 (by decide) _ _ _ rfl (hrow2.alloc _) ⟨w2.heap.size, 0, none⟩ 1 1 [.string x.n, .bool x.a] rfl rfl ?c1 ?c2 ?c3 ?c4 ?c5 ?_))
      case c1 =>
        intro j u hu
        rw [add_pl, Nat.zero_add]
        exact ((Blk.new w2 [.string x.n, .bool x.a] 60).cell j).trans hu
      case c2 => simp [Value.oneCell']
      case c3 => unfold maxLen; omega
      case c4 => omega
      case c5 => simp; omega
      intro v' w3 hown' hgrow hnil
      have hmm := hm.trans hm2 (fun _ _ e => e) (fun _ _ e => e)
      have HM3 := Lib.hid (mods_grown hmm hrow2 hgrow (Nat.le_refl _))
      have HR3 := Lib.hid (rat_grown hr2 hrow2 hgrow hlt)
      obtain ⟨A, m', c', rfl⟩ := Pk.row_shape hown'
      have HO3 : Hid (w3.ownsRow w.heap.size 60 2 (.slice A m' c') (k + 1) ((rdN (rdTy 40) (k + 1) st1).1.flatMap encT)) := Lib.hid (by rw [HSN.out, List.flatMap_append, List.flatMap_singleton]; exact hown')
      have HR4 : Hid (Pk.RAt br w3 (rdN (rdTy 40) (k + 1) st1).2) := Lib.hid (by rw [HSN.out]; exact HR3.out)
      clear hown' hgrow hnil hrow2 hr2 hm2 HO HR HP
      go_wp2
      go_roundw
      case rel => exact ⟨k + 1, by omega, by go_num, HO3, ⟨_, _, _, rfl⟩, HR4, HM3.out⟩
      case measure => simp [intOf]; omega
    · obtain rfl : k = n := by omega
      obtain ⟨a', c'', e1, hsl, hown⟩ := row_sl (enc := encT) (fun _ => rfl) (rdN_count (rdTy 40) k st1) HO.out
      have HSL := Lib.hid hsl
      have HOW := Lib.hid hown
      cases e1
      clear hsl hown HO
      go_wp2
      go_ret
      exact ⟨_, _, _, rfl, HSL.out, HOW.out, HR.out, hm⟩
set_option maxHeartbeats 2000000 in
set_option maxRecDepth 100000 in
theorem many42 (br : Nat) (st : Pk.St) (w : World) (h : Pk.RAt br w st) (hs : st.s.length ≤ 140737488355328) :
    Calls Tryd.prog 82 #[.pointer (some ⟨br, 0, none⟩), .func (.func 83) #[] #[]] w fun e w' => ∃ a n c, e = .returned (.slice a n c) ∧ Sl w' 3 VrR (rdMany (rdVr 40) 200 st).1 (.slice a n c) ∧ Own w.heap.size w' 75 a ∧ Pk.RAt br w' (rdMany (rdVr 40) 200 st).2 ∧ Mods (· = br) w w' := by
  obtain ⟨i0, hi, hii⟩ := info58
  simp only [Prod.mk.injEq, Option.map_eq_some_iff] at hii
  obtain ⟨z1, z2, z, ez, z3⟩ := hii
  have hlt := rat_lt h
  have H1 := Lib.hid (Pk.rmany_any br st 200 w h hs)
  have HL := Lib.hid (Pk.rMany_len st 200)
  have HN := Lib.hid (rMany_le st 200)
  have HE : Hid (rdMany (rdVr 40) 200 st = rdN (rdVr 40) (Pk.rMany st 200).1 (Pk.rMany st 200).2) := Lib.hid rfl
  rw [HE.out]
  generalize Pk.rMany st 200 = r at *
  obtain ⟨n, st1⟩ := r
  dsimp only at H1 HL HN HE ⊢
  have hn : n ≤ 200 := by have := HN.out; omega
  have HLN : Hid (∀ k, (rdN (rdVr 40) k st1).2.s.length ≤ 140737488355328) := Lib.hid (fun k => Nat.le_trans (rdN_len (cod_vr 40) k st1) (Nat.le_trans HL.out hs))
  have HQ : Hid (∀ w' : World, w'.ownsRow w.heap.size 75 3 (.slice none 0 0) 0 ((rdN (rdVr 40) 0 st1).1.flatMap encW)) := Lib.hid (fun w' => World.ownsRow_nil _ _ _ _)
  clear h HL HE HN
  go_enter Tryd.func82, Tryd.ntmps82
  go_wp2_with (go_at_call 43; refine H1.out.mono ?_; rintro e w1 ⟨rfl, hr1, ho1⟩)
  have HM1 := Lib.hid (mods_on ho1)
  have HR1 := Lib.hid hr1
  have hs1 := ho1.size
  have HS1 : Hid (w1.heap.size = w.heap.size) := Lib.hid hs1
  clear hr1 ho1 H1 hs1
  go_loopw [5, 8] (fun v i wr => ∃ k : Nat, k ≤ n ∧ i = .int .i64 k ∧ Hid (wr.ownsRow w.heap.size 75 3 v k ((rdN (rdVr 40) k st1).1.flatMap encW)) ∧ (∃ a m c, v = .slice a m c) ∧ Hid (Pk.RAt br wr (rdN (rdVr 40) k st1).2) ∧ Mods (· = br) w wr) (fun _ i _ => n - (intOf i).toNat)
  case atStart => exact ⟨0, Nat.zero_le _, rfl, Lib.hid (HQ.out w1), ⟨_, _, _, rfl⟩, HR1, HM1.out⟩
  case round =>
    clear HR1 HM1 HS1
    obtain ⟨k, hk, rfl, HO, ⟨a, m, c, rfl⟩, HR, hm⟩ := hrel
    have hsr := hm.size
    by_cases hkl : k < n
    · have HP := Lib.hid (field43 br (rdN (rdVr 40) k st1).2 wr HR.out (HLN.out k))
      have HSN : Hid (rdN (rdVr 40) (k + 1) st1 = ((rdN (rdVr 40) k st1).1 ++ [(rdVr 40 (rdN (rdVr 40) k st1).2).1], (rdVr 40 (rdN (rdVr 40) k st1).2).2)) := Lib.hid rfl
      have HXL := Lib.hid (rdN_count (rdVr 40) k st1)
      generalize rdN (rdVr 40) k st1 = q at *
      generalize rdVr 40 q.2 = x at *
      obtain ⟨x, st2⟩ := x
      dsimp only at HP HSN
      go_wp2_with (first
        | (go_at_call 83; refine HP.out.mono ?_; rintro e w2 ⟨rfl, hr2, hm2⟩; have hrow2 := row_mods HO.out hm2 (rat_no HR.out 75 (by decide)); have hs2 := hm2.size)
        | (at_builtin; refine wpList_append_own _ rfl (.tmp 10) (.tmp 14) 22 rfl w.heap.size 75 i0 z 3 40 Tryd.underlying22 hi ez z1 z2 z3 (by decide) _ _ _ rfl (hrow2.alloc _) ⟨w2.heap.size, 0, none⟩ 1 1 [.string x.name, .string x.tn, .bool x.ta] rfl rfl ?c1 ?c2 ?c3 ?c4 ?c5 ?_))
      case c1 =>
        intro j u hu
        rw [add_pl, Nat.zero_add]
        exact ((Blk.new w2 [.string x.name, .string x.tn, .bool x.ta] 75).cell j).trans hu
      case c2 => simp [Value.oneCell']
      case c3 => unfold maxLen; omega
      case c4 => omega
      case c5 => simp; omega
      intro v' w3 hown' hgrow hnil
      have hmm := hm.trans hm2 (fun _ _ e => e) (fun _ _ e => e)
      have HM3 := Lib.hid (mods_grown hmm hrow2 hgrow (Nat.le_refl _))
      have HR3 := Lib.hid (rat_grown hr2 hrow2 hgrow hlt)
      obtain ⟨A, m', c', rfl⟩ := Pk.row_shape hown'
      have HO3 : Hid (w3.ownsRow w.heap.size 75 3 (.slice A m' c') (k + 1) ((rdN (rdVr 40) (k + 1) st1).1.flatMap encW)) := Lib.hid (by rw [HSN.out, List.flatMap_append, List.flatMap_singleton]; exact hown')
      have HR4 : Hid (Pk.RAt br w3 (rdN (rdVr 40) (k + 1) st1).2) := Lib.hid (by rw [HSN.out]; exact HR3.out)
      clear hown' hgrow hnil hrow2 hr2 hm2 HO HR HP
      go_wp2
      go_roundw
      case rel => exact ⟨k + 1, by omega, by go_num, HO3, ⟨_, _, _, rfl⟩, HR4, HM3.out⟩
      case measure => simp [intOf]; omega
    · obtain rfl : k = n := by omega
      obtain ⟨a', c'', e1, hsl, hown⟩ := row_sl (enc := encW) (fun _ => rfl) (rdN_count (rdVr 40) k st1) HO.out
      have HSL := Lib.hid hsl
      have HOW := Lib.hid hown
      cases e1
      clear hsl hown HO
      go_wp2
      go_ret
      exact ⟨_, _, _, rfl, HSL.out, HOW.out, HR.out, hm⟩
end Go.Proofs.YtomlbfkkhhhfkaaDoor.Fc
