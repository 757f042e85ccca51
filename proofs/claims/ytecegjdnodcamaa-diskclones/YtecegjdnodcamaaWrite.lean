/-
  A disk's Write, Rename, Remove, Read.
-/
import Derived.Test.YtecegjdnodcamaaChange
namespace Go.Proofs.Ytecegjdnodcamaa
open Go.RowKit Go.Maps

def nameOk (s : ByteArray) : Bool := decide (0 < s.size ∧ s.size ≤ 80)
theorem toList_empty (s : ByteArray) : s.toList.isEmpty = decide (s.size = 0) := by
  rw [ByteArray.toList_eq]
  cases s with
  | mk d => cases d with | mk l => cases l <;> simp [ByteArray.size]

set_option maxHeartbeats 400000 in
theorem isname_any (s : ByteArray) (w : World) (hs : s.size ≤ maxLen) :
    Calls Try.prog 36 #[.string s] w fun e w' => e = .returned (.bool (nameOk s)) ∧ w = w' := by
  unfold maxLen at hs
  by_cases h0 : s.size = 0
  · have h1 : s.toList.isEmpty = true := by rw [toList_empty, h0]; rfl
    have e : nameOk s = false := by simp [nameOk, h0]
    rw [e]
    go_enter Try.func36, Try.ntmps36
    go_wp2
    go_ret
    exact ⟨rfl, rfl⟩
  · have h1 : s.toList.isEmpty = false := by rw [toList_empty]; simpa using h0
    by_cases h80 : s.size ≤ 80
    · have e : nameOk s = true := by simp [nameOk, h80]; omega
      have hd : decide ((s.size : Int) ≤ 80) = true := decide_eq_true (by omega)
      rw [e]
      go_enter Try.func36, Try.ntmps36
      go_wp2
      go_ret
      exact ⟨rfl, rfl⟩
    · have e : nameOk s = false := by simp [nameOk]; omega
      have hd : decide ((s.size : Int) ≤ 80) = false := decide_eq_false (by omega)
      rw [e]
      go_enter Try.func36, Try.ntmps36
      go_wp2
      go_ret
      exact ⟨rfl, rfl⟩

def wrS (S : DS) (name text : ByteArray) : Nat × DS :=
  if (turnS S).1 = false then (8, (turnS S).2) else if nameOk name = false then (1, (turnS S).2)
  else if (S.room : Int) - tot S.now + (get S.now name).size < text.size then (7, (turnS S).2) else (0, addS (turnS S).2 ⟨0, name, text⟩)

/-- a disk behind a call: its blocks are those that it had, and new ones -/
def ext (fp : Nat → Prop) (w w' : World) (k : Nat) : Prop := fp k ∨ w.heap.size ≤ k ∧ k < w'.heap.size

theorem turnS_now (S : DS) : (turnS S).2.now = S.now := by
  have := turnS_ch S
  unfold DS.now
  rw [this.1, this.2.1]
theorem turnS_wt (S : DS) : (turnS S).2.wt = S.wt := by
  have := turnS_ch S
  unfold DS.wt
  rw [this.1, this.2.1]
theorem turnS_cnt (S : DS) : (turnS S).2.cnt = S.cnt := by
  have := turnS_ch S
  unfold DS.cnt
  rw [this.1, this.2.1]

theorem DV.at_ {w : World} {bd : Nat} {vn vs cv : Value} {S : DS} {fp : Nat → Prop} (h : DV w bd vn vs cv S) (hf : ∀ k, foot bd vn vs cv k → fp k) : DAt w bd fp S := ⟨vn, vs, cv, h, hf⟩

theorem DV.drewN {w : World} {bd : Nat} {vn vs cv : Value} {S : DS} (h : DV w bd vn vs cv S) (n : Nat) : DV (w.drewN n) bd vn vs cv S := h.keep (fq := fun _ => False) ((Mods.refl _ w).drewN n) (fun _ _ => id)

theorem looked (w : World) (bd : Nat) (vn vs cv : Value) (S : DS) (h : DV w bd vn vs cv S) (name : ByteArray) (hn : name.size ≤ maxLen) : (Instr.lookup 66 vn (.string name) false).run Try.prog w = .ok (.agg #[.string (get S.now name)]) w := h.now.look h.ok.goodn name hn

theorem changed_end {w w1 w2 : World} {bd : Nat} {vn vs cv vn' cv' : Value} {fp : Nat → Prop} {S' : DS} (hf : ∀ k, foot bd vn vs cv k → fp k) (hm : Mods (· = bd) w w1) (hd : DV w2 bd vn' vs cv' S')
    (hf2 : ∀ k, foot bd vn' vs cv' k → foot bd vn vs cv k ∨ w1.heap.size ≤ k) (hm2 : Mods (foot bd vn vs cv) w1 w2) : DAt w2 bd (ext fp w w2) S' ∧ Mods fp w w2 := by
  refine ⟨hd.at_ (fun k hk => ?_), hm.trans hm2 (fun i _ e => by rw [e]; exact hf bd (.inl rfl)) (fun i _ e => hf i e)⟩
  rcases hf2 k hk with e | e
  · exact .inl (hf k e)
  · exact .inr ⟨Nat.le_trans hm.size e, hd.foot_lt k hk⟩
theorem changed_end_drew {w w1 w2 : World} {n : Nat} {bd : Nat} {vn vs cv vn' cv' : Value} {fp : Nat → Prop} {S' : DS} (hf : ∀ k, foot bd vn vs cv k → fp k) (hm : Mods (· = bd) w w1) (hd : DV w2 bd vn' vs cv' S')
    (hf2 : ∀ k, foot bd vn' vs cv' k → foot bd vn vs cv k ∨ (w1.drewN n).heap.size ≤ k) (hm2 : Mods (foot bd vn vs cv) (w1.drewN n) w2) : DAt w2 bd (ext fp w w2) S' ∧ Mods fp w w2 := changed_end hf (hm.drewN n) hd hf2 hm2

set_option maxHeartbeats 1600000 in
set_option maxRecDepth 100000 in
theorem write_any (w : World) (bd : Nat) (fp : Nat → Prop) (S : DS) (h : DAt w bd fp S) (name text : ByteArray) (hn : name.size ≤ maxLen) (ht : text.size ≤ maxLen) (h1 : S.wt + text.size ≤ 1099511627776) (h2 : S.cnt + 1 ≤ 500000) :
    Calls Try.prog 24 #[.pointer (some ⟨bd, 0, none⟩), .string name, .string text] w fun e w' => e = .returned (.int .i64 ((wrS S name text).1 : Int)) ∧ DAt w' bd (ext fp w w') (wrS S name text).2 ∧ Mods fp w w' := by
  obtain ⟨vn, vs, cv, h, hf⟩ := h
  have HC := Lib.hid (turn_dv w bd vn vs cv S h)
  have HN := Lib.hid (isname_any name)
  have hfb := hf bd (.inl rfl)
  cases hp : (turnS S).1
  · rw [hp] at HC
    have HE : Hid (wrS S name text = (8, (turnS S).2)) := Lib.hid (by unfold wrS; rw [if_pos hp])
    clear h hp
    rw [HE.out]
    go_enter Try.func24, Try.ntmps24
    go_wp2_with fail
    refine HC.out.mono ?_
    rintro e w1 ⟨rfl, hd, hm⟩
    go_wp2
    go_ret
    exact ⟨rfl, hd.at_ (fun k hk => .inl (hf k hk)), hm.weak (fun i _ e => by rw [e]; exact hfb)⟩
  · rw [hp] at HC
    cases hq : nameOk name
    · have HE : Hid (wrS S name text = (1, (turnS S).2)) := Lib.hid (by unfold wrS; rw [if_neg (by simp [hp]), if_pos hq])
      rw [hq] at HN
      clear h hp hq
      rw [HE.out]
      go_enter Try.func24, Try.ntmps24
      go_wp2_with fail
      refine HC.out.mono ?_
      rintro e w1 ⟨rfl, hd, hm⟩
      go_wp2_with fail
      refine (HN.out w1 hn).mono ?_
      rintro e w1' ⟨rfl, rfl⟩
      go_wp2
      go_ret
      exact ⟨rfl, hd.at_ (fun k hk => .inl (hf k hk)), hm.weak (fun i _ e => by rw [e]; exact hfb)⟩
    · rw [hq] at HN
      have hg := h.now.get_le h.ok.goodn name hn
      have hfd := field74 (get S.now name)
      have hr := h.ok.room
      have htn := h.ok.totn
      have hgt : (get S.now name).size ≤ tot S.now := by have := tot_del h.ok.goodn name; omega
      have HTN := Lib.hid (turnS_now S)
      have HTR := Lib.hid (turnS_ch S).2.2
      by_cases hfull : (S.room : Int) - tot S.now + (get S.now name).size < text.size
      · have HE : Hid (wrS S name text = (7, (turnS S).2)) := Lib.hid (by unfold wrS; rw [if_neg (by simp [hp]), if_neg (by simp [hq]), if_pos hfull])
        clear h hp hq
        rw [HE.out]
        go_enter Try.func24, Try.ntmps24
        go_wp2_with fail
        refine HC.out.mono ?_
        rintro e w1 ⟨rfl, hd, hm⟩
        go_wp2_with fail
        refine (HN.out w1 hn).mono ?_
        rintro e w1' ⟨rfl, rfl⟩
        have c1 : w1.cell? ⟨bd, 1, none⟩ = some vn := hd.blk.cell 1
        have hl := fun n => looked (w1.drewN n) bd vn vs cv _ (hd.drewN n) name hn
        have HRm := Lib.hid (fun n => room_dv (w1.drewN n) bd vn vs cv _ (hd.drewN n))
        rw [HTN.out] at hl
        rw [HTN.out, HTR.out] at HRm
        go_wp2
        go_quiet ((go_at_call 27; exact Calls.quiet_of (HRm.out _)))
        go_wp2
        go_ret
        exact ⟨rfl, (hd.drewN _).at_ (fun k hk => .inl (hf k hk)), (hm.weak (fun i _ e => by rw [e]; exact hfb)).drewN _⟩
      · have HE : Hid (wrS S name text = (0, addS (turnS S).2 ⟨0, name, text⟩)) := Lib.hid (by unfold wrS; rw [if_neg (by simp [hp]), if_neg (by simp [hq]), if_neg hfull])
        have hfull' : ¬ ((text.size : Int) > (S.room : Int) - tot S.now + (get S.now name).size) := by omega
        clear h hp hq
        rw [HE.out]
        go_enter Try.func24, Try.ntmps24
        go_wp2_with fail
        refine HC.out.mono ?_
        rintro e w1 ⟨rfl, hd, hm⟩
        go_wp2_with fail
        refine (HN.out w1 hn).mono ?_
        rintro e w1' ⟨rfl, rfl⟩
        have c1 : w1.cell? ⟨bd, 1, none⟩ = some vn := hd.blk.cell 1
        have hl := fun n => looked (w1.drewN n) bd vn vs cv _ (hd.drewN n) name hn
        have HRm := Lib.hid (fun n => room_dv (w1.drewN n) bd vn vs cv _ (hd.drewN n))
        rw [HTN.out] at hl
        rw [HTN.out, HTR.out] at HRm
        go_wp2
        go_quiet ((go_at_call 27; exact Calls.quiet_of (HRm.out _)))
        have HD := Lib.hid (hd.drewN nq)
        have HW := Lib.hid (turnS_wt S)
        have HCt := Lib.hid (turnS_cnt S)
        clear hd hl
        go_wp2_with fail
        refine (change_dv _ bd vn vs cv _ HD.out ⟨0, name, text⟩ ⟨by show (0:Nat) ≤ 2; omega, hn, ht⟩ (by rw [HW.out]; exact h1) (by rw [HCt.out]; exact h2)).mono ?_
        rintro e w2 ⟨rfl, vn', cv', hd2, hf2, hm2⟩
        go_wp2
        go_ret
        exact ⟨rfl, changed_end_drew hf hm hd2 hf2 hm2⟩

def rnS (S : DS) (n1 n2 : ByteArray) : Nat × DS :=
  if (turnS S).1 = false then (8, (turnS S).2) else if nameOk n2 = false then (1, (turnS S).2) else if hasF S.now n1 = false then (5, (turnS S).2) else (0, addS (turnS S).2 ⟨1, n1, n2⟩)

set_option maxHeartbeats 1600000 in
set_option maxRecDepth 100000 in
theorem rename_any (w : World) (bd : Nat) (fp : Nat → Prop) (S : DS) (h : DAt w bd fp S) (n1 n2 : ByteArray) (hn : n1.size ≤ maxLen) (ht : n2.size ≤ maxLen) (h1 : S.wt + n2.size ≤ 1099511627776) (h2 : S.cnt + 1 ≤ 500000) :
    Calls Try.prog 30 #[.pointer (some ⟨bd, 0, none⟩), .string n1, .string n2] w fun e w' => e = .returned (.int .i64 ((rnS S n1 n2).1 : Int)) ∧ DAt w' bd (ext fp w w') (rnS S n1 n2).2 ∧ Mods fp w w' := by
  obtain ⟨vn, vs, cv, h, hf⟩ := h
  have HC := Lib.hid (turn_dv w bd vn vs cv S h)
  have HN := Lib.hid (isname_any n2)
  have hfb := hf bd (.inl rfl)
  cases hp : (turnS S).1
  · rw [hp] at HC
    have HE : Hid (rnS S n1 n2 = (8, (turnS S).2)) := Lib.hid (by unfold rnS; rw [if_pos hp])
    clear h hp
    rw [HE.out]
    go_enter Try.func30, Try.ntmps30
    go_wp2_with fail
    refine HC.out.mono ?_
    rintro e w1 ⟨rfl, hd, hm⟩
    go_wp2
    go_ret
    exact ⟨rfl, hd.at_ (fun k hk => .inl (hf k hk)), hm.weak (fun i _ e => by rw [e]; exact hfb)⟩
  · rw [hp] at HC
    cases hq : nameOk n2
    · have HE : Hid (rnS S n1 n2 = (1, (turnS S).2)) := Lib.hid (by unfold rnS; rw [if_neg (by simp [hp]), if_pos hq])
      rw [hq] at HN
      clear h hp hq
      rw [HE.out]
      go_enter Try.func30, Try.ntmps30
      go_wp2_with fail
      refine HC.out.mono ?_
      rintro e w1 ⟨rfl, hd, hm⟩
      go_wp2_with fail
      refine (HN.out w1 ht).mono ?_
      rintro e w1' ⟨rfl, rfl⟩
      go_wp2
      go_ret
      exact ⟨rfl, hd.at_ (fun k hk => .inl (hf k hk)), hm.weak (fun i _ e => by rw [e]; exact hfb)⟩
    · rw [hq] at HN
      have HTN := Lib.hid (turnS_now S)
      cases hh : hasF S.now n1
      · have HE : Hid (rnS S n1 n2 = (5, (turnS S).2)) := Lib.hid (by unfold rnS; rw [if_neg (by simp [hp]), if_neg (by simp [hq]), if_pos hh])
        have HH := Lib.hid hh
        clear h hp hq hh
        rw [HE.out]
        go_enter Try.func30, Try.ntmps30
        go_wp2_with fail
        refine HC.out.mono ?_
        rintro e w1 ⟨rfl, hd, hm⟩
        go_wp2_with fail
        refine (HN.out w1 ht).mono ?_
        rintro e w1' ⟨rfl, rfl⟩
        have HS := Lib.hid (has_any w1 bd 1 _ 71 vn _ hd.nowS n1 hn)
        rw [HTN.out, HH.out] at HS
        go_wp2_with fail
        refine HS.out.mono ?_
        rintro e w2 ⟨rfl, hb2⟩
        go_wp2
        go_ret
        exact ⟨rfl, (hd.keep (fq := fun _ => False) (Mods.of_below hb2) (fun _ _ => id)).at_ (fun k hk => .inl (hf k hk)), hm.trans (Mods.of_below (fp := fun _ => False) hb2) (fun i _ e => by rw [e]; exact hfb) (fun _ _ e => e.elim)⟩
      · have HE : Hid (rnS S n1 n2 = (0, addS (turnS S).2 ⟨1, n1, n2⟩)) := Lib.hid (by unfold rnS; rw [if_neg (by simp [hp]), if_neg (by simp [hq]), if_neg (by simp [hh])])
        have HH := Lib.hid hh
        clear h hp hq hh
        rw [HE.out]
        go_enter Try.func30, Try.ntmps30
        go_wp2_with fail
        refine HC.out.mono ?_
        rintro e w1 ⟨rfl, hd, hm⟩
        go_wp2_with fail
        refine (HN.out w1 ht).mono ?_
        rintro e w1' ⟨rfl, rfl⟩
        have HS := Lib.hid (has_any w1 bd 1 _ 71 vn _ hd.nowS n1 hn)
        rw [HTN.out, HH.out] at HS
        go_wp2_with fail
        refine HS.out.mono ?_
        rintro e w2 ⟨rfl, hb2⟩
        have HD := Lib.hid (hd.keep (fq := fun _ => False) (Mods.of_below hb2) (fun _ _ => id))
        have hmB : Mods (· = bd) w w2 := hm.trans (Mods.of_below (fp := fun _ => False) hb2) (fun i _ e => e) (fun _ _ e => e.elim)
        have HW := Lib.hid (turnS_wt S)
        have HCt := Lib.hid (turnS_cnt S)
        clear hd hm hb2
        go_wp2_with fail
        refine (change_dv _ bd vn vs cv _ HD.out ⟨1, n1, n2⟩ ⟨by show (1:Nat) ≤ 2; omega, hn, ht⟩ (by rw [HW.out]; exact h1) (by rw [HCt.out]; exact h2)).mono ?_
        rintro e w3 ⟨rfl, vn', cv', hd2, hf2, hm2⟩
        go_wp2
        go_ret
        exact ⟨rfl, changed_end hf hmB hd2 hf2 hm2⟩

def rmS (S : DS) (n1 : ByteArray) : Nat × DS :=
  if (turnS S).1 = false then (8, (turnS S).2) else if hasF S.now n1 = false then (5, (turnS S).2) else (0, addS (turnS S).2 ⟨2, n1, ByteArray.empty⟩)

set_option maxHeartbeats 1600000 in
set_option maxRecDepth 100000 in
theorem remove_any (w : World) (bd : Nat) (fp : Nat → Prop) (S : DS) (h : DAt w bd fp S) (n1 : ByteArray) (hn : n1.size ≤ maxLen) (h2 : S.cnt + 1 ≤ 500000) :
    Calls Try.prog 29 #[.pointer (some ⟨bd, 0, none⟩), .string n1] w fun e w' => e = .returned (.int .i64 ((rmS S n1).1 : Int)) ∧ DAt w' bd (ext fp w w') (rmS S n1).2 ∧ Mods fp w w' := by
  obtain ⟨vn, vs, cv, h, hf⟩ := h
  have HC := Lib.hid (turn_dv w bd vn vs cv S h)
  have hfb := hf bd (.inl rfl)
  have HWT := Lib.hid h.ok.wt
  cases hp : (turnS S).1
  · rw [hp] at HC
    have HE : Hid (rmS S n1 = (8, (turnS S).2)) := Lib.hid (by unfold rmS; rw [if_pos hp])
    clear h hp
    rw [HE.out]
    go_enter Try.func29, Try.ntmps29
    go_wp2_with fail
    refine HC.out.mono ?_
    rintro e w1 ⟨rfl, hd, hm⟩
    go_wp2
    go_ret
    exact ⟨rfl, hd.at_ (fun k hk => .inl (hf k hk)), hm.weak (fun i _ e => by rw [e]; exact hfb)⟩
  · rw [hp] at HC
    have HTN := Lib.hid (turnS_now S)
    cases hh : hasF S.now n1
    · have HE : Hid (rmS S n1 = (5, (turnS S).2)) := Lib.hid (by unfold rmS; rw [if_neg (by simp [hp]), if_pos hh])
      have HH := Lib.hid hh
      clear h hp hh
      rw [HE.out]
      go_enter Try.func29, Try.ntmps29
      go_wp2_with fail
      refine HC.out.mono ?_
      rintro e w1 ⟨rfl, hd, hm⟩
      have HS := Lib.hid (has_any w1 bd 1 _ 71 vn _ hd.nowS n1 hn)
      rw [HTN.out, HH.out] at HS
      go_wp2_with fail
      refine HS.out.mono ?_
      rintro e w2 ⟨rfl, hb2⟩
      go_wp2
      go_ret
      exact ⟨rfl, (hd.keep (fq := fun _ => False) (Mods.of_below hb2) (fun _ _ => id)).at_ (fun k hk => .inl (hf k hk)), hm.trans (Mods.of_below (fp := fun _ => False) hb2) (fun i _ e => by rw [e]; exact hfb) (fun _ _ e => e.elim)⟩
    · have HE : Hid (rmS S n1 = (0, addS (turnS S).2 ⟨2, n1, ByteArray.empty⟩)) := Lib.hid (by unfold rmS; rw [if_neg (by simp [hp]), if_neg (by simp [hh])])
      have HH := Lib.hid hh
      clear h hp hh
      rw [HE.out]
      go_enter Try.func29, Try.ntmps29
      go_wp2_with fail
      refine HC.out.mono ?_
      rintro e w1 ⟨rfl, hd, hm⟩
      have HS := Lib.hid (has_any w1 bd 1 _ 71 vn _ hd.nowS n1 hn)
      rw [HTN.out, HH.out] at HS
      go_wp2_with fail
      refine HS.out.mono ?_
      rintro e w2 ⟨rfl, hb2⟩
      have HD := Lib.hid (hd.keep (fq := fun _ => False) (Mods.of_below hb2) (fun _ _ => id))
      have hmB : Mods (· = bd) w w2 := hm.trans (Mods.of_below (fp := fun _ => False) hb2) (fun i _ e => e) (fun _ _ e => e.elim)
      have HW := Lib.hid (turnS_wt S)
      have HCt := Lib.hid (turnS_cnt S)
      clear hd hm hb2
      go_wp2_with fail
      refine (change_dv _ bd vn vs cv _ HD.out ⟨2, n1, ByteArray.empty⟩ ⟨by show (2:Nat) ≤ 2; omega, hn, by simp⟩ (by rw [HW.out]; exact HWT.out) (by rw [HCt.out]; exact h2)).mono ?_
      rintro e w3 ⟨rfl, vn', cv', hd2, hf2, hm2⟩
      go_wp2
      go_ret
      exact ⟨rfl, changed_end hf hmB hd2 hf2 hm2⟩

end Go.Proofs.Ytecegjdnodcamaa
