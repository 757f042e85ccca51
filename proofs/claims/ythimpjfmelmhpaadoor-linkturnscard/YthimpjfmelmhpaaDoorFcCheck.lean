/-
  Whether a class may stand where it does, by a table.
-/
import Derived.Test.YthimpjfmelmhpaaDoorFcChk
namespace Go.Proofs.YthimpjfmelmhpaaDoor.Fc
open Go.RowKit
set_option linter.unusedVariables false

open Classical in
/-- which error a class has -/
noncomputable def chkG (L : List Fc) : List ByteArray → Bool → Fc → Int
  | [], _, _ => 23
  | x :: l, false, _ => brk L ((x :: l).getLastD eE)
  | x :: l, true, f => if Adj (f.fs.map (·.name)) ∨ Adj (f.ms.map (·.name)) then 6 else if chkF L l f.fs ≠ 0 then chkF L l f.fs else chkM L l f.ms
theorem chkG_adj {L : List Fc} {x : ByteArray} {l : List ByteArray} {f : Fc} (h : Adj (f.fs.map (·.name)) ∨ Adj (f.ms.map (·.name))) : chkG L (x :: l) true f = 6 := by
  simp only [chkG]
  exact if_pos h
theorem chkG_rest {L : List Fc} {x : ByteArray} {l : List ByteArray} {f : Fc} (h : ¬ (Adj (f.fs.map (·.name)) ∨ Adj (f.ms.map (·.name)))) : chkG L (x :: l) true f = if chkF L l f.fs ≠ 0 then chkF L l f.fs else chkM L l f.ms := by
  simp only [chkG]
  exact if_neg h
noncomputable def chk (L : List Fc) (s : ByteArray) : Int := chkG L (ab L s).1 (ab L s).2 ((fnd L s).getD zF)
theorem Sl.tail {w : World} {x : ByteArray} {l : List ByteArray} {g o c : Nat} (h : Sl w 1 StrR (x :: l) (.slice (some ⟨g, o, none⟩) (l.length + 1) c)) : Sl w 1 StrR l (.slice (if c = 1 then some ⟨g, o, none⟩ else some ⟨g, o + 1, none⟩) l.length (c - 1)) := by
  obtain ⟨_, h1, h2, h3⟩ := h.at
  refine ⟨_, c - 1, rfl, by omega, by omega, fun i y hi => ?_⟩
  have hlen : i < l.length := (List.getElem?_eq_some_iff.1 hi).1
  obtain ⟨b, o', cs, ea, hc, hr⟩ := h3 (i + 1) y (by simpa using hi)
  cases ea
  refine ⟨g, o + 1, cs, by rw [if_neg (by omega)], fun j v hv => ?_, hr⟩
  have := hc j v hv
  rwa [show o + 1 + i * 1 + j = o + (i + 1) * 1 + j by omega]
theorem lastD {α : Type} (x : α) (l : List α) (d : α) : (x :: l)[l.length]? = some ((x :: l).getLastD d) := by
  rw [List.getLastD_eq_getLast?, List.getLast?_eq_getElem?]
  simp
theorem belowD (w : World) : Below w.heap.size w w.drew := ⟨rfl, rfl, rfl, Nat.le_refl _, fun _ _ => rfl⟩

set_option maxHeartbeats 8000000 in
set_option maxRecDepth 100000 in
theorem check29 (B tb fm : Nat) (L : List Fc) (hL : L.length ≤ 300) (s : ByteArray) (hs : s.size ≤ maxLen) (w : World) (sv : Value) (c : Nat) (hB : B ≤ w.heap.size) (hT : Tb B w tb fm sv c L) (hc : c < 200000000000) :
    Calls Tryd.prog 26 #[.pointer (some ⟨tb, 0, none⟩), .string s] w (TPost B tb fm L w sv c 10000 (.int .i64 (chk L s))) := by
  have HA := Lib.hid (above13 B tb fm L hL s hs w sv c hB hT (by omega))
  have HSN := Lib.hid (ab_small hT.sm hs)
  have hal := ab_len L s
  clear hT
  go_enter Tryd.func26, Tryd.ntmps26
  go_wp2_with fail
  refine HA.out.mono ?_
  rintro e w1 ⟨v, sv1, c1, rfl, hS, hT1, hs1, hc1⟩
  obtain ⟨a, cp, rfl⟩ := hS.form
  have HCK : Hid (chk L s = chkG L (ab L s).1 (ab L s).2 ((fnd L s).getD zF)) := Lib.hid rfl
  have hcp := hS.at.2.2.1
  unfold maxLen at hcp
  have HT1 := Lib.hid hT1
  have HS1 := Lib.hid hs1
  have HS := Lib.hid hS
  clear HA hT1 hs1 hS
  generalize (ab L s).2 = wh at *
  generalize (ab L s).1 = la at *
  cases la with
  | nil =>
    have HE : Hid (chk L s = 23) := Lib.hid (by rw [HCK.out]; rfl)
    go_wp2
    go_ret
    rw [HE.out]
    exact ⟨sv1, c1, rfl, HT1.out, HS1.out, by omega⟩
  | cons x l =>
    obtain ⟨g, o, cs, rfl, hcell0, rfl⟩ := HS.out.at.2.2.2 0 x rfl
    have hle : (l.length + 1 : Nat) ≤ cp := HS.out.at.2.1
    have hz : (((x :: l).length : Int) == 0) = false := by simp; omega
    cases wh with
    | false =>
      have hlast := lastD x l eE
      obtain ⟨g', o', cs, ea, hcell, rfl⟩ := HS.out.at.2.2.2 _ _ hlast
      cases ea
      have c9 : w1.cell? ⟨g, o + l.length, none⟩ = some (.string ((x :: l).getLastD eE)) := by have := hcell 0 _ rfl; simpa using this
      have hls : ((x :: l).getLastD eE).size ≤ maxLen := by have := HSN.out _ (List.mem_of_getElem? hlast); unfold maxLen; omega
      have HE : Hid (chk L s = brk L ((x :: l).getLastD eE)) := Lib.hid (by rw [HCK.out]; rfl)
      have HBR := Lib.hid (broken45 B tb fm L ((x :: l).getLastD eE) hls w1 sv1 c1 (by have := HS1.out.mods.size; omega) HT1.out (by omega))
      have hsub : ((x :: l).length : Int) - 1 = l.length := by simp
      have hll : (x :: l).length = l.length + 1 := by simp
      generalize (x :: l).getLastD eE = last at *
      clear hlast hcell hcell0 HCK
      go_wp2_with fail
      refine HBR.out.mono ?_
      rintro e w2 ⟨sv2, c2, rfl, hT2, hs2, hc2⟩
      have HT2 := Lib.hid hT2
      have HS2 := Lib.hid (HS1.out.trans hs2)
      clear HBR hT2 hs2
      go_wp2
      go_ret
      rw [HE.out]
      exact ⟨sv2, c2, rfl, HT2.out, HS2.out, by omega⟩
    | true =>
      have HL := Lib.hid (look_any B tb fm L s hs w1 sv1 c1 HT1.out w1 sv1 c1 (Stp.refl _ _ _) (by have := HS1.out.mods.size; omega) HT1.out (by omega))
      have HSM := Lib.hid (HT1.out.small s)
      go_wp2_with fail
      refine HL.out.mono ?_
      rintro e w2 ⟨cs, sv2, c2, rfl, hF, hT2, hs2, hc2⟩
      have hF2 := hF.keep hs2.keeps
      obtain ⟨x1, x2, x3, y1, y2, y3, rfl, hfs, hms⟩ := hF2
      generalize (fnd L s).isSome = fr at *
      generalize (fnd L s).getD zF = f at *
      have hb3 := below1 w2 (.cells #[.string f.name, .string f.sup, .slice x1 x2 x3, .slice y1 y2 y3] 35)
      have hk3 := Keeps.of_below hb3
      have HT3 := Lib.hid (hT2.below hb3)
      have HS3 := Lib.hid ((HS1.out.trans hs2).post hb3)
      have HSl3 := Lib.hid (strs_keep (hs2.keeps.trans hk3) HS.out)
      have HF3 := Lib.hid (vrs_keep hk3 hfs)
      have HM3 := Lib.hid (sgs_keep hk3 hms)
      have HB3 := Lib.hid (Blk.new w2 [.string f.name, .string f.sup, .slice x1 x2 x3, .slice y1 y2 y3] 35)
      have HTW := Lib.hid (twice46 f x1 x2 x3 y1 y2 y3 (w2.alloc (.cells #[.string f.name, .string f.sup, .slice x1 x2 x3, .slice y1 y2 y3] 35)) HF3.out HM3.out)
      clear HL hF hT2 hs2 hfs hms hb3 hk3 HT1 HS1 HS hcell0
      go_wp2_with fail
      refine HTW.out.mono ?_
      rintro e w4 ⟨r, rfl, hr, hb4⟩
      have HT4 := Lib.hid (HT3.out.below hb4)
      have HS4 := Lib.hid (HS3.out.post hb4)
      have hk4 := Keeps.of_below hb4
      have HSl4 := Lib.hid (strs_keep hk4 HSl3.out)
      have HF4 := Lib.hid (vrs_keep hk4 HF3.out)
      have HM4 := Lib.hid (sgs_keep hk4 HM3.out)
      have HB4 := Lib.hid (HB3.out.below hb4)
      have HRR := Lib.hid hr
      clear HTW hb4 hk4 HT3 HS3 HSl3 HF3 HM3 HB3 hr
      cases r with
      | true =>
        have HE : Hid (chk L s = 6) := Lib.hid (by rw [HCK.out]; exact chkG_adj (HRR.out.1 rfl))
        go_wp2
        go_ret
        rw [HE.out]
        exact ⟨sv2, c2, rfl, HT4.out, HS4.out, by omega⟩
      | false =>
        have HE0 : Hid (chk L s = if chkF L l f.fs ≠ 0 then chkF L l f.fs else chkM L l f.ms) := Lib.hid (by rw [HCK.out]; exact chkG_rest (fun h => by have := HRR.out.2 h; cases this))
        have s2 : w4.cell? ⟨w2.heap.size, 2, none⟩ = some (.slice x1 x2 x3) := HB4.out.cell 2
        have s3 : w4.cell? ⟨w2.heap.size, 3, none⟩ = some (.slice y1 y2 y3) := HB4.out.cell 3
        clear HRR HCK
        have h1l : (1 : Int) ≤ (l.length : Int) + 1 := by omega
        have HUP : Hid (∀ t ∈ l, t.size ≤ 60) := Lib.hid (fun t ht => HSN.out t (by simp [ht]))
        have HCF := Lib.hid (checkFields47 B tb fm L f.fs l HSM.out.f1 (by have := HSM.out.fs; omega) HUP.out (by simp at hal; omega) x1 x2 x3 _ _ _ w4.drew sv2 c2 (vrs_keep (Keeps.of_below (belowD w4)) HF4.out) (strs_keep (Keeps.of_below (belowD w4)) HSl4.out.tail) (by have := HS4.out.mods.size; show B ≤ w4.heap.size; omega) (HT4.out.below (belowD w4)) (by omega))
        go_wp2
        refine wp_region_held_drew (S := fun w' => w'.cell? ⟨w2.heap.size, 2, none⟩ = some (.slice x1 x2 x3) ∧ w'.cell? ⟨w2.heap.size, 3, none⟩ = some (.slice y1 y2 y3)) (by kernel_rfl) ?_ (fun hHeld => ?_)
        · exact ⟨s2, s3⟩
        refine wpAnyH_take (i := 0) (v := ?_) rfl (by kernel_rfl) (by kernel_rfl) (by kernel_rfl) (fun _ _ _ h => h) (Or.inl ⟨by rfl, ?_⟩) (by assumption) ?_
        rotate_left
        focus (intro w hSw; obtain ⟨hS2, hS3⟩ := hSw; go_simp; first | done | with_reducible rfl)
        simp only [Act.put, List.getElem_toArray, List.getElem_cons_zero, List.setIfInBounds_toArray, List.set_cons_zero, List.set_cons_succ]
        refine wpAnyH_take (i := 1) (v := ?_) rfl (by kernel_rfl) (by kernel_rfl) (by kernel_rfl) (fun _ _ _ h => h) (Or.inl ⟨by rfl, ?_⟩) (by assumption) ?_
        rotate_left
        focus (intro w hSw; obtain ⟨hS2, hS3⟩ := hSw; go_simp; first | done | with_reducible rfl)
        simp only [Act.put, List.getElem_toArray, List.getElem_cons_zero, List.getElem_cons_succ, List.setIfInBounds_toArray, List.set_cons_zero, List.set_cons_succ]
        refine wpAnyH_take (i := 2) (v := ?_) rfl (by kernel_rfl) (by kernel_rfl) (by kernel_rfl) (fun _ _ _ h => h) (Or.inl ⟨by rfl, ?_⟩) (by assumption) ?_
        rotate_left
        focus (intro w hSw; obtain ⟨hS2, hS3⟩ := hSw; go_simp; first | done | with_reducible rfl)
        simp only [Act.put, List.getElem_toArray, List.getElem_cons_zero, List.getElem_cons_succ, List.setIfInBounds_toArray, List.set_cons_zero, List.set_cons_succ]
        refine wpAnyH_take (i := 3) (v := ?_) rfl (by kernel_rfl) (by kernel_rfl) (by kernel_rfl) (fun _ _ _ h => h) (Or.inl ⟨by rfl, ?_⟩) (by assumption) ?_
        rotate_left
        focus (intro w hSw; obtain ⟨hS2, hS3⟩ := hSw; go_simp; first | done | with_reducible rfl)
        simp only [Act.put, List.getElem_toArray, List.getElem_cons_zero, List.getElem_cons_succ, List.setIfInBounds_toArray, List.set_cons_zero, List.set_cons_succ]
        refine wpAnyH_take (i := 4) (v := ?_) rfl (by kernel_rfl) (by kernel_rfl) (by kernel_rfl) (fun _ _ _ h => h) (Or.inl ⟨by rfl, ?_⟩) (by assumption) ?_
        rotate_left
        focus (intro w hSw; obtain ⟨hS2, hS3⟩ := hSw; go_simp; first | done | with_reducible rfl)
        simp only [Act.put, List.getElem_toArray, List.getElem_cons_zero, List.getElem_cons_succ, List.setIfInBounds_toArray, List.set_cons_zero, List.set_cons_succ]
        refine wpAnyH_ready (rs := [5]) (by kernel_rfl) (by simp) ?_
        refine AllReadyH.cons (o := _) rfl (fun K hK => ?_) AllReadyH.nil
        go_simp
        with_reducible refine (HCF.out).mono ?_
        rintro e w5 ⟨sv5, c5, rfl, hT5, hst5, hc5⟩
        have hke5 := hst5.keeps
        go_simp
        refine hK.out _ _ ⟨hke5 _ _ hHeld.1 (pl_slice _ _ _), hke5 _ _ hHeld.2 (pl_slice _ _ _)⟩ (fun hHeld => ?_)
        clear hK K
        try simp only [Act.put, List.getElem_toArray, List.getElem_cons_zero, List.getElem_cons_succ, List.setIfInBounds_toArray, List.set_cons_zero, List.set_cons_succ]
        refine wpAnyH_take (i := 6) (v := ?_) rfl (by kernel_rfl) (by kernel_rfl) (by kernel_rfl) (fun _ _ _ h => h) (Or.inl ⟨by rfl, ?_⟩) (by assumption) ?_
        rotate_left
        focus (intro w hSw; obtain ⟨hS2, hS3⟩ := hSw; go_simp; first | done | with_reducible rfl)
        simp only [Act.put, List.getElem_toArray, List.getElem_cons_zero, List.getElem_cons_succ, List.setIfInBounds_toArray, List.set_cons_zero, List.set_cons_succ]
        refine wpAnyH_done (by kernel_rfl) ?_ _
        generalize (if cp = 1 then some (⟨g, o, none⟩ : Addr) else some ⟨g, o + 1, none⟩) = ta
        have HT5 := Lib.hid hT5
        have HS5 := Lib.hid ((HS4.out.post (belowD w4)).trans hst5)
        have hk5 : Keeps w4 w5 := (Keeps.of_below (belowD w4)).trans hke5
        have HSl5 := Lib.hid (strs_keep hk5 HSl4.out)
        have HM5 := Lib.hid (sgs_keep hk5 HM4.out)
        have s2' := hk5 _ _ s2 (pl_slice _ _ _)
        have s3' := hk5 _ _ s3 (pl_slice _ _ _)
        have hfl := HSM.out.fs
        clear hT5 hst5 hke5 hk5 HCF HT4 HSl4 HM4 HF4 HB4 s2 s3 hHeld
        generalize chkF L l f.fs = ef at *
        by_cases hef : ef = 0
        · have hz2 : (ef == 0) = true := by simpa using hef
          have HE2 : Hid (chk L s = chkM L l f.ms) := Lib.hid (by rw [HE0.out, if_neg (by simpa using hef)])
          have HCM := Lib.hid (checkMethods48 B tb fm L f.ms l HSM.out.m1 (by have := HSM.out.ms; omega) HUP.out (by simp at hal; omega) y1 y2 y3 _ _ _ w5.drew sv5 c5 (sgs_keep (Keeps.of_below (belowD w5)) HM5.out) (strs_keep (Keeps.of_below (belowD w5)) HSl5.out.tail) (by have := HS5.out.mods.size; show B ≤ w5.heap.size; omega) (HT5.out.below (belowD w5)) (by omega))
          clear hef HE0
          go_wp2
          refine wp_region_held_drew (S := fun w' => w'.cell? ⟨w2.heap.size, 2, none⟩ = some (.slice x1 x2 x3) ∧ w'.cell? ⟨w2.heap.size, 3, none⟩ = some (.slice y1 y2 y3)) (by kernel_rfl) ?_ (fun hHeld => ?_)
          · exact ⟨s2', s3'⟩
          refine wpAnyH_take (i := 0) (v := ?_) rfl (by kernel_rfl) (by kernel_rfl) (by kernel_rfl) (fun _ _ _ h => h) (Or.inl ⟨by rfl, ?_⟩) (by assumption) ?_
          rotate_left
          focus (intro w hSw; obtain ⟨hS2, hS3⟩ := hSw; go_simp; first | done | with_reducible rfl)
          simp only [Act.put, List.getElem_toArray, List.getElem_cons_zero, List.setIfInBounds_toArray, List.set_cons_zero, List.set_cons_succ]
          refine wpAnyH_take (i := 1) (v := ?_) rfl (by kernel_rfl) (by kernel_rfl) (by kernel_rfl) (fun _ _ _ h => h) (Or.inl ⟨by rfl, ?_⟩) (by assumption) ?_
          rotate_left
          focus (intro w hSw; obtain ⟨hS2, hS3⟩ := hSw; go_simp; first | done | with_reducible rfl)
          simp only [Act.put, List.getElem_toArray, List.getElem_cons_zero, List.getElem_cons_succ, List.setIfInBounds_toArray, List.set_cons_zero, List.set_cons_succ]
          refine wpAnyH_take (i := 2) (v := ?_) rfl (by kernel_rfl) (by kernel_rfl) (by kernel_rfl) (fun _ _ _ h => h) (Or.inl ⟨by rfl, ?_⟩) (by assumption) ?_
          rotate_left
          focus (intro w hSw; obtain ⟨hS2, hS3⟩ := hSw; go_simp; first | done | with_reducible rfl)
          simp only [Act.put, List.getElem_toArray, List.getElem_cons_zero, List.getElem_cons_succ, List.setIfInBounds_toArray, List.set_cons_zero, List.set_cons_succ]
          refine wpAnyH_take (i := 3) (v := ?_) rfl (by kernel_rfl) (by kernel_rfl) (by kernel_rfl) (fun _ _ _ h => h) (Or.inl ⟨by rfl, ?_⟩) (by assumption) ?_
          rotate_left
          focus (intro w hSw; obtain ⟨hS2, hS3⟩ := hSw; go_simp; first | done | with_reducible rfl)
          simp only [Act.put, List.getElem_toArray, List.getElem_cons_zero, List.getElem_cons_succ, List.setIfInBounds_toArray, List.set_cons_zero, List.set_cons_succ]
          refine wpAnyH_take (i := 4) (v := ?_) rfl (by kernel_rfl) (by kernel_rfl) (by kernel_rfl) (fun _ _ _ h => h) (Or.inl ⟨by rfl, ?_⟩) (by assumption) ?_
          rotate_left
          focus (intro w hSw; obtain ⟨hS2, hS3⟩ := hSw; go_simp; first | done | with_reducible rfl)
          simp only [Act.put, List.getElem_toArray, List.getElem_cons_zero, List.getElem_cons_succ, List.setIfInBounds_toArray, List.set_cons_zero, List.set_cons_succ]
          refine wpAnyH_ready (rs := [5]) (by kernel_rfl) (by simp) ?_
          refine AllReadyH.cons (o := _) rfl (fun K hK => ?_) AllReadyH.nil
          go_simp
          with_reducible refine (HCM.out).mono ?_
          rintro e w6 ⟨sv6, c6, rfl, hT6, hst6, hc6⟩
          have hke6 := hst6.keeps
          go_simp
          refine hK.out _ _ ⟨hke6 _ _ hHeld.1 (pl_slice _ _ _), hke6 _ _ hHeld.2 (pl_slice _ _ _)⟩ (fun hHeld => ?_)
          clear hK K
          try simp only [Act.put, List.getElem_toArray, List.getElem_cons_zero, List.getElem_cons_succ, List.setIfInBounds_toArray, List.set_cons_zero, List.set_cons_succ]
          refine wpAnyH_take (i := 6) (v := ?_) rfl (by kernel_rfl) (by kernel_rfl) (by kernel_rfl) (fun _ _ _ h => h) (Or.inl ⟨by rfl, ?_⟩) (by assumption) ?_
          rotate_left
          focus (intro w hSw; obtain ⟨hS2, hS3⟩ := hSw; go_simp; first | done | with_reducible rfl)
          simp only [Act.put, List.getElem_toArray, List.getElem_cons_zero, List.getElem_cons_succ, List.setIfInBounds_toArray, List.set_cons_zero, List.set_cons_succ]
          refine wpAnyH_done (by kernel_rfl) ?_ _
          generalize (if cp = 1 then some (⟨g, o, none⟩ : Addr) else some ⟨g, o + 1, none⟩) = ta2
          have HT6 := Lib.hid hT6
          have HS6 := Lib.hid ((HS5.out.post (belowD w5)).trans hst6)
          have hml := HSM.out.ms
          clear hT6 hst6 hke6 HCM hHeld
          go_wp2
          go_ret
          rw [HE2.out]
          exact ⟨sv6, c6, rfl, HT6.out, HS6.out, by omega⟩
        · have hz2 : (ef == 0) = false := by simpa using hef
          have HE2 : Hid (chk L s = ef) := Lib.hid (by rw [HE0.out, if_pos (by simpa using hef)])
          clear hef HE0
          go_wp2
          go_ret
          rw [HE2.out]
          exact ⟨sv5, c5, rfl, HT5.out, HS5.out, by omega⟩
end Go.Proofs.YthimpjfmelmhpaaDoor.Fc
