/-
  HierChecks walked.
-/
import Derived.Test.YtgnkkoeklipmiaaOwn30
namespace Go.Proofs.Ytgnkkoeklipmiaa
open Go.RowKit
set_option linter.unusedVariables false

theorem check_ts {W w : World} {tb fm k : Nat} {L : List Fc} (h : TS W tb fm L k w) (hL : L.length ≤ 100) (hk : k < 150000) (s : ByteArray) (hs : s.size ≤ maxLen) :
    Calls Try.prog 29 #[.pointer (some ⟨tb, 0, none⟩), .string s] w fun e w' => e = .returned (.int .i64 (chk L s)) ∧ TS W tb fm L (k + 10000) w' ∧ Keeps w w' := by
  obtain ⟨B, sv, c, h1, h2, h3, h4, h5⟩ := h
  refine (check29 B tb fm L hL s hs w sv c h3 h1 (by omega)).mono ?_
  rintro e w' ⟨sv', c', rfl, hT, hst, hc⟩
  exact ⟨rfl, TS.next h1 h2 h3 h4 h5 hT hst hc⟩

theorem tsDrew {W w : World} {tb fm k : Nat} {L : List Fc} (h : TS W tb fm L k w) : TS W tb fm L k w.drew := h.below ⟨rfl, rfl, rfl, Nat.le_refl _, fun _ _ => rfl⟩
set_option maxHeartbeats 8000000 in
set_option maxRecDepth 100000 in
theorem checks6 (W : World) (L : List Fc) (v0 : Option Addr) (n cp : Nat) (a : ByteArray) (h : Sl W 4 (FcR W) L (.slice v0 n cp)) (hma : a.size ≤ maxLen) :
    Calls Try.prog 6 #[.slice v0 n cp, .string a] W fun e w' => e = .returned (.bool true) ∧ Below W.heap.size W w' := by
  have HH := Lib.hid h
  have hn := h.at.1
  have hl := h.at.2.1
  have hc := h.at.2.2.1
  have hma' := hma
  unfold maxLen at hc hma'
  have HN := Lib.hid hn
  have HKK := Lib.hid h.at.2.2.2
  clear h hn
  go_enter Try.func6, Try.ntmps6
  go_wp2_with fail
  refine (head9 W).mono ?_
  rintro e w1 ⟨rfl, hb1⟩
  have HF := Lib.hid (few10 L v0 n cp w1 (fcs_keep (Keeps.of_below hb1) HH.out))
  have hz1 := hb1.size
  go_wp2_with fail
  refine HF.out.mono ?_
  rintro e w2 ⟨r, rfl, hr, hb2⟩
  have hB2 : Below W.heap.size W w2 := hb1.trans (hb2.mono hz1)
  clear HF hb2 hb1
  cases r with
  | false =>
    clear hr
    go_wp2
    go_ret
    exact ⟨rfl, hB2⟩
  | true =>
    obtain ⟨hl8, hsm⟩ := hr rfl
    have HSM := Lib.hid hsm
    clear hr hsm
    by_cases hla : 60 < a.size
    · go_wp2
      go_ret
      exact ⟨rfl, hB2⟩
    have HNW := Lib.hid (new11 w2 L v0 n cp (fcs_keep (Keeps.of_below hB2) HH.out) (by have := HN.out; omega) HSM.out)
    go_wp2_with fail
    refine HNW.out.mono ?_
    rintro e w3 ⟨tb, fm, rfl, hT, hb3⟩
    have HT3 : Hid (TS W tb fm L 0 w3) := Lib.hid (TS.start hB2 hT hb3)
    clear HNW hT hb3 hB2
    go_wp2
    generalize decide ((60 : Int) < ↑a.size) = dd
    go_loopw [22] (fun i wr => ∃ k : Nat, k ≤ n ∧ i = .int .i64 k ∧ Hid (TS W tb fm L (10000 * k) wr)) (fun i _ => n - (intOf i).toNat)
    case atStart => exact ⟨0, Nat.zero_le _, rfl, HT3⟩
    case round =>
      obtain ⟨k, hk1, rfl, HT⟩ := hrel
      clear HT3
      by_cases hlt : k < n
      · obtain ⟨x, hx⟩ : ∃ v, L[k]? = some v := ⟨_, List.getElem?_eq_getElem (by have := HN.out; omega)⟩
        obtain ⟨g, o, cs, rfl, hcell, b1, m1, d1, b2, m2, d2, rfl, _, _⟩ := HKK.out k x hx
        have hbr := HT.out.bel
        have c0 : wr.cell? ⟨g, o + k * 4, none⟩ = some (.string x.name) := (hbr.cell (World.block_lt_of_cell? _ _ (hcell 0 _ rfl))).trans (hcell 0 _ rfl)
        have hgl : g < wr.heap.size := World.block_lt_of_cell? _ _ c0
        have q1 := (hbr.cell (World.block_lt_of_cell? _ _ (hcell 1 _ rfl))).trans (hcell 1 _ rfl)
        have q2 := (hbr.cell (World.block_lt_of_cell? _ _ (hcell 2 _ rfl))).trans (hcell 2 _ rfl)
        have q3 := (hbr.cell (World.block_lt_of_cell? _ _ (hcell 3 _ rfl))).trans (hcell 3 _ rfl)
        have hxs : x.name.size ≤ maxLen := by have := (HSM.out x (List.mem_of_getElem? hx)).name; unfold maxLen; omega
        clear hcell hx hbr
        have k0 : (wr.alloc (.cells #[.string x.name, .string x.sup, .slice b1 m1 d1, .slice b2 m2 d2] 35)).cell? ⟨wr.heap.size, 0, none⟩ = some (.string x.name) := (Blk.new wr [.string x.name, .string x.sup, .slice b1 m1 d1, .slice b2 m2 d2] 35).cell 0
        have HCK := Lib.hid (check_ts (tsDrew (HT.out.below (below1 wr (.cells #[.string x.name, .string x.sup, .slice b1 m1 d1, .slice b2 m2 d2] 35)))) (by omega) (by have := HN.out; omega) x.name hxs)
        obtain ⟨ck, hck⟩ : ∃ c, c = chk L x.name := ⟨_, rfl⟩
        rw [← hck] at HCK
        have hcc : (ck == ck) = true := by simp
        clear HT
        go_wp2
        refine wp_region_held_drew (S := fun w' => w'.cell? ⟨wr.heap.size, 0, none⟩ = some (.string x.name)) (by kernel_rfl) ?_ (fun hHeld => ?_)
        · exact k0
        refine wpAnyH_take (i := 0) (v := ?_) rfl (by kernel_rfl) (by kernel_rfl) (by kernel_rfl) (fun _ _ _ h => h) (Or.inl ⟨by rfl, ?_⟩) (by assumption) ?_
        rotate_left
        focus (intro w hSw; have hSw2 := hSw; go_simp; first | done | with_reducible rfl)
        simp only [Act.put, List.getElem_toArray, List.getElem_cons_zero, List.setIfInBounds_toArray, List.set_cons_zero, List.set_cons_succ]
        refine wpAnyH_take (i := 1) (v := ?_) rfl (by kernel_rfl) (by kernel_rfl) (by kernel_rfl) (fun _ _ _ h => h) (Or.inl ⟨by rfl, ?_⟩) (by assumption) ?_
        rotate_left
        focus (intro w hSw; have hSw2 := hSw; go_simp; first | done | with_reducible rfl)
        simp only [Act.put, List.getElem_toArray, List.getElem_cons_zero, List.getElem_cons_succ, List.setIfInBounds_toArray, List.set_cons_zero, List.set_cons_succ]
        refine wpAnyH_take (i := 2) (v := ?_) rfl (by kernel_rfl) (by kernel_rfl) (by kernel_rfl) (fun _ _ _ h => h) (Or.inl ⟨by rfl, ?_⟩) (by assumption) ?_
        rotate_left
        focus (intro w hSw; have hSw2 := hSw; go_simp; first | done | with_reducible rfl)
        simp only [Act.put, List.getElem_toArray, List.getElem_cons_zero, List.getElem_cons_succ, List.setIfInBounds_toArray, List.set_cons_zero, List.set_cons_succ]
        refine wpAnyH_take (i := 4) (v := ?_) rfl (by kernel_rfl) (by kernel_rfl) (by kernel_rfl) (fun _ _ _ h => h) (Or.inl ⟨by rfl, ?_⟩) (by assumption) ?_
        rotate_left
        focus (intro w hSw; have hSw2 := hSw; go_simp; first | done | with_reducible rfl)
        simp only [Act.put, List.getElem_toArray, List.getElem_cons_zero, List.getElem_cons_succ, List.setIfInBounds_toArray, List.set_cons_zero, List.set_cons_succ]
        refine wpAnyH_take (i := 5) (v := ?_) rfl (by kernel_rfl) (by kernel_rfl) (by kernel_rfl) (fun _ _ _ h => h) (Or.inl ⟨by rfl, ?_⟩) (by assumption) ?_
        rotate_left
        focus (intro w hSw; have hSw2 := hSw; go_simp; first | done | with_reducible rfl)
        simp only [Act.put, List.getElem_toArray, List.getElem_cons_zero, List.getElem_cons_succ, List.setIfInBounds_toArray, List.set_cons_zero, List.set_cons_succ]
        refine wpAnyH_take (i := 6) (v := ?_) rfl (by kernel_rfl) (by kernel_rfl) (by kernel_rfl) (fun _ _ _ h => h) (Or.inl ⟨by rfl, ?_⟩) (by assumption) ?_
        rotate_left
        focus (intro w hSw; have hSw2 := hSw; go_simp; first | done | with_reducible rfl)
        simp only [Act.put, List.getElem_toArray, List.getElem_cons_zero, List.getElem_cons_succ, List.setIfInBounds_toArray, List.set_cons_zero, List.set_cons_succ]
        refine wpAnyH_ready (rs := [3]) (by kernel_rfl) (by simp) ?_
        refine AllReadyH.cons (o := _) rfl (fun K hK => ?_) AllReadyH.nil
        go_simp
        with_reducible refine (HCK.out).mono ?_
        rintro e w4 ⟨rfl, hT4, hk4⟩
        have HCO := Lib.hid (check30 L hl8 x.name _ n cp w4 (fcs_keep (Keeps.of_below hT4.bel) HH.out))
        rw [← hck] at HCO
        go_simp
        refine hK.out _ _ (hk4 _ _ hHeld (pl_str _)) (fun hHeld => ?_)
        clear hK K
        try simp only [Act.put, List.getElem_toArray, List.getElem_cons_zero, List.getElem_cons_succ, List.setIfInBounds_toArray, List.set_cons_zero, List.set_cons_succ]
        refine wpAnyH_ready (rs := [7]) (by kernel_rfl) (by simp) ?_
        refine AllReadyH.cons (o := _) rfl (fun K hK => ?_) AllReadyH.nil
        go_simp
        with_reducible refine (HCO.out).mono ?_
        rintro e w5 ⟨rfl, hb5⟩
        have hT5 := hT4.below hb5
        go_simp
        refine hK.out _ _ ((Keeps.of_below hb5) _ _ hHeld (pl_str _)) (fun hHeld => ?_)
        clear hK K
        try simp only [Act.put, List.getElem_toArray, List.getElem_cons_zero, List.getElem_cons_succ, List.setIfInBounds_toArray, List.set_cons_zero, List.set_cons_succ]
        refine wpAnyH_take (i := 8) (v := ?_) rfl (by kernel_rfl) (by kernel_rfl) (by kernel_rfl) (fun _ _ _ h => h) (Or.inl ⟨by rfl, ?_⟩) (by assumption) ?_
        rotate_left
        focus (intro w hSw; have hSw2 := hSw; go_simp; first | done | with_reducible rfl)
        simp only [Act.put, List.getElem_toArray, List.getElem_cons_zero, List.getElem_cons_succ, List.setIfInBounds_toArray, List.set_cons_zero, List.set_cons_succ]
        refine wpAnyH_done (by kernel_rfl) ?_ _
        have HT5 := Lib.hid hT5
        clear hT4 hT5 hk4 hb5 HCK HCO hHeld hck
        go_wp2
        go_roundw
        case rel => exact ⟨k + 1, by omega, by go_num, HT5⟩
        case measure => simp [intOf]; omega
      · have HCK := Lib.hid (check_ts HT.out (by omega) (by have := HN.out; omega) a hma)
        obtain ⟨ck, hck⟩ : ∃ c, c = chk L a := ⟨_, rfl⟩
        rw [← hck] at HCK
        have hcc : (ck == ck) = true := by simp
        have HCKE := Lib.hid hck
        clear HT hck
        go_wp2_with fail
        refine HCK.out.mono ?_
        rintro e w4 ⟨rfl, hT4, hk4⟩
        have HCO := Lib.hid (check30 L hl8 a v0 n cp w4 (fcs_keep (Keeps.of_below hT4.bel) HH.out))
        rw [← HCKE.out] at HCO
        have HT4 := Lib.hid hT4
        clear hT4 hk4 HCK HCKE
        go_wp2_with fail
        refine HCO.out.mono ?_
        rintro e w5 ⟨rfl, hb5⟩
        have HB5 := Lib.hid (HT4.out.below hb5).bel
        clear HCO hb5 HT4
        go_wp2
        go_ret
        exact ⟨rfl, HB5.out⟩
end Go.Proofs.Ytgnkkoeklipmiaa
