/-
  A new table.
-/
import Derived.Test.YthimpjfmelmhpaaDoorFcTab
namespace Go.Proofs.YthimpjfmelmhpaaDoor.Fc
open Go.RowKit
set_option linter.unusedVariables false

/-- A table under way. -/
structure NInv (W wr : World) (L : List Fc) (k : Nat) : Prop where
  blk : Blk wr (W.heap.size + 1) [.map (some W.heap.size), .map none] 109
  faces : Faces wr W.heap.size k (L.take k)
  bel : Below W.heap.size W wr

theorem NInv.below {W w w' : World} {L : List Fc} {k : Nat} (h : NInv W w L k) (hb : Below w.heap.size w w') : NInv W w' L k :=
  ⟨h.blk.below hb, h.faces.keep (fp := fun _ => False) (Mods.of_below hb) id (Keeps.of_below hb), h.bel.trans (hb.mono h.bel.size)⟩
theorem NInv.store {W w : World} {L : List Fc} {k : Nat} {x : Fc} {cs : List Value} (h : NInv W w L k) (hx : L[k]? = some x) (hs : x.name.size ≤ 60) (hk : k ≤ 1000) (hF : FcR w x cs) :
    ∃ w', (Instr.mapUpdate 107 (.map (some W.heap.size)) (.string x.name) (.agg cs.toArray)).run Tryd.prog w = .ok () w' ∧ Mods (· = W.heap.size) w w' ∧ NInv W w' L (k + 1) := by
  obtain ⟨g, h1, h2⟩ := h.faces
  obtain ⟨w', hrun, h3, hm⟩ := h1.store Tryd.underlying107 (by unfold maxLen; omega) (show x.name.size ≤ maxLen by unfold maxLen; omega) (.agg cs.toArray)
  have hke := keeps_map h1 hm
  refine ⟨w', hrun, hm, h.blk.keep hm (by omega), ⟨_, h3, fun s => ?_⟩, h.bel.trans (hm.below (fun k e => by omega) h.bel.size)⟩
  have hkl : k < L.length := (List.getElem?_eq_some_iff.1 hx).1
  rw [List.take_succ_eq_append_getElem hkl, fnd_snoc]
  obtain rfl : L[k] = x := (List.getElem?_eq_some_iff.1 hx).2
  unfold upd
  by_cases e : s = L[k].name
  · rw [if_pos e.symm, if_pos e]
    exact ⟨cs, rfl, hF.keep hke⟩
  · rw [if_neg (fun e' => e e'.symm), if_neg e]
    exact (h2 s).keep hke

set_option maxHeartbeats 2000000 in
theorem new11' (W : World) (L : List Fc) (a : Option Addr) (n c : Nat) (h : Sl W 4 (FcR W) L (.slice a n c)) (hn : n ≤ 1000) (hsm : ∀ x ∈ L, Small x) :
    Calls Tryd.prog 25 #[.slice a n c] W fun e w' => ∃ tb fm, e = .returned (.pointer (some ⟨tb, 0, none⟩)) ∧ Tb W.heap.size w' tb fm (.map none) 0 L ∧ Below W.heap.size W w' ∧ W.heap.size ≤ fm := by
  have hmm := @run_makeMap Tryd.prog
  obtain ⟨hm, hl, hc, hkk⟩ := h.at
  unfold maxLen at hc
  have HM := Lib.hid hm
  have HK := Lib.hid hkk
  have HS := Lib.hid hsm
  have H0 : Hid (NInv W ((W.alloc (.map #[] 0)).alloc (.cells #[.map (some W.heap.size), .map none] 109)) L 0) := Lib.hid ⟨by
      have := Blk.new (W.alloc (.map #[] 0)) [.map (some W.heap.size), .map none] 109
      simpa using this, ⟨fun _ => none, (MAt.made W).keep (fp := fun _ => False) (Mods.of_below (below1 _ _)) id, fun s => rfl⟩, below2 W _ _⟩
  clear h hm hkk hsm
  go_enter Tryd.func25, Tryd.ntmps25
  go_wp2
  go_loopw [11] (fun i wr => ∃ k : Nat, k ≤ n ∧ i = .int .i64 k ∧ Hid (NInv W wr L k)) (fun i _ => n - (intOf i).toNat)
  case atStart => exact ⟨0, Nat.zero_le _, rfl, H0⟩
  case round =>
    obtain ⟨k, hk1, rfl, HI⟩ := hrel
    by_cases hlt : k < n
    · obtain ⟨x, hxk⟩ : ∃ x, L[k]? = some x := ⟨_, List.getElem?_eq_getElem (by have := HM.out; omega)⟩
      obtain ⟨g, o, cs, rfl, hcell, b1, m1, d1, b2, m2, d2, rfl, hf, hm2⟩ := HK.out k x hxk
      have hsr := HI.out.bel.size
      have c0 : wr.cell? ⟨g, o + k * 4, none⟩ = some (.string x.name) := (HI.out.bel.cell (World.block_lt_of_cell? _ _ (hcell 0 _ rfl))).trans (hcell 0 _ rfl)
      have hgl : g < wr.heap.size := World.block_lt_of_cell? _ _ c0
      have c1 := (HI.out.bel.cell (World.block_lt_of_cell? _ _ (hcell 1 _ rfl))).trans (hcell 1 _ rfl)
      have c2 := (HI.out.bel.cell (World.block_lt_of_cell? _ _ (hcell 2 _ rfl))).trans (hcell 2 _ rfl)
      have c3 := (HI.out.bel.cell (World.block_lt_of_cell? _ _ (hcell 3 _ rfl))).trans (hcell 3 _ rfl)
      clear hcell
      have hwl := HI.out.blk.lt
      have hX0 : Below wr.heap.size wr (wr.alloc (.cells #[.string x.name, .string x.sup, .slice b1 m1 d1, .slice b2 m2 d2] 35)) := below1 wr _
      have B0 : Blk (wr.alloc (.cells #[.string x.name, .string x.sup, .slice b1 m1 d1, .slice b2 m2 d2] 35)) wr.heap.size [.string x.name, .string x.sup, .slice b1 m1 d1, .slice b2 m2 d2] 35 := Blk.new wr _ _
      have HI2 := Lib.hid (HI.out.below hX0)
      have HBX := Lib.hid B0
      have t0 : (wr.alloc (.cells #[.string x.name, .string x.sup, .slice b1 m1 d1, .slice b2 m2 d2] 35)).cell? ⟨W.heap.size + 1, 0, none⟩ = some (.map (some W.heap.size)) := HI2.out.blk.cell 0
      have k0 := B0.cell 0
      have k1 := B0.cell 1
      have k2 := B0.cell 2
      have k3 := B0.cell 3
      simp only [List.getElem?_cons_zero, List.getElem?_cons_succ] at k0 k1 k2 k3
      have HB : Hid (∀ w3, Below (wr.alloc (.cells #[.string x.name, .string x.sup, .slice b1 m1 d1, .slice b2 m2 d2] 35)).heap.size (wr.alloc (.cells #[.string x.name, .string x.sup, .slice b1 m1 d1, .slice b2 m2 d2] 35)) w3 → w3.cell? ⟨W.heap.size + 1, 0, none⟩ = some (.map (some W.heap.size)) ∧ w3.cell? ⟨wr.heap.size, 0, none⟩ = some (.string x.name) ∧ w3.cell? ⟨wr.heap.size, 1, none⟩ = some (.string x.sup) ∧ w3.cell? ⟨wr.heap.size, 2, none⟩ = some (.slice b1 m1 d1) ∧ w3.cell? ⟨wr.heap.size, 3, none⟩ = some (.slice b2 m2 d2)) := Lib.hid (fun w3 hb =>
        ⟨(HI2.out.blk.below hb).cell 0, (HBX.out.below hb).cell 0, (HBX.out.below hb).cell 1, (HBX.out.below hb).cell 2, (HBX.out.below hb).cell 3⟩)
      have HB4 : Hid (∀ w3 w4, Below (wr.alloc (.cells #[.string x.name, .string x.sup, .slice b1 m1 d1, .slice b2 m2 d2] 35)).heap.size (wr.alloc (.cells #[.string x.name, .string x.sup, .slice b1 m1 d1, .slice b2 m2 d2] 35)) w3 → Mods (· = W.heap.size) w3 w4 → w4.cell? ⟨W.heap.size + 1, 0, none⟩ = some (.map (some W.heap.size)) ∧ w4.cell? ⟨wr.heap.size, 0, none⟩ = some (.string x.name) ∧ w4.cell? ⟨wr.heap.size, 1, none⟩ = some (.string x.sup) ∧ w4.cell? ⟨wr.heap.size, 2, none⟩ = some (.slice b1 m1 d1) ∧ w4.cell? ⟨wr.heap.size, 3, none⟩ = some (.slice b2 m2 d2)) := Lib.hid (fun w3 w4 hb hm =>
        ⟨((HI2.out.blk.below hb).keep hm (by omega)).cell 0, ((HBX.out.below hb).keep hm (by omega)).cell 0, ((HBX.out.below hb).keep hm (by omega)).cell 1, ((HBX.out.below hb).keep hm (by omega)).cell 2, ((HBX.out.below hb).keep hm (by omega)).cell 3⟩)
      have HT := Lib.hid (clone32 (fun _ => True) (wr.alloc (.cells #[.string x.name, .string x.sup, .slice b1 m1 d1, .slice b2 m2 d2] 35)).drew x.name x.sup x.fs x.ms b1 m1 d1 b2 m2 d2 (fun _ _ => trivial) (vrs_keep (Keeps.of_below HI2.out.bel).drew hf) (sgsA_keep (Keeps.of_below HI2.out.bel).drew (sgsA_of (fun _ _ => trivial) hm2)) (by obtain ⟨e, _⟩ := hf.at; rw [e]; have := (HS.out _ (List.mem_of_getElem? hxk)).fs; omega) (by obtain ⟨e, _⟩ := hm2.at; rw [e]; have := (HS.out _ (List.mem_of_getElem? hxk)).ms; omega) (fun m hm => by have := ((HS.out _ (List.mem_of_getElem? hxk)).m1 m hm).2.2.1; omega))
      have HX := Lib.hid hxk
      clear hf hm2 hxk B0 hX0
      go_wp2
      refine wp_region_held_drew (S := fun w' => w'.cell? ⟨W.heap.size + 1, 0, none⟩ = some (.map (some W.heap.size)) ∧ w'.cell? ⟨wr.heap.size, 0, none⟩ = some (.string x.name) ∧ w'.cell? ⟨wr.heap.size, 1, none⟩ = some (.string x.sup) ∧ w'.cell? ⟨wr.heap.size, 2, none⟩ = some (.slice b1 m1 d1) ∧ w'.cell? ⟨wr.heap.size, 3, none⟩ = some (.slice b2 m2 d2)) (by kernel_rfl) ?_ (fun hHeld => ?_)
      · exact ⟨t0, k0, k1, k2, k3⟩
      refine wpAnyH_take (i := 0) (v := ?_) rfl (by kernel_rfl) (by kernel_rfl) (by kernel_rfl) (fun _ _ _ h => h) (Or.inl ⟨by rfl, ?_⟩) (by assumption) ?_
      rotate_left
      focus (intro w hSw; have hSw2 := hSw; obtain ⟨s0, s1, s2, s3, s4⟩ := hSw; go_simp; first | done | with_reducible rfl)
      simp only [Act.put, List.getElem_toArray, List.getElem_cons_zero, List.setIfInBounds_toArray, List.set_cons_zero, List.set_cons_succ]
      refine wpAnyH_take (i := 1) (v := ?_) rfl (by kernel_rfl) (by kernel_rfl) (by kernel_rfl) (fun _ _ _ h => h) (Or.inl ⟨by rfl, ?_⟩) (by assumption) ?_
      rotate_left
      focus (intro w hSw; have hSw2 := hSw; obtain ⟨s0, s1, s2, s3, s4⟩ := hSw; go_simp; first | done | with_reducible rfl)
      simp only [Act.put, List.getElem_toArray, List.getElem_cons_zero, List.getElem_cons_succ, List.setIfInBounds_toArray, List.set_cons_zero, List.set_cons_succ]
      refine wpAnyH_take (i := 2) (v := ?_) rfl (by kernel_rfl) (by kernel_rfl) (by kernel_rfl) (fun _ _ _ h => h) (Or.inl ⟨by rfl, ?_⟩) (by assumption) ?_
      rotate_left
      focus (intro w hSw; have hSw2 := hSw; obtain ⟨s0, s1, s2, s3, s4⟩ := hSw; go_simp; first | done | with_reducible rfl)
      simp only [Act.put, List.getElem_toArray, List.getElem_cons_zero, List.getElem_cons_succ, List.setIfInBounds_toArray, List.set_cons_zero, List.set_cons_succ]
      refine wpAnyH_take (i := 3) (v := ?_) rfl (by kernel_rfl) (by kernel_rfl) (by kernel_rfl) (fun _ _ _ h => h) (Or.inl ⟨by rfl, ?_⟩) (by assumption) ?_
      rotate_left
      focus (intro w hSw; have hSw2 := hSw; obtain ⟨s0, s1, s2, s3, s4⟩ := hSw; go_simp; first | done | with_reducible rfl)
      simp only [Act.put, List.getElem_toArray, List.getElem_cons_zero, List.getElem_cons_succ, List.setIfInBounds_toArray, List.set_cons_zero, List.set_cons_succ]
      refine wpAnyH_take (i := 4) (v := ?_) rfl (by kernel_rfl) (by kernel_rfl) (by kernel_rfl) (fun _ _ _ h => h) (Or.inl ⟨by rfl, ?_⟩) (by assumption) ?_
      rotate_left
      focus (intro w hSw; have hSw2 := hSw; obtain ⟨s0, s1, s2, s3, s4⟩ := hSw; go_simp; first | done | with_reducible rfl)
      simp only [Act.put, List.getElem_toArray, List.getElem_cons_zero, List.getElem_cons_succ, List.setIfInBounds_toArray, List.set_cons_zero, List.set_cons_succ]
      refine wpAnyH_take (i := 5) (v := ?_) rfl (by kernel_rfl) (by kernel_rfl) (by kernel_rfl) (fun _ _ _ h => h) (Or.inl ⟨by rfl, ?_⟩) (by assumption) ?_
      rotate_left
      focus (intro w hSw; have hSw2 := hSw; obtain ⟨s0, s1, s2, s3, s4⟩ := hSw; go_simp; first | done | with_reducible rfl)
      simp only [Act.put, List.getElem_toArray, List.getElem_cons_zero, List.getElem_cons_succ, List.setIfInBounds_toArray, List.set_cons_zero, List.set_cons_succ]
      refine wpAnyH_take (i := 6) (v := ?_) rfl (by kernel_rfl) (by kernel_rfl) (by kernel_rfl) (fun _ _ _ h => h) (Or.inl ⟨by rfl, ?_⟩) (by assumption) ?_
      rotate_left
      focus (intro w hSw; have hSw2 := hSw; obtain ⟨s0, s1, s2, s3, s4⟩ := hSw; go_simp; first | done | with_reducible rfl)
      simp only [Act.put, List.getElem_toArray, List.getElem_cons_zero, List.getElem_cons_succ, List.setIfInBounds_toArray, List.set_cons_zero, List.set_cons_succ]
      refine wpAnyH_ready (rs := [7]) (by kernel_rfl) (by simp) ?_
      refine AllReadyH.cons (o := _) rfl (fun K hK => ?_) AllReadyH.nil
      go_simp
      with_reducible refine (HT.out).mono ?_
      rintro e w3 ⟨cs3, rfl, hF3, hb3⟩
      have hb4 : Below (wr.alloc (.cells #[.string x.name, .string x.sup, .slice b1 m1 d1, .slice b2 m2 d2] 35)).heap.size (wr.alloc (.cells #[.string x.name, .string x.sup, .slice b1 m1 d1, .slice b2 m2 d2] 35)) w3 := ⟨hb3.os, hb3.tape, hb3.output, hb3.size, hb3.block⟩
      have HI3 := HI2.out.below hb4
      obtain ⟨w4, hrun, HN⟩ := HI3.store HX.out (HS.out _ (List.mem_of_getElem? HX.out)).name (by omega) hF3.fc
      have hS3 := HB.out _ hb4
      have HS4 := Lib.hid (HB4.out _ _ hb4 HN.1)
      have HN2 := Lib.hid HN.2
      clear HN hF3 HI3 hb3
      go_simp
      refine hK.out _ _ hS3 (fun hHeld => ?_)
      clear hK K
      try simp only [Act.put, List.getElem_toArray, List.getElem_cons_zero, List.getElem_cons_succ, List.setIfInBounds_toArray, List.set_cons_zero, List.set_cons_succ]
      refine wpAnyH_ready (rs := [8]) (by kernel_rfl) (by simp) ?_
      refine AllReadyH.cons (o := _) rfl (fun K hK => ?_) AllReadyH.nil
      go_simp
      refine hK.out _ _ HS4.out (fun hHeld => ?_)
      clear hK K
      try simp only [Act.put, List.getElem_toArray, List.getElem_cons_zero, List.getElem_cons_succ, List.setIfInBounds_toArray, List.set_cons_zero, List.set_cons_succ]
      refine wpAnyH_done (by kernel_rfl) ?_ _
      clear HI HI2 HT HB HB4 HBX HS4 hHeld H0
      go_wp2
      go_roundw
      case rel => exact ⟨k + 1, by omega, by go_num, HN2⟩
      case measure => simp [intOf]; omega
    · have HT : Hid (Tb W.heap.size wr (W.heap.size + 1) W.heap.size (.map none) 0 L) := Lib.hid ⟨HI.out.blk, by
        obtain ⟨g, h1, h2⟩ := HI.out.faces
        rw [List.take_of_length_le (by have := HM.out; omega)] at h2
        obtain ⟨D, hD, hf⟩ := h1
        exact ⟨g, ⟨D, hD.mono (by omega), hf⟩, h2⟩, .inl rfl, Nat.le_succ _, (fun _ e => by cases e), HS.out⟩
      clear H0
      go_wp2
      go_ret
      exact ⟨_, _, rfl, HT.out, HI.out.bel, Nat.le_refl _⟩
theorem new11 (W : World) (L : List Fc) (a : Option Addr) (n c : Nat) (h : Sl W 4 (FcR W) L (.slice a n c)) (hn : n ≤ 1000) (hsm : ∀ x ∈ L, Small x) :
    Calls Tryd.prog 25 #[.slice a n c] W fun e w' => ∃ tb fm, e = .returned (.pointer (some ⟨tb, 0, none⟩)) ∧ Tb W.heap.size w' tb fm (.map none) 0 L ∧ Below W.heap.size W w' :=
  (new11' W L a n c h hn hsm).mono fun e w' ⟨tb, fm, he, hT, hb, _⟩ => ⟨tb, fm, he, hT, hb⟩
end Go.Proofs.YthimpjfmelmhpaaDoor.Fc
