/-
  Fields and methods of a pool that are not there.
-/
import Derived.Test.YthimpjfmelmhpaaDoorLkX
namespace Go.Proofs.YthimpjfmelmhpaaDoor.Fc
open Go.RowKit
set_option linter.unusedVariables false
set_option linter.unusedSimpArgs false

theorem Im.ownset {i : ImS} {sv sv1 : Value} {c c1 : Nat} {W0 w1 : World} {zs : List Value} {t : TypeId} (h : Im i sv c W0) (hT : Tb i.B w1 i.tb i.fm sv1 c1 (faces i.fs)) (hs : Stp i.tb (W0.alloc (.cells zs.toArray t)) sv w1 sv1) :
    Blk w1 W0.heap.size zs t ∧ (∀ z, Mods (· = W0.heap.size) w1 z → Im i sv1 c1 z ∧ Keeps W0 z ∧ Below i.B W0 z) := by
  have hlt := h.tab.blk.lt
  have hR : Blk w1 W0.heap.size zs t := (Blk.new W0 zs t).keep hs.mods (fun e => by
    rcases e with e | e
    · omega
    · have := h.tab.sv_lt _ e
      omega)
  have hst : Stp i.tb W0 sv w1 sv1 := hs.pre (below1 _ _)
  refine ⟨hR, fun z hm => ?_⟩
  have hsv : ∀ k, sv1 = .map (some k) → ¬ (k = W0.heap.size) := fun k e e2 => by
    rcases hs.new with e' | ⟨j, e', hj⟩
    · have := h.tab.sv_lt k (by rw [← e', e])
      omega
    · rw [e] at e'
      injection e' with e'
      injection e' with e'
      simp at hj
      omega
  have hT2 := h.tab.own hT hst hm (fun k e => by omega) hsv
  have hst2 := hst.own hm (fun k e => by omega)
  exact ⟨h.next hT2 hst2, hst2.keeps, hst2.below h.tab h.hB⟩
set_option maxHeartbeats 4000000 in
set_option maxRecDepth 100000 in
theorem lacks59 (i : ImS) (hL : i.fs.length ≤ 300) (sv : Value) (c : Nat) (w : World) (h : Im i sv c w) (hc : c < 100000000000) (x : Fd) (hs : x.2.size ≤ maxLen) :
    Calls Tryd.prog 59 #[.pointer (some ⟨i.im, 0, none⟩), .agg #[.string x.1.name, .string x.1.tn, .bool x.1.ta, .string x.2]] w (IPost i w c 602 (.bool (!okFd (faces i.fs) x))) := by
  have hLL : (faces i.fs).length ≤ 300 := by simpa [faces] using hL
  have hbx : Below w.heap.size w (w.alloc (.cells #[.string x.1.name, .string x.1.tn, .bool x.1.ta, .string x.2] 87)).drew := (below1 w (.cells #[.string x.1.name, .string x.1.tn, .bool x.1.ta, .string x.2] 87)).drew
  have HBX := Lib.hid hbx
  have HI0 := Lib.hid (h.bel hbx)
  have HhB := Lib.hid h.hB
  have hX : Blk (w.alloc (.cells #[.string x.1.name, .string x.1.tn, .bool x.1.ta, .string x.2] 87)).drew w.heap.size [.string x.1.name, .string x.1.tn, .bool x.1.ta, .string x.2] 87 := Blk.dr (Blk.new w [.string x.1.name, .string x.1.tn, .bool x.1.ta, .string x.2] 87)
  have HPL : Hid (∀ v ∈ [Value.string x.1.name, .string x.1.tn, .bool x.1.ta, .string x.2], Pl v) := Lib.hid (by
    intro v hv
    simp only [List.mem_cons, List.not_mem_nil, or_false] at hv
    rcases hv with rfl | rfl | rfl | rfl
    all_goals first | exact pl_str _ | exact pl_bool _)
  have HLS0 : Hid (LS i w.heap.size [Value.string x.1.name, .string x.1.tn, .bool x.1.ta, .string x.2] (w.alloc (.cells #[.string x.1.name, .string x.1.tn, .bool x.1.ta, .string x.2] 87)).drew) := Lib.hid ⟨HI0.out.ptr, fun j v hv => by rw [hX.cell]; exact hv⟩
  have HLSB := HLS0
  have HFA := Lib.hid (field20 i.B i.tb i.fm (faces i.fs) hLL x.2 x.1.name hs _ sv c HI0.out.hB HI0.out.tab (by omega))
  have HI1' := Lib.hid (HI0.out.bel (below1 (w.alloc (.cells #[.string x.1.name, .string x.1.tn, .bool x.1.ta, .string x.2] 87)).drew (.cells #[.string ⟨#[]⟩, .bool false] 49)))
  have HFB := Lib.hid (field20 i.B i.tb i.fm (faces i.fs) hLL x.2 x.1.name hs _ sv c HI1'.out.hB HI1'.out.tab (by omega))
  have hOK : okFd (faces i.fs) x = decide ((fldOf (faces i.fs) (ab (faces i.fs) x.2).1 x.1.name).map (·.2) = some ⟨x.1.tn, x.1.ta⟩) := rfl
  clear h hbx hX HI1'
  generalize fldOf (faces i.fs) (ab (faces i.fs) x.2).1 x.1.name = o at *
  go_enter Tryd.func59, Tryd.ntmps59
  cases o with
  | none =>
    have HANS : Hid ((!okFd (faces i.fs) x) = true) := Lib.hid (by rw [hOK]; simp)
    clear hOK
    go_upto_region 1 with fail
    refine wp_region_held_drew (S := fun z => LS i w.heap.size [Value.string x.1.name, .string x.1.tn, .bool x.1.ta, .string x.2] z) (by kernel_rfl) ?_ (fun hHeld => ?_)
    · exact HLS0.out
    refine wpAnyH_take (i := 0) (v := ?_) rfl (by kernel_rfl) (by kernel_rfl) (by kernel_rfl) (fun _ _ _ h => h) (Or.inl ⟨by rfl, ?_⟩) (by assumption) ?_
    rotate_left
    focus (intro w hSw; have p := hSw.ptr; have b0 := hSw.box 0 _ rfl; have b1 := hSw.box 1 _ rfl; have b2 := hSw.box 2 _ rfl; have b3 := hSw.box 3 _ rfl; go_simp; first | done | with_reducible rfl)
    simp only [Act.put, List.getElem_toArray, List.getElem_cons_zero, List.setIfInBounds_toArray, List.set_cons_zero, List.set_cons_succ]
    refine wpAnyH_take (i := 1) (v := ?_) rfl (by kernel_rfl) (by kernel_rfl) (by kernel_rfl) (fun _ _ _ h => h) (Or.inl ⟨by rfl, ?_⟩) (by assumption) ?_
    rotate_left
    focus (intro w hSw; have p := hSw.ptr; have b0 := hSw.box 0 _ rfl; have b1 := hSw.box 1 _ rfl; have b2 := hSw.box 2 _ rfl; have b3 := hSw.box 3 _ rfl; go_simp; first | done | with_reducible rfl)
    simp only [Act.put, List.getElem_toArray, List.getElem_cons_zero, List.getElem_cons_succ, List.setIfInBounds_toArray, List.set_cons_zero, List.set_cons_succ]
    refine wpAnyH_take (i := 2) (v := ?_) rfl (by kernel_rfl) (by kernel_rfl) (by kernel_rfl) (fun _ _ _ h => h) (Or.inl ⟨by rfl, ?_⟩) (by assumption) ?_
    rotate_left
    focus (intro w hSw; have p := hSw.ptr; have b0 := hSw.box 0 _ rfl; have b1 := hSw.box 1 _ rfl; have b2 := hSw.box 2 _ rfl; have b3 := hSw.box 3 _ rfl; go_simp; first | done | with_reducible rfl)
    simp only [Act.put, List.getElem_toArray, List.getElem_cons_zero, List.getElem_cons_succ, List.setIfInBounds_toArray, List.set_cons_zero, List.set_cons_succ]
    refine wpAnyH_take (i := 3) (v := ?_) rfl (by kernel_rfl) (by kernel_rfl) (by kernel_rfl) (fun _ _ _ h => h) (Or.inl ⟨by rfl, ?_⟩) (by assumption) ?_
    rotate_left
    focus (intro w hSw; have p := hSw.ptr; have b0 := hSw.box 0 _ rfl; have b1 := hSw.box 1 _ rfl; have b2 := hSw.box 2 _ rfl; have b3 := hSw.box 3 _ rfl; go_simp; first | done | with_reducible rfl)
    simp only [Act.put, List.getElem_toArray, List.getElem_cons_zero, List.getElem_cons_succ, List.setIfInBounds_toArray, List.set_cons_zero, List.set_cons_succ]
    refine wpAnyH_take (i := 4) (v := ?_) rfl (by kernel_rfl) (by kernel_rfl) (by kernel_rfl) (fun _ _ _ h => h) (Or.inl ⟨by rfl, ?_⟩) (by assumption) ?_
    rotate_left
    focus (intro w hSw; have p := hSw.ptr; have b0 := hSw.box 0 _ rfl; have b1 := hSw.box 1 _ rfl; have b2 := hSw.box 2 _ rfl; have b3 := hSw.box 3 _ rfl; go_simp; first | done | with_reducible rfl)
    simp only [Act.put, List.getElem_toArray, List.getElem_cons_zero, List.getElem_cons_succ, List.setIfInBounds_toArray, List.set_cons_zero, List.set_cons_succ]
    refine wpAnyH_take (i := 5) (v := ?_) rfl (by kernel_rfl) (by kernel_rfl) (by kernel_rfl) (fun _ _ _ h => h) (Or.inl ⟨by rfl, ?_⟩) (by assumption) ?_
    rotate_left
    focus (intro w hSw; have p := hSw.ptr; have b0 := hSw.box 0 _ rfl; have b1 := hSw.box 1 _ rfl; have b2 := hSw.box 2 _ rfl; have b3 := hSw.box 3 _ rfl; go_simp; first | done | with_reducible rfl)
    simp only [Act.put, List.getElem_toArray, List.getElem_cons_zero, List.getElem_cons_succ, List.setIfInBounds_toArray, List.set_cons_zero, List.set_cons_succ]
    refine wpAnyH_take (i := 6) (v := ?_) rfl (by kernel_rfl) (by kernel_rfl) (by kernel_rfl) (fun _ _ _ h => h) (Or.inl ⟨by rfl, ?_⟩) (by assumption) ?_
    rotate_left
    focus (intro w hSw; have p := hSw.ptr; have b0 := hSw.box 0 _ rfl; have b1 := hSw.box 1 _ rfl; have b2 := hSw.box 2 _ rfl; have b3 := hSw.box 3 _ rfl; go_simp; first | done | with_reducible rfl)
    simp only [Act.put, List.getElem_toArray, List.getElem_cons_zero, List.getElem_cons_succ, List.setIfInBounds_toArray, List.set_cons_zero, List.set_cons_succ]
    refine wpAnyH_take (i := 7) (v := ?_) rfl (by kernel_rfl) (by kernel_rfl) (by kernel_rfl) (fun _ _ _ h => h) (Or.inl ⟨by rfl, ?_⟩) (by assumption) ?_
    rotate_left
    focus (intro w hSw; have p := hSw.ptr; have b0 := hSw.box 0 _ rfl; have b1 := hSw.box 1 _ rfl; have b2 := hSw.box 2 _ rfl; have b3 := hSw.box 3 _ rfl; go_simp; first | done | with_reducible rfl)
    simp only [Act.put, List.getElem_toArray, List.getElem_cons_zero, List.getElem_cons_succ, List.setIfInBounds_toArray, List.set_cons_zero, List.set_cons_succ]
    refine wpAnyH_take (i := 8) (v := ?_) rfl (by kernel_rfl) (by kernel_rfl) (by kernel_rfl) (fun _ _ _ h => h) (Or.inl ⟨by rfl, ?_⟩) (by assumption) ?_
    rotate_left
    focus (intro w hSw; have p := hSw.ptr; have b0 := hSw.box 0 _ rfl; have b1 := hSw.box 1 _ rfl; have b2 := hSw.box 2 _ rfl; have b3 := hSw.box 3 _ rfl; go_simp; first | done | with_reducible rfl)
    simp only [Act.put, List.getElem_toArray, List.getElem_cons_zero, List.getElem_cons_succ, List.setIfInBounds_toArray, List.set_cons_zero, List.set_cons_succ]
    refine wpAnyH_ready (rs := [9, 14]) (by kernel_rfl) (by simp) ?_
    refine AllReadyH.cons (o := _) rfl (fun K hK => ?_) (AllReadyH.cons (o := _) rfl (fun K hK => ?_) AllReadyH.nil)
    · go_simp
      refine HFA.out.mono ?_
      rintro e w1 ⟨sv1, c1, rfl, hT1, hs1, hc1⟩
      simp only [Option.getD_none, Option.isSome_none, Option.getD_some, Option.isSome_some, eE, zT, tyV]
      have HI1 := Lib.hid (HI0.out.next hT1 hs1)
      have HK1 := Lib.hid hs1.keeps
      have HB1 := Lib.hid (hs1.below HI0.out.tab HI0.out.hB)
      have HLS := Lib.hid (hHeld.keep HPL.out hs1.keeps)
      clear hT1 hs1
      go_simp
      refine hK.out _ _ HLS.out (fun hHeld => ?_)
      clear hK K
      try simp only [Act.put, List.getElem_toArray, List.getElem_cons_zero, List.getElem_cons_succ, List.setIfInBounds_toArray, List.set_cons_zero, List.set_cons_succ]
      refine wpAnyH_take (i := 10) (v := ?_) rfl (by kernel_rfl) (by kernel_rfl) (by kernel_rfl) (fun _ _ _ h => h) (Or.inl ⟨by rfl, ?_⟩) (by assumption) ?_
      rotate_left
      focus (intro w hSw; have p := hSw.ptr; have b0 := hSw.box 0 _ rfl; have b1 := hSw.box 1 _ rfl; have b2 := hSw.box 2 _ rfl; have b3 := hSw.box 3 _ rfl; go_simp; first | done | with_reducible rfl)
      simp only [Act.put, List.getElem_toArray, List.getElem_cons_zero, List.getElem_cons_succ, List.setIfInBounds_toArray, List.set_cons_zero, List.set_cons_succ]
      refine wpAnyH_take (i := 11) (v := ?_) rfl (by kernel_rfl) (by kernel_rfl) (by kernel_rfl) (fun _ _ _ h => h) (Or.inl ⟨by rfl, ?_⟩) (by assumption) ?_
      rotate_left
      focus (intro w hSw; have p := hSw.ptr; have b0 := hSw.box 0 _ rfl; have b1 := hSw.box 1 _ rfl; have b2 := hSw.box 2 _ rfl; have b3 := hSw.box 3 _ rfl; go_simp; first | done | with_reducible rfl)
      simp only [Act.put, List.getElem_toArray, List.getElem_cons_zero, List.getElem_cons_succ, List.setIfInBounds_toArray, List.set_cons_zero, List.set_cons_succ]
      refine wpAnyH_take (i := 12) (v := ?_) rfl (by kernel_rfl) (by kernel_rfl) (by kernel_rfl) (fun _ _ _ h => h) (Or.inl ⟨by rfl, ?_⟩) (by assumption) ?_
      rotate_left
      focus (intro w hSw; have p := hSw.ptr; have b0 := hSw.box 0 _ rfl; have b1 := hSw.box 1 _ rfl; have b2 := hSw.box 2 _ rfl; have b3 := hSw.box 3 _ rfl; go_simp; first | done | with_reducible rfl)
      simp only [Act.put, List.getElem_toArray, List.getElem_cons_zero, List.getElem_cons_succ, List.setIfInBounds_toArray, List.set_cons_zero, List.set_cons_succ]
      refine wpAnyH_take (i := 13) (v := ?_) rfl (by kernel_rfl) (by kernel_rfl) (by kernel_rfl) (fun _ _ _ h => h) (Or.inl ⟨by rfl, ?_⟩) (by assumption) ?_
      rotate_left
      focus (intro w hSw; have p := hSw.ptr; have b0 := hSw.box 0 _ rfl; have b1 := hSw.box 1 _ rfl; have b2 := hSw.box 2 _ rfl; have b3 := hSw.box 3 _ rfl; go_simp; first | done | with_reducible rfl)
      simp only [Act.put, List.getElem_toArray, List.getElem_cons_zero, List.getElem_cons_succ, List.setIfInBounds_toArray, List.set_cons_zero, List.set_cons_succ]
      refine wpAnyH_ready (rs := [14]) (by kernel_rfl) (by simp) ?_
      refine AllReadyH.cons (o := _) rfl (fun K hK => ?_) AllReadyH.nil
      go_simp
      refine hK.out _ _ (hHeld.bel (below1 _ _)) (fun hHeld => ?_)
      clear hK K
      try simp only [Act.put, List.getElem_toArray, List.getElem_cons_zero, List.getElem_cons_succ, List.setIfInBounds_toArray, List.set_cons_zero, List.set_cons_succ]
      refine wpAnyH_take (i := 15) (v := ?_) rfl (by kernel_rfl) (by kernel_rfl) (by kernel_rfl) (fun _ _ _ h => h) (Or.inl ⟨by rfl, ?_⟩) (by assumption) ?_
      rotate_left
      focus (intro w hSw; have p := hSw.ptr; have b0 := hSw.box 0 _ rfl; have b1 := hSw.box 1 _ rfl; have b2 := hSw.box 2 _ rfl; have b3 := hSw.box 3 _ rfl; go_simp; first | done | with_reducible rfl)
      simp only [Act.put, List.getElem_toArray, List.getElem_cons_zero, List.getElem_cons_succ, List.setIfInBounds_toArray, List.set_cons_zero, List.set_cons_succ]
      refine wpAnyH_ready (rs := [16]) (by kernel_rfl) (by simp) ?_
      refine AllReadyH.cons (o := _) rfl (fun K hK => ?_) AllReadyH.nil
      go_simp
      have HZ : Hid (Blk (w1.alloc (.cells #[.string ⟨#[]⟩, .bool false] 49)) w1.heap.size [.string ⟨#[]⟩, .bool false] 49) := Lib.hid (Blk.new w1 [.string ⟨#[]⟩, .bool false] 49)
      have HZI := Lib.hid (HI1.out.bel (below1 w1 (.cells #[.string ⟨#[]⟩, .bool false] 49)))
      have HZK := Lib.hid (HK1.out.trans (Keeps.of_below (below1 w1 (.cells #[.string ⟨#[]⟩, .bool false] 49))))
      have HZB := Lib.hid (HB1.out.trans ((below1 w1 (.cells #[.string ⟨#[]⟩, .bool false] 49)).mono HI1.out.hB))
      have z0 := HZ.out.cell 0
      have z1 := HZ.out.cell 1
      simp only [List.getElem?_cons_zero, List.getElem?_cons_succ] at z0 z1
      have HLZ := HLS.out.bel (below1 w1 (.cells #[.string ⟨#[]⟩, .bool false] 49))
      have HLZ := Lib.hid HLZ
      clear HI1 HK1 HB1 HLS
      refine hK.out _ _ HLZ.out (fun hHeld => ?_)
      clear hK K
      try simp only [Act.put, List.getElem_toArray, List.getElem_cons_zero, List.getElem_cons_succ, List.setIfInBounds_toArray, List.set_cons_zero, List.set_cons_succ]
      refine wpAnyH_take (i := 17) (v := ?_) rfl (by kernel_rfl) (by kernel_rfl) (by kernel_rfl) (fun _ _ _ h => h) (Or.inl ⟨by rfl, ?_⟩) (by assumption) ?_
      rotate_left
      focus (intro w hSw; have p := hSw.ptr; have b0 := hSw.box 0 _ rfl; have b1 := hSw.box 1 _ rfl; have b2 := hSw.box 2 _ rfl; have b3 := hSw.box 3 _ rfl; go_simp; first | done | with_reducible rfl)
      simp only [Act.put, List.getElem_toArray, List.getElem_cons_zero, List.getElem_cons_succ, List.setIfInBounds_toArray, List.set_cons_zero, List.set_cons_succ]
      refine wpAnyH_done (by kernel_rfl) ?_ _
      have b0 := hHeld.box 0 _ rfl
      have b1 := hHeld.box 1 _ rfl
      have b2 := hHeld.box 2 _ rfl
      have b3 := hHeld.box 3 _ rfl
      have HFN : Hid (∀ b, b = !okFd (faces i.fs) x → IPost i w c 602 (.bool (!okFd (faces i.fs) x)) (.returned (.bool b)) _) := Lib.hid (fun b hb => ⟨sv1, c1, by rw [hb], HZI.out, (Keeps.of_below HBX.out).trans HZK.out, (HBX.out.mono HhB.out).trans HZB.out, hc1⟩)
      clear HZI HZK HZB HZ hHeld
      go_wp2
      go_ret
      exact HFN.out _ HANS.out.symm
    · go_simp
      refine hK.out _ _ (hHeld.bel (below1 _ _)) (fun hHeld => ?_)
      clear hK K
      try simp only [Act.put, List.getElem_toArray, List.getElem_cons_zero, List.getElem_cons_succ, List.setIfInBounds_toArray, List.set_cons_zero, List.set_cons_succ]
      refine wpAnyH_ready (rs := [9]) (by kernel_rfl) (by simp) ?_
      refine AllReadyH.cons (o := _) rfl (fun K hK => ?_) AllReadyH.nil
      go_simp
      refine HFB.out.mono ?_
      rintro e w1 ⟨sv1, c1, rfl, hT1, hs1, hc1⟩
      simp only [Option.getD_none, Option.isSome_none, Option.getD_some, Option.isSome_some, eE, zT, tyV]
      have HO := Lib.hid (HI0.out.ownset hT1 hs1)
      have HLS := Lib.hid (hHeld.keep HPL.out hs1.keeps)
      have hr0 := HO.out.1.cell 0
      have hr1 := HO.out.1.cell 1
      have hf0 := HO.out.1.frozen 0
      have hf1 := HO.out.1.frozen 1
      simp only [List.getElem?_cons_zero, List.getElem?_cons_succ] at hr0 hr1
      have hqe : (w.alloc (.cells #[.string x.1.name, .string x.1.tn, .bool x.1.ta, .string x.2] 87)).drew.heap.size = w.heap.size + 1 := by simp [World.drew]
      rw [hqe] at hr0 hr1 hf0 hf1
      clear hqe
      have hsz : w.heap.size + 1 < w1.heap.size := by have := HO.out.1.lt; simpa using this
      clear hT1 hs1
      go_simp
      refine hK.out _ _ HLS.out (fun hHeld => ?_)
      clear hK K
      try simp only [Act.put, List.getElem_toArray, List.getElem_cons_zero, List.getElem_cons_succ, List.setIfInBounds_toArray, List.set_cons_zero, List.set_cons_succ]
      refine wpAnyH_take (i := 10) (v := ?_) rfl (by kernel_rfl) (by kernel_rfl) (by kernel_rfl) (fun _ _ _ h => h) (Or.inl ⟨by rfl, ?_⟩) (by assumption) ?_
      rotate_left
      focus (intro w hSw; have p := hSw.ptr; have b0 := hSw.box 0 _ rfl; have b1 := hSw.box 1 _ rfl; have b2 := hSw.box 2 _ rfl; have b3 := hSw.box 3 _ rfl; go_simp; first | done | with_reducible rfl)
      simp only [Act.put, List.getElem_toArray, List.getElem_cons_zero, List.getElem_cons_succ, List.setIfInBounds_toArray, List.set_cons_zero, List.set_cons_succ]
      refine wpAnyH_take (i := 11) (v := ?_) rfl (by kernel_rfl) (by kernel_rfl) (by kernel_rfl) (fun _ _ _ h => h) (Or.inl ⟨by rfl, ?_⟩) (by assumption) ?_
      rotate_left
      focus (intro w hSw; have p := hSw.ptr; have b0 := hSw.box 0 _ rfl; have b1 := hSw.box 1 _ rfl; have b2 := hSw.box 2 _ rfl; have b3 := hSw.box 3 _ rfl; go_simp; first | done | with_reducible rfl)
      simp only [Act.put, List.getElem_toArray, List.getElem_cons_zero, List.getElem_cons_succ, List.setIfInBounds_toArray, List.set_cons_zero, List.set_cons_succ]
      refine wpAnyH_take (i := 12) (v := ?_) rfl (by kernel_rfl) (by kernel_rfl) (by kernel_rfl) (fun _ _ _ h => h) (Or.inl ⟨by rfl, ?_⟩) (by assumption) ?_
      rotate_left
      focus (intro w hSw; have p := hSw.ptr; have b0 := hSw.box 0 _ rfl; have b1 := hSw.box 1 _ rfl; have b2 := hSw.box 2 _ rfl; have b3 := hSw.box 3 _ rfl; go_simp; first | done | with_reducible rfl)
      simp only [Act.put, List.getElem_toArray, List.getElem_cons_zero, List.getElem_cons_succ, List.setIfInBounds_toArray, List.set_cons_zero, List.set_cons_succ]
      refine wpAnyH_take (i := 13) (v := ?_) rfl (by kernel_rfl) (by kernel_rfl) (by kernel_rfl) (fun _ _ _ h => h) (Or.inl ⟨by rfl, ?_⟩) (by assumption) ?_
      rotate_left
      focus (intro w hSw; have p := hSw.ptr; have b0 := hSw.box 0 _ rfl; have b1 := hSw.box 1 _ rfl; have b2 := hSw.box 2 _ rfl; have b3 := hSw.box 3 _ rfl; go_simp; first | done | with_reducible rfl)
      simp only [Act.put, List.getElem_toArray, List.getElem_cons_zero, List.getElem_cons_succ, List.setIfInBounds_toArray, List.set_cons_zero, List.set_cons_succ]
      refine wpAnyH_take (i := 15) (v := ?_) rfl (by kernel_rfl) (by kernel_rfl) (by kernel_rfl) (fun _ _ _ h => h) (Or.inl ⟨by rfl, ?_⟩) (by assumption) ?_
      rotate_left
      focus (intro w hSw; have p := hSw.ptr; have b0 := hSw.box 0 _ rfl; have b1 := hSw.box 1 _ rfl; have b2 := hSw.box 2 _ rfl; have b3 := hSw.box 3 _ rfl; go_simp; first | done | with_reducible rfl)
      simp only [Act.put, List.getElem_toArray, List.getElem_cons_zero, List.getElem_cons_succ, List.setIfInBounds_toArray, List.set_cons_zero, List.set_cons_succ]
      refine wpAnyH_ready (rs := [16]) (by kernel_rfl) (by simp) ?_
      refine AllReadyH.cons (o := _) rfl (fun K hK => ?_) AllReadyH.nil
      go_simp
      have hZ := (HO.out.1.set 0 (.string ⟨#[]⟩)).set 1 (.bool false)
      simp only [List.set_cons_zero, List.set_cons_succ] at hZ
      have HZ := Lib.hid hZ
      have HM2 := Lib.hid (((Mods.refl (· = (w.alloc (.cells #[.string x.1.name, .string x.1.tn, .bool x.1.ta, .string x.2] 87)).drew.heap.size) w1).setCell (p := ⟨(w.alloc (.cells #[.string x.1.name, .string x.1.tn, .bool x.1.ta, .string x.2] 87)).drew.heap.size, 0, none⟩) (.inl rfl) (.string ⟨#[]⟩)).setCell (p := ⟨(w.alloc (.cells #[.string x.1.name, .string x.1.tn, .bool x.1.ta, .string x.2] 87)).drew.heap.size, 1, none⟩) (.inl rfl) (.bool false))
      obtain ⟨hZI, hZK, hZB⟩ := HO.out.2 _ HM2.out
      have HZI := Lib.hid hZI
      have HZK := Lib.hid hZK
      have HZB := Lib.hid hZB
      have z0 := HZ.out.cell 0
      have z1 := HZ.out.cell 1
      simp only [List.getElem?_cons_zero, List.getElem?_cons_succ] at z0 z1
      have HLZ := Lib.hid (HLSB.out.keep HPL.out HZK.out)
      have hqe : (w.alloc (.cells #[.string x.1.name, .string x.1.tn, .bool x.1.ta, .string x.2] 87)).drew.heap.size = w.heap.size + 1 := by simp [World.drew]
      rw [hqe] at z0 z1 HLZ HZI HZK HZB
      clear hZ hZI hZK hZB HO HLS
      refine hK.out _ _ HLZ.out (fun hHeld => ?_)
      clear hK K
      try simp only [Act.put, List.getElem_toArray, List.getElem_cons_zero, List.getElem_cons_succ, List.setIfInBounds_toArray, List.set_cons_zero, List.set_cons_succ]
      refine wpAnyH_take (i := 17) (v := ?_) rfl (by kernel_rfl) (by kernel_rfl) (by kernel_rfl) (fun _ _ _ h => h) (Or.inl ⟨by rfl, ?_⟩) (by assumption) ?_
      rotate_left
      focus (intro w hSw; have p := hSw.ptr; have b0 := hSw.box 0 _ rfl; have b1 := hSw.box 1 _ rfl; have b2 := hSw.box 2 _ rfl; have b3 := hSw.box 3 _ rfl; go_simp; first | done | with_reducible rfl)
      simp only [Act.put, List.getElem_toArray, List.getElem_cons_zero, List.getElem_cons_succ, List.setIfInBounds_toArray, List.set_cons_zero, List.set_cons_succ]
      refine wpAnyH_done (by kernel_rfl) ?_ _
      have b0 := hHeld.box 0 _ rfl
      have b1 := hHeld.box 1 _ rfl
      have b2 := hHeld.box 2 _ rfl
      have b3 := hHeld.box 3 _ rfl
      have HFN : Hid (∀ b, b = !okFd (faces i.fs) x → IPost i w c 602 (.bool (!okFd (faces i.fs) x)) (.returned (.bool b)) _) := Lib.hid (fun b hb => ⟨sv1, c1, by rw [hb], HZI.out, (Keeps.of_below HBX.out).trans HZK.out, (HBX.out.mono HhB.out).trans HZB.out, hc1⟩)
      clear HZI HZK HZB HZ hHeld
      go_wp2
      go_ret
      exact HFN.out _ HANS.out.symm
  | some p =>
    obtain ⟨pc, pn, pa⟩ := p
    by_cases hn : pn = x.1.tn
    · have tq := teq hn
      by_cases ha : pa = x.1.ta
      · have HANS : Hid ((!okFd (faces i.fs) x) = false) := Lib.hid (by rw [hOK]; simp [hn, ha])
        have ta : (pa == x.1.ta) = true := by simp [ha]
        clear hOK hn ha
        go_upto_region 1 with fail
        refine wp_region_held_drew (S := fun z => LS i w.heap.size [Value.string x.1.name, .string x.1.tn, .bool x.1.ta, .string x.2] z) (by kernel_rfl) ?_ (fun hHeld => ?_)
        · exact HLS0.out
        refine wpAnyH_take (i := 0) (v := ?_) rfl (by kernel_rfl) (by kernel_rfl) (by kernel_rfl) (fun _ _ _ h => h) (Or.inl ⟨by rfl, ?_⟩) (by assumption) ?_
        rotate_left
        focus (intro w hSw; have p := hSw.ptr; have b0 := hSw.box 0 _ rfl; have b1 := hSw.box 1 _ rfl; have b2 := hSw.box 2 _ rfl; have b3 := hSw.box 3 _ rfl; go_simp; first | done | with_reducible rfl)
        simp only [Act.put, List.getElem_toArray, List.getElem_cons_zero, List.setIfInBounds_toArray, List.set_cons_zero, List.set_cons_succ]
        refine wpAnyH_take (i := 1) (v := ?_) rfl (by kernel_rfl) (by kernel_rfl) (by kernel_rfl) (fun _ _ _ h => h) (Or.inl ⟨by rfl, ?_⟩) (by assumption) ?_
        rotate_left
        focus (intro w hSw; have p := hSw.ptr; have b0 := hSw.box 0 _ rfl; have b1 := hSw.box 1 _ rfl; have b2 := hSw.box 2 _ rfl; have b3 := hSw.box 3 _ rfl; go_simp; first | done | with_reducible rfl)
        simp only [Act.put, List.getElem_toArray, List.getElem_cons_zero, List.getElem_cons_succ, List.setIfInBounds_toArray, List.set_cons_zero, List.set_cons_succ]
        refine wpAnyH_take (i := 2) (v := ?_) rfl (by kernel_rfl) (by kernel_rfl) (by kernel_rfl) (fun _ _ _ h => h) (Or.inl ⟨by rfl, ?_⟩) (by assumption) ?_
        rotate_left
        focus (intro w hSw; have p := hSw.ptr; have b0 := hSw.box 0 _ rfl; have b1 := hSw.box 1 _ rfl; have b2 := hSw.box 2 _ rfl; have b3 := hSw.box 3 _ rfl; go_simp; first | done | with_reducible rfl)
        simp only [Act.put, List.getElem_toArray, List.getElem_cons_zero, List.getElem_cons_succ, List.setIfInBounds_toArray, List.set_cons_zero, List.set_cons_succ]
        refine wpAnyH_take (i := 3) (v := ?_) rfl (by kernel_rfl) (by kernel_rfl) (by kernel_rfl) (fun _ _ _ h => h) (Or.inl ⟨by rfl, ?_⟩) (by assumption) ?_
        rotate_left
        focus (intro w hSw; have p := hSw.ptr; have b0 := hSw.box 0 _ rfl; have b1 := hSw.box 1 _ rfl; have b2 := hSw.box 2 _ rfl; have b3 := hSw.box 3 _ rfl; go_simp; first | done | with_reducible rfl)
        simp only [Act.put, List.getElem_toArray, List.getElem_cons_zero, List.getElem_cons_succ, List.setIfInBounds_toArray, List.set_cons_zero, List.set_cons_succ]
        refine wpAnyH_take (i := 4) (v := ?_) rfl (by kernel_rfl) (by kernel_rfl) (by kernel_rfl) (fun _ _ _ h => h) (Or.inl ⟨by rfl, ?_⟩) (by assumption) ?_
        rotate_left
        focus (intro w hSw; have p := hSw.ptr; have b0 := hSw.box 0 _ rfl; have b1 := hSw.box 1 _ rfl; have b2 := hSw.box 2 _ rfl; have b3 := hSw.box 3 _ rfl; go_simp; first | done | with_reducible rfl)
        simp only [Act.put, List.getElem_toArray, List.getElem_cons_zero, List.getElem_cons_succ, List.setIfInBounds_toArray, List.set_cons_zero, List.set_cons_succ]
        refine wpAnyH_take (i := 5) (v := ?_) rfl (by kernel_rfl) (by kernel_rfl) (by kernel_rfl) (fun _ _ _ h => h) (Or.inl ⟨by rfl, ?_⟩) (by assumption) ?_
        rotate_left
        focus (intro w hSw; have p := hSw.ptr; have b0 := hSw.box 0 _ rfl; have b1 := hSw.box 1 _ rfl; have b2 := hSw.box 2 _ rfl; have b3 := hSw.box 3 _ rfl; go_simp; first | done | with_reducible rfl)
        simp only [Act.put, List.getElem_toArray, List.getElem_cons_zero, List.getElem_cons_succ, List.setIfInBounds_toArray, List.set_cons_zero, List.set_cons_succ]
        refine wpAnyH_take (i := 6) (v := ?_) rfl (by kernel_rfl) (by kernel_rfl) (by kernel_rfl) (fun _ _ _ h => h) (Or.inl ⟨by rfl, ?_⟩) (by assumption) ?_
        rotate_left
        focus (intro w hSw; have p := hSw.ptr; have b0 := hSw.box 0 _ rfl; have b1 := hSw.box 1 _ rfl; have b2 := hSw.box 2 _ rfl; have b3 := hSw.box 3 _ rfl; go_simp; first | done | with_reducible rfl)
        simp only [Act.put, List.getElem_toArray, List.getElem_cons_zero, List.getElem_cons_succ, List.setIfInBounds_toArray, List.set_cons_zero, List.set_cons_succ]
        refine wpAnyH_take (i := 7) (v := ?_) rfl (by kernel_rfl) (by kernel_rfl) (by kernel_rfl) (fun _ _ _ h => h) (Or.inl ⟨by rfl, ?_⟩) (by assumption) ?_
        rotate_left
        focus (intro w hSw; have p := hSw.ptr; have b0 := hSw.box 0 _ rfl; have b1 := hSw.box 1 _ rfl; have b2 := hSw.box 2 _ rfl; have b3 := hSw.box 3 _ rfl; go_simp; first | done | with_reducible rfl)
        simp only [Act.put, List.getElem_toArray, List.getElem_cons_zero, List.getElem_cons_succ, List.setIfInBounds_toArray, List.set_cons_zero, List.set_cons_succ]
        refine wpAnyH_take (i := 8) (v := ?_) rfl (by kernel_rfl) (by kernel_rfl) (by kernel_rfl) (fun _ _ _ h => h) (Or.inl ⟨by rfl, ?_⟩) (by assumption) ?_
        rotate_left
        focus (intro w hSw; have p := hSw.ptr; have b0 := hSw.box 0 _ rfl; have b1 := hSw.box 1 _ rfl; have b2 := hSw.box 2 _ rfl; have b3 := hSw.box 3 _ rfl; go_simp; first | done | with_reducible rfl)
        simp only [Act.put, List.getElem_toArray, List.getElem_cons_zero, List.getElem_cons_succ, List.setIfInBounds_toArray, List.set_cons_zero, List.set_cons_succ]
        refine wpAnyH_ready (rs := [9, 14]) (by kernel_rfl) (by simp) ?_
        refine AllReadyH.cons (o := _) rfl (fun K hK => ?_) (AllReadyH.cons (o := _) rfl (fun K hK => ?_) AllReadyH.nil)
        · go_simp
          refine HFA.out.mono ?_
          rintro e w1 ⟨sv1, c1, rfl, hT1, hs1, hc1⟩
          simp only [Option.getD_none, Option.isSome_none, Option.getD_some, Option.isSome_some, eE, zT, tyV]
          have HI1 := Lib.hid (HI0.out.next hT1 hs1)
          have HK1 := Lib.hid hs1.keeps
          have HB1 := Lib.hid (hs1.below HI0.out.tab HI0.out.hB)
          have HLS := Lib.hid (hHeld.keep HPL.out hs1.keeps)
          clear hT1 hs1
          go_simp
          refine hK.out _ _ HLS.out (fun hHeld => ?_)
          clear hK K
          try simp only [Act.put, List.getElem_toArray, List.getElem_cons_zero, List.getElem_cons_succ, List.setIfInBounds_toArray, List.set_cons_zero, List.set_cons_succ]
          refine wpAnyH_take (i := 10) (v := ?_) rfl (by kernel_rfl) (by kernel_rfl) (by kernel_rfl) (fun _ _ _ h => h) (Or.inl ⟨by rfl, ?_⟩) (by assumption) ?_
          rotate_left
          focus (intro w hSw; have p := hSw.ptr; have b0 := hSw.box 0 _ rfl; have b1 := hSw.box 1 _ rfl; have b2 := hSw.box 2 _ rfl; have b3 := hSw.box 3 _ rfl; go_simp; first | done | with_reducible rfl)
          simp only [Act.put, List.getElem_toArray, List.getElem_cons_zero, List.getElem_cons_succ, List.setIfInBounds_toArray, List.set_cons_zero, List.set_cons_succ]
          refine wpAnyH_take (i := 11) (v := ?_) rfl (by kernel_rfl) (by kernel_rfl) (by kernel_rfl) (fun _ _ _ h => h) (Or.inl ⟨by rfl, ?_⟩) (by assumption) ?_
          rotate_left
          focus (intro w hSw; have p := hSw.ptr; have b0 := hSw.box 0 _ rfl; have b1 := hSw.box 1 _ rfl; have b2 := hSw.box 2 _ rfl; have b3 := hSw.box 3 _ rfl; go_simp; first | done | with_reducible rfl)
          simp only [Act.put, List.getElem_toArray, List.getElem_cons_zero, List.getElem_cons_succ, List.setIfInBounds_toArray, List.set_cons_zero, List.set_cons_succ]
          refine wpAnyH_take (i := 12) (v := ?_) rfl (by kernel_rfl) (by kernel_rfl) (by kernel_rfl) (fun _ _ _ h => h) (Or.inl ⟨by rfl, ?_⟩) (by assumption) ?_
          rotate_left
          focus (intro w hSw; have p := hSw.ptr; have b0 := hSw.box 0 _ rfl; have b1 := hSw.box 1 _ rfl; have b2 := hSw.box 2 _ rfl; have b3 := hSw.box 3 _ rfl; go_simp; first | done | with_reducible rfl)
          simp only [Act.put, List.getElem_toArray, List.getElem_cons_zero, List.getElem_cons_succ, List.setIfInBounds_toArray, List.set_cons_zero, List.set_cons_succ]
          refine wpAnyH_take (i := 13) (v := ?_) rfl (by kernel_rfl) (by kernel_rfl) (by kernel_rfl) (fun _ _ _ h => h) (Or.inl ⟨by rfl, ?_⟩) (by assumption) ?_
          rotate_left
          focus (intro w hSw; have p := hSw.ptr; have b0 := hSw.box 0 _ rfl; have b1 := hSw.box 1 _ rfl; have b2 := hSw.box 2 _ rfl; have b3 := hSw.box 3 _ rfl; go_simp; first | done | with_reducible rfl)
          simp only [Act.put, List.getElem_toArray, List.getElem_cons_zero, List.getElem_cons_succ, List.setIfInBounds_toArray, List.set_cons_zero, List.set_cons_succ]
          refine wpAnyH_ready (rs := [14]) (by kernel_rfl) (by simp) ?_
          refine AllReadyH.cons (o := _) rfl (fun K hK => ?_) AllReadyH.nil
          go_simp
          refine hK.out _ _ (hHeld.bel (below1 _ _)) (fun hHeld => ?_)
          clear hK K
          try simp only [Act.put, List.getElem_toArray, List.getElem_cons_zero, List.getElem_cons_succ, List.setIfInBounds_toArray, List.set_cons_zero, List.set_cons_succ]
          refine wpAnyH_take (i := 15) (v := ?_) rfl (by kernel_rfl) (by kernel_rfl) (by kernel_rfl) (fun _ _ _ h => h) (Or.inl ⟨by rfl, ?_⟩) (by assumption) ?_
          rotate_left
          focus (intro w hSw; have p := hSw.ptr; have b0 := hSw.box 0 _ rfl; have b1 := hSw.box 1 _ rfl; have b2 := hSw.box 2 _ rfl; have b3 := hSw.box 3 _ rfl; go_simp; first | done | with_reducible rfl)
          simp only [Act.put, List.getElem_toArray, List.getElem_cons_zero, List.getElem_cons_succ, List.setIfInBounds_toArray, List.set_cons_zero, List.set_cons_succ]
          refine wpAnyH_ready (rs := [16]) (by kernel_rfl) (by simp) ?_
          refine AllReadyH.cons (o := _) rfl (fun K hK => ?_) AllReadyH.nil
          go_simp
          have HZ : Hid (Blk (w1.alloc (.cells #[.string pn, .bool pa] 49)) w1.heap.size [.string pn, .bool pa] 49) := Lib.hid (Blk.new w1 [.string pn, .bool pa] 49)
          have HZI := Lib.hid (HI1.out.bel (below1 w1 (.cells #[.string pn, .bool pa] 49)))
          have HZK := Lib.hid (HK1.out.trans (Keeps.of_below (below1 w1 (.cells #[.string pn, .bool pa] 49))))
          have HZB := Lib.hid (HB1.out.trans ((below1 w1 (.cells #[.string pn, .bool pa] 49)).mono HI1.out.hB))
          have z0 := HZ.out.cell 0
          have z1 := HZ.out.cell 1
          simp only [List.getElem?_cons_zero, List.getElem?_cons_succ] at z0 z1
          have HLZ := HLS.out.bel (below1 w1 (.cells #[.string pn, .bool pa] 49))
          have HLZ := Lib.hid HLZ
          clear HI1 HK1 HB1 HLS
          refine hK.out _ _ HLZ.out (fun hHeld => ?_)
          clear hK K
          try simp only [Act.put, List.getElem_toArray, List.getElem_cons_zero, List.getElem_cons_succ, List.setIfInBounds_toArray, List.set_cons_zero, List.set_cons_succ]
          refine wpAnyH_take (i := 17) (v := ?_) rfl (by kernel_rfl) (by kernel_rfl) (by kernel_rfl) (fun _ _ _ h => h) (Or.inl ⟨by rfl, ?_⟩) (by assumption) ?_
          rotate_left
          focus (intro w hSw; have p := hSw.ptr; have b0 := hSw.box 0 _ rfl; have b1 := hSw.box 1 _ rfl; have b2 := hSw.box 2 _ rfl; have b3 := hSw.box 3 _ rfl; go_simp; first | done | with_reducible rfl)
          simp only [Act.put, List.getElem_toArray, List.getElem_cons_zero, List.getElem_cons_succ, List.setIfInBounds_toArray, List.set_cons_zero, List.set_cons_succ]
          refine wpAnyH_done (by kernel_rfl) ?_ _
          have b0 := hHeld.box 0 _ rfl
          have b1 := hHeld.box 1 _ rfl
          have b2 := hHeld.box 2 _ rfl
          have b3 := hHeld.box 3 _ rfl
          have HFN : Hid (∀ b, b = !okFd (faces i.fs) x → IPost i w c 602 (.bool (!okFd (faces i.fs) x)) (.returned (.bool b)) _) := Lib.hid (fun b hb => ⟨sv1, c1, by rw [hb], HZI.out, (Keeps.of_below HBX.out).trans HZK.out, (HBX.out.mono HhB.out).trans HZB.out, hc1⟩)
          clear HZI HZK HZB HZ hHeld
          go_wp2
          go_ret
          exact HFN.out _ HANS.out.symm
        · go_simp
          refine hK.out _ _ (hHeld.bel (below1 _ _)) (fun hHeld => ?_)
          clear hK K
          try simp only [Act.put, List.getElem_toArray, List.getElem_cons_zero, List.getElem_cons_succ, List.setIfInBounds_toArray, List.set_cons_zero, List.set_cons_succ]
          refine wpAnyH_ready (rs := [9]) (by kernel_rfl) (by simp) ?_
          refine AllReadyH.cons (o := _) rfl (fun K hK => ?_) AllReadyH.nil
          go_simp
          refine HFB.out.mono ?_
          rintro e w1 ⟨sv1, c1, rfl, hT1, hs1, hc1⟩
          simp only [Option.getD_none, Option.isSome_none, Option.getD_some, Option.isSome_some, eE, zT, tyV]
          have HO := Lib.hid (HI0.out.ownset hT1 hs1)
          have HLS := Lib.hid (hHeld.keep HPL.out hs1.keeps)
          have hr0 := HO.out.1.cell 0
          have hr1 := HO.out.1.cell 1
          have hf0 := HO.out.1.frozen 0
          have hf1 := HO.out.1.frozen 1
          simp only [List.getElem?_cons_zero, List.getElem?_cons_succ] at hr0 hr1
          have hqe : (w.alloc (.cells #[.string x.1.name, .string x.1.tn, .bool x.1.ta, .string x.2] 87)).drew.heap.size = w.heap.size + 1 := by simp [World.drew]
          rw [hqe] at hr0 hr1 hf0 hf1
          clear hqe
          have hsz : w.heap.size + 1 < w1.heap.size := by have := HO.out.1.lt; simpa using this
          clear hT1 hs1
          go_simp
          refine hK.out _ _ HLS.out (fun hHeld => ?_)
          clear hK K
          try simp only [Act.put, List.getElem_toArray, List.getElem_cons_zero, List.getElem_cons_succ, List.setIfInBounds_toArray, List.set_cons_zero, List.set_cons_succ]
          refine wpAnyH_take (i := 10) (v := ?_) rfl (by kernel_rfl) (by kernel_rfl) (by kernel_rfl) (fun _ _ _ h => h) (Or.inl ⟨by rfl, ?_⟩) (by assumption) ?_
          rotate_left
          focus (intro w hSw; have p := hSw.ptr; have b0 := hSw.box 0 _ rfl; have b1 := hSw.box 1 _ rfl; have b2 := hSw.box 2 _ rfl; have b3 := hSw.box 3 _ rfl; go_simp; first | done | with_reducible rfl)
          simp only [Act.put, List.getElem_toArray, List.getElem_cons_zero, List.getElem_cons_succ, List.setIfInBounds_toArray, List.set_cons_zero, List.set_cons_succ]
          refine wpAnyH_take (i := 11) (v := ?_) rfl (by kernel_rfl) (by kernel_rfl) (by kernel_rfl) (fun _ _ _ h => h) (Or.inl ⟨by rfl, ?_⟩) (by assumption) ?_
          rotate_left
          focus (intro w hSw; have p := hSw.ptr; have b0 := hSw.box 0 _ rfl; have b1 := hSw.box 1 _ rfl; have b2 := hSw.box 2 _ rfl; have b3 := hSw.box 3 _ rfl; go_simp; first | done | with_reducible rfl)
          simp only [Act.put, List.getElem_toArray, List.getElem_cons_zero, List.getElem_cons_succ, List.setIfInBounds_toArray, List.set_cons_zero, List.set_cons_succ]
          refine wpAnyH_take (i := 12) (v := ?_) rfl (by kernel_rfl) (by kernel_rfl) (by kernel_rfl) (fun _ _ _ h => h) (Or.inl ⟨by rfl, ?_⟩) (by assumption) ?_
          rotate_left
          focus (intro w hSw; have p := hSw.ptr; have b0 := hSw.box 0 _ rfl; have b1 := hSw.box 1 _ rfl; have b2 := hSw.box 2 _ rfl; have b3 := hSw.box 3 _ rfl; go_simp; first | done | with_reducible rfl)
          simp only [Act.put, List.getElem_toArray, List.getElem_cons_zero, List.getElem_cons_succ, List.setIfInBounds_toArray, List.set_cons_zero, List.set_cons_succ]
          refine wpAnyH_take (i := 13) (v := ?_) rfl (by kernel_rfl) (by kernel_rfl) (by kernel_rfl) (fun _ _ _ h => h) (Or.inl ⟨by rfl, ?_⟩) (by assumption) ?_
          rotate_left
          focus (intro w hSw; have p := hSw.ptr; have b0 := hSw.box 0 _ rfl; have b1 := hSw.box 1 _ rfl; have b2 := hSw.box 2 _ rfl; have b3 := hSw.box 3 _ rfl; go_simp; first | done | with_reducible rfl)
          simp only [Act.put, List.getElem_toArray, List.getElem_cons_zero, List.getElem_cons_succ, List.setIfInBounds_toArray, List.set_cons_zero, List.set_cons_succ]
          refine wpAnyH_take (i := 15) (v := ?_) rfl (by kernel_rfl) (by kernel_rfl) (by kernel_rfl) (fun _ _ _ h => h) (Or.inl ⟨by rfl, ?_⟩) (by assumption) ?_
          rotate_left
          focus (intro w hSw; have p := hSw.ptr; have b0 := hSw.box 0 _ rfl; have b1 := hSw.box 1 _ rfl; have b2 := hSw.box 2 _ rfl; have b3 := hSw.box 3 _ rfl; go_simp; first | done | with_reducible rfl)
          simp only [Act.put, List.getElem_toArray, List.getElem_cons_zero, List.getElem_cons_succ, List.setIfInBounds_toArray, List.set_cons_zero, List.set_cons_succ]
          refine wpAnyH_ready (rs := [16]) (by kernel_rfl) (by simp) ?_
          refine AllReadyH.cons (o := _) rfl (fun K hK => ?_) AllReadyH.nil
          go_simp
          have hZ := (HO.out.1.set 0 (.string pn)).set 1 (.bool pa)
          simp only [List.set_cons_zero, List.set_cons_succ] at hZ
          have HZ := Lib.hid hZ
          have HM2 := Lib.hid (((Mods.refl (· = (w.alloc (.cells #[.string x.1.name, .string x.1.tn, .bool x.1.ta, .string x.2] 87)).drew.heap.size) w1).setCell (p := ⟨(w.alloc (.cells #[.string x.1.name, .string x.1.tn, .bool x.1.ta, .string x.2] 87)).drew.heap.size, 0, none⟩) (.inl rfl) (.string pn)).setCell (p := ⟨(w.alloc (.cells #[.string x.1.name, .string x.1.tn, .bool x.1.ta, .string x.2] 87)).drew.heap.size, 1, none⟩) (.inl rfl) (.bool pa))
          obtain ⟨hZI, hZK, hZB⟩ := HO.out.2 _ HM2.out
          have HZI := Lib.hid hZI
          have HZK := Lib.hid hZK
          have HZB := Lib.hid hZB
          have z0 := HZ.out.cell 0
          have z1 := HZ.out.cell 1
          simp only [List.getElem?_cons_zero, List.getElem?_cons_succ] at z0 z1
          have HLZ := Lib.hid (HLSB.out.keep HPL.out HZK.out)
          have hqe : (w.alloc (.cells #[.string x.1.name, .string x.1.tn, .bool x.1.ta, .string x.2] 87)).drew.heap.size = w.heap.size + 1 := by simp [World.drew]
          rw [hqe] at z0 z1 HLZ HZI HZK HZB
          clear hZ hZI hZK hZB HO HLS
          refine hK.out _ _ HLZ.out (fun hHeld => ?_)
          clear hK K
          try simp only [Act.put, List.getElem_toArray, List.getElem_cons_zero, List.getElem_cons_succ, List.setIfInBounds_toArray, List.set_cons_zero, List.set_cons_succ]
          refine wpAnyH_take (i := 17) (v := ?_) rfl (by kernel_rfl) (by kernel_rfl) (by kernel_rfl) (fun _ _ _ h => h) (Or.inl ⟨by rfl, ?_⟩) (by assumption) ?_
          rotate_left
          focus (intro w hSw; have p := hSw.ptr; have b0 := hSw.box 0 _ rfl; have b1 := hSw.box 1 _ rfl; have b2 := hSw.box 2 _ rfl; have b3 := hSw.box 3 _ rfl; go_simp; first | done | with_reducible rfl)
          simp only [Act.put, List.getElem_toArray, List.getElem_cons_zero, List.getElem_cons_succ, List.setIfInBounds_toArray, List.set_cons_zero, List.set_cons_succ]
          refine wpAnyH_done (by kernel_rfl) ?_ _
          have b0 := hHeld.box 0 _ rfl
          have b1 := hHeld.box 1 _ rfl
          have b2 := hHeld.box 2 _ rfl
          have b3 := hHeld.box 3 _ rfl
          have HFN : Hid (∀ b, b = !okFd (faces i.fs) x → IPost i w c 602 (.bool (!okFd (faces i.fs) x)) (.returned (.bool b)) _) := Lib.hid (fun b hb => ⟨sv1, c1, by rw [hb], HZI.out, (Keeps.of_below HBX.out).trans HZK.out, (HBX.out.mono HhB.out).trans HZB.out, hc1⟩)
          clear HZI HZK HZB HZ hHeld
          go_wp2
          go_ret
          exact HFN.out _ HANS.out.symm
      · have HANS : Hid ((!okFd (faces i.fs) x) = true) := Lib.hid (by rw [hOK]; simp [ha])
        have ta : (pa == x.1.ta) = false := by simp [ha]
        clear hOK hn ha
        go_upto_region 1 with fail
        refine wp_region_held_drew (S := fun z => LS i w.heap.size [Value.string x.1.name, .string x.1.tn, .bool x.1.ta, .string x.2] z) (by kernel_rfl) ?_ (fun hHeld => ?_)
        · exact HLS0.out
        refine wpAnyH_take (i := 0) (v := ?_) rfl (by kernel_rfl) (by kernel_rfl) (by kernel_rfl) (fun _ _ _ h => h) (Or.inl ⟨by rfl, ?_⟩) (by assumption) ?_
        rotate_left
        focus (intro w hSw; have p := hSw.ptr; have b0 := hSw.box 0 _ rfl; have b1 := hSw.box 1 _ rfl; have b2 := hSw.box 2 _ rfl; have b3 := hSw.box 3 _ rfl; go_simp; first | done | with_reducible rfl)
        simp only [Act.put, List.getElem_toArray, List.getElem_cons_zero, List.setIfInBounds_toArray, List.set_cons_zero, List.set_cons_succ]
        refine wpAnyH_take (i := 1) (v := ?_) rfl (by kernel_rfl) (by kernel_rfl) (by kernel_rfl) (fun _ _ _ h => h) (Or.inl ⟨by rfl, ?_⟩) (by assumption) ?_
        rotate_left
        focus (intro w hSw; have p := hSw.ptr; have b0 := hSw.box 0 _ rfl; have b1 := hSw.box 1 _ rfl; have b2 := hSw.box 2 _ rfl; have b3 := hSw.box 3 _ rfl; go_simp; first | done | with_reducible rfl)
        simp only [Act.put, List.getElem_toArray, List.getElem_cons_zero, List.getElem_cons_succ, List.setIfInBounds_toArray, List.set_cons_zero, List.set_cons_succ]
        refine wpAnyH_take (i := 2) (v := ?_) rfl (by kernel_rfl) (by kernel_rfl) (by kernel_rfl) (fun _ _ _ h => h) (Or.inl ⟨by rfl, ?_⟩) (by assumption) ?_
        rotate_left
        focus (intro w hSw; have p := hSw.ptr; have b0 := hSw.box 0 _ rfl; have b1 := hSw.box 1 _ rfl; have b2 := hSw.box 2 _ rfl; have b3 := hSw.box 3 _ rfl; go_simp; first | done | with_reducible rfl)
        simp only [Act.put, List.getElem_toArray, List.getElem_cons_zero, List.getElem_cons_succ, List.setIfInBounds_toArray, List.set_cons_zero, List.set_cons_succ]
        refine wpAnyH_take (i := 3) (v := ?_) rfl (by kernel_rfl) (by kernel_rfl) (by kernel_rfl) (fun _ _ _ h => h) (Or.inl ⟨by rfl, ?_⟩) (by assumption) ?_
        rotate_left
        focus (intro w hSw; have p := hSw.ptr; have b0 := hSw.box 0 _ rfl; have b1 := hSw.box 1 _ rfl; have b2 := hSw.box 2 _ rfl; have b3 := hSw.box 3 _ rfl; go_simp; first | done | with_reducible rfl)
        simp only [Act.put, List.getElem_toArray, List.getElem_cons_zero, List.getElem_cons_succ, List.setIfInBounds_toArray, List.set_cons_zero, List.set_cons_succ]
        refine wpAnyH_take (i := 4) (v := ?_) rfl (by kernel_rfl) (by kernel_rfl) (by kernel_rfl) (fun _ _ _ h => h) (Or.inl ⟨by rfl, ?_⟩) (by assumption) ?_
        rotate_left
        focus (intro w hSw; have p := hSw.ptr; have b0 := hSw.box 0 _ rfl; have b1 := hSw.box 1 _ rfl; have b2 := hSw.box 2 _ rfl; have b3 := hSw.box 3 _ rfl; go_simp; first | done | with_reducible rfl)
        simp only [Act.put, List.getElem_toArray, List.getElem_cons_zero, List.getElem_cons_succ, List.setIfInBounds_toArray, List.set_cons_zero, List.set_cons_succ]
        refine wpAnyH_take (i := 5) (v := ?_) rfl (by kernel_rfl) (by kernel_rfl) (by kernel_rfl) (fun _ _ _ h => h) (Or.inl ⟨by rfl, ?_⟩) (by assumption) ?_
        rotate_left
        focus (intro w hSw; have p := hSw.ptr; have b0 := hSw.box 0 _ rfl; have b1 := hSw.box 1 _ rfl; have b2 := hSw.box 2 _ rfl; have b3 := hSw.box 3 _ rfl; go_simp; first | done | with_reducible rfl)
        simp only [Act.put, List.getElem_toArray, List.getElem_cons_zero, List.getElem_cons_succ, List.setIfInBounds_toArray, List.set_cons_zero, List.set_cons_succ]
        refine wpAnyH_take (i := 6) (v := ?_) rfl (by kernel_rfl) (by kernel_rfl) (by kernel_rfl) (fun _ _ _ h => h) (Or.inl ⟨by rfl, ?_⟩) (by assumption) ?_
        rotate_left
        focus (intro w hSw; have p := hSw.ptr; have b0 := hSw.box 0 _ rfl; have b1 := hSw.box 1 _ rfl; have b2 := hSw.box 2 _ rfl; have b3 := hSw.box 3 _ rfl; go_simp; first | done | with_reducible rfl)
        simp only [Act.put, List.getElem_toArray, List.getElem_cons_zero, List.getElem_cons_succ, List.setIfInBounds_toArray, List.set_cons_zero, List.set_cons_succ]
        refine wpAnyH_take (i := 7) (v := ?_) rfl (by kernel_rfl) (by kernel_rfl) (by kernel_rfl) (fun _ _ _ h => h) (Or.inl ⟨by rfl, ?_⟩) (by assumption) ?_
        rotate_left
        focus (intro w hSw; have p := hSw.ptr; have b0 := hSw.box 0 _ rfl; have b1 := hSw.box 1 _ rfl; have b2 := hSw.box 2 _ rfl; have b3 := hSw.box 3 _ rfl; go_simp; first | done | with_reducible rfl)
        simp only [Act.put, List.getElem_toArray, List.getElem_cons_zero, List.getElem_cons_succ, List.setIfInBounds_toArray, List.set_cons_zero, List.set_cons_succ]
        refine wpAnyH_take (i := 8) (v := ?_) rfl (by kernel_rfl) (by kernel_rfl) (by kernel_rfl) (fun _ _ _ h => h) (Or.inl ⟨by rfl, ?_⟩) (by assumption) ?_
        rotate_left
        focus (intro w hSw; have p := hSw.ptr; have b0 := hSw.box 0 _ rfl; have b1 := hSw.box 1 _ rfl; have b2 := hSw.box 2 _ rfl; have b3 := hSw.box 3 _ rfl; go_simp; first | done | with_reducible rfl)
        simp only [Act.put, List.getElem_toArray, List.getElem_cons_zero, List.getElem_cons_succ, List.setIfInBounds_toArray, List.set_cons_zero, List.set_cons_succ]
        refine wpAnyH_ready (rs := [9, 14]) (by kernel_rfl) (by simp) ?_
        refine AllReadyH.cons (o := _) rfl (fun K hK => ?_) (AllReadyH.cons (o := _) rfl (fun K hK => ?_) AllReadyH.nil)
        · go_simp
          refine HFA.out.mono ?_
          rintro e w1 ⟨sv1, c1, rfl, hT1, hs1, hc1⟩
          simp only [Option.getD_none, Option.isSome_none, Option.getD_some, Option.isSome_some, eE, zT, tyV]
          have HI1 := Lib.hid (HI0.out.next hT1 hs1)
          have HK1 := Lib.hid hs1.keeps
          have HB1 := Lib.hid (hs1.below HI0.out.tab HI0.out.hB)
          have HLS := Lib.hid (hHeld.keep HPL.out hs1.keeps)
          clear hT1 hs1
          go_simp
          refine hK.out _ _ HLS.out (fun hHeld => ?_)
          clear hK K
          try simp only [Act.put, List.getElem_toArray, List.getElem_cons_zero, List.getElem_cons_succ, List.setIfInBounds_toArray, List.set_cons_zero, List.set_cons_succ]
          refine wpAnyH_take (i := 10) (v := ?_) rfl (by kernel_rfl) (by kernel_rfl) (by kernel_rfl) (fun _ _ _ h => h) (Or.inl ⟨by rfl, ?_⟩) (by assumption) ?_
          rotate_left
          focus (intro w hSw; have p := hSw.ptr; have b0 := hSw.box 0 _ rfl; have b1 := hSw.box 1 _ rfl; have b2 := hSw.box 2 _ rfl; have b3 := hSw.box 3 _ rfl; go_simp; first | done | with_reducible rfl)
          simp only [Act.put, List.getElem_toArray, List.getElem_cons_zero, List.getElem_cons_succ, List.setIfInBounds_toArray, List.set_cons_zero, List.set_cons_succ]
          refine wpAnyH_take (i := 11) (v := ?_) rfl (by kernel_rfl) (by kernel_rfl) (by kernel_rfl) (fun _ _ _ h => h) (Or.inl ⟨by rfl, ?_⟩) (by assumption) ?_
          rotate_left
          focus (intro w hSw; have p := hSw.ptr; have b0 := hSw.box 0 _ rfl; have b1 := hSw.box 1 _ rfl; have b2 := hSw.box 2 _ rfl; have b3 := hSw.box 3 _ rfl; go_simp; first | done | with_reducible rfl)
          simp only [Act.put, List.getElem_toArray, List.getElem_cons_zero, List.getElem_cons_succ, List.setIfInBounds_toArray, List.set_cons_zero, List.set_cons_succ]
          refine wpAnyH_take (i := 12) (v := ?_) rfl (by kernel_rfl) (by kernel_rfl) (by kernel_rfl) (fun _ _ _ h => h) (Or.inl ⟨by rfl, ?_⟩) (by assumption) ?_
          rotate_left
          focus (intro w hSw; have p := hSw.ptr; have b0 := hSw.box 0 _ rfl; have b1 := hSw.box 1 _ rfl; have b2 := hSw.box 2 _ rfl; have b3 := hSw.box 3 _ rfl; go_simp; first | done | with_reducible rfl)
          simp only [Act.put, List.getElem_toArray, List.getElem_cons_zero, List.getElem_cons_succ, List.setIfInBounds_toArray, List.set_cons_zero, List.set_cons_succ]
          refine wpAnyH_take (i := 13) (v := ?_) rfl (by kernel_rfl) (by kernel_rfl) (by kernel_rfl) (fun _ _ _ h => h) (Or.inl ⟨by rfl, ?_⟩) (by assumption) ?_
          rotate_left
          focus (intro w hSw; have p := hSw.ptr; have b0 := hSw.box 0 _ rfl; have b1 := hSw.box 1 _ rfl; have b2 := hSw.box 2 _ rfl; have b3 := hSw.box 3 _ rfl; go_simp; first | done | with_reducible rfl)
          simp only [Act.put, List.getElem_toArray, List.getElem_cons_zero, List.getElem_cons_succ, List.setIfInBounds_toArray, List.set_cons_zero, List.set_cons_succ]
          refine wpAnyH_ready (rs := [14]) (by kernel_rfl) (by simp) ?_
          refine AllReadyH.cons (o := _) rfl (fun K hK => ?_) AllReadyH.nil
          go_simp
          refine hK.out _ _ (hHeld.bel (below1 _ _)) (fun hHeld => ?_)
          clear hK K
          try simp only [Act.put, List.getElem_toArray, List.getElem_cons_zero, List.getElem_cons_succ, List.setIfInBounds_toArray, List.set_cons_zero, List.set_cons_succ]
          refine wpAnyH_take (i := 15) (v := ?_) rfl (by kernel_rfl) (by kernel_rfl) (by kernel_rfl) (fun _ _ _ h => h) (Or.inl ⟨by rfl, ?_⟩) (by assumption) ?_
          rotate_left
          focus (intro w hSw; have p := hSw.ptr; have b0 := hSw.box 0 _ rfl; have b1 := hSw.box 1 _ rfl; have b2 := hSw.box 2 _ rfl; have b3 := hSw.box 3 _ rfl; go_simp; first | done | with_reducible rfl)
          simp only [Act.put, List.getElem_toArray, List.getElem_cons_zero, List.getElem_cons_succ, List.setIfInBounds_toArray, List.set_cons_zero, List.set_cons_succ]
          refine wpAnyH_ready (rs := [16]) (by kernel_rfl) (by simp) ?_
          refine AllReadyH.cons (o := _) rfl (fun K hK => ?_) AllReadyH.nil
          go_simp
          have HZ : Hid (Blk (w1.alloc (.cells #[.string pn, .bool pa] 49)) w1.heap.size [.string pn, .bool pa] 49) := Lib.hid (Blk.new w1 [.string pn, .bool pa] 49)
          have HZI := Lib.hid (HI1.out.bel (below1 w1 (.cells #[.string pn, .bool pa] 49)))
          have HZK := Lib.hid (HK1.out.trans (Keeps.of_below (below1 w1 (.cells #[.string pn, .bool pa] 49))))
          have HZB := Lib.hid (HB1.out.trans ((below1 w1 (.cells #[.string pn, .bool pa] 49)).mono HI1.out.hB))
          have z0 := HZ.out.cell 0
          have z1 := HZ.out.cell 1
          simp only [List.getElem?_cons_zero, List.getElem?_cons_succ] at z0 z1
          have HLZ := HLS.out.bel (below1 w1 (.cells #[.string pn, .bool pa] 49))
          have HLZ := Lib.hid HLZ
          clear HI1 HK1 HB1 HLS
          refine hK.out _ _ HLZ.out (fun hHeld => ?_)
          clear hK K
          try simp only [Act.put, List.getElem_toArray, List.getElem_cons_zero, List.getElem_cons_succ, List.setIfInBounds_toArray, List.set_cons_zero, List.set_cons_succ]
          refine wpAnyH_take (i := 17) (v := ?_) rfl (by kernel_rfl) (by kernel_rfl) (by kernel_rfl) (fun _ _ _ h => h) (Or.inl ⟨by rfl, ?_⟩) (by assumption) ?_
          rotate_left
          focus (intro w hSw; have p := hSw.ptr; have b0 := hSw.box 0 _ rfl; have b1 := hSw.box 1 _ rfl; have b2 := hSw.box 2 _ rfl; have b3 := hSw.box 3 _ rfl; go_simp; first | done | with_reducible rfl)
          simp only [Act.put, List.getElem_toArray, List.getElem_cons_zero, List.getElem_cons_succ, List.setIfInBounds_toArray, List.set_cons_zero, List.set_cons_succ]
          refine wpAnyH_done (by kernel_rfl) ?_ _
          have b0 := hHeld.box 0 _ rfl
          have b1 := hHeld.box 1 _ rfl
          have b2 := hHeld.box 2 _ rfl
          have b3 := hHeld.box 3 _ rfl
          have HFN : Hid (∀ b, b = !okFd (faces i.fs) x → IPost i w c 602 (.bool (!okFd (faces i.fs) x)) (.returned (.bool b)) _) := Lib.hid (fun b hb => ⟨sv1, c1, by rw [hb], HZI.out, (Keeps.of_below HBX.out).trans HZK.out, (HBX.out.mono HhB.out).trans HZB.out, hc1⟩)
          clear HZI HZK HZB HZ hHeld
          go_wp2
          go_ret
          exact HFN.out _ HANS.out.symm
        · go_simp
          refine hK.out _ _ (hHeld.bel (below1 _ _)) (fun hHeld => ?_)
          clear hK K
          try simp only [Act.put, List.getElem_toArray, List.getElem_cons_zero, List.getElem_cons_succ, List.setIfInBounds_toArray, List.set_cons_zero, List.set_cons_succ]
          refine wpAnyH_ready (rs := [9]) (by kernel_rfl) (by simp) ?_
          refine AllReadyH.cons (o := _) rfl (fun K hK => ?_) AllReadyH.nil
          go_simp
          refine HFB.out.mono ?_
          rintro e w1 ⟨sv1, c1, rfl, hT1, hs1, hc1⟩
          simp only [Option.getD_none, Option.isSome_none, Option.getD_some, Option.isSome_some, eE, zT, tyV]
          have HO := Lib.hid (HI0.out.ownset hT1 hs1)
          have HLS := Lib.hid (hHeld.keep HPL.out hs1.keeps)
          have hr0 := HO.out.1.cell 0
          have hr1 := HO.out.1.cell 1
          have hf0 := HO.out.1.frozen 0
          have hf1 := HO.out.1.frozen 1
          simp only [List.getElem?_cons_zero, List.getElem?_cons_succ] at hr0 hr1
          have hqe : (w.alloc (.cells #[.string x.1.name, .string x.1.tn, .bool x.1.ta, .string x.2] 87)).drew.heap.size = w.heap.size + 1 := by simp [World.drew]
          rw [hqe] at hr0 hr1 hf0 hf1
          clear hqe
          have hsz : w.heap.size + 1 < w1.heap.size := by have := HO.out.1.lt; simpa using this
          clear hT1 hs1
          go_simp
          refine hK.out _ _ HLS.out (fun hHeld => ?_)
          clear hK K
          try simp only [Act.put, List.getElem_toArray, List.getElem_cons_zero, List.getElem_cons_succ, List.setIfInBounds_toArray, List.set_cons_zero, List.set_cons_succ]
          refine wpAnyH_take (i := 10) (v := ?_) rfl (by kernel_rfl) (by kernel_rfl) (by kernel_rfl) (fun _ _ _ h => h) (Or.inl ⟨by rfl, ?_⟩) (by assumption) ?_
          rotate_left
          focus (intro w hSw; have p := hSw.ptr; have b0 := hSw.box 0 _ rfl; have b1 := hSw.box 1 _ rfl; have b2 := hSw.box 2 _ rfl; have b3 := hSw.box 3 _ rfl; go_simp; first | done | with_reducible rfl)
          simp only [Act.put, List.getElem_toArray, List.getElem_cons_zero, List.getElem_cons_succ, List.setIfInBounds_toArray, List.set_cons_zero, List.set_cons_succ]
          refine wpAnyH_take (i := 11) (v := ?_) rfl (by kernel_rfl) (by kernel_rfl) (by kernel_rfl) (fun _ _ _ h => h) (Or.inl ⟨by rfl, ?_⟩) (by assumption) ?_
          rotate_left
          focus (intro w hSw; have p := hSw.ptr; have b0 := hSw.box 0 _ rfl; have b1 := hSw.box 1 _ rfl; have b2 := hSw.box 2 _ rfl; have b3 := hSw.box 3 _ rfl; go_simp; first | done | with_reducible rfl)
          simp only [Act.put, List.getElem_toArray, List.getElem_cons_zero, List.getElem_cons_succ, List.setIfInBounds_toArray, List.set_cons_zero, List.set_cons_succ]
          refine wpAnyH_take (i := 12) (v := ?_) rfl (by kernel_rfl) (by kernel_rfl) (by kernel_rfl) (fun _ _ _ h => h) (Or.inl ⟨by rfl, ?_⟩) (by assumption) ?_
          rotate_left
          focus (intro w hSw; have p := hSw.ptr; have b0 := hSw.box 0 _ rfl; have b1 := hSw.box 1 _ rfl; have b2 := hSw.box 2 _ rfl; have b3 := hSw.box 3 _ rfl; go_simp; first | done | with_reducible rfl)
          simp only [Act.put, List.getElem_toArray, List.getElem_cons_zero, List.getElem_cons_succ, List.setIfInBounds_toArray, List.set_cons_zero, List.set_cons_succ]
          refine wpAnyH_take (i := 13) (v := ?_) rfl (by kernel_rfl) (by kernel_rfl) (by kernel_rfl) (fun _ _ _ h => h) (Or.inl ⟨by rfl, ?_⟩) (by assumption) ?_
          rotate_left
          focus (intro w hSw; have p := hSw.ptr; have b0 := hSw.box 0 _ rfl; have b1 := hSw.box 1 _ rfl; have b2 := hSw.box 2 _ rfl; have b3 := hSw.box 3 _ rfl; go_simp; first | done | with_reducible rfl)
          simp only [Act.put, List.getElem_toArray, List.getElem_cons_zero, List.getElem_cons_succ, List.setIfInBounds_toArray, List.set_cons_zero, List.set_cons_succ]
          refine wpAnyH_take (i := 15) (v := ?_) rfl (by kernel_rfl) (by kernel_rfl) (by kernel_rfl) (fun _ _ _ h => h) (Or.inl ⟨by rfl, ?_⟩) (by assumption) ?_
          rotate_left
          focus (intro w hSw; have p := hSw.ptr; have b0 := hSw.box 0 _ rfl; have b1 := hSw.box 1 _ rfl; have b2 := hSw.box 2 _ rfl; have b3 := hSw.box 3 _ rfl; go_simp; first | done | with_reducible rfl)
          simp only [Act.put, List.getElem_toArray, List.getElem_cons_zero, List.getElem_cons_succ, List.setIfInBounds_toArray, List.set_cons_zero, List.set_cons_succ]
          refine wpAnyH_ready (rs := [16]) (by kernel_rfl) (by simp) ?_
          refine AllReadyH.cons (o := _) rfl (fun K hK => ?_) AllReadyH.nil
          go_simp
          have hZ := (HO.out.1.set 0 (.string pn)).set 1 (.bool pa)
          simp only [List.set_cons_zero, List.set_cons_succ] at hZ
          have HZ := Lib.hid hZ
          have HM2 := Lib.hid (((Mods.refl (· = (w.alloc (.cells #[.string x.1.name, .string x.1.tn, .bool x.1.ta, .string x.2] 87)).drew.heap.size) w1).setCell (p := ⟨(w.alloc (.cells #[.string x.1.name, .string x.1.tn, .bool x.1.ta, .string x.2] 87)).drew.heap.size, 0, none⟩) (.inl rfl) (.string pn)).setCell (p := ⟨(w.alloc (.cells #[.string x.1.name, .string x.1.tn, .bool x.1.ta, .string x.2] 87)).drew.heap.size, 1, none⟩) (.inl rfl) (.bool pa))
          obtain ⟨hZI, hZK, hZB⟩ := HO.out.2 _ HM2.out
          have HZI := Lib.hid hZI
          have HZK := Lib.hid hZK
          have HZB := Lib.hid hZB
          have z0 := HZ.out.cell 0
          have z1 := HZ.out.cell 1
          simp only [List.getElem?_cons_zero, List.getElem?_cons_succ] at z0 z1
          have HLZ := Lib.hid (HLSB.out.keep HPL.out HZK.out)
          have hqe : (w.alloc (.cells #[.string x.1.name, .string x.1.tn, .bool x.1.ta, .string x.2] 87)).drew.heap.size = w.heap.size + 1 := by simp [World.drew]
          rw [hqe] at z0 z1 HLZ HZI HZK HZB
          clear hZ hZI hZK hZB HO HLS
          refine hK.out _ _ HLZ.out (fun hHeld => ?_)
          clear hK K
          try simp only [Act.put, List.getElem_toArray, List.getElem_cons_zero, List.getElem_cons_succ, List.setIfInBounds_toArray, List.set_cons_zero, List.set_cons_succ]
          refine wpAnyH_take (i := 17) (v := ?_) rfl (by kernel_rfl) (by kernel_rfl) (by kernel_rfl) (fun _ _ _ h => h) (Or.inl ⟨by rfl, ?_⟩) (by assumption) ?_
          rotate_left
          focus (intro w hSw; have p := hSw.ptr; have b0 := hSw.box 0 _ rfl; have b1 := hSw.box 1 _ rfl; have b2 := hSw.box 2 _ rfl; have b3 := hSw.box 3 _ rfl; go_simp; first | done | with_reducible rfl)
          simp only [Act.put, List.getElem_toArray, List.getElem_cons_zero, List.getElem_cons_succ, List.setIfInBounds_toArray, List.set_cons_zero, List.set_cons_succ]
          refine wpAnyH_done (by kernel_rfl) ?_ _
          have b0 := hHeld.box 0 _ rfl
          have b1 := hHeld.box 1 _ rfl
          have b2 := hHeld.box 2 _ rfl
          have b3 := hHeld.box 3 _ rfl
          have HFN : Hid (∀ b, b = !okFd (faces i.fs) x → IPost i w c 602 (.bool (!okFd (faces i.fs) x)) (.returned (.bool b)) _) := Lib.hid (fun b hb => ⟨sv1, c1, by rw [hb], HZI.out, (Keeps.of_below HBX.out).trans HZK.out, (HBX.out.mono HhB.out).trans HZB.out, hc1⟩)
          clear HZI HZK HZB HZ hHeld
          go_wp2
          go_ret
          exact HFN.out _ HANS.out.symm
    · have tq := tne hn
      have HANS : Hid ((!okFd (faces i.fs) x) = true) := Lib.hid (by rw [hOK]; simp [hn])
      clear hOK hn
      go_upto_region 1 with fail
      refine wp_region_held_drew (S := fun z => LS i w.heap.size [Value.string x.1.name, .string x.1.tn, .bool x.1.ta, .string x.2] z) (by kernel_rfl) ?_ (fun hHeld => ?_)
      · exact HLS0.out
      refine wpAnyH_take (i := 0) (v := ?_) rfl (by kernel_rfl) (by kernel_rfl) (by kernel_rfl) (fun _ _ _ h => h) (Or.inl ⟨by rfl, ?_⟩) (by assumption) ?_
      rotate_left
      focus (intro w hSw; have p := hSw.ptr; have b0 := hSw.box 0 _ rfl; have b1 := hSw.box 1 _ rfl; have b2 := hSw.box 2 _ rfl; have b3 := hSw.box 3 _ rfl; go_simp; first | done | with_reducible rfl)
      simp only [Act.put, List.getElem_toArray, List.getElem_cons_zero, List.setIfInBounds_toArray, List.set_cons_zero, List.set_cons_succ]
      refine wpAnyH_take (i := 1) (v := ?_) rfl (by kernel_rfl) (by kernel_rfl) (by kernel_rfl) (fun _ _ _ h => h) (Or.inl ⟨by rfl, ?_⟩) (by assumption) ?_
      rotate_left
      focus (intro w hSw; have p := hSw.ptr; have b0 := hSw.box 0 _ rfl; have b1 := hSw.box 1 _ rfl; have b2 := hSw.box 2 _ rfl; have b3 := hSw.box 3 _ rfl; go_simp; first | done | with_reducible rfl)
      simp only [Act.put, List.getElem_toArray, List.getElem_cons_zero, List.getElem_cons_succ, List.setIfInBounds_toArray, List.set_cons_zero, List.set_cons_succ]
      refine wpAnyH_take (i := 2) (v := ?_) rfl (by kernel_rfl) (by kernel_rfl) (by kernel_rfl) (fun _ _ _ h => h) (Or.inl ⟨by rfl, ?_⟩) (by assumption) ?_
      rotate_left
      focus (intro w hSw; have p := hSw.ptr; have b0 := hSw.box 0 _ rfl; have b1 := hSw.box 1 _ rfl; have b2 := hSw.box 2 _ rfl; have b3 := hSw.box 3 _ rfl; go_simp; first | done | with_reducible rfl)
      simp only [Act.put, List.getElem_toArray, List.getElem_cons_zero, List.getElem_cons_succ, List.setIfInBounds_toArray, List.set_cons_zero, List.set_cons_succ]
      refine wpAnyH_take (i := 3) (v := ?_) rfl (by kernel_rfl) (by kernel_rfl) (by kernel_rfl) (fun _ _ _ h => h) (Or.inl ⟨by rfl, ?_⟩) (by assumption) ?_
      rotate_left
      focus (intro w hSw; have p := hSw.ptr; have b0 := hSw.box 0 _ rfl; have b1 := hSw.box 1 _ rfl; have b2 := hSw.box 2 _ rfl; have b3 := hSw.box 3 _ rfl; go_simp; first | done | with_reducible rfl)
      simp only [Act.put, List.getElem_toArray, List.getElem_cons_zero, List.getElem_cons_succ, List.setIfInBounds_toArray, List.set_cons_zero, List.set_cons_succ]
      refine wpAnyH_take (i := 4) (v := ?_) rfl (by kernel_rfl) (by kernel_rfl) (by kernel_rfl) (fun _ _ _ h => h) (Or.inl ⟨by rfl, ?_⟩) (by assumption) ?_
      rotate_left
      focus (intro w hSw; have p := hSw.ptr; have b0 := hSw.box 0 _ rfl; have b1 := hSw.box 1 _ rfl; have b2 := hSw.box 2 _ rfl; have b3 := hSw.box 3 _ rfl; go_simp; first | done | with_reducible rfl)
      simp only [Act.put, List.getElem_toArray, List.getElem_cons_zero, List.getElem_cons_succ, List.setIfInBounds_toArray, List.set_cons_zero, List.set_cons_succ]
      refine wpAnyH_take (i := 5) (v := ?_) rfl (by kernel_rfl) (by kernel_rfl) (by kernel_rfl) (fun _ _ _ h => h) (Or.inl ⟨by rfl, ?_⟩) (by assumption) ?_
      rotate_left
      focus (intro w hSw; have p := hSw.ptr; have b0 := hSw.box 0 _ rfl; have b1 := hSw.box 1 _ rfl; have b2 := hSw.box 2 _ rfl; have b3 := hSw.box 3 _ rfl; go_simp; first | done | with_reducible rfl)
      simp only [Act.put, List.getElem_toArray, List.getElem_cons_zero, List.getElem_cons_succ, List.setIfInBounds_toArray, List.set_cons_zero, List.set_cons_succ]
      refine wpAnyH_take (i := 6) (v := ?_) rfl (by kernel_rfl) (by kernel_rfl) (by kernel_rfl) (fun _ _ _ h => h) (Or.inl ⟨by rfl, ?_⟩) (by assumption) ?_
      rotate_left
      focus (intro w hSw; have p := hSw.ptr; have b0 := hSw.box 0 _ rfl; have b1 := hSw.box 1 _ rfl; have b2 := hSw.box 2 _ rfl; have b3 := hSw.box 3 _ rfl; go_simp; first | done | with_reducible rfl)
      simp only [Act.put, List.getElem_toArray, List.getElem_cons_zero, List.getElem_cons_succ, List.setIfInBounds_toArray, List.set_cons_zero, List.set_cons_succ]
      refine wpAnyH_take (i := 7) (v := ?_) rfl (by kernel_rfl) (by kernel_rfl) (by kernel_rfl) (fun _ _ _ h => h) (Or.inl ⟨by rfl, ?_⟩) (by assumption) ?_
      rotate_left
      focus (intro w hSw; have p := hSw.ptr; have b0 := hSw.box 0 _ rfl; have b1 := hSw.box 1 _ rfl; have b2 := hSw.box 2 _ rfl; have b3 := hSw.box 3 _ rfl; go_simp; first | done | with_reducible rfl)
      simp only [Act.put, List.getElem_toArray, List.getElem_cons_zero, List.getElem_cons_succ, List.setIfInBounds_toArray, List.set_cons_zero, List.set_cons_succ]
      refine wpAnyH_take (i := 8) (v := ?_) rfl (by kernel_rfl) (by kernel_rfl) (by kernel_rfl) (fun _ _ _ h => h) (Or.inl ⟨by rfl, ?_⟩) (by assumption) ?_
      rotate_left
      focus (intro w hSw; have p := hSw.ptr; have b0 := hSw.box 0 _ rfl; have b1 := hSw.box 1 _ rfl; have b2 := hSw.box 2 _ rfl; have b3 := hSw.box 3 _ rfl; go_simp; first | done | with_reducible rfl)
      simp only [Act.put, List.getElem_toArray, List.getElem_cons_zero, List.getElem_cons_succ, List.setIfInBounds_toArray, List.set_cons_zero, List.set_cons_succ]
      refine wpAnyH_ready (rs := [9, 14]) (by kernel_rfl) (by simp) ?_
      refine AllReadyH.cons (o := _) rfl (fun K hK => ?_) (AllReadyH.cons (o := _) rfl (fun K hK => ?_) AllReadyH.nil)
      · go_simp
        refine HFA.out.mono ?_
        rintro e w1 ⟨sv1, c1, rfl, hT1, hs1, hc1⟩
        simp only [Option.getD_none, Option.isSome_none, Option.getD_some, Option.isSome_some, eE, zT, tyV]
        have HI1 := Lib.hid (HI0.out.next hT1 hs1)
        have HK1 := Lib.hid hs1.keeps
        have HB1 := Lib.hid (hs1.below HI0.out.tab HI0.out.hB)
        have HLS := Lib.hid (hHeld.keep HPL.out hs1.keeps)
        clear hT1 hs1
        go_simp
        refine hK.out _ _ HLS.out (fun hHeld => ?_)
        clear hK K
        try simp only [Act.put, List.getElem_toArray, List.getElem_cons_zero, List.getElem_cons_succ, List.setIfInBounds_toArray, List.set_cons_zero, List.set_cons_succ]
        refine wpAnyH_take (i := 10) (v := ?_) rfl (by kernel_rfl) (by kernel_rfl) (by kernel_rfl) (fun _ _ _ h => h) (Or.inl ⟨by rfl, ?_⟩) (by assumption) ?_
        rotate_left
        focus (intro w hSw; have p := hSw.ptr; have b0 := hSw.box 0 _ rfl; have b1 := hSw.box 1 _ rfl; have b2 := hSw.box 2 _ rfl; have b3 := hSw.box 3 _ rfl; go_simp; first | done | with_reducible rfl)
        simp only [Act.put, List.getElem_toArray, List.getElem_cons_zero, List.getElem_cons_succ, List.setIfInBounds_toArray, List.set_cons_zero, List.set_cons_succ]
        refine wpAnyH_take (i := 11) (v := ?_) rfl (by kernel_rfl) (by kernel_rfl) (by kernel_rfl) (fun _ _ _ h => h) (Or.inl ⟨by rfl, ?_⟩) (by assumption) ?_
        rotate_left
        focus (intro w hSw; have p := hSw.ptr; have b0 := hSw.box 0 _ rfl; have b1 := hSw.box 1 _ rfl; have b2 := hSw.box 2 _ rfl; have b3 := hSw.box 3 _ rfl; go_simp; first | done | with_reducible rfl)
        simp only [Act.put, List.getElem_toArray, List.getElem_cons_zero, List.getElem_cons_succ, List.setIfInBounds_toArray, List.set_cons_zero, List.set_cons_succ]
        refine wpAnyH_take (i := 12) (v := ?_) rfl (by kernel_rfl) (by kernel_rfl) (by kernel_rfl) (fun _ _ _ h => h) (Or.inl ⟨by rfl, ?_⟩) (by assumption) ?_
        rotate_left
        focus (intro w hSw; have p := hSw.ptr; have b0 := hSw.box 0 _ rfl; have b1 := hSw.box 1 _ rfl; have b2 := hSw.box 2 _ rfl; have b3 := hSw.box 3 _ rfl; go_simp; first | done | with_reducible rfl)
        simp only [Act.put, List.getElem_toArray, List.getElem_cons_zero, List.getElem_cons_succ, List.setIfInBounds_toArray, List.set_cons_zero, List.set_cons_succ]
        refine wpAnyH_take (i := 13) (v := ?_) rfl (by kernel_rfl) (by kernel_rfl) (by kernel_rfl) (fun _ _ _ h => h) (Or.inl ⟨by rfl, ?_⟩) (by assumption) ?_
        rotate_left
        focus (intro w hSw; have p := hSw.ptr; have b0 := hSw.box 0 _ rfl; have b1 := hSw.box 1 _ rfl; have b2 := hSw.box 2 _ rfl; have b3 := hSw.box 3 _ rfl; go_simp; first | done | with_reducible rfl)
        simp only [Act.put, List.getElem_toArray, List.getElem_cons_zero, List.getElem_cons_succ, List.setIfInBounds_toArray, List.set_cons_zero, List.set_cons_succ]
        refine wpAnyH_ready (rs := [14]) (by kernel_rfl) (by simp) ?_
        refine AllReadyH.cons (o := _) rfl (fun K hK => ?_) AllReadyH.nil
        go_simp
        refine hK.out _ _ (hHeld.bel (below1 _ _)) (fun hHeld => ?_)
        clear hK K
        try simp only [Act.put, List.getElem_toArray, List.getElem_cons_zero, List.getElem_cons_succ, List.setIfInBounds_toArray, List.set_cons_zero, List.set_cons_succ]
        refine wpAnyH_take (i := 15) (v := ?_) rfl (by kernel_rfl) (by kernel_rfl) (by kernel_rfl) (fun _ _ _ h => h) (Or.inl ⟨by rfl, ?_⟩) (by assumption) ?_
        rotate_left
        focus (intro w hSw; have p := hSw.ptr; have b0 := hSw.box 0 _ rfl; have b1 := hSw.box 1 _ rfl; have b2 := hSw.box 2 _ rfl; have b3 := hSw.box 3 _ rfl; go_simp; first | done | with_reducible rfl)
        simp only [Act.put, List.getElem_toArray, List.getElem_cons_zero, List.getElem_cons_succ, List.setIfInBounds_toArray, List.set_cons_zero, List.set_cons_succ]
        refine wpAnyH_ready (rs := [16]) (by kernel_rfl) (by simp) ?_
        refine AllReadyH.cons (o := _) rfl (fun K hK => ?_) AllReadyH.nil
        go_simp
        have HZ : Hid (Blk (w1.alloc (.cells #[.string pn, .bool pa] 49)) w1.heap.size [.string pn, .bool pa] 49) := Lib.hid (Blk.new w1 [.string pn, .bool pa] 49)
        have HZI := Lib.hid (HI1.out.bel (below1 w1 (.cells #[.string pn, .bool pa] 49)))
        have HZK := Lib.hid (HK1.out.trans (Keeps.of_below (below1 w1 (.cells #[.string pn, .bool pa] 49))))
        have HZB := Lib.hid (HB1.out.trans ((below1 w1 (.cells #[.string pn, .bool pa] 49)).mono HI1.out.hB))
        have z0 := HZ.out.cell 0
        have z1 := HZ.out.cell 1
        simp only [List.getElem?_cons_zero, List.getElem?_cons_succ] at z0 z1
        have HLZ := HLS.out.bel (below1 w1 (.cells #[.string pn, .bool pa] 49))
        have HLZ := Lib.hid HLZ
        clear HI1 HK1 HB1 HLS
        refine hK.out _ _ HLZ.out (fun hHeld => ?_)
        clear hK K
        try simp only [Act.put, List.getElem_toArray, List.getElem_cons_zero, List.getElem_cons_succ, List.setIfInBounds_toArray, List.set_cons_zero, List.set_cons_succ]
        refine wpAnyH_take (i := 17) (v := ?_) rfl (by kernel_rfl) (by kernel_rfl) (by kernel_rfl) (fun _ _ _ h => h) (Or.inl ⟨by rfl, ?_⟩) (by assumption) ?_
        rotate_left
        focus (intro w hSw; have p := hSw.ptr; have b0 := hSw.box 0 _ rfl; have b1 := hSw.box 1 _ rfl; have b2 := hSw.box 2 _ rfl; have b3 := hSw.box 3 _ rfl; go_simp; first | done | with_reducible rfl)
        simp only [Act.put, List.getElem_toArray, List.getElem_cons_zero, List.getElem_cons_succ, List.setIfInBounds_toArray, List.set_cons_zero, List.set_cons_succ]
        refine wpAnyH_done (by kernel_rfl) ?_ _
        have b0 := hHeld.box 0 _ rfl
        have b1 := hHeld.box 1 _ rfl
        have b2 := hHeld.box 2 _ rfl
        have b3 := hHeld.box 3 _ rfl
        have HFN : Hid (∀ b, b = !okFd (faces i.fs) x → IPost i w c 602 (.bool (!okFd (faces i.fs) x)) (.returned (.bool b)) _) := Lib.hid (fun b hb => ⟨sv1, c1, by rw [hb], HZI.out, (Keeps.of_below HBX.out).trans HZK.out, (HBX.out.mono HhB.out).trans HZB.out, hc1⟩)
        clear HZI HZK HZB HZ hHeld
        go_wp2
        go_ret
        exact HFN.out _ HANS.out.symm
      · go_simp
        refine hK.out _ _ (hHeld.bel (below1 _ _)) (fun hHeld => ?_)
        clear hK K
        try simp only [Act.put, List.getElem_toArray, List.getElem_cons_zero, List.getElem_cons_succ, List.setIfInBounds_toArray, List.set_cons_zero, List.set_cons_succ]
        refine wpAnyH_ready (rs := [9]) (by kernel_rfl) (by simp) ?_
        refine AllReadyH.cons (o := _) rfl (fun K hK => ?_) AllReadyH.nil
        go_simp
        refine HFB.out.mono ?_
        rintro e w1 ⟨sv1, c1, rfl, hT1, hs1, hc1⟩
        simp only [Option.getD_none, Option.isSome_none, Option.getD_some, Option.isSome_some, eE, zT, tyV]
        have HO := Lib.hid (HI0.out.ownset hT1 hs1)
        have HLS := Lib.hid (hHeld.keep HPL.out hs1.keeps)
        have hr0 := HO.out.1.cell 0
        have hr1 := HO.out.1.cell 1
        have hf0 := HO.out.1.frozen 0
        have hf1 := HO.out.1.frozen 1
        simp only [List.getElem?_cons_zero, List.getElem?_cons_succ] at hr0 hr1
        have hqe : (w.alloc (.cells #[.string x.1.name, .string x.1.tn, .bool x.1.ta, .string x.2] 87)).drew.heap.size = w.heap.size + 1 := by simp [World.drew]
        rw [hqe] at hr0 hr1 hf0 hf1
        clear hqe
        have hsz : w.heap.size + 1 < w1.heap.size := by have := HO.out.1.lt; simpa using this
        clear hT1 hs1
        go_simp
        refine hK.out _ _ HLS.out (fun hHeld => ?_)
        clear hK K
        try simp only [Act.put, List.getElem_toArray, List.getElem_cons_zero, List.getElem_cons_succ, List.setIfInBounds_toArray, List.set_cons_zero, List.set_cons_succ]
        refine wpAnyH_take (i := 10) (v := ?_) rfl (by kernel_rfl) (by kernel_rfl) (by kernel_rfl) (fun _ _ _ h => h) (Or.inl ⟨by rfl, ?_⟩) (by assumption) ?_
        rotate_left
        focus (intro w hSw; have p := hSw.ptr; have b0 := hSw.box 0 _ rfl; have b1 := hSw.box 1 _ rfl; have b2 := hSw.box 2 _ rfl; have b3 := hSw.box 3 _ rfl; go_simp; first | done | with_reducible rfl)
        simp only [Act.put, List.getElem_toArray, List.getElem_cons_zero, List.getElem_cons_succ, List.setIfInBounds_toArray, List.set_cons_zero, List.set_cons_succ]
        refine wpAnyH_take (i := 11) (v := ?_) rfl (by kernel_rfl) (by kernel_rfl) (by kernel_rfl) (fun _ _ _ h => h) (Or.inl ⟨by rfl, ?_⟩) (by assumption) ?_
        rotate_left
        focus (intro w hSw; have p := hSw.ptr; have b0 := hSw.box 0 _ rfl; have b1 := hSw.box 1 _ rfl; have b2 := hSw.box 2 _ rfl; have b3 := hSw.box 3 _ rfl; go_simp; first | done | with_reducible rfl)
        simp only [Act.put, List.getElem_toArray, List.getElem_cons_zero, List.getElem_cons_succ, List.setIfInBounds_toArray, List.set_cons_zero, List.set_cons_succ]
        refine wpAnyH_take (i := 12) (v := ?_) rfl (by kernel_rfl) (by kernel_rfl) (by kernel_rfl) (fun _ _ _ h => h) (Or.inl ⟨by rfl, ?_⟩) (by assumption) ?_
        rotate_left
        focus (intro w hSw; have p := hSw.ptr; have b0 := hSw.box 0 _ rfl; have b1 := hSw.box 1 _ rfl; have b2 := hSw.box 2 _ rfl; have b3 := hSw.box 3 _ rfl; go_simp; first | done | with_reducible rfl)
        simp only [Act.put, List.getElem_toArray, List.getElem_cons_zero, List.getElem_cons_succ, List.setIfInBounds_toArray, List.set_cons_zero, List.set_cons_succ]
        refine wpAnyH_take (i := 13) (v := ?_) rfl (by kernel_rfl) (by kernel_rfl) (by kernel_rfl) (fun _ _ _ h => h) (Or.inl ⟨by rfl, ?_⟩) (by assumption) ?_
        rotate_left
        focus (intro w hSw; have p := hSw.ptr; have b0 := hSw.box 0 _ rfl; have b1 := hSw.box 1 _ rfl; have b2 := hSw.box 2 _ rfl; have b3 := hSw.box 3 _ rfl; go_simp; first | done | with_reducible rfl)
        simp only [Act.put, List.getElem_toArray, List.getElem_cons_zero, List.getElem_cons_succ, List.setIfInBounds_toArray, List.set_cons_zero, List.set_cons_succ]
        refine wpAnyH_take (i := 15) (v := ?_) rfl (by kernel_rfl) (by kernel_rfl) (by kernel_rfl) (fun _ _ _ h => h) (Or.inl ⟨by rfl, ?_⟩) (by assumption) ?_
        rotate_left
        focus (intro w hSw; have p := hSw.ptr; have b0 := hSw.box 0 _ rfl; have b1 := hSw.box 1 _ rfl; have b2 := hSw.box 2 _ rfl; have b3 := hSw.box 3 _ rfl; go_simp; first | done | with_reducible rfl)
        simp only [Act.put, List.getElem_toArray, List.getElem_cons_zero, List.getElem_cons_succ, List.setIfInBounds_toArray, List.set_cons_zero, List.set_cons_succ]
        refine wpAnyH_ready (rs := [16]) (by kernel_rfl) (by simp) ?_
        refine AllReadyH.cons (o := _) rfl (fun K hK => ?_) AllReadyH.nil
        go_simp
        have hZ := (HO.out.1.set 0 (.string pn)).set 1 (.bool pa)
        simp only [List.set_cons_zero, List.set_cons_succ] at hZ
        have HZ := Lib.hid hZ
        have HM2 := Lib.hid (((Mods.refl (· = (w.alloc (.cells #[.string x.1.name, .string x.1.tn, .bool x.1.ta, .string x.2] 87)).drew.heap.size) w1).setCell (p := ⟨(w.alloc (.cells #[.string x.1.name, .string x.1.tn, .bool x.1.ta, .string x.2] 87)).drew.heap.size, 0, none⟩) (.inl rfl) (.string pn)).setCell (p := ⟨(w.alloc (.cells #[.string x.1.name, .string x.1.tn, .bool x.1.ta, .string x.2] 87)).drew.heap.size, 1, none⟩) (.inl rfl) (.bool pa))
        obtain ⟨hZI, hZK, hZB⟩ := HO.out.2 _ HM2.out
        have HZI := Lib.hid hZI
        have HZK := Lib.hid hZK
        have HZB := Lib.hid hZB
        have z0 := HZ.out.cell 0
        have z1 := HZ.out.cell 1
        simp only [List.getElem?_cons_zero, List.getElem?_cons_succ] at z0 z1
        have HLZ := Lib.hid (HLSB.out.keep HPL.out HZK.out)
        have hqe : (w.alloc (.cells #[.string x.1.name, .string x.1.tn, .bool x.1.ta, .string x.2] 87)).drew.heap.size = w.heap.size + 1 := by simp [World.drew]
        rw [hqe] at z0 z1 HLZ HZI HZK HZB
        clear hZ hZI hZK hZB HO HLS
        refine hK.out _ _ HLZ.out (fun hHeld => ?_)
        clear hK K
        try simp only [Act.put, List.getElem_toArray, List.getElem_cons_zero, List.getElem_cons_succ, List.setIfInBounds_toArray, List.set_cons_zero, List.set_cons_succ]
        refine wpAnyH_take (i := 17) (v := ?_) rfl (by kernel_rfl) (by kernel_rfl) (by kernel_rfl) (fun _ _ _ h => h) (Or.inl ⟨by rfl, ?_⟩) (by assumption) ?_
        rotate_left
        focus (intro w hSw; have p := hSw.ptr; have b0 := hSw.box 0 _ rfl; have b1 := hSw.box 1 _ rfl; have b2 := hSw.box 2 _ rfl; have b3 := hSw.box 3 _ rfl; go_simp; first | done | with_reducible rfl)
        simp only [Act.put, List.getElem_toArray, List.getElem_cons_zero, List.getElem_cons_succ, List.setIfInBounds_toArray, List.set_cons_zero, List.set_cons_succ]
        refine wpAnyH_done (by kernel_rfl) ?_ _
        have b0 := hHeld.box 0 _ rfl
        have b1 := hHeld.box 1 _ rfl
        have b2 := hHeld.box 2 _ rfl
        have b3 := hHeld.box 3 _ rfl
        have HFN : Hid (∀ b, b = !okFd (faces i.fs) x → IPost i w c 602 (.bool (!okFd (faces i.fs) x)) (.returned (.bool b)) _) := Lib.hid (fun b hb => ⟨sv1, c1, by rw [hb], HZI.out, (Keeps.of_below HBX.out).trans HZK.out, (HBX.out.mono HhB.out).trans HZB.out, hc1⟩)
        clear HZI HZK HZB HZ hHeld
        go_wp2
        go_ret
        exact HFN.out _ HANS.out.symm
end Go.Proofs.YthimpjfmelmhpaaDoor.Fc
