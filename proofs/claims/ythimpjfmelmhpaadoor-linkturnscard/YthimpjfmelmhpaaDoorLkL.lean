/-
  Whether a file fits to all others.
-/
import Derived.Test.YthimpjfmelmhpaaDoorLkZ
namespace Go.Proofs.YthimpjfmelmhpaaDoor.Fc
open Go.RowKit
set_option linter.unusedVariables false
set_option linter.unusedSimpArgs false

/-- what a pool's pieces are bounded by -/
structure PoB (f : Fl) : Prop where
  cl : f.cl.length ≤ 1000 ∧ ∀ c ∈ f.cl, c.size ≤ maxLen
  ty : f.ty.length ≤ 1000 ∧ ∀ t ∈ f.ty, t.n.size ≤ maxLen
  fd : f.fd.length ≤ 1000 ∧ ∀ x ∈ f.fd, x.2.size ≤ maxLen
  mt : f.mt.length ≤ 1000 ∧ ∀ x ∈ f.mt, x.2.size ≤ maxLen
theorem class_size {s : ByteArray} (h : classB s = true) : s.size ≤ 40 := by
  unfold classB at h
  simp only [Bool.and_eq_true, decide_eq_true_eq] at h
  omega
theorem good_size {s : ByteArray} (h : goodB s = true) : s.size ≤ 40 := by
  unfold goodB intB boolB at h
  simp only [Bool.or_eq_true, Bool.and_eq_true, decide_eq_true_eq, beq_iff_eq] at h
  rcases h with (h | h) | h
  · have := congrArg List.length h; rw [ByteArray.toList_eq] at this; have e : s.data.toList.length = s.size := rfl; simp at this; omega
  · have := congrArg List.length h; rw [ByteArray.toList_eq] at this; have e : s.data.toList.length = s.size := rfl; simp at this; omega
  · omega
theorem PoB.of {f : Fl} (h : PoolP f) (h1 : f.cl.length ≤ 1000) (h2 : f.ty.length ≤ 1000) (h3 : f.fd.length ≤ 1000) (h4 : f.mt.length ≤ 1000) : PoB f := by
  obtain ⟨_, ⟨_, p1⟩, ⟨_, p2⟩, ⟨_, p3⟩, ⟨_, p4⟩⟩ := h
  refine ⟨⟨h1, fun c hc => ?_⟩, ⟨h2, fun c hc => ?_⟩, ⟨h3, fun c hc => ?_⟩, ⟨h4, fun c hc => ?_⟩⟩
  · have := class_size (p1 c hc).name; dsimp only at this; unfold maxLen; omega
  · have := good_size (p2 c hc); unfold maxLen; omega
  · have := class_size (p3 c hc).name; dsimp only at this; unfold maxLen; omega
  · have := class_size (p4 c hc).name; dsimp only at this; unfold maxLen; omega
set_option maxHeartbeats 4000000 in
set_option maxRecDepth 100000 in
theorem lacks39 (i : ImS) (hL : i.fs.length ≤ 300) (sv : Value) (c : Nat) (w : World) (h : Im i sv c w) (hc : c < 90000000000) (f : Fl) (hpb : PoB f) (a1 : Option Addr) (n1 c1 : Nat) (a2 : Option Addr) (n2 c2 : Nat) (a3 : Option Addr) (n3 c3 : Nat) (a4 : Option Addr) (n4 c4 : Nat) (a5 : Option Addr) (n5 c5 : Nat) (hpo : PoR w f (.slice a1 n1 c1) (.slice a2 n2 c2) (.slice a3 n3 c3) (.slice a4 n4 c4) (.slice a5 n5 c5)) :
    Calls Tryd.prog 39 #[.pointer (some ⟨i.im, 0, none⟩), .agg #[.slice a1 n1 c1, .slice a2 n2 c2, .slice a3 n3 c3, .slice a4 n4 c4, .slice a5 n5 c5]] w (IPost i w c 1000000 (.bool (lackB i.fs f))) := by
  have hbx : Below w.heap.size w (w.alloc (.cells #[.slice a1 n1 c1, .slice a2 n2 c2, .slice a3 n3 c3, .slice a4 n4 c4, .slice a5 n5 c5] 41)).drew := (below1 w (.cells #[.slice a1 n1 c1, .slice a2 n2 c2, .slice a3 n3 c3, .slice a4 n4 c4, .slice a5 n5 c5] 41)).drew
  have HBX := Lib.hid hbx
  have HI0 := Lib.hid (h.bel hbx)
  have HhB := Lib.hid h.hB
  have HPO := Lib.hid (hpo.keep (Keeps.of_below hbx))
  have HPB := Lib.hid hpb
  have HLI := Lib.hid hL
  have hX : Blk (w.alloc (.cells #[.slice a1 n1 c1, .slice a2 n2 c2, .slice a3 n3 c3, .slice a4 n4 c4, .slice a5 n5 c5] 41)).drew w.heap.size [.slice a1 n1 c1, .slice a2 n2 c2, .slice a3 n3 c3, .slice a4 n4 c4, .slice a5 n5 c5] 41 := Blk.dr (Blk.new w [.slice a1 n1 c1, .slice a2 n2 c2, .slice a3 n3 c3, .slice a4 n4 c4, .slice a5 n5 c5] 41)
  have HPL : Hid (∀ v ∈ [Value.slice a1 n1 c1, .slice a2 n2 c2, .slice a3 n3 c3, .slice a4 n4 c4, .slice a5 n5 c5], Pl v) := Lib.hid (by
    intro v hv
    simp only [List.mem_cons, List.not_mem_nil, or_false] at hv
    rcases hv with rfl | rfl | rfl | rfl | rfl
    all_goals exact pl_slice _ _ _)
  have HLS0 : Hid (LS i w.heap.size [Value.slice a1 n1 c1, .slice a2 n2 c2, .slice a3 n3 c3, .slice a4 n4 c4, .slice a5 n5 c5] (w.alloc (.cells #[.slice a1 n1 c1, .slice a2 n2 c2, .slice a3 n3 c3, .slice a4 n4 c4, .slice a5 n5 c5] 41)).drew) := Lib.hid ⟨HI0.out.ptr, fun j v hv => by rw [hX.cell]; exact hv⟩
  have HLN : Hid (n2 ≤ 1000 ∧ n3 ≤ 1000 ∧ n4 * 602 ≤ 602000 ∧ n5 * 301 ≤ 301000 ∧ f.ty.length ≤ 1000 ∧ c < 90000000000) := Lib.hid (by
    have e2 := hpo.cl.at.1
    have e3 := hpo.ty.at.1
    have e4 := hpo.fd.at.1
    have e5 := hpo.mt.at.1
    have q2 := hpb.cl.1
    have q3 := hpb.ty.1
    have q4 := hpb.fd.1
    have q5 := hpb.mt.1
    refine ⟨by omega, by omega, by omega, by omega, by omega, hc⟩)
  have H56 := Lib.hid (has56 i sv c 1 _ HI0.out f.cl a2 n2 c2 HPO.out.cl (fun c => !knB (faces i.fs) c) (fun x hx z sv' c' hI hc' => lacks57 i sv' c' z hI hc' x (hpb.cl.2 x hx)) (by have := HLN.out; omega))
  have HFIN : Hid (∀ (b : Bool) (sv' : Value) (c' : Nat) {z : World}, lackB i.fs f = b → Im i sv' c' z → Keeps (w.alloc (.cells #[.slice a1 n1 c1, .slice a2 n2 c2, .slice a3 n3 c3, .slice a4 n4 c4, .slice a5 n5 c5] 41)).drew z → Below i.B (w.alloc (.cells #[.slice a1 n1 c1, .slice a2 n2 c2, .slice a3 n3 c3, .slice a4 n4 c4, .slice a5 n5 c5] 41)).drew z → c' ≤ c + 1000000 → IPost i w c 1000000 (.bool (lackB i.fs f)) (.returned (.bool b)) z) := Lib.hid (fun b sv' c' z hb hI hk hbl hcc => ⟨sv', c', by rw [hb], hI, (Keeps.of_below HBX.out).trans hk, (HBX.out.mono HhB.out).trans hbl, hcc⟩)
  have hLB : lackB i.fs f = (f.cl.any (fun c => !knB (faces i.fs) c) || !(f.ty.all (fun t => knB (faces i.fs) t.n)) || f.fd.any (fun x => !okFd (faces i.fs) x) || f.mt.any (fun x => (fdM i.fs x).isNone)) := rfl
  clear h hbx hX hpo hpb hL hc
  go_enter Tryd.func39, Tryd.ntmps39
  cases hq1 : f.cl.any (fun c => !knB (faces i.fs) c) with
  | true =>
    rw [hq1] at H56 hLB
    have HANS : Hid (lackB i.fs f = true) := Lib.hid (by rw [hLB]; simp)
    clear hLB hq1
    go_upto_region 1 with fail
    refine wp_region_held_drew (S := fun z => LS i w.heap.size [Value.slice a1 n1 c1, .slice a2 n2 c2, .slice a3 n3 c3, .slice a4 n4 c4, .slice a5 n5 c5] z) (by kernel_rfl) ?_ (fun hHeld => ?_)
    · exact HLS0.out
    refine wpAnyH_take (i := 0) (v := ?_) rfl (by kernel_rfl) (by kernel_rfl) (by kernel_rfl) (fun _ _ _ h => h) (Or.inl ⟨by rfl, ?_⟩) (by assumption) ?_
    rotate_left
    focus (intro w hSw; have p := hSw.ptr; have b1 := hSw.box 1 _ rfl; have b2 := hSw.box 2 _ rfl; have b3 := hSw.box 3 _ rfl; have b4 := hSw.box 4 _ rfl; go_simp; first | done | with_reducible rfl)
    simp only [Act.put, List.getElem_toArray, List.getElem_cons_zero, List.setIfInBounds_toArray, List.set_cons_zero, List.set_cons_succ]
    refine wpAnyH_take (i := 1) (v := ?_) rfl (by kernel_rfl) (by kernel_rfl) (by kernel_rfl) (fun _ _ _ h => h) (Or.inl ⟨by rfl, ?_⟩) (by assumption) ?_
    rotate_left
    focus (intro w hSw; have p := hSw.ptr; have b1 := hSw.box 1 _ rfl; have b2 := hSw.box 2 _ rfl; have b3 := hSw.box 3 _ rfl; have b4 := hSw.box 4 _ rfl; go_simp; first | done | with_reducible rfl)
    simp only [Act.put, List.getElem_toArray, List.getElem_cons_zero, List.getElem_cons_succ, List.setIfInBounds_toArray, List.set_cons_zero, List.set_cons_succ]
    refine wpAnyH_take (i := 2) (v := ?_) rfl (by kernel_rfl) (by kernel_rfl) (by kernel_rfl) (fun _ _ _ h => h) (Or.inl ⟨by rfl, ?_⟩) (by assumption) ?_
    rotate_left
    focus (intro w hSw; have p := hSw.ptr; have b1 := hSw.box 1 _ rfl; have b2 := hSw.box 2 _ rfl; have b3 := hSw.box 3 _ rfl; have b4 := hSw.box 4 _ rfl; go_simp; first | done | with_reducible rfl)
    simp only [Act.put, List.getElem_toArray, List.getElem_cons_zero, List.getElem_cons_succ, List.setIfInBounds_toArray, List.set_cons_zero, List.set_cons_succ]
    refine wpAnyH_ready (rs := [3]) (by kernel_rfl) (by simp) ?_
    refine AllReadyH.cons (o := _) rfl (fun K hK => ?_) AllReadyH.nil
    go_simp
    refine hK.out _ _ hHeld (fun hHeld => ?_)
    clear hK K
    try simp only [Act.put, List.getElem_toArray, List.getElem_cons_zero, List.getElem_cons_succ, List.setIfInBounds_toArray, List.set_cons_zero, List.set_cons_succ]
    refine wpAnyH_ready (rs := [4]) (by kernel_rfl) (by simp) ?_
    refine AllReadyH.cons (o := _) rfl (fun K hK => ?_) AllReadyH.nil
    go_simp
    refine H56.out.mono ?_
    rintro e w1 ⟨sv1, c1, rfl, hI1, hk1, hb1, hc1⟩
    have HI1 := Lib.hid hI1
    have HK1 := Lib.hid hk1
    have HB1 := Lib.hid hb1
    have HL1 := Lib.hid (hHeld.keep HPL.out hk1)
    clear hI1 hk1 hb1 H56
    go_simp
    refine hK.out _ _ HL1.out (fun hHeld => ?_)
    clear hK K
    try simp only [Act.put, List.getElem_toArray, List.getElem_cons_zero, List.getElem_cons_succ, List.setIfInBounds_toArray, List.set_cons_zero, List.set_cons_succ]
    refine wpAnyH_take (i := 5) (v := ?_) rfl (by kernel_rfl) (by kernel_rfl) (by kernel_rfl) (fun _ _ _ h => h) (Or.inl ⟨by rfl, ?_⟩) (by assumption) ?_
    rotate_left
    focus (intro w hSw; have p := hSw.ptr; have b1 := hSw.box 1 _ rfl; have b2 := hSw.box 2 _ rfl; have b3 := hSw.box 3 _ rfl; have b4 := hSw.box 4 _ rfl; go_simp; first | done | with_reducible rfl)
    simp only [Act.put, List.getElem_toArray, List.getElem_cons_zero, List.getElem_cons_succ, List.setIfInBounds_toArray, List.set_cons_zero, List.set_cons_succ]
    refine wpAnyH_take (i := 6) (v := undef) rfl (by kernel_rfl) (by kernel_rfl) (by kernel_rfl) (fun _ _ _ h => h) (Or.inr ⟨by rfl, rfl⟩) (by assumption) ?_
    try simp only [Act.put, List.getElem_toArray, List.getElem_cons_zero, List.getElem_cons_succ, List.setIfInBounds_toArray, List.set_cons_zero, List.set_cons_succ]
    refine wpAnyH_take (i := 7) (v := undef) rfl (by kernel_rfl) (by kernel_rfl) (by kernel_rfl) (fun _ _ _ h => h) (Or.inr ⟨by rfl, rfl⟩) (by assumption) ?_
    try simp only [Act.put, List.getElem_toArray, List.getElem_cons_zero, List.getElem_cons_succ, List.setIfInBounds_toArray, List.set_cons_zero, List.set_cons_succ]
    refine wpAnyH_take (i := 8) (v := undef) rfl (by kernel_rfl) (by kernel_rfl) (by kernel_rfl) (fun _ _ _ h => h) (Or.inr ⟨by rfl, rfl⟩) (by assumption) ?_
    try simp only [Act.put, List.getElem_toArray, List.getElem_cons_zero, List.getElem_cons_succ, List.setIfInBounds_toArray, List.set_cons_zero, List.set_cons_succ]
    refine wpAnyH_take (i := 9) (v := undef) rfl (by kernel_rfl) (by kernel_rfl) (by kernel_rfl) (fun _ _ _ h => h) (Or.inr ⟨by rfl, rfl⟩) (by assumption) ?_
    try simp only [Act.put, List.getElem_toArray, List.getElem_cons_zero, List.getElem_cons_succ, List.setIfInBounds_toArray, List.set_cons_zero, List.set_cons_succ]
    refine wpAnyH_take (i := 10) (v := undef) rfl (by kernel_rfl) (by kernel_rfl) (by kernel_rfl) (fun _ _ _ h => h) (Or.inr ⟨by rfl, rfl⟩) (by assumption) ?_
    try simp only [Act.put, List.getElem_toArray, List.getElem_cons_zero, List.getElem_cons_succ, List.setIfInBounds_toArray, List.set_cons_zero, List.set_cons_succ]
    refine wpAnyH_take (i := 11) (v := undef) rfl (by kernel_rfl) (by kernel_rfl) (by kernel_rfl) (fun _ _ _ h => h) (Or.inr ⟨by rfl, rfl⟩) (by assumption) ?_
    try simp only [Act.put, List.getElem_toArray, List.getElem_cons_zero, List.getElem_cons_succ, List.setIfInBounds_toArray, List.set_cons_zero, List.set_cons_succ]
    refine wpAnyH_take (i := 12) (v := undef) rfl (by kernel_rfl) (by kernel_rfl) (by kernel_rfl) (fun _ _ _ h => h) (Or.inr ⟨by rfl, rfl⟩) (by assumption) ?_
    try simp only [Act.put, List.getElem_toArray, List.getElem_cons_zero, List.getElem_cons_succ, List.setIfInBounds_toArray, List.set_cons_zero, List.set_cons_succ]
    refine wpAnyH_take (i := 13) (v := undef) rfl (by kernel_rfl) (by kernel_rfl) (by kernel_rfl) (fun _ _ _ h => h) (Or.inr ⟨by rfl, rfl⟩) (by assumption) ?_
    try simp only [Act.put, List.getElem_toArray, List.getElem_cons_zero, List.getElem_cons_succ, List.setIfInBounds_toArray, List.set_cons_zero, List.set_cons_succ]
    refine wpAnyH_take (i := 14) (v := ?_) rfl (by kernel_rfl) (by kernel_rfl) (by kernel_rfl) (fun _ _ _ h => h) (Or.inl ⟨by rfl, ?_⟩) (by assumption) ?_
    rotate_left
    focus (intro w hSw; have p := hSw.ptr; have b1 := hSw.box 1 _ rfl; have b2 := hSw.box 2 _ rfl; have b3 := hSw.box 3 _ rfl; have b4 := hSw.box 4 _ rfl; go_simp; first | done | with_reducible rfl)
    simp only [Act.put, List.getElem_toArray, List.getElem_cons_zero, List.getElem_cons_succ, List.setIfInBounds_toArray, List.set_cons_zero, List.set_cons_succ]
    refine wpAnyH_take (i := 15) (v := ?_) rfl (by kernel_rfl) (by kernel_rfl) (by kernel_rfl) (fun _ _ _ h => h) (Or.inl ⟨by rfl, ?_⟩) (by assumption) ?_
    rotate_left
    focus (intro w hSw; have p := hSw.ptr; have b1 := hSw.box 1 _ rfl; have b2 := hSw.box 2 _ rfl; have b3 := hSw.box 3 _ rfl; have b4 := hSw.box 4 _ rfl; go_simp; first | done | with_reducible rfl)
    simp only [Act.put, List.getElem_toArray, List.getElem_cons_zero, List.getElem_cons_succ, List.setIfInBounds_toArray, List.set_cons_zero, List.set_cons_succ]
    refine wpAnyH_take (i := 16) (v := undef) rfl (by kernel_rfl) (by kernel_rfl) (by kernel_rfl) (fun _ _ _ h => h) (Or.inr ⟨by rfl, rfl⟩) (by assumption) ?_
    try simp only [Act.put, List.getElem_toArray, List.getElem_cons_zero, List.getElem_cons_succ, List.setIfInBounds_toArray, List.set_cons_zero, List.set_cons_succ]
    refine wpAnyH_take (i := 17) (v := undef) rfl (by kernel_rfl) (by kernel_rfl) (by kernel_rfl) (fun _ _ _ h => h) (Or.inr ⟨by rfl, rfl⟩) (by assumption) ?_
    try simp only [Act.put, List.getElem_toArray, List.getElem_cons_zero, List.getElem_cons_succ, List.setIfInBounds_toArray, List.set_cons_zero, List.set_cons_succ]
    refine wpAnyH_take (i := 18) (v := undef) rfl (by kernel_rfl) (by kernel_rfl) (by kernel_rfl) (fun _ _ _ h => h) (Or.inr ⟨by rfl, rfl⟩) (by assumption) ?_
    try simp only [Act.put, List.getElem_toArray, List.getElem_cons_zero, List.getElem_cons_succ, List.setIfInBounds_toArray, List.set_cons_zero, List.set_cons_succ]
    refine wpAnyH_take (i := 19) (v := undef) rfl (by kernel_rfl) (by kernel_rfl) (by kernel_rfl) (fun _ _ _ h => h) (Or.inr ⟨by rfl, rfl⟩) (by assumption) ?_
    try simp only [Act.put, List.getElem_toArray, List.getElem_cons_zero, List.getElem_cons_succ, List.setIfInBounds_toArray, List.set_cons_zero, List.set_cons_succ]
    refine wpAnyH_take (i := 20) (v := undef) rfl (by kernel_rfl) (by kernel_rfl) (by kernel_rfl) (fun _ _ _ h => h) (Or.inr ⟨by rfl, rfl⟩) (by assumption) ?_
    try simp only [Act.put, List.getElem_toArray, List.getElem_cons_zero, List.getElem_cons_succ, List.setIfInBounds_toArray, List.set_cons_zero, List.set_cons_succ]
    refine wpAnyH_take (i := 21) (v := ?_) rfl (by kernel_rfl) (by kernel_rfl) (by kernel_rfl) (fun _ _ _ h => h) (Or.inl ⟨by rfl, ?_⟩) (by assumption) ?_
    rotate_left
    focus (intro w hSw; have p := hSw.ptr; have b1 := hSw.box 1 _ rfl; have b2 := hSw.box 2 _ rfl; have b3 := hSw.box 3 _ rfl; have b4 := hSw.box 4 _ rfl; go_simp; first | done | with_reducible rfl)
    simp only [Act.put, List.getElem_toArray, List.getElem_cons_zero, List.getElem_cons_succ, List.setIfInBounds_toArray, List.set_cons_zero, List.set_cons_succ]
    refine wpAnyH_take (i := 22) (v := ?_) rfl (by kernel_rfl) (by kernel_rfl) (by kernel_rfl) (fun _ _ _ h => h) (Or.inl ⟨by rfl, ?_⟩) (by assumption) ?_
    rotate_left
    focus (intro w hSw; have p := hSw.ptr; have b1 := hSw.box 1 _ rfl; have b2 := hSw.box 2 _ rfl; have b3 := hSw.box 3 _ rfl; have b4 := hSw.box 4 _ rfl; go_simp; first | done | with_reducible rfl)
    simp only [Act.put, List.getElem_toArray, List.getElem_cons_zero, List.getElem_cons_succ, List.setIfInBounds_toArray, List.set_cons_zero, List.set_cons_succ]
    refine wpAnyH_take (i := 23) (v := undef) rfl (by kernel_rfl) (by kernel_rfl) (by kernel_rfl) (fun _ _ _ h => h) (Or.inr ⟨by rfl, rfl⟩) (by assumption) ?_
    try simp only [Act.put, List.getElem_toArray, List.getElem_cons_zero, List.getElem_cons_succ, List.setIfInBounds_toArray, List.set_cons_zero, List.set_cons_succ]
    refine wpAnyH_take (i := 24) (v := undef) rfl (by kernel_rfl) (by kernel_rfl) (by kernel_rfl) (fun _ _ _ h => h) (Or.inr ⟨by rfl, rfl⟩) (by assumption) ?_
    try simp only [Act.put, List.getElem_toArray, List.getElem_cons_zero, List.getElem_cons_succ, List.setIfInBounds_toArray, List.set_cons_zero, List.set_cons_succ]
    refine wpAnyH_take (i := 25) (v := undef) rfl (by kernel_rfl) (by kernel_rfl) (by kernel_rfl) (fun _ _ _ h => h) (Or.inr ⟨by rfl, rfl⟩) (by assumption) ?_
    try simp only [Act.put, List.getElem_toArray, List.getElem_cons_zero, List.getElem_cons_succ, List.setIfInBounds_toArray, List.set_cons_zero, List.set_cons_succ]
    refine wpAnyH_take (i := 26) (v := undef) rfl (by kernel_rfl) (by kernel_rfl) (by kernel_rfl) (fun _ _ _ h => h) (Or.inr ⟨by rfl, rfl⟩) (by assumption) ?_
    try simp only [Act.put, List.getElem_toArray, List.getElem_cons_zero, List.getElem_cons_succ, List.setIfInBounds_toArray, List.set_cons_zero, List.set_cons_succ]
    refine wpAnyH_take (i := 27) (v := undef) rfl (by kernel_rfl) (by kernel_rfl) (by kernel_rfl) (fun _ _ _ h => h) (Or.inr ⟨by rfl, rfl⟩) (by assumption) ?_
    try simp only [Act.put, List.getElem_toArray, List.getElem_cons_zero, List.getElem_cons_succ, List.setIfInBounds_toArray, List.set_cons_zero, List.set_cons_succ]
    refine wpAnyH_take (i := 28) (v := ?_) rfl (by kernel_rfl) (by kernel_rfl) (by kernel_rfl) (fun _ _ _ h => h) (Or.inl ⟨by rfl, ?_⟩) (by assumption) ?_
    rotate_left
    focus (intro w hSw; have p := hSw.ptr; have b1 := hSw.box 1 _ rfl; have b2 := hSw.box 2 _ rfl; have b3 := hSw.box 3 _ rfl; have b4 := hSw.box 4 _ rfl; go_simp; first | done | with_reducible rfl)
    simp only [Act.put, List.getElem_toArray, List.getElem_cons_zero, List.getElem_cons_succ, List.setIfInBounds_toArray, List.set_cons_zero, List.set_cons_succ]
    refine wpAnyH_take (i := 29) (v := ?_) rfl (by kernel_rfl) (by kernel_rfl) (by kernel_rfl) (fun _ _ _ h => h) (Or.inl ⟨by rfl, ?_⟩) (by assumption) ?_
    rotate_left
    focus (intro w hSw; have p := hSw.ptr; have b1 := hSw.box 1 _ rfl; have b2 := hSw.box 2 _ rfl; have b3 := hSw.box 3 _ rfl; have b4 := hSw.box 4 _ rfl; go_simp; first | done | with_reducible rfl)
    simp only [Act.put, List.getElem_toArray, List.getElem_cons_zero, List.getElem_cons_succ, List.setIfInBounds_toArray, List.set_cons_zero, List.set_cons_succ]
    refine wpAnyH_done (by kernel_rfl) ?_ _
    clear hHeld
    go_wp2
    go_ret
    exact HFIN.out _ sv1 c1 HANS.out HI1.out HK1.out HB1.out (by have := HLN.out; omega)
  | false =>
    rw [hq1] at H56 hLB
    clear hq1
    cases hq2 : f.ty.all (fun t => knB (faces i.fs) t.n) with
    | false =>
      have HALL := Lib.hid hq2
      rw [hq2] at hLB
      have HANS : Hid (lackB i.fs f = true) := Lib.hid (by rw [hLB]; simp)
      clear hLB hq2
      go_upto_region 1 with fail
      refine wp_region_held_drew (S := fun z => LS i w.heap.size [Value.slice a1 n1 c1, .slice a2 n2 c2, .slice a3 n3 c3, .slice a4 n4 c4, .slice a5 n5 c5] z) (by kernel_rfl) ?_ (fun hHeld => ?_)
      · exact HLS0.out
      refine wpAnyH_take (i := 0) (v := ?_) rfl (by kernel_rfl) (by kernel_rfl) (by kernel_rfl) (fun _ _ _ h => h) (Or.inl ⟨by rfl, ?_⟩) (by assumption) ?_
      rotate_left
      focus (intro w hSw; have p := hSw.ptr; have b1 := hSw.box 1 _ rfl; have b2 := hSw.box 2 _ rfl; have b3 := hSw.box 3 _ rfl; have b4 := hSw.box 4 _ rfl; go_simp; first | done | with_reducible rfl)
      simp only [Act.put, List.getElem_toArray, List.getElem_cons_zero, List.setIfInBounds_toArray, List.set_cons_zero, List.set_cons_succ]
      refine wpAnyH_take (i := 1) (v := ?_) rfl (by kernel_rfl) (by kernel_rfl) (by kernel_rfl) (fun _ _ _ h => h) (Or.inl ⟨by rfl, ?_⟩) (by assumption) ?_
      rotate_left
      focus (intro w hSw; have p := hSw.ptr; have b1 := hSw.box 1 _ rfl; have b2 := hSw.box 2 _ rfl; have b3 := hSw.box 3 _ rfl; have b4 := hSw.box 4 _ rfl; go_simp; first | done | with_reducible rfl)
      simp only [Act.put, List.getElem_toArray, List.getElem_cons_zero, List.getElem_cons_succ, List.setIfInBounds_toArray, List.set_cons_zero, List.set_cons_succ]
      refine wpAnyH_take (i := 2) (v := ?_) rfl (by kernel_rfl) (by kernel_rfl) (by kernel_rfl) (fun _ _ _ h => h) (Or.inl ⟨by rfl, ?_⟩) (by assumption) ?_
      rotate_left
      focus (intro w hSw; have p := hSw.ptr; have b1 := hSw.box 1 _ rfl; have b2 := hSw.box 2 _ rfl; have b3 := hSw.box 3 _ rfl; have b4 := hSw.box 4 _ rfl; go_simp; first | done | with_reducible rfl)
      simp only [Act.put, List.getElem_toArray, List.getElem_cons_zero, List.getElem_cons_succ, List.setIfInBounds_toArray, List.set_cons_zero, List.set_cons_succ]
      refine wpAnyH_ready (rs := [3]) (by kernel_rfl) (by simp) ?_
      refine AllReadyH.cons (o := _) rfl (fun K hK => ?_) AllReadyH.nil
      go_simp
      refine hK.out _ _ hHeld (fun hHeld => ?_)
      clear hK K
      try simp only [Act.put, List.getElem_toArray, List.getElem_cons_zero, List.getElem_cons_succ, List.setIfInBounds_toArray, List.set_cons_zero, List.set_cons_succ]
      refine wpAnyH_ready (rs := [4]) (by kernel_rfl) (by simp) ?_
      refine AllReadyH.cons (o := _) rfl (fun K hK => ?_) AllReadyH.nil
      go_simp
      refine H56.out.mono ?_
      rintro e w1 ⟨sv1, c1, rfl, hI1, hk1, hb1, hc1⟩
      have HI1 := Lib.hid hI1
      have HK1 := Lib.hid hk1
      have HB1 := Lib.hid hb1
      have HL1 := Lib.hid (hHeld.keep HPL.out hk1)
      clear hI1 hk1 hb1 H56
      go_simp
      refine hK.out _ _ HL1.out (fun hHeld => ?_)
      clear hK K
      try simp only [Act.put, List.getElem_toArray, List.getElem_cons_zero, List.getElem_cons_succ, List.setIfInBounds_toArray, List.set_cons_zero, List.set_cons_succ]
      refine wpAnyH_take (i := 5) (v := ?_) rfl (by kernel_rfl) (by kernel_rfl) (by kernel_rfl) (fun _ _ _ h => h) (Or.inl ⟨by rfl, ?_⟩) (by assumption) ?_
      rotate_left
      focus (intro w hSw; have p := hSw.ptr; have b1 := hSw.box 1 _ rfl; have b2 := hSw.box 2 _ rfl; have b3 := hSw.box 3 _ rfl; have b4 := hSw.box 4 _ rfl; go_simp; first | done | with_reducible rfl)
      simp only [Act.put, List.getElem_toArray, List.getElem_cons_zero, List.getElem_cons_succ, List.setIfInBounds_toArray, List.set_cons_zero, List.set_cons_succ]
      refine wpAnyH_take (i := 6) (v := ?_) rfl (by kernel_rfl) (by kernel_rfl) (by kernel_rfl) (fun _ _ _ h => h) (Or.inl ⟨by rfl, ?_⟩) (by assumption) ?_
      rotate_left
      focus (intro w hSw; have p := hSw.ptr; have b1 := hSw.box 1 _ rfl; have b2 := hSw.box 2 _ rfl; have b3 := hSw.box 3 _ rfl; have b4 := hSw.box 4 _ rfl; go_simp; first | done | with_reducible rfl)
      simp only [Act.put, List.getElem_toArray, List.getElem_cons_zero, List.getElem_cons_succ, List.setIfInBounds_toArray, List.set_cons_zero, List.set_cons_succ]
      refine wpAnyH_take (i := 7) (v := ?_) rfl (by kernel_rfl) (by kernel_rfl) (by kernel_rfl) (fun _ _ _ h => h) (Or.inl ⟨by rfl, ?_⟩) (by assumption) ?_
      rotate_left
      focus (intro w hSw; have p := hSw.ptr; have b1 := hSw.box 1 _ rfl; have b2 := hSw.box 2 _ rfl; have b3 := hSw.box 3 _ rfl; have b4 := hSw.box 4 _ rfl; go_simp; first | done | with_reducible rfl)
      simp only [Act.put, List.getElem_toArray, List.getElem_cons_zero, List.getElem_cons_succ, List.setIfInBounds_toArray, List.set_cons_zero, List.set_cons_succ]
      refine wpAnyH_take (i := 8) (v := ?_) rfl (by kernel_rfl) (by kernel_rfl) (by kernel_rfl) (fun _ _ _ h => h) (Or.inl ⟨by rfl, ?_⟩) (by assumption) ?_
      rotate_left
      focus (intro w hSw; have p := hSw.ptr; have b1 := hSw.box 1 _ rfl; have b2 := hSw.box 2 _ rfl; have b3 := hSw.box 3 _ rfl; have b4 := hSw.box 4 _ rfl; go_simp; first | done | with_reducible rfl)
      simp only [Act.put, List.getElem_toArray, List.getElem_cons_zero, List.getElem_cons_succ, List.setIfInBounds_toArray, List.set_cons_zero, List.set_cons_succ]
      refine wpAnyH_take (i := 9) (v := ?_) rfl (by kernel_rfl) (by kernel_rfl) (by kernel_rfl) (fun _ _ _ h => h) (Or.inl ⟨by rfl, ?_⟩) (by assumption) ?_
      rotate_left
      focus (intro w hSw; have p := hSw.ptr; have b1 := hSw.box 1 _ rfl; have b2 := hSw.box 2 _ rfl; have b3 := hSw.box 3 _ rfl; have b4 := hSw.box 4 _ rfl; go_simp; first | done | with_reducible rfl)
      simp only [Act.put, List.getElem_toArray, List.getElem_cons_zero, List.getElem_cons_succ, List.setIfInBounds_toArray, List.set_cons_zero, List.set_cons_succ]
      refine wpAnyH_take (i := 10) (v := ?_) rfl (by kernel_rfl) (by kernel_rfl) (by kernel_rfl) (fun _ _ _ h => h) (Or.inl ⟨by rfl, ?_⟩) (by assumption) ?_
      rotate_left
      focus (intro w hSw; have p := hSw.ptr; have b1 := hSw.box 1 _ rfl; have b2 := hSw.box 2 _ rfl; have b3 := hSw.box 3 _ rfl; have b4 := hSw.box 4 _ rfl; go_simp; first | done | with_reducible rfl)
      simp only [Act.put, List.getElem_toArray, List.getElem_cons_zero, List.getElem_cons_succ, List.setIfInBounds_toArray, List.set_cons_zero, List.set_cons_succ]
      refine wpAnyH_take (i := 11) (v := ?_) rfl (by kernel_rfl) (by kernel_rfl) (by kernel_rfl) (fun _ _ _ h => h) (Or.inl ⟨by rfl, ?_⟩) (by assumption) ?_
      rotate_left
      focus (intro w hSw; have p := hSw.ptr; have b1 := hSw.box 1 _ rfl; have b2 := hSw.box 2 _ rfl; have b3 := hSw.box 3 _ rfl; have b4 := hSw.box 4 _ rfl; go_simp; first | done | with_reducible rfl)
      simp only [Act.put, List.getElem_toArray, List.getElem_cons_zero, List.getElem_cons_succ, List.setIfInBounds_toArray, List.set_cons_zero, List.set_cons_succ]
      refine wpAnyH_ready (rs := [12]) (by kernel_rfl) (by simp) ?_
      refine AllReadyH.cons (o := _) rfl (fun K hK => ?_) AllReadyH.nil
      go_simp
      have HT := Lib.hid (known27 i.B i.tb i.fm (faces i.fs) f.ty HPB.out.ty.2 HPB.out.ty.1 a3 n3 c3 w1 sv1 c1 (tys_keep HK1.out HPO.out.ty) HI1.out.hB HI1.out.tab (by have := HLN.out; omega))
      rw [HALL.out] at HT
      with_reducible refine HT.out.mono ?_
      intro e w2 hp2
      obtain ⟨sv2, c2, rfl, hI2, hk2, hb2, hc2⟩ := HI1.out.ends hp2
      have HI2 := Lib.hid hI2
      have HK2 := Lib.hid (HK1.out.trans hk2)
      have HB2 := Lib.hid (HB1.out.trans hb2)
      have HL2 := Lib.hid (hHeld.keep HPL.out hk2)
      clear hI2 hk2 hb2 hp2 HT
      go_simp
      refine hK.out _ _ HL2.out (fun hHeld => ?_)
      clear hK K
      try simp only [Act.put, List.getElem_toArray, List.getElem_cons_zero, List.getElem_cons_succ, List.setIfInBounds_toArray, List.set_cons_zero, List.set_cons_succ]
      refine wpAnyH_take (i := 13) (v := ?_) rfl (by kernel_rfl) (by kernel_rfl) (by kernel_rfl) (fun _ _ _ h => h) (Or.inl ⟨by rfl, ?_⟩) (by assumption) ?_
      rotate_left
      focus (intro w hSw; have p := hSw.ptr; have b1 := hSw.box 1 _ rfl; have b2 := hSw.box 2 _ rfl; have b3 := hSw.box 3 _ rfl; have b4 := hSw.box 4 _ rfl; go_simp; first | done | with_reducible rfl)
      simp only [Act.put, List.getElem_toArray, List.getElem_cons_zero, List.getElem_cons_succ, List.setIfInBounds_toArray, List.set_cons_zero, List.set_cons_succ]
      refine wpAnyH_take (i := 14) (v := ?_) rfl (by kernel_rfl) (by kernel_rfl) (by kernel_rfl) (fun _ _ _ h => h) (Or.inl ⟨by rfl, ?_⟩) (by assumption) ?_
      rotate_left
      focus (intro w hSw; have p := hSw.ptr; have b1 := hSw.box 1 _ rfl; have b2 := hSw.box 2 _ rfl; have b3 := hSw.box 3 _ rfl; have b4 := hSw.box 4 _ rfl; go_simp; first | done | with_reducible rfl)
      simp only [Act.put, List.getElem_toArray, List.getElem_cons_zero, List.getElem_cons_succ, List.setIfInBounds_toArray, List.set_cons_zero, List.set_cons_succ]
      refine wpAnyH_take (i := 15) (v := ?_) rfl (by kernel_rfl) (by kernel_rfl) (by kernel_rfl) (fun _ _ _ h => h) (Or.inl ⟨by rfl, ?_⟩) (by assumption) ?_
      rotate_left
      focus (intro w hSw; have p := hSw.ptr; have b1 := hSw.box 1 _ rfl; have b2 := hSw.box 2 _ rfl; have b3 := hSw.box 3 _ rfl; have b4 := hSw.box 4 _ rfl; go_simp; first | done | with_reducible rfl)
      simp only [Act.put, List.getElem_toArray, List.getElem_cons_zero, List.getElem_cons_succ, List.setIfInBounds_toArray, List.set_cons_zero, List.set_cons_succ]
      refine wpAnyH_take (i := 16) (v := undef) rfl (by kernel_rfl) (by kernel_rfl) (by kernel_rfl) (fun _ _ _ h => h) (Or.inr ⟨by rfl, rfl⟩) (by assumption) ?_
      try simp only [Act.put, List.getElem_toArray, List.getElem_cons_zero, List.getElem_cons_succ, List.setIfInBounds_toArray, List.set_cons_zero, List.set_cons_succ]
      refine wpAnyH_take (i := 17) (v := undef) rfl (by kernel_rfl) (by kernel_rfl) (by kernel_rfl) (fun _ _ _ h => h) (Or.inr ⟨by rfl, rfl⟩) (by assumption) ?_
      try simp only [Act.put, List.getElem_toArray, List.getElem_cons_zero, List.getElem_cons_succ, List.setIfInBounds_toArray, List.set_cons_zero, List.set_cons_succ]
      refine wpAnyH_take (i := 18) (v := undef) rfl (by kernel_rfl) (by kernel_rfl) (by kernel_rfl) (fun _ _ _ h => h) (Or.inr ⟨by rfl, rfl⟩) (by assumption) ?_
      try simp only [Act.put, List.getElem_toArray, List.getElem_cons_zero, List.getElem_cons_succ, List.setIfInBounds_toArray, List.set_cons_zero, List.set_cons_succ]
      refine wpAnyH_take (i := 19) (v := undef) rfl (by kernel_rfl) (by kernel_rfl) (by kernel_rfl) (fun _ _ _ h => h) (Or.inr ⟨by rfl, rfl⟩) (by assumption) ?_
      try simp only [Act.put, List.getElem_toArray, List.getElem_cons_zero, List.getElem_cons_succ, List.setIfInBounds_toArray, List.set_cons_zero, List.set_cons_succ]
      refine wpAnyH_take (i := 20) (v := undef) rfl (by kernel_rfl) (by kernel_rfl) (by kernel_rfl) (fun _ _ _ h => h) (Or.inr ⟨by rfl, rfl⟩) (by assumption) ?_
      try simp only [Act.put, List.getElem_toArray, List.getElem_cons_zero, List.getElem_cons_succ, List.setIfInBounds_toArray, List.set_cons_zero, List.set_cons_succ]
      refine wpAnyH_take (i := 21) (v := ?_) rfl (by kernel_rfl) (by kernel_rfl) (by kernel_rfl) (fun _ _ _ h => h) (Or.inl ⟨by rfl, ?_⟩) (by assumption) ?_
      rotate_left
      focus (intro w hSw; have p := hSw.ptr; have b1 := hSw.box 1 _ rfl; have b2 := hSw.box 2 _ rfl; have b3 := hSw.box 3 _ rfl; have b4 := hSw.box 4 _ rfl; go_simp; first | done | with_reducible rfl)
      simp only [Act.put, List.getElem_toArray, List.getElem_cons_zero, List.getElem_cons_succ, List.setIfInBounds_toArray, List.set_cons_zero, List.set_cons_succ]
      refine wpAnyH_take (i := 22) (v := ?_) rfl (by kernel_rfl) (by kernel_rfl) (by kernel_rfl) (fun _ _ _ h => h) (Or.inl ⟨by rfl, ?_⟩) (by assumption) ?_
      rotate_left
      focus (intro w hSw; have p := hSw.ptr; have b1 := hSw.box 1 _ rfl; have b2 := hSw.box 2 _ rfl; have b3 := hSw.box 3 _ rfl; have b4 := hSw.box 4 _ rfl; go_simp; first | done | with_reducible rfl)
      simp only [Act.put, List.getElem_toArray, List.getElem_cons_zero, List.getElem_cons_succ, List.setIfInBounds_toArray, List.set_cons_zero, List.set_cons_succ]
      refine wpAnyH_take (i := 23) (v := undef) rfl (by kernel_rfl) (by kernel_rfl) (by kernel_rfl) (fun _ _ _ h => h) (Or.inr ⟨by rfl, rfl⟩) (by assumption) ?_
      try simp only [Act.put, List.getElem_toArray, List.getElem_cons_zero, List.getElem_cons_succ, List.setIfInBounds_toArray, List.set_cons_zero, List.set_cons_succ]
      refine wpAnyH_take (i := 24) (v := undef) rfl (by kernel_rfl) (by kernel_rfl) (by kernel_rfl) (fun _ _ _ h => h) (Or.inr ⟨by rfl, rfl⟩) (by assumption) ?_
      try simp only [Act.put, List.getElem_toArray, List.getElem_cons_zero, List.getElem_cons_succ, List.setIfInBounds_toArray, List.set_cons_zero, List.set_cons_succ]
      refine wpAnyH_take (i := 25) (v := undef) rfl (by kernel_rfl) (by kernel_rfl) (by kernel_rfl) (fun _ _ _ h => h) (Or.inr ⟨by rfl, rfl⟩) (by assumption) ?_
      try simp only [Act.put, List.getElem_toArray, List.getElem_cons_zero, List.getElem_cons_succ, List.setIfInBounds_toArray, List.set_cons_zero, List.set_cons_succ]
      refine wpAnyH_take (i := 26) (v := undef) rfl (by kernel_rfl) (by kernel_rfl) (by kernel_rfl) (fun _ _ _ h => h) (Or.inr ⟨by rfl, rfl⟩) (by assumption) ?_
      try simp only [Act.put, List.getElem_toArray, List.getElem_cons_zero, List.getElem_cons_succ, List.setIfInBounds_toArray, List.set_cons_zero, List.set_cons_succ]
      refine wpAnyH_take (i := 27) (v := undef) rfl (by kernel_rfl) (by kernel_rfl) (by kernel_rfl) (fun _ _ _ h => h) (Or.inr ⟨by rfl, rfl⟩) (by assumption) ?_
      try simp only [Act.put, List.getElem_toArray, List.getElem_cons_zero, List.getElem_cons_succ, List.setIfInBounds_toArray, List.set_cons_zero, List.set_cons_succ]
      refine wpAnyH_take (i := 28) (v := ?_) rfl (by kernel_rfl) (by kernel_rfl) (by kernel_rfl) (fun _ _ _ h => h) (Or.inl ⟨by rfl, ?_⟩) (by assumption) ?_
      rotate_left
      focus (intro w hSw; have p := hSw.ptr; have b1 := hSw.box 1 _ rfl; have b2 := hSw.box 2 _ rfl; have b3 := hSw.box 3 _ rfl; have b4 := hSw.box 4 _ rfl; go_simp; first | done | with_reducible rfl)
      simp only [Act.put, List.getElem_toArray, List.getElem_cons_zero, List.getElem_cons_succ, List.setIfInBounds_toArray, List.set_cons_zero, List.set_cons_succ]
      refine wpAnyH_take (i := 29) (v := ?_) rfl (by kernel_rfl) (by kernel_rfl) (by kernel_rfl) (fun _ _ _ h => h) (Or.inl ⟨by rfl, ?_⟩) (by assumption) ?_
      rotate_left
      focus (intro w hSw; have p := hSw.ptr; have b1 := hSw.box 1 _ rfl; have b2 := hSw.box 2 _ rfl; have b3 := hSw.box 3 _ rfl; have b4 := hSw.box 4 _ rfl; go_simp; first | done | with_reducible rfl)
      simp only [Act.put, List.getElem_toArray, List.getElem_cons_zero, List.getElem_cons_succ, List.setIfInBounds_toArray, List.set_cons_zero, List.set_cons_succ]
      refine wpAnyH_done (by kernel_rfl) ?_ _
      clear hHeld
      go_wp2
      go_ret
      exact HFIN.out _ sv2 c2 HANS.out HI2.out HK2.out HB2.out (by have := HLN.out; omega)
    | true =>
      have HALL := Lib.hid hq2
      rw [hq2] at hLB
      clear hq2
      cases hq3 : f.fd.any (fun x => !okFd (faces i.fs) x) with
      | true =>
        have HFD := Lib.hid hq3
        rw [hq3] at hLB
        have HANS : Hid (lackB i.fs f = true) := Lib.hid (by rw [hLB]; simp)
        clear hLB hq3
        go_upto_region 1 with fail
        refine wp_region_held_drew (S := fun z => LS i w.heap.size [Value.slice a1 n1 c1, .slice a2 n2 c2, .slice a3 n3 c3, .slice a4 n4 c4, .slice a5 n5 c5] z) (by kernel_rfl) ?_ (fun hHeld => ?_)
        · exact HLS0.out
        refine wpAnyH_take (i := 0) (v := ?_) rfl (by kernel_rfl) (by kernel_rfl) (by kernel_rfl) (fun _ _ _ h => h) (Or.inl ⟨by rfl, ?_⟩) (by assumption) ?_
        rotate_left
        focus (intro w hSw; have p := hSw.ptr; have b1 := hSw.box 1 _ rfl; have b2 := hSw.box 2 _ rfl; have b3 := hSw.box 3 _ rfl; have b4 := hSw.box 4 _ rfl; go_simp; first | done | with_reducible rfl)
        simp only [Act.put, List.getElem_toArray, List.getElem_cons_zero, List.setIfInBounds_toArray, List.set_cons_zero, List.set_cons_succ]
        refine wpAnyH_take (i := 1) (v := ?_) rfl (by kernel_rfl) (by kernel_rfl) (by kernel_rfl) (fun _ _ _ h => h) (Or.inl ⟨by rfl, ?_⟩) (by assumption) ?_
        rotate_left
        focus (intro w hSw; have p := hSw.ptr; have b1 := hSw.box 1 _ rfl; have b2 := hSw.box 2 _ rfl; have b3 := hSw.box 3 _ rfl; have b4 := hSw.box 4 _ rfl; go_simp; first | done | with_reducible rfl)
        simp only [Act.put, List.getElem_toArray, List.getElem_cons_zero, List.getElem_cons_succ, List.setIfInBounds_toArray, List.set_cons_zero, List.set_cons_succ]
        refine wpAnyH_take (i := 2) (v := ?_) rfl (by kernel_rfl) (by kernel_rfl) (by kernel_rfl) (fun _ _ _ h => h) (Or.inl ⟨by rfl, ?_⟩) (by assumption) ?_
        rotate_left
        focus (intro w hSw; have p := hSw.ptr; have b1 := hSw.box 1 _ rfl; have b2 := hSw.box 2 _ rfl; have b3 := hSw.box 3 _ rfl; have b4 := hSw.box 4 _ rfl; go_simp; first | done | with_reducible rfl)
        simp only [Act.put, List.getElem_toArray, List.getElem_cons_zero, List.getElem_cons_succ, List.setIfInBounds_toArray, List.set_cons_zero, List.set_cons_succ]
        refine wpAnyH_ready (rs := [3]) (by kernel_rfl) (by simp) ?_
        refine AllReadyH.cons (o := _) rfl (fun K hK => ?_) AllReadyH.nil
        go_simp
        refine hK.out _ _ hHeld (fun hHeld => ?_)
        clear hK K
        try simp only [Act.put, List.getElem_toArray, List.getElem_cons_zero, List.getElem_cons_succ, List.setIfInBounds_toArray, List.set_cons_zero, List.set_cons_succ]
        refine wpAnyH_ready (rs := [4]) (by kernel_rfl) (by simp) ?_
        refine AllReadyH.cons (o := _) rfl (fun K hK => ?_) AllReadyH.nil
        go_simp
        refine H56.out.mono ?_
        rintro e w1 ⟨sv1, c1, rfl, hI1, hk1, hb1, hc1⟩
        have HI1 := Lib.hid hI1
        have HK1 := Lib.hid hk1
        have HB1 := Lib.hid hb1
        have HL1 := Lib.hid (hHeld.keep HPL.out hk1)
        clear hI1 hk1 hb1 H56
        go_simp
        refine hK.out _ _ HL1.out (fun hHeld => ?_)
        clear hK K
        try simp only [Act.put, List.getElem_toArray, List.getElem_cons_zero, List.getElem_cons_succ, List.setIfInBounds_toArray, List.set_cons_zero, List.set_cons_succ]
        refine wpAnyH_take (i := 5) (v := ?_) rfl (by kernel_rfl) (by kernel_rfl) (by kernel_rfl) (fun _ _ _ h => h) (Or.inl ⟨by rfl, ?_⟩) (by assumption) ?_
        rotate_left
        focus (intro w hSw; have p := hSw.ptr; have b1 := hSw.box 1 _ rfl; have b2 := hSw.box 2 _ rfl; have b3 := hSw.box 3 _ rfl; have b4 := hSw.box 4 _ rfl; go_simp; first | done | with_reducible rfl)
        simp only [Act.put, List.getElem_toArray, List.getElem_cons_zero, List.getElem_cons_succ, List.setIfInBounds_toArray, List.set_cons_zero, List.set_cons_succ]
        refine wpAnyH_take (i := 6) (v := ?_) rfl (by kernel_rfl) (by kernel_rfl) (by kernel_rfl) (fun _ _ _ h => h) (Or.inl ⟨by rfl, ?_⟩) (by assumption) ?_
        rotate_left
        focus (intro w hSw; have p := hSw.ptr; have b1 := hSw.box 1 _ rfl; have b2 := hSw.box 2 _ rfl; have b3 := hSw.box 3 _ rfl; have b4 := hSw.box 4 _ rfl; go_simp; first | done | with_reducible rfl)
        simp only [Act.put, List.getElem_toArray, List.getElem_cons_zero, List.getElem_cons_succ, List.setIfInBounds_toArray, List.set_cons_zero, List.set_cons_succ]
        refine wpAnyH_take (i := 7) (v := ?_) rfl (by kernel_rfl) (by kernel_rfl) (by kernel_rfl) (fun _ _ _ h => h) (Or.inl ⟨by rfl, ?_⟩) (by assumption) ?_
        rotate_left
        focus (intro w hSw; have p := hSw.ptr; have b1 := hSw.box 1 _ rfl; have b2 := hSw.box 2 _ rfl; have b3 := hSw.box 3 _ rfl; have b4 := hSw.box 4 _ rfl; go_simp; first | done | with_reducible rfl)
        simp only [Act.put, List.getElem_toArray, List.getElem_cons_zero, List.getElem_cons_succ, List.setIfInBounds_toArray, List.set_cons_zero, List.set_cons_succ]
        refine wpAnyH_take (i := 8) (v := ?_) rfl (by kernel_rfl) (by kernel_rfl) (by kernel_rfl) (fun _ _ _ h => h) (Or.inl ⟨by rfl, ?_⟩) (by assumption) ?_
        rotate_left
        focus (intro w hSw; have p := hSw.ptr; have b1 := hSw.box 1 _ rfl; have b2 := hSw.box 2 _ rfl; have b3 := hSw.box 3 _ rfl; have b4 := hSw.box 4 _ rfl; go_simp; first | done | with_reducible rfl)
        simp only [Act.put, List.getElem_toArray, List.getElem_cons_zero, List.getElem_cons_succ, List.setIfInBounds_toArray, List.set_cons_zero, List.set_cons_succ]
        refine wpAnyH_take (i := 9) (v := ?_) rfl (by kernel_rfl) (by kernel_rfl) (by kernel_rfl) (fun _ _ _ h => h) (Or.inl ⟨by rfl, ?_⟩) (by assumption) ?_
        rotate_left
        focus (intro w hSw; have p := hSw.ptr; have b1 := hSw.box 1 _ rfl; have b2 := hSw.box 2 _ rfl; have b3 := hSw.box 3 _ rfl; have b4 := hSw.box 4 _ rfl; go_simp; first | done | with_reducible rfl)
        simp only [Act.put, List.getElem_toArray, List.getElem_cons_zero, List.getElem_cons_succ, List.setIfInBounds_toArray, List.set_cons_zero, List.set_cons_succ]
        refine wpAnyH_take (i := 10) (v := ?_) rfl (by kernel_rfl) (by kernel_rfl) (by kernel_rfl) (fun _ _ _ h => h) (Or.inl ⟨by rfl, ?_⟩) (by assumption) ?_
        rotate_left
        focus (intro w hSw; have p := hSw.ptr; have b1 := hSw.box 1 _ rfl; have b2 := hSw.box 2 _ rfl; have b3 := hSw.box 3 _ rfl; have b4 := hSw.box 4 _ rfl; go_simp; first | done | with_reducible rfl)
        simp only [Act.put, List.getElem_toArray, List.getElem_cons_zero, List.getElem_cons_succ, List.setIfInBounds_toArray, List.set_cons_zero, List.set_cons_succ]
        refine wpAnyH_take (i := 11) (v := ?_) rfl (by kernel_rfl) (by kernel_rfl) (by kernel_rfl) (fun _ _ _ h => h) (Or.inl ⟨by rfl, ?_⟩) (by assumption) ?_
        rotate_left
        focus (intro w hSw; have p := hSw.ptr; have b1 := hSw.box 1 _ rfl; have b2 := hSw.box 2 _ rfl; have b3 := hSw.box 3 _ rfl; have b4 := hSw.box 4 _ rfl; go_simp; first | done | with_reducible rfl)
        simp only [Act.put, List.getElem_toArray, List.getElem_cons_zero, List.getElem_cons_succ, List.setIfInBounds_toArray, List.set_cons_zero, List.set_cons_succ]
        refine wpAnyH_ready (rs := [12]) (by kernel_rfl) (by simp) ?_
        refine AllReadyH.cons (o := _) rfl (fun K hK => ?_) AllReadyH.nil
        go_simp
        have HT := Lib.hid (known27 i.B i.tb i.fm (faces i.fs) f.ty HPB.out.ty.2 HPB.out.ty.1 a3 n3 c3 w1 sv1 c1 (tys_keep HK1.out HPO.out.ty) HI1.out.hB HI1.out.tab (by have := HLN.out; omega))
        rw [HALL.out] at HT
        with_reducible refine HT.out.mono ?_
        intro e w2 hp2
        obtain ⟨sv2, c2, rfl, hI2, hk2, hb2, hc2⟩ := HI1.out.ends hp2
        have HI2 := Lib.hid hI2
        have HK2 := Lib.hid (HK1.out.trans hk2)
        have HB2 := Lib.hid (HB1.out.trans hb2)
        have HL2 := Lib.hid (hHeld.keep HPL.out hk2)
        clear hI2 hk2 hb2 hp2 HT
        go_simp
        refine hK.out _ _ HL2.out (fun hHeld => ?_)
        clear hK K
        try simp only [Act.put, List.getElem_toArray, List.getElem_cons_zero, List.getElem_cons_succ, List.setIfInBounds_toArray, List.set_cons_zero, List.set_cons_succ]
        refine wpAnyH_take (i := 13) (v := ?_) rfl (by kernel_rfl) (by kernel_rfl) (by kernel_rfl) (fun _ _ _ h => h) (Or.inl ⟨by rfl, ?_⟩) (by assumption) ?_
        rotate_left
        focus (intro w hSw; have p := hSw.ptr; have b1 := hSw.box 1 _ rfl; have b2 := hSw.box 2 _ rfl; have b3 := hSw.box 3 _ rfl; have b4 := hSw.box 4 _ rfl; go_simp; first | done | with_reducible rfl)
        simp only [Act.put, List.getElem_toArray, List.getElem_cons_zero, List.getElem_cons_succ, List.setIfInBounds_toArray, List.set_cons_zero, List.set_cons_succ]
        refine wpAnyH_take (i := 14) (v := ?_) rfl (by kernel_rfl) (by kernel_rfl) (by kernel_rfl) (fun _ _ _ h => h) (Or.inl ⟨by rfl, ?_⟩) (by assumption) ?_
        rotate_left
        focus (intro w hSw; have p := hSw.ptr; have b1 := hSw.box 1 _ rfl; have b2 := hSw.box 2 _ rfl; have b3 := hSw.box 3 _ rfl; have b4 := hSw.box 4 _ rfl; go_simp; first | done | with_reducible rfl)
        simp only [Act.put, List.getElem_toArray, List.getElem_cons_zero, List.getElem_cons_succ, List.setIfInBounds_toArray, List.set_cons_zero, List.set_cons_succ]
        refine wpAnyH_take (i := 15) (v := ?_) rfl (by kernel_rfl) (by kernel_rfl) (by kernel_rfl) (fun _ _ _ h => h) (Or.inl ⟨by rfl, ?_⟩) (by assumption) ?_
        rotate_left
        focus (intro w hSw; have p := hSw.ptr; have b1 := hSw.box 1 _ rfl; have b2 := hSw.box 2 _ rfl; have b3 := hSw.box 3 _ rfl; have b4 := hSw.box 4 _ rfl; go_simp; first | done | with_reducible rfl)
        simp only [Act.put, List.getElem_toArray, List.getElem_cons_zero, List.getElem_cons_succ, List.setIfInBounds_toArray, List.set_cons_zero, List.set_cons_succ]
        refine wpAnyH_take (i := 16) (v := ?_) rfl (by kernel_rfl) (by kernel_rfl) (by kernel_rfl) (fun _ _ _ h => h) (Or.inl ⟨by rfl, ?_⟩) (by assumption) ?_
        rotate_left
        focus (intro w hSw; have p := hSw.ptr; have b1 := hSw.box 1 _ rfl; have b2 := hSw.box 2 _ rfl; have b3 := hSw.box 3 _ rfl; have b4 := hSw.box 4 _ rfl; go_simp; first | done | with_reducible rfl)
        simp only [Act.put, List.getElem_toArray, List.getElem_cons_zero, List.getElem_cons_succ, List.setIfInBounds_toArray, List.set_cons_zero, List.set_cons_succ]
        refine wpAnyH_take (i := 17) (v := ?_) rfl (by kernel_rfl) (by kernel_rfl) (by kernel_rfl) (fun _ _ _ h => h) (Or.inl ⟨by rfl, ?_⟩) (by assumption) ?_
        rotate_left
        focus (intro w hSw; have p := hSw.ptr; have b1 := hSw.box 1 _ rfl; have b2 := hSw.box 2 _ rfl; have b3 := hSw.box 3 _ rfl; have b4 := hSw.box 4 _ rfl; go_simp; first | done | with_reducible rfl)
        simp only [Act.put, List.getElem_toArray, List.getElem_cons_zero, List.getElem_cons_succ, List.setIfInBounds_toArray, List.set_cons_zero, List.set_cons_succ]
        refine wpAnyH_take (i := 18) (v := ?_) rfl (by kernel_rfl) (by kernel_rfl) (by kernel_rfl) (fun _ _ _ h => h) (Or.inl ⟨by rfl, ?_⟩) (by assumption) ?_
        rotate_left
        focus (intro w hSw; have p := hSw.ptr; have b1 := hSw.box 1 _ rfl; have b2 := hSw.box 2 _ rfl; have b3 := hSw.box 3 _ rfl; have b4 := hSw.box 4 _ rfl; go_simp; first | done | with_reducible rfl)
        simp only [Act.put, List.getElem_toArray, List.getElem_cons_zero, List.getElem_cons_succ, List.setIfInBounds_toArray, List.set_cons_zero, List.set_cons_succ]
        refine wpAnyH_ready (rs := [19]) (by kernel_rfl) (by simp) ?_
        refine AllReadyH.cons (o := _) rfl (fun K hK => ?_) AllReadyH.nil
        go_simp
        refine hK.out _ _ hHeld (fun hHeld => ?_)
        clear hK K
        try simp only [Act.put, List.getElem_toArray, List.getElem_cons_zero, List.getElem_cons_succ, List.setIfInBounds_toArray, List.set_cons_zero, List.set_cons_succ]
        refine wpAnyH_ready (rs := [20]) (by kernel_rfl) (by simp) ?_
        refine AllReadyH.cons (o := _) rfl (fun K hK => ?_) AllReadyH.nil
        go_simp
        have HT := Lib.hid (has58 i sv2 c2 602 w2 HI2.out f.fd a4 n4 c4 (fds_keep HK2.out HPO.out.fd) (fun x => !okFd (faces i.fs) x) (fun x hx z sv' c' hI hc' => lacks59 i HLI.out sv' c' z hI hc' x (HPB.out.fd.2 x hx)) (by have := HLN.out; omega))
        rw [HFD.out] at HT
        with_reducible refine HT.out.mono ?_
        rintro e w3 ⟨sv3, c3', rfl, hI3, hk3, hb3, hc3⟩
        have HI3 := Lib.hid hI3
        have HK3 := Lib.hid (HK2.out.trans hk3)
        have HB3 := Lib.hid (HB2.out.trans hb3)
        have HL3 := Lib.hid (hHeld.keep HPL.out hk3)
        clear hI3 hk3 hb3 HT
        go_simp
        refine hK.out _ _ HL3.out (fun hHeld => ?_)
        clear hK K
        try simp only [Act.put, List.getElem_toArray, List.getElem_cons_zero, List.getElem_cons_succ, List.setIfInBounds_toArray, List.set_cons_zero, List.set_cons_succ]
        refine wpAnyH_take (i := 21) (v := ?_) rfl (by kernel_rfl) (by kernel_rfl) (by kernel_rfl) (fun _ _ _ h => h) (Or.inl ⟨by rfl, ?_⟩) (by assumption) ?_
        rotate_left
        focus (intro w hSw; have p := hSw.ptr; have b1 := hSw.box 1 _ rfl; have b2 := hSw.box 2 _ rfl; have b3 := hSw.box 3 _ rfl; have b4 := hSw.box 4 _ rfl; go_simp; first | done | with_reducible rfl)
        simp only [Act.put, List.getElem_toArray, List.getElem_cons_zero, List.getElem_cons_succ, List.setIfInBounds_toArray, List.set_cons_zero, List.set_cons_succ]
        refine wpAnyH_take (i := 22) (v := ?_) rfl (by kernel_rfl) (by kernel_rfl) (by kernel_rfl) (fun _ _ _ h => h) (Or.inl ⟨by rfl, ?_⟩) (by assumption) ?_
        rotate_left
        focus (intro w hSw; have p := hSw.ptr; have b1 := hSw.box 1 _ rfl; have b2 := hSw.box 2 _ rfl; have b3 := hSw.box 3 _ rfl; have b4 := hSw.box 4 _ rfl; go_simp; first | done | with_reducible rfl)
        simp only [Act.put, List.getElem_toArray, List.getElem_cons_zero, List.getElem_cons_succ, List.setIfInBounds_toArray, List.set_cons_zero, List.set_cons_succ]
        refine wpAnyH_take (i := 23) (v := undef) rfl (by kernel_rfl) (by kernel_rfl) (by kernel_rfl) (fun _ _ _ h => h) (Or.inr ⟨by rfl, rfl⟩) (by assumption) ?_
        try simp only [Act.put, List.getElem_toArray, List.getElem_cons_zero, List.getElem_cons_succ, List.setIfInBounds_toArray, List.set_cons_zero, List.set_cons_succ]
        refine wpAnyH_take (i := 24) (v := undef) rfl (by kernel_rfl) (by kernel_rfl) (by kernel_rfl) (fun _ _ _ h => h) (Or.inr ⟨by rfl, rfl⟩) (by assumption) ?_
        try simp only [Act.put, List.getElem_toArray, List.getElem_cons_zero, List.getElem_cons_succ, List.setIfInBounds_toArray, List.set_cons_zero, List.set_cons_succ]
        refine wpAnyH_take (i := 25) (v := undef) rfl (by kernel_rfl) (by kernel_rfl) (by kernel_rfl) (fun _ _ _ h => h) (Or.inr ⟨by rfl, rfl⟩) (by assumption) ?_
        try simp only [Act.put, List.getElem_toArray, List.getElem_cons_zero, List.getElem_cons_succ, List.setIfInBounds_toArray, List.set_cons_zero, List.set_cons_succ]
        refine wpAnyH_take (i := 26) (v := undef) rfl (by kernel_rfl) (by kernel_rfl) (by kernel_rfl) (fun _ _ _ h => h) (Or.inr ⟨by rfl, rfl⟩) (by assumption) ?_
        try simp only [Act.put, List.getElem_toArray, List.getElem_cons_zero, List.getElem_cons_succ, List.setIfInBounds_toArray, List.set_cons_zero, List.set_cons_succ]
        refine wpAnyH_take (i := 27) (v := undef) rfl (by kernel_rfl) (by kernel_rfl) (by kernel_rfl) (fun _ _ _ h => h) (Or.inr ⟨by rfl, rfl⟩) (by assumption) ?_
        try simp only [Act.put, List.getElem_toArray, List.getElem_cons_zero, List.getElem_cons_succ, List.setIfInBounds_toArray, List.set_cons_zero, List.set_cons_succ]
        refine wpAnyH_take (i := 28) (v := ?_) rfl (by kernel_rfl) (by kernel_rfl) (by kernel_rfl) (fun _ _ _ h => h) (Or.inl ⟨by rfl, ?_⟩) (by assumption) ?_
        rotate_left
        focus (intro w hSw; have p := hSw.ptr; have b1 := hSw.box 1 _ rfl; have b2 := hSw.box 2 _ rfl; have b3 := hSw.box 3 _ rfl; have b4 := hSw.box 4 _ rfl; go_simp; first | done | with_reducible rfl)
        simp only [Act.put, List.getElem_toArray, List.getElem_cons_zero, List.getElem_cons_succ, List.setIfInBounds_toArray, List.set_cons_zero, List.set_cons_succ]
        refine wpAnyH_take (i := 29) (v := ?_) rfl (by kernel_rfl) (by kernel_rfl) (by kernel_rfl) (fun _ _ _ h => h) (Or.inl ⟨by rfl, ?_⟩) (by assumption) ?_
        rotate_left
        focus (intro w hSw; have p := hSw.ptr; have b1 := hSw.box 1 _ rfl; have b2 := hSw.box 2 _ rfl; have b3 := hSw.box 3 _ rfl; have b4 := hSw.box 4 _ rfl; go_simp; first | done | with_reducible rfl)
        simp only [Act.put, List.getElem_toArray, List.getElem_cons_zero, List.getElem_cons_succ, List.setIfInBounds_toArray, List.set_cons_zero, List.set_cons_succ]
        refine wpAnyH_done (by kernel_rfl) ?_ _
        clear hHeld
        go_wp2
        go_ret
        exact HFIN.out _ sv3 c3' HANS.out HI3.out HK3.out HB3.out (by have := HLN.out; omega)
      | false =>
        have HFD := Lib.hid hq3
        rw [hq3] at hLB
        have HANS : Hid (lackB i.fs f = f.mt.any (fun x => (fdM i.fs x).isNone)) := Lib.hid (by rw [hLB]; simp)
        clear hLB hq3
        go_upto_region 1 with fail
        refine wp_region_held_drew (S := fun z => LS i w.heap.size [Value.slice a1 n1 c1, .slice a2 n2 c2, .slice a3 n3 c3, .slice a4 n4 c4, .slice a5 n5 c5] z) (by kernel_rfl) ?_ (fun hHeld => ?_)
        · exact HLS0.out
        refine wpAnyH_take (i := 0) (v := ?_) rfl (by kernel_rfl) (by kernel_rfl) (by kernel_rfl) (fun _ _ _ h => h) (Or.inl ⟨by rfl, ?_⟩) (by assumption) ?_
        rotate_left
        focus (intro w hSw; have p := hSw.ptr; have b1 := hSw.box 1 _ rfl; have b2 := hSw.box 2 _ rfl; have b3 := hSw.box 3 _ rfl; have b4 := hSw.box 4 _ rfl; go_simp; first | done | with_reducible rfl)
        simp only [Act.put, List.getElem_toArray, List.getElem_cons_zero, List.setIfInBounds_toArray, List.set_cons_zero, List.set_cons_succ]
        refine wpAnyH_take (i := 1) (v := ?_) rfl (by kernel_rfl) (by kernel_rfl) (by kernel_rfl) (fun _ _ _ h => h) (Or.inl ⟨by rfl, ?_⟩) (by assumption) ?_
        rotate_left
        focus (intro w hSw; have p := hSw.ptr; have b1 := hSw.box 1 _ rfl; have b2 := hSw.box 2 _ rfl; have b3 := hSw.box 3 _ rfl; have b4 := hSw.box 4 _ rfl; go_simp; first | done | with_reducible rfl)
        simp only [Act.put, List.getElem_toArray, List.getElem_cons_zero, List.getElem_cons_succ, List.setIfInBounds_toArray, List.set_cons_zero, List.set_cons_succ]
        refine wpAnyH_take (i := 2) (v := ?_) rfl (by kernel_rfl) (by kernel_rfl) (by kernel_rfl) (fun _ _ _ h => h) (Or.inl ⟨by rfl, ?_⟩) (by assumption) ?_
        rotate_left
        focus (intro w hSw; have p := hSw.ptr; have b1 := hSw.box 1 _ rfl; have b2 := hSw.box 2 _ rfl; have b3 := hSw.box 3 _ rfl; have b4 := hSw.box 4 _ rfl; go_simp; first | done | with_reducible rfl)
        simp only [Act.put, List.getElem_toArray, List.getElem_cons_zero, List.getElem_cons_succ, List.setIfInBounds_toArray, List.set_cons_zero, List.set_cons_succ]
        refine wpAnyH_ready (rs := [3]) (by kernel_rfl) (by simp) ?_
        refine AllReadyH.cons (o := _) rfl (fun K hK => ?_) AllReadyH.nil
        go_simp
        refine hK.out _ _ hHeld (fun hHeld => ?_)
        clear hK K
        try simp only [Act.put, List.getElem_toArray, List.getElem_cons_zero, List.getElem_cons_succ, List.setIfInBounds_toArray, List.set_cons_zero, List.set_cons_succ]
        refine wpAnyH_ready (rs := [4]) (by kernel_rfl) (by simp) ?_
        refine AllReadyH.cons (o := _) rfl (fun K hK => ?_) AllReadyH.nil
        go_simp
        refine H56.out.mono ?_
        rintro e w1 ⟨sv1, c1, rfl, hI1, hk1, hb1, hc1⟩
        have HI1 := Lib.hid hI1
        have HK1 := Lib.hid hk1
        have HB1 := Lib.hid hb1
        have HL1 := Lib.hid (hHeld.keep HPL.out hk1)
        clear hI1 hk1 hb1 H56
        go_simp
        refine hK.out _ _ HL1.out (fun hHeld => ?_)
        clear hK K
        try simp only [Act.put, List.getElem_toArray, List.getElem_cons_zero, List.getElem_cons_succ, List.setIfInBounds_toArray, List.set_cons_zero, List.set_cons_succ]
        refine wpAnyH_take (i := 5) (v := ?_) rfl (by kernel_rfl) (by kernel_rfl) (by kernel_rfl) (fun _ _ _ h => h) (Or.inl ⟨by rfl, ?_⟩) (by assumption) ?_
        rotate_left
        focus (intro w hSw; have p := hSw.ptr; have b1 := hSw.box 1 _ rfl; have b2 := hSw.box 2 _ rfl; have b3 := hSw.box 3 _ rfl; have b4 := hSw.box 4 _ rfl; go_simp; first | done | with_reducible rfl)
        simp only [Act.put, List.getElem_toArray, List.getElem_cons_zero, List.getElem_cons_succ, List.setIfInBounds_toArray, List.set_cons_zero, List.set_cons_succ]
        refine wpAnyH_take (i := 6) (v := ?_) rfl (by kernel_rfl) (by kernel_rfl) (by kernel_rfl) (fun _ _ _ h => h) (Or.inl ⟨by rfl, ?_⟩) (by assumption) ?_
        rotate_left
        focus (intro w hSw; have p := hSw.ptr; have b1 := hSw.box 1 _ rfl; have b2 := hSw.box 2 _ rfl; have b3 := hSw.box 3 _ rfl; have b4 := hSw.box 4 _ rfl; go_simp; first | done | with_reducible rfl)
        simp only [Act.put, List.getElem_toArray, List.getElem_cons_zero, List.getElem_cons_succ, List.setIfInBounds_toArray, List.set_cons_zero, List.set_cons_succ]
        refine wpAnyH_take (i := 7) (v := ?_) rfl (by kernel_rfl) (by kernel_rfl) (by kernel_rfl) (fun _ _ _ h => h) (Or.inl ⟨by rfl, ?_⟩) (by assumption) ?_
        rotate_left
        focus (intro w hSw; have p := hSw.ptr; have b1 := hSw.box 1 _ rfl; have b2 := hSw.box 2 _ rfl; have b3 := hSw.box 3 _ rfl; have b4 := hSw.box 4 _ rfl; go_simp; first | done | with_reducible rfl)
        simp only [Act.put, List.getElem_toArray, List.getElem_cons_zero, List.getElem_cons_succ, List.setIfInBounds_toArray, List.set_cons_zero, List.set_cons_succ]
        refine wpAnyH_take (i := 8) (v := ?_) rfl (by kernel_rfl) (by kernel_rfl) (by kernel_rfl) (fun _ _ _ h => h) (Or.inl ⟨by rfl, ?_⟩) (by assumption) ?_
        rotate_left
        focus (intro w hSw; have p := hSw.ptr; have b1 := hSw.box 1 _ rfl; have b2 := hSw.box 2 _ rfl; have b3 := hSw.box 3 _ rfl; have b4 := hSw.box 4 _ rfl; go_simp; first | done | with_reducible rfl)
        simp only [Act.put, List.getElem_toArray, List.getElem_cons_zero, List.getElem_cons_succ, List.setIfInBounds_toArray, List.set_cons_zero, List.set_cons_succ]
        refine wpAnyH_take (i := 9) (v := ?_) rfl (by kernel_rfl) (by kernel_rfl) (by kernel_rfl) (fun _ _ _ h => h) (Or.inl ⟨by rfl, ?_⟩) (by assumption) ?_
        rotate_left
        focus (intro w hSw; have p := hSw.ptr; have b1 := hSw.box 1 _ rfl; have b2 := hSw.box 2 _ rfl; have b3 := hSw.box 3 _ rfl; have b4 := hSw.box 4 _ rfl; go_simp; first | done | with_reducible rfl)
        simp only [Act.put, List.getElem_toArray, List.getElem_cons_zero, List.getElem_cons_succ, List.setIfInBounds_toArray, List.set_cons_zero, List.set_cons_succ]
        refine wpAnyH_take (i := 10) (v := ?_) rfl (by kernel_rfl) (by kernel_rfl) (by kernel_rfl) (fun _ _ _ h => h) (Or.inl ⟨by rfl, ?_⟩) (by assumption) ?_
        rotate_left
        focus (intro w hSw; have p := hSw.ptr; have b1 := hSw.box 1 _ rfl; have b2 := hSw.box 2 _ rfl; have b3 := hSw.box 3 _ rfl; have b4 := hSw.box 4 _ rfl; go_simp; first | done | with_reducible rfl)
        simp only [Act.put, List.getElem_toArray, List.getElem_cons_zero, List.getElem_cons_succ, List.setIfInBounds_toArray, List.set_cons_zero, List.set_cons_succ]
        refine wpAnyH_take (i := 11) (v := ?_) rfl (by kernel_rfl) (by kernel_rfl) (by kernel_rfl) (fun _ _ _ h => h) (Or.inl ⟨by rfl, ?_⟩) (by assumption) ?_
        rotate_left
        focus (intro w hSw; have p := hSw.ptr; have b1 := hSw.box 1 _ rfl; have b2 := hSw.box 2 _ rfl; have b3 := hSw.box 3 _ rfl; have b4 := hSw.box 4 _ rfl; go_simp; first | done | with_reducible rfl)
        simp only [Act.put, List.getElem_toArray, List.getElem_cons_zero, List.getElem_cons_succ, List.setIfInBounds_toArray, List.set_cons_zero, List.set_cons_succ]
        refine wpAnyH_ready (rs := [12]) (by kernel_rfl) (by simp) ?_
        refine AllReadyH.cons (o := _) rfl (fun K hK => ?_) AllReadyH.nil
        go_simp
        have HT := Lib.hid (known27 i.B i.tb i.fm (faces i.fs) f.ty HPB.out.ty.2 HPB.out.ty.1 a3 n3 c3 w1 sv1 c1 (tys_keep HK1.out HPO.out.ty) HI1.out.hB HI1.out.tab (by have := HLN.out; omega))
        rw [HALL.out] at HT
        with_reducible refine HT.out.mono ?_
        intro e w2 hp2
        obtain ⟨sv2, c2, rfl, hI2, hk2, hb2, hc2⟩ := HI1.out.ends hp2
        have HI2 := Lib.hid hI2
        have HK2 := Lib.hid (HK1.out.trans hk2)
        have HB2 := Lib.hid (HB1.out.trans hb2)
        have HL2 := Lib.hid (hHeld.keep HPL.out hk2)
        clear hI2 hk2 hb2 hp2 HT
        go_simp
        refine hK.out _ _ HL2.out (fun hHeld => ?_)
        clear hK K
        try simp only [Act.put, List.getElem_toArray, List.getElem_cons_zero, List.getElem_cons_succ, List.setIfInBounds_toArray, List.set_cons_zero, List.set_cons_succ]
        refine wpAnyH_take (i := 13) (v := ?_) rfl (by kernel_rfl) (by kernel_rfl) (by kernel_rfl) (fun _ _ _ h => h) (Or.inl ⟨by rfl, ?_⟩) (by assumption) ?_
        rotate_left
        focus (intro w hSw; have p := hSw.ptr; have b1 := hSw.box 1 _ rfl; have b2 := hSw.box 2 _ rfl; have b3 := hSw.box 3 _ rfl; have b4 := hSw.box 4 _ rfl; go_simp; first | done | with_reducible rfl)
        simp only [Act.put, List.getElem_toArray, List.getElem_cons_zero, List.getElem_cons_succ, List.setIfInBounds_toArray, List.set_cons_zero, List.set_cons_succ]
        refine wpAnyH_take (i := 14) (v := ?_) rfl (by kernel_rfl) (by kernel_rfl) (by kernel_rfl) (fun _ _ _ h => h) (Or.inl ⟨by rfl, ?_⟩) (by assumption) ?_
        rotate_left
        focus (intro w hSw; have p := hSw.ptr; have b1 := hSw.box 1 _ rfl; have b2 := hSw.box 2 _ rfl; have b3 := hSw.box 3 _ rfl; have b4 := hSw.box 4 _ rfl; go_simp; first | done | with_reducible rfl)
        simp only [Act.put, List.getElem_toArray, List.getElem_cons_zero, List.getElem_cons_succ, List.setIfInBounds_toArray, List.set_cons_zero, List.set_cons_succ]
        refine wpAnyH_take (i := 15) (v := ?_) rfl (by kernel_rfl) (by kernel_rfl) (by kernel_rfl) (fun _ _ _ h => h) (Or.inl ⟨by rfl, ?_⟩) (by assumption) ?_
        rotate_left
        focus (intro w hSw; have p := hSw.ptr; have b1 := hSw.box 1 _ rfl; have b2 := hSw.box 2 _ rfl; have b3 := hSw.box 3 _ rfl; have b4 := hSw.box 4 _ rfl; go_simp; first | done | with_reducible rfl)
        simp only [Act.put, List.getElem_toArray, List.getElem_cons_zero, List.getElem_cons_succ, List.setIfInBounds_toArray, List.set_cons_zero, List.set_cons_succ]
        refine wpAnyH_take (i := 16) (v := ?_) rfl (by kernel_rfl) (by kernel_rfl) (by kernel_rfl) (fun _ _ _ h => h) (Or.inl ⟨by rfl, ?_⟩) (by assumption) ?_
        rotate_left
        focus (intro w hSw; have p := hSw.ptr; have b1 := hSw.box 1 _ rfl; have b2 := hSw.box 2 _ rfl; have b3 := hSw.box 3 _ rfl; have b4 := hSw.box 4 _ rfl; go_simp; first | done | with_reducible rfl)
        simp only [Act.put, List.getElem_toArray, List.getElem_cons_zero, List.getElem_cons_succ, List.setIfInBounds_toArray, List.set_cons_zero, List.set_cons_succ]
        refine wpAnyH_take (i := 17) (v := ?_) rfl (by kernel_rfl) (by kernel_rfl) (by kernel_rfl) (fun _ _ _ h => h) (Or.inl ⟨by rfl, ?_⟩) (by assumption) ?_
        rotate_left
        focus (intro w hSw; have p := hSw.ptr; have b1 := hSw.box 1 _ rfl; have b2 := hSw.box 2 _ rfl; have b3 := hSw.box 3 _ rfl; have b4 := hSw.box 4 _ rfl; go_simp; first | done | with_reducible rfl)
        simp only [Act.put, List.getElem_toArray, List.getElem_cons_zero, List.getElem_cons_succ, List.setIfInBounds_toArray, List.set_cons_zero, List.set_cons_succ]
        refine wpAnyH_take (i := 18) (v := ?_) rfl (by kernel_rfl) (by kernel_rfl) (by kernel_rfl) (fun _ _ _ h => h) (Or.inl ⟨by rfl, ?_⟩) (by assumption) ?_
        rotate_left
        focus (intro w hSw; have p := hSw.ptr; have b1 := hSw.box 1 _ rfl; have b2 := hSw.box 2 _ rfl; have b3 := hSw.box 3 _ rfl; have b4 := hSw.box 4 _ rfl; go_simp; first | done | with_reducible rfl)
        simp only [Act.put, List.getElem_toArray, List.getElem_cons_zero, List.getElem_cons_succ, List.setIfInBounds_toArray, List.set_cons_zero, List.set_cons_succ]
        refine wpAnyH_ready (rs := [19]) (by kernel_rfl) (by simp) ?_
        refine AllReadyH.cons (o := _) rfl (fun K hK => ?_) AllReadyH.nil
        go_simp
        refine hK.out _ _ hHeld (fun hHeld => ?_)
        clear hK K
        try simp only [Act.put, List.getElem_toArray, List.getElem_cons_zero, List.getElem_cons_succ, List.setIfInBounds_toArray, List.set_cons_zero, List.set_cons_succ]
        refine wpAnyH_ready (rs := [20]) (by kernel_rfl) (by simp) ?_
        refine AllReadyH.cons (o := _) rfl (fun K hK => ?_) AllReadyH.nil
        go_simp
        have HT := Lib.hid (has58 i sv2 c2 602 w2 HI2.out f.fd a4 n4 c4 (fds_keep HK2.out HPO.out.fd) (fun x => !okFd (faces i.fs) x) (fun x hx z sv' c' hI hc' => lacks59 i HLI.out sv' c' z hI hc' x (HPB.out.fd.2 x hx)) (by have := HLN.out; omega))
        rw [HFD.out] at HT
        with_reducible refine HT.out.mono ?_
        rintro e w3 ⟨sv3, c3', rfl, hI3, hk3, hb3, hc3⟩
        have HI3 := Lib.hid hI3
        have HK3 := Lib.hid (HK2.out.trans hk3)
        have HB3 := Lib.hid (HB2.out.trans hb3)
        have HL3 := Lib.hid (hHeld.keep HPL.out hk3)
        clear hI3 hk3 hb3 HT
        go_simp
        refine hK.out _ _ HL3.out (fun hHeld => ?_)
        clear hK K
        try simp only [Act.put, List.getElem_toArray, List.getElem_cons_zero, List.getElem_cons_succ, List.setIfInBounds_toArray, List.set_cons_zero, List.set_cons_succ]
        refine wpAnyH_take (i := 21) (v := ?_) rfl (by kernel_rfl) (by kernel_rfl) (by kernel_rfl) (fun _ _ _ h => h) (Or.inl ⟨by rfl, ?_⟩) (by assumption) ?_
        rotate_left
        focus (intro w hSw; have p := hSw.ptr; have b1 := hSw.box 1 _ rfl; have b2 := hSw.box 2 _ rfl; have b3 := hSw.box 3 _ rfl; have b4 := hSw.box 4 _ rfl; go_simp; first | done | with_reducible rfl)
        simp only [Act.put, List.getElem_toArray, List.getElem_cons_zero, List.getElem_cons_succ, List.setIfInBounds_toArray, List.set_cons_zero, List.set_cons_succ]
        refine wpAnyH_take (i := 22) (v := ?_) rfl (by kernel_rfl) (by kernel_rfl) (by kernel_rfl) (fun _ _ _ h => h) (Or.inl ⟨by rfl, ?_⟩) (by assumption) ?_
        rotate_left
        focus (intro w hSw; have p := hSw.ptr; have b1 := hSw.box 1 _ rfl; have b2 := hSw.box 2 _ rfl; have b3 := hSw.box 3 _ rfl; have b4 := hSw.box 4 _ rfl; go_simp; first | done | with_reducible rfl)
        simp only [Act.put, List.getElem_toArray, List.getElem_cons_zero, List.getElem_cons_succ, List.setIfInBounds_toArray, List.set_cons_zero, List.set_cons_succ]
        refine wpAnyH_take (i := 23) (v := ?_) rfl (by kernel_rfl) (by kernel_rfl) (by kernel_rfl) (fun _ _ _ h => h) (Or.inl ⟨by rfl, ?_⟩) (by assumption) ?_
        rotate_left
        focus (intro w hSw; have p := hSw.ptr; have b1 := hSw.box 1 _ rfl; have b2 := hSw.box 2 _ rfl; have b3 := hSw.box 3 _ rfl; have b4 := hSw.box 4 _ rfl; go_simp; first | done | with_reducible rfl)
        simp only [Act.put, List.getElem_toArray, List.getElem_cons_zero, List.getElem_cons_succ, List.setIfInBounds_toArray, List.set_cons_zero, List.set_cons_succ]
        refine wpAnyH_take (i := 24) (v := ?_) rfl (by kernel_rfl) (by kernel_rfl) (by kernel_rfl) (fun _ _ _ h => h) (Or.inl ⟨by rfl, ?_⟩) (by assumption) ?_
        rotate_left
        focus (intro w hSw; have p := hSw.ptr; have b1 := hSw.box 1 _ rfl; have b2 := hSw.box 2 _ rfl; have b3 := hSw.box 3 _ rfl; have b4 := hSw.box 4 _ rfl; go_simp; first | done | with_reducible rfl)
        simp only [Act.put, List.getElem_toArray, List.getElem_cons_zero, List.getElem_cons_succ, List.setIfInBounds_toArray, List.set_cons_zero, List.set_cons_succ]
        refine wpAnyH_take (i := 25) (v := ?_) rfl (by kernel_rfl) (by kernel_rfl) (by kernel_rfl) (fun _ _ _ h => h) (Or.inl ⟨by rfl, ?_⟩) (by assumption) ?_
        rotate_left
        focus (intro w hSw; have p := hSw.ptr; have b1 := hSw.box 1 _ rfl; have b2 := hSw.box 2 _ rfl; have b3 := hSw.box 3 _ rfl; have b4 := hSw.box 4 _ rfl; go_simp; first | done | with_reducible rfl)
        simp only [Act.put, List.getElem_toArray, List.getElem_cons_zero, List.getElem_cons_succ, List.setIfInBounds_toArray, List.set_cons_zero, List.set_cons_succ]
        refine wpAnyH_ready (rs := [26]) (by kernel_rfl) (by simp) ?_
        refine AllReadyH.cons (o := _) rfl (fun K hK => ?_) AllReadyH.nil
        go_simp
        refine hK.out _ _ hHeld (fun hHeld => ?_)
        clear hK K
        try simp only [Act.put, List.getElem_toArray, List.getElem_cons_zero, List.getElem_cons_succ, List.setIfInBounds_toArray, List.set_cons_zero, List.set_cons_succ]
        refine wpAnyH_ready (rs := [27]) (by kernel_rfl) (by simp) ?_
        refine AllReadyH.cons (o := _) rfl (fun K hK => ?_) AllReadyH.nil
        go_simp
        have HT := Lib.hid (has60 i sv3 c3' 301 w3 HI3.out f.mt a5 n5 c5 (mts_keep HK3.out HPO.out.mt) (fun x => (fdM i.fs x).isNone) (fun x hx z sv' c' hI hc' ax nx cx hps => lacks61 i HLI.out sv' c' z hI hc' x ax nx cx hps (HPB.out.mt.2 x hx)) (by have := HLN.out; omega))
        with_reducible refine HT.out.mono ?_
        rintro e w4 ⟨sv4, c4', rfl, hI4, hk4, hb4, hc4⟩
        have HI4 := Lib.hid hI4
        have HK4 := Lib.hid (HK3.out.trans hk4)
        have HB4 := Lib.hid (HB3.out.trans hb4)
        have HL4 := Lib.hid (hHeld.keep HPL.out hk4)
        clear hI4 hk4 hb4 HT
        go_simp
        refine hK.out _ _ HL4.out (fun hHeld => ?_)
        clear hK K
        try simp only [Act.put, List.getElem_toArray, List.getElem_cons_zero, List.getElem_cons_succ, List.setIfInBounds_toArray, List.set_cons_zero, List.set_cons_succ]
        refine wpAnyH_take (i := 28) (v := ?_) rfl (by kernel_rfl) (by kernel_rfl) (by kernel_rfl) (fun _ _ _ h => h) (Or.inl ⟨by rfl, ?_⟩) (by assumption) ?_
        rotate_left
        focus (intro w hSw; have p := hSw.ptr; have b1 := hSw.box 1 _ rfl; have b2 := hSw.box 2 _ rfl; have b3 := hSw.box 3 _ rfl; have b4 := hSw.box 4 _ rfl; go_simp; first | done | with_reducible rfl)
        simp only [Act.put, List.getElem_toArray, List.getElem_cons_zero, List.getElem_cons_succ, List.setIfInBounds_toArray, List.set_cons_zero, List.set_cons_succ]
        refine wpAnyH_take (i := 29) (v := ?_) rfl (by kernel_rfl) (by kernel_rfl) (by kernel_rfl) (fun _ _ _ h => h) (Or.inl ⟨by rfl, ?_⟩) (by assumption) ?_
        rotate_left
        focus (intro w hSw; have p := hSw.ptr; have b1 := hSw.box 1 _ rfl; have b2 := hSw.box 2 _ rfl; have b3 := hSw.box 3 _ rfl; have b4 := hSw.box 4 _ rfl; go_simp; first | done | with_reducible rfl)
        simp only [Act.put, List.getElem_toArray, List.getElem_cons_zero, List.getElem_cons_succ, List.setIfInBounds_toArray, List.set_cons_zero, List.set_cons_succ]
        refine wpAnyH_done (by kernel_rfl) ?_ _
        clear hHeld
        go_wp2
        go_ret
        exact HFIN.out _ sv4 c4' HANS.out HI4.out HK4.out HB4.out (by have := HLN.out; omega)
end Go.Proofs.YthimpjfmelmhpaaDoor.Fc
