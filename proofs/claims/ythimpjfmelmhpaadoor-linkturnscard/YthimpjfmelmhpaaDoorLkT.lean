/-
  Whether a file fits to all others; a copy of a slice of files.
-/
import Derived.Test.YthimpjfmelmhpaaDoorLkL
namespace Go.Proofs
open Go.Shelf
def Tryd.cloneF_ren : Go.Shelf.Ren := ⟨fun | 41 => 38 | n => n, fun | 22 => 22 | 23 => 44 | 4 => 4 | n => n, fun | n => n⟩
theorem Tryd.cloneF : Go.Proofs.SlLaysE0.n41 Tryd.prog Tryd.cloneF_ren := {
  mixed := by kernel_rfl
  f41 := ⟨Tryd.f38.name, by decide, Tryd.func38.trans (congrArg some (by kernel_rfl))⟩
  t4 := Tryd.underlying4
  a4 := Tryd.isAgg4
  z4 := Tryd.sizeOf4
  v4 := Tryd.zeroValue4
  t22 := Tryd.underlying22
  a22 := Tryd.isAgg22
  z22 := Tryd.sizeOf22
  v22 := Tryd.zeroValue22 }
end Go.Proofs
namespace Go.Proofs.YthimpjfmelmhpaaDoor.Fc
open Go.RowKit
set_option linter.unusedVariables false
set_option linter.unusedSimpArgs false

theorem infoF : ∃ i, Tryd.prog.info? 44 = some i ∧ (i.size, i.bytes, i.zero.map (fun z => z.cells.size)) = (10, 224, some 10) := Option.map_eq_some_iff.1 (show (Tryd.prog.info? 44).map (fun i => (i.size, i.bytes, i.zero.map (fun z => z.cells.size))) = some (10, 224, some 10) by kernel_rfl)
set_option maxHeartbeats 400000 in
theorem clone0_38 (ad : Addr) (c : Nat) (w : World) : Calls Tryd.prog 38 #[.slice (some ad) 0 c] w fun e w' => e = .returned (.slice (some ⟨w.heap.size, 0, none⟩) 0 0) ∧ w' = w.alloc (.cells #[] 44) := by
  obtain ⟨i, hi, _⟩ := infoF
  have q : ∀ (w : World) (a : Option Addr) (n c n' c' : Nat), (binOp .eql 22 (.slice a n c) (.slice none n' c')).run Tryd.prog w = .ok (.bool a.isNone) w := fun w a n c n' c' => Lib.run_eql_slice_nil w _ _ a n c n' c' Tryd.underlying22
  have hr := app_none Tryd.underlying22 hi w.heap.size c ad (w.alloc (.cells #[] 44))
  go_enter Tryd.func38, Tryd.ntmps38
  go_wp2_with (at_builtin; refine wpList_append_run rfl _ _ 22 rfl rfl rfl rfl hr ?_)
  go_wp2
  go_ret
  exact ⟨rfl, rfl⟩
theorem cloneF_any (xs : List Fl) (w : World) (a : Option Addr) (n c : Nat) (h : Sl w 10 (FlR w) xs (.slice a n c)) (hn : n ≤ 1000) :
    Calls Tryd.prog 38 #[.slice a n c] w fun e w' => ∃ a' c', e = .returned (.slice a' n c') ∧ Sl w' 10 (FlR w') xs (.slice a' n c') ∧ Own w.heap.size w' 44 a' ∧ Below w.heap.size w w' := by
  obtain ⟨i, hi, hii⟩ := infoF
  refine (clone_gen Tryd.cloneF hi hii (by decide) (by decide) Tryd.sizeOf44 (FlR w) (fun x cs h => by obtain ⟨a8, n8, c8, a9, n9, c9, a1, n1, c1, a2, n2, c2, a3, n3, c3, a4, n4, c4, a5, n5, c5, a0, n0, c0, rfl, _⟩ := h; exact ⟨rfl, by simp [Value.oneCell']⟩) xs w a n c h hn clone0_38).mono ?_
  rintro e w' ⟨a', c', rfl, h1, h2, h3⟩
  exact ⟨a', c', rfl, h1.mono (Keeps.refl _) (fun _ _ h => ⟨h.keep (Keeps.of_below h3), h.pl⟩), h2, h3⟩
set_option maxHeartbeats 4000000 in
set_option maxRecDepth 100000 in
theorem fits23 (i : ImS) (hL : i.fs.length ≤ 300) (sv : Value) (c : Nat) (w : World) (h : Im i sv c w) (hc : c < 80000000000) (f : Fl) (hpb : PoB f) (hnm : f.fc.name.size ≤ maxLen) (cs : List Value) (hf : FlR w f cs) :
    Calls Tryd.prog 23 #[.pointer (some ⟨i.im, 0, none⟩), .agg cs.toArray] w (IPost i w c 1010000 (.int .i64 (fitE i.fs f))) := by
  obtain ⟨a8, n8, c8, a9, n9, c9, a1, n1, c1, a2, n2, c2, a3, n3, c3, a4, n4, c4, a5, n5, c5, a0, n0, c0, rfl, hfc, hpo, hbd⟩ := hf
  have hLL : (faces i.fs).length ≤ 300 := by simpa [faces] using hL
  have hbx : Below w.heap.size w (w.alloc (.cells #[.string f.fc.name, .string f.fc.sup, .slice a8 n8 c8, .slice a9 n9 c9, .slice a1 n1 c1, .slice a2 n2 c2, .slice a3 n3 c3, .slice a4 n4 c4, .slice a5 n5 c5, .slice a0 n0 c0] 44)).drew := (below1 w (.cells #[.string f.fc.name, .string f.fc.sup, .slice a8 n8 c8, .slice a9 n9 c9, .slice a1 n1 c1, .slice a2 n2 c2, .slice a3 n3 c3, .slice a4 n4 c4, .slice a5 n5 c5, .slice a0 n0 c0] 44)).drew
  have HBX := Lib.hid hbx
  have HI0 := Lib.hid (h.bel hbx)
  have HhB := Lib.hid h.hB
  have HPO := Lib.hid (hpo.keep (Keeps.of_below hbx))
  have HPB := Lib.hid hpb
  have HLI := Lib.hid hL
  have hX : Blk (w.alloc (.cells #[.string f.fc.name, .string f.fc.sup, .slice a8 n8 c8, .slice a9 n9 c9, .slice a1 n1 c1, .slice a2 n2 c2, .slice a3 n3 c3, .slice a4 n4 c4, .slice a5 n5 c5, .slice a0 n0 c0] 44)).drew w.heap.size [.string f.fc.name, .string f.fc.sup, .slice a8 n8 c8, .slice a9 n9 c9, .slice a1 n1 c1, .slice a2 n2 c2, .slice a3 n3 c3, .slice a4 n4 c4, .slice a5 n5 c5, .slice a0 n0 c0] 44 := Blk.dr (Blk.new w [.string f.fc.name, .string f.fc.sup, .slice a8 n8 c8, .slice a9 n9 c9, .slice a1 n1 c1, .slice a2 n2 c2, .slice a3 n3 c3, .slice a4 n4 c4, .slice a5 n5 c5, .slice a0 n0 c0] 44)
  have HPL : Hid (∀ v ∈ [Value.string f.fc.name, .string f.fc.sup, .slice a8 n8 c8, .slice a9 n9 c9, .slice a1 n1 c1, .slice a2 n2 c2, .slice a3 n3 c3, .slice a4 n4 c4, .slice a5 n5 c5, .slice a0 n0 c0], Pl v) := Lib.hid (by
    intro v hv
    simp only [List.mem_cons, List.not_mem_nil, or_false] at hv
    rcases hv with rfl | rfl | rfl | rfl | rfl | rfl | rfl | rfl | rfl | rfl
    all_goals first | exact pl_str _ | exact pl_slice _ _ _)
  have HLS0 : Hid (LS i w.heap.size [Value.string f.fc.name, .string f.fc.sup, .slice a8 n8 c8, .slice a9 n9 c9, .slice a1 n1 c1, .slice a2 n2 c2, .slice a3 n3 c3, .slice a4 n4 c4, .slice a5 n5 c5, .slice a0 n0 c0] (w.alloc (.cells #[.string f.fc.name, .string f.fc.sup, .slice a8 n8 c8, .slice a9 n9 c9, .slice a1 n1 c1, .slice a2 n2 c2, .slice a3 n3 c3, .slice a4 n4 c4, .slice a5 n5 c5, .slice a0 n0 c0] 44)).drew) := Lib.hid ⟨HI0.out.ptr, fun j v hv => by rw [hX.cell]; exact hv⟩
  have HCK := Lib.hid (check29 i.B i.tb i.fm (faces i.fs) hLL f.fc.name hnm _ sv c HI0.out.hB HI0.out.tab (by omega))
  have HCC := Lib.hid hc
  have hFE : fitE i.fs f = if chk (faces i.fs) f.fc.name ≠ 0 then chk (faces i.fs) f.fc.name else if lackB i.fs f then 30 else 0 := rfl
  have HFIN : Hid (∀ (b : Int) (sv' : Value) (c' : Nat) {z : World}, fitE i.fs f = b → Im i sv' c' z → Keeps (w.alloc (.cells #[.string f.fc.name, .string f.fc.sup, .slice a8 n8 c8, .slice a9 n9 c9, .slice a1 n1 c1, .slice a2 n2 c2, .slice a3 n3 c3, .slice a4 n4 c4, .slice a5 n5 c5, .slice a0 n0 c0] 44)).drew z → Below i.B (w.alloc (.cells #[.string f.fc.name, .string f.fc.sup, .slice a8 n8 c8, .slice a9 n9 c9, .slice a1 n1 c1, .slice a2 n2 c2, .slice a3 n3 c3, .slice a4 n4 c4, .slice a5 n5 c5, .slice a0 n0 c0] 44)).drew z → c' ≤ c + 1010000 → IPost i w c 1010000 (.int .i64 (fitE i.fs f)) (.returned (.int .i64 b)) z) := Lib.hid (fun b sv' c' z hb hI hk hbl hcc => ⟨sv', c', by rw [hb], hI, (Keeps.of_below HBX.out).trans hk, (HBX.out.mono HhB.out).trans hbl, hcc⟩)
  clear h hbx hX hpo hpb hL hc hfc hbd
  go_enter Tryd.func23, Tryd.ntmps23
  go_upto_region 1 with fail
  generalize hck : chk (faces i.fs) f.fc.name = ck at *
  clear hck
  refine wp_region_held_drew (S := fun z => LS i w.heap.size [Value.string f.fc.name, .string f.fc.sup, .slice a8 n8 c8, .slice a9 n9 c9, .slice a1 n1 c1, .slice a2 n2 c2, .slice a3 n3 c3, .slice a4 n4 c4, .slice a5 n5 c5, .slice a0 n0 c0] z) (by kernel_rfl) ?_ (fun hHeld => ?_)
  · exact HLS0.out
  refine wpAnyH_take (i := 0) (v := ?_) rfl (by kernel_rfl) (by kernel_rfl) (by kernel_rfl) (fun _ _ _ h => h) (Or.inl ⟨by rfl, ?_⟩) (by assumption) ?_
  rotate_left
  focus (intro w hSw; have p := hSw.ptr; have b0 := hSw.box 0 _ rfl; go_simp; first | done | with_reducible rfl)
  simp only [Act.put, List.getElem_toArray, List.getElem_cons_zero, List.setIfInBounds_toArray, List.set_cons_zero, List.set_cons_succ]
  refine wpAnyH_take (i := 1) (v := ?_) rfl (by kernel_rfl) (by kernel_rfl) (by kernel_rfl) (fun _ _ _ h => h) (Or.inl ⟨by rfl, ?_⟩) (by assumption) ?_
  rotate_left
  focus (intro w hSw; have p := hSw.ptr; have b0 := hSw.box 0 _ rfl; go_simp; first | done | with_reducible rfl)
  simp only [Act.put, List.getElem_toArray, List.getElem_cons_zero, List.getElem_cons_succ, List.setIfInBounds_toArray, List.set_cons_zero, List.set_cons_succ]
  refine wpAnyH_take (i := 2) (v := ?_) rfl (by kernel_rfl) (by kernel_rfl) (by kernel_rfl) (fun _ _ _ h => h) (Or.inl ⟨by rfl, ?_⟩) (by assumption) ?_
  rotate_left
  focus (intro w hSw; have p := hSw.ptr; have b0 := hSw.box 0 _ rfl; go_simp; first | done | with_reducible rfl)
  simp only [Act.put, List.getElem_toArray, List.getElem_cons_zero, List.getElem_cons_succ, List.setIfInBounds_toArray, List.set_cons_zero, List.set_cons_succ]
  refine wpAnyH_take (i := 3) (v := ?_) rfl (by kernel_rfl) (by kernel_rfl) (by kernel_rfl) (fun _ _ _ h => h) (Or.inl ⟨by rfl, ?_⟩) (by assumption) ?_
  rotate_left
  focus (intro w hSw; have p := hSw.ptr; have b0 := hSw.box 0 _ rfl; go_simp; first | done | with_reducible rfl)
  simp only [Act.put, List.getElem_toArray, List.getElem_cons_zero, List.getElem_cons_succ, List.setIfInBounds_toArray, List.set_cons_zero, List.set_cons_succ]
  refine wpAnyH_take (i := 4) (v := ?_) rfl (by kernel_rfl) (by kernel_rfl) (by kernel_rfl) (fun _ _ _ h => h) (Or.inl ⟨by rfl, ?_⟩) (by assumption) ?_
  rotate_left
  focus (intro w hSw; have p := hSw.ptr; have b0 := hSw.box 0 _ rfl; go_simp; first | done | with_reducible rfl)
  simp only [Act.put, List.getElem_toArray, List.getElem_cons_zero, List.getElem_cons_succ, List.setIfInBounds_toArray, List.set_cons_zero, List.set_cons_succ]
  refine wpAnyH_take (i := 5) (v := ?_) rfl (by kernel_rfl) (by kernel_rfl) (by kernel_rfl) (fun _ _ _ h => h) (Or.inl ⟨by rfl, ?_⟩) (by assumption) ?_
  rotate_left
  focus (intro w hSw; have p := hSw.ptr; have b0 := hSw.box 0 _ rfl; go_simp; first | done | with_reducible rfl)
  simp only [Act.put, List.getElem_toArray, List.getElem_cons_zero, List.getElem_cons_succ, List.setIfInBounds_toArray, List.set_cons_zero, List.set_cons_succ]
  refine wpAnyH_take (i := 6) (v := ?_) rfl (by kernel_rfl) (by kernel_rfl) (by kernel_rfl) (fun _ _ _ h => h) (Or.inl ⟨by rfl, ?_⟩) (by assumption) ?_
  rotate_left
  focus (intro w hSw; have p := hSw.ptr; have b0 := hSw.box 0 _ rfl; go_simp; first | done | with_reducible rfl)
  simp only [Act.put, List.getElem_toArray, List.getElem_cons_zero, List.getElem_cons_succ, List.setIfInBounds_toArray, List.set_cons_zero, List.set_cons_succ]
  refine wpAnyH_ready (rs := [7]) (by kernel_rfl) (by simp) ?_
  refine AllReadyH.cons (o := _) rfl (fun K hK => ?_) AllReadyH.nil
  go_simp
  with_reducible refine HCK.out.mono ?_
  intro e w1 hp1
  obtain ⟨sv1, c1', rfl, hI1, hk1, hb1, hc1⟩ := HI0.out.ends hp1
  have HI1 := Lib.hid hI1
  have HK1 := Lib.hid hk1
  have HB1 := Lib.hid hb1
  have HL1 := Lib.hid (hHeld.keep HPL.out hk1)
  clear hI1 hk1 hb1 hp1 HCK
  go_simp
  refine hK.out _ _ HL1.out (fun hHeld => ?_)
  clear hK K
  try simp only [Act.put, List.getElem_toArray, List.getElem_cons_zero, List.getElem_cons_succ, List.setIfInBounds_toArray, List.set_cons_zero, List.set_cons_succ]
  refine wpAnyH_take (i := 8) (v := ?_) rfl (by kernel_rfl) (by kernel_rfl) (by kernel_rfl) (fun _ _ _ h => h) (Or.inl ⟨by rfl, ?_⟩) (by assumption) ?_
  rotate_left
  focus (intro w hSw; have p := hSw.ptr; have b0 := hSw.box 0 _ rfl; go_simp; first | done | with_reducible rfl)
  simp only [Act.put, List.getElem_toArray, List.getElem_cons_zero, List.getElem_cons_succ, List.setIfInBounds_toArray, List.set_cons_zero, List.set_cons_succ]
  refine wpAnyH_done (by kernel_rfl) ?_ _
  have HLB := Lib.hid hHeld
  clear hHeld HLS0
  by_cases h0 : ck = 0
  · have tz : (ck == 0) = true := by simp [h0]
    rw [if_neg (by simp [h0])] at hFE
    have HFE := Lib.hid hFE
    clear h0 hFE
    have b4 := HLB.out.box 4 _ rfl
    have b5 := HLB.out.box 5 _ rfl
    have b6 := HLB.out.box 6 _ rfl
    have b7 := HLB.out.box 7 _ rfl
    have b8 := HLB.out.box 8 _ rfl
    have HLK := Lib.hid (lacks39 i HLI.out sv1 c1' w1 HI1.out (by have := HCC.out; omega) f HPB.out a1 n1 c1 a2 n2 c2 a3 n3 c3 a4 n4 c4 a5 n5 c5 (HPO.out.keep HK1.out))
    go_wp2_with fail
    refine HLK.out.mono ?_
    rintro e w2 ⟨sv2, c2', rfl, hI2, hk2, hb2, hc2⟩
    have HI2 := Lib.hid hI2
    have HK2 := Lib.hid (HK1.out.trans hk2)
    have HB2 := Lib.hid (HB1.out.trans hb2)
    clear hI2 hk2 hb2 HLK HLB b4 b5 b6 b7 b8
    cases hb : lackB i.fs f with
    | true =>
      have HA : Hid (fitE i.fs f = 30) := Lib.hid (by rw [HFE.out, hb]; simp)
      clear hb
      go_wp2
      go_ret
      exact HFIN.out _ sv2 c2' HA.out HI2.out HK2.out HB2.out (by omega)
    | false =>
      have HA : Hid (fitE i.fs f = 0) := Lib.hid (by rw [HFE.out, hb]; simp)
      clear hb
      go_wp2
      go_ret
      exact HFIN.out _ sv2 c2' HA.out HI2.out HK2.out HB2.out (by omega)
  · have tz : (ck == 0) = false := by simp [h0]
    rw [if_pos h0] at hFE
    have HFE := Lib.hid hFE
    clear h0 hFE
    go_wp2
    go_ret
    exact HFIN.out _ sv1 c1' HFE.out HI1.out HK1.out HB1.out (by omega)
end Go.Proofs.YthimpjfmelmhpaaDoor.Fc
