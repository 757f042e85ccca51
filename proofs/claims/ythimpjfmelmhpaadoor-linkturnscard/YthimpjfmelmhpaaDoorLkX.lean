/-
  What a pool names that is not there, piece by piece.
-/
import Derived.Test.YthimpjfmelmhpaaDoorLkF
namespace Go.Proofs.YthimpjfmelmhpaaDoor.Fc
open Go.RowKit
set_option linter.unusedVariables false
set_option linter.unusedSimpArgs false

/-- an image's table is where it was, and so are cells of one's own -/
structure LS (i : ImS) (q : Nat) (cs : List Value) (z : World) : Prop where
  ptr : z.cell? ⟨i.im, 0, none⟩ = some (.pointer (some ⟨i.tb, 0, none⟩))
  box : ∀ j v, cs[j]? = some v → z.cell? ⟨q, j, none⟩ = some v
theorem LS.keep {i : ImS} {q : Nat} {cs : List Value} {z z' : World} (h : LS i q cs z) (hp : ∀ v ∈ cs, Pl v) (hk : Keeps z z') : LS i q cs z' := ⟨hk _ _ h.ptr (pl_ptr _), fun j v hv => hk _ _ (h.box j v hv) (hp v (List.mem_of_getElem? hv))⟩
theorem LS.bel {i : ImS} {q : Nat} {cs : List Value} {z z' : World} (h : LS i q cs z) (hb : Below z.heap.size z z') : LS i q cs z' := ⟨(hb.cell (World.block_lt_of_cell? _ _ h.ptr)).trans h.ptr, fun j v hv => (hb.cell (World.block_lt_of_cell? _ _ (h.box j v hv))).trans (h.box j v hv)⟩
set_option maxHeartbeats 4000000 in
set_option maxRecDepth 100000 in
theorem lacks57 (i : ImS) (sv : Value) (c : Nat) (w : World) (h : Im i sv c w) (hc : c < 100000000000) (s : ByteArray) (hs : s.size ≤ maxLen) :
    Calls Tryd.prog 57 #[.pointer (some ⟨i.im, 0, none⟩), .string s] w (IPost i w c 1 (.bool (!knB (faces i.fs) s))) := by
  have HI0 := Lib.hid (h.bel (belowD w))
  have HO := Lib.hid (of58 s w.drew)
  have HhB := Lib.hid h.hB
  clear h
  go_enter Tryd.func57, Tryd.ntmps57
  go_upto_region 1 with fail
  refine wp_region_held_drew (S := fun z => z.cell? ⟨i.im, 0, none⟩ = some (.pointer (some ⟨i.tb, 0, none⟩))) (by kernel_rfl) ?_ (fun hHeld => ?_)
  · exact HI0.out.ptr
  refine wpAnyH_take (i := 0) (v := ?_) rfl (by kernel_rfl) (by kernel_rfl) (by kernel_rfl) (fun _ _ _ h => h) (Or.inl ⟨by rfl, ?_⟩) (by assumption) ?_
  rotate_left
  focus (intro w hSw; have p0 := hSw; go_simp; first | done | with_reducible rfl)
  simp only [Act.put, List.getElem_toArray, List.getElem_cons_zero, List.setIfInBounds_toArray, List.set_cons_zero, List.set_cons_succ]
  refine wpAnyH_take (i := 1) (v := ?_) rfl (by kernel_rfl) (by kernel_rfl) (by kernel_rfl) (fun _ _ _ h => h) (Or.inl ⟨by rfl, ?_⟩) (by assumption) ?_
  rotate_left
  focus (intro w hSw; have p0 := hSw; go_simp; first | done | with_reducible rfl)
  simp only [Act.put, List.getElem_toArray, List.getElem_cons_zero, List.getElem_cons_succ, List.setIfInBounds_toArray, List.set_cons_zero, List.set_cons_succ]
  refine wpAnyH_take (i := 2) (v := ?_) rfl (by kernel_rfl) (by kernel_rfl) (by kernel_rfl) (fun _ _ _ h => h) (Or.inl ⟨by rfl, ?_⟩) (by assumption) ?_
  rotate_left
  focus (intro w hSw; have p0 := hSw; go_simp; first | done | with_reducible rfl)
  simp only [Act.put, List.getElem_toArray, List.getElem_cons_zero, List.getElem_cons_succ, List.setIfInBounds_toArray, List.set_cons_zero, List.set_cons_succ]
  refine wpAnyH_take (i := 3) (v := ?_) rfl (by kernel_rfl) (by kernel_rfl) (by kernel_rfl) (fun _ _ _ h => h) (Or.inl ⟨by rfl, ?_⟩) (by assumption) ?_
  rotate_left
  focus (intro w hSw; have p0 := hSw; go_simp; first | done | with_reducible rfl)
  simp only [Act.put, List.getElem_toArray, List.getElem_cons_zero, List.getElem_cons_succ, List.setIfInBounds_toArray, List.set_cons_zero, List.set_cons_succ]
  refine wpAnyH_take (i := 4) (v := ?_) rfl (by kernel_rfl) (by kernel_rfl) (by kernel_rfl) (fun _ _ _ h => h) (Or.inl ⟨by rfl, ?_⟩) (by assumption) ?_
  rotate_left
  focus (intro w hSw; have p0 := hSw; go_simp; first | done | with_reducible rfl)
  simp only [Act.put, List.getElem_toArray, List.getElem_cons_zero, List.getElem_cons_succ, List.setIfInBounds_toArray, List.set_cons_zero, List.set_cons_succ]
  refine wpAnyH_ready (rs := [5]) (by kernel_rfl) (by simp) ?_
  refine AllReadyH.cons (o := _) rfl (fun K hK => ?_) AllReadyH.nil
  go_simp
  refine HO.out.mono ?_
  rintro e w1 ⟨rfl, hb1⟩
  have HI1 := Lib.hid (HI0.out.bel hb1)
  have HB1 := Lib.hid ((belowD w).trans (hb1.mono (belowD w).size))
  clear hb1 HO
  go_simp
  refine hK.out _ _ HI1.out.ptr (fun hHeld => ?_)
  clear hK K
  try simp only [Act.put, List.getElem_toArray, List.getElem_cons_zero, List.getElem_cons_succ, List.setIfInBounds_toArray, List.set_cons_zero, List.set_cons_succ]
  refine wpAnyH_ready (rs := [6]) (by kernel_rfl) (by simp) ?_
  refine AllReadyH.cons (o := _) rfl (fun K hK => ?_) AllReadyH.nil
  go_simp
  have HI2 := Lib.hid (HI1.out.bel (below1 w1 (.cells #[.string s, .bool false] 49)))
  have HB2 := Lib.hid (HB1.out.trans ((below1 w1 (.cells #[.string s, .bool false] 49)).mono HB1.out.size))
  have HKN := Lib.hid (known27 i.B i.tb i.fm (faces i.fs) [⟨s, false⟩] (by simpa using hs) (by simp) (some ⟨w1.heap.size, 0, none⟩) 1 1 _ sv c (tysOne w1 s false) HI2.out.hB HI2.out.tab (by omega))
  refine hK.out _ _ HI2.out.ptr (fun hHeld => ?_)
  clear hK K
  try simp only [Act.put, List.getElem_toArray, List.getElem_cons_zero, List.getElem_cons_succ, List.setIfInBounds_toArray, List.set_cons_zero, List.set_cons_succ]
  refine wpAnyH_ready (rs := [7]) (by kernel_rfl) (by simp) ?_
  refine AllReadyH.cons (o := _) rfl (fun K hK => ?_) AllReadyH.nil
  go_simp
  with_reducible refine HKN.out.mono ?_
  rintro e w3 ⟨sv3, c3, rfl, hT3, hs3, hc3⟩
  have HI3 := Lib.hid (HI2.out.next hT3 hs3)
  have HK3 := Lib.hid hs3.keeps
  have HB3 := Lib.hid (hs3.below HI2.out.tab HI2.out.hB)
  clear hT3 hs3 HKN
  go_simp
  refine hK.out _ _ HI3.out.ptr (fun hHeld => ?_)
  clear hK K
  try simp only [Act.put, List.getElem_toArray, List.getElem_cons_zero, List.getElem_cons_succ, List.setIfInBounds_toArray, List.set_cons_zero, List.set_cons_succ]
  refine wpAnyH_take (i := 8) (v := ?_) rfl (by kernel_rfl) (by kernel_rfl) (by kernel_rfl) (fun _ _ _ h => h) (Or.inl ⟨by rfl, ?_⟩) (by assumption) ?_
  rotate_left
  focus (intro w hSw; have p0 := hSw; go_simp; first | done | with_reducible rfl)
  simp only [Act.put, List.getElem_toArray, List.getElem_cons_zero, List.getElem_cons_succ, List.setIfInBounds_toArray, List.set_cons_zero, List.set_cons_succ]
  refine wpAnyH_take (i := 9) (v := ?_) rfl (by kernel_rfl) (by kernel_rfl) (by kernel_rfl) (fun _ _ _ h => h) (Or.inl ⟨by rfl, ?_⟩) (by assumption) ?_
  rotate_left
  focus (intro w hSw; have p0 := hSw; go_simp; first | done | with_reducible rfl)
  simp only [Act.put, List.getElem_toArray, List.getElem_cons_zero, List.getElem_cons_succ, List.setIfInBounds_toArray, List.set_cons_zero, List.set_cons_succ]
  refine wpAnyH_done (by kernel_rfl) ?_ _
  clear hHeld
  go_wp2
  go_ret
  refine ⟨sv3, c3, by simp, HI3.out, (Keeps.of_below HB2.out).trans HK3.out, (HB2.out.mono HhB.out).trans HB3.out, by simpa using hc3⟩
end Go.Proofs.YthimpjfmelmhpaaDoor.Fc
