/-
  The model's Do.
-/
import Derived.Test.YtecegjdnodcamaaModelS
namespace Go.Proofs.Ytecegjdnodcamaa
open Go.RowKit Go.Maps Go.Sort

theorem info30 : (Try.prog.info? 30).map (fun i => (i.zero, i.size, i.bytes)) = some (some (.agg #[.int .i64 0, .int .i64 0, .string ByteArray.empty, .string ByteArray.empty, .string ByteArray.empty]), 5, 64) := by kernel_rfl

theorem doS_4 (S : DS) (a : ActD) (h : a.kind ≠ 5) (ht : (turnS S).1 = false) : doS S a = (8, (turnS S).2) := by
  unfold doS
  rcases a.kinds with hk | hk | hk | hk | hk | hk
  · rw [if_pos hk]; unfold wrS; rw [if_pos ht]
  · rw [if_neg (by rw [hk]; decide), if_pos hk]; unfold wrS; rw [if_pos ht]
  · rw [if_neg (by rw [hk]; decide), if_neg (by rw [hk]; decide), if_pos hk]; unfold rnS; rw [if_pos ht]
  · rw [if_neg (by rw [hk]; decide), if_neg (by rw [hk]; decide), if_neg (by rw [hk]; decide), if_pos hk]; unfold rmS; rw [if_pos ht]
  · rw [if_neg (by rw [hk]; decide), if_neg (by rw [hk]; decide), if_neg (by rw [hk]; decide), if_neg (by rw [hk]; decide), if_pos hk]; unfold syS; rw [if_pos ht]
  · exact absurd hk h

def ext' (w w' : World) (k : Nat) : Prop := w.heap.size ≤ k ∧ k < w'.heap.size

set_option maxHeartbeats 1600000 in
set_option maxRecDepth 100000 in
theorem do_fall (w : World) (bm bs : Nat) (sv : Value) (S : DS) (l : List ActD) (h : MV w bm bs sv S l) (a : ActD) (hs : a.small) (hk : a.kind = 5) :
    Calls Try.prog 16 #[.pointer (some ⟨bm, 0, none⟩), actV a] w fun e w' => e = .returned (.int .i64 0) ∧ MV w' bm bs sv { S with falls := true, left := a.N.toNat } l ∧ Mods (· = bm) w w' := by
  unfold actV
  unfold ActD.kind at hk
  have hlt := h.blk.lt
  have c3 : w.cell? ⟨bm, 3, none⟩ = some (.int .i64 (flI S)) := h.blk.cell 3
  have f3 := h.blk.frozen 3
  have hN := hs.N
  have H := Lib.hid h
  clear h
  go_enter Try.func16, Try.ntmps16
  go_wp2
  all_goals
    go_ret
    have hm1 : Mods (· = bm) w ((w.setCell ⟨bm, 3, none⟩ (.int .i64 (max a.N 0))).alloc (.cells #[.int .i64 a.K, .int .i64 a.N, .string a.name, .string a.to_, .string a.text] 30)) := ((Mods.refl (· = bm) w).setCell (p := ⟨bm, 3, none⟩) (.inl rfl) _).alloc _
    refine ⟨rfl, MV.turned (S' := { S with falls := true, left := a.N.toNat }) H.out hm1 ?_ rfl rfl ⟨H.out.ok.good, H.out.ok.chs, H.out.ok.wt, H.out.ok.cnt, H.out.ok.room, by show a.N.toNat ≤ _; omega⟩, hm1⟩
    have e1 : flI { S with falls := true, left := a.N.toNat } = max a.N 0 := by unfold flI; simp only [if_true]; omega
    unfold mcs
    rw [e1]
    exact (H.out.blk.set 3 _).keep (fp := fun _ => False) ((Mods.refl _ _).alloc _) id

set_option maxHeartbeats 1600000 in
set_option maxRecDepth 100000 in
theorem do_down (w : World) (bm bs : Nat) (sv : Value) (S : DS) (l : List ActD) (h : MV w bm bs sv S l) (a : ActD) (hk : a.kind ≠ 5) (ht : (turnS S).1 = false) :
    Calls Try.prog 16 #[.pointer (some ⟨bm, 0, none⟩), actV a] w fun e w' => e = .returned (.int .i64 8) ∧ MV w' bm bs sv (turnS S).2 l ∧ Mods (· = bm) w w' := by
  unfold actV
  have hk5 : (wrap64 ((IntKind.u64.wrap a.K).tmod 6) == 5) = false := by
    rw [beq_eq_false_iff_ne]
    exact hk
  have hlt := h.blk.lt
  have hok := h.ok.turn
  have c3 : w.cell? ⟨bm, 3, none⟩ = some (.int .i64 (flI S)) := h.blk.cell 3
  have c4 : w.cell? ⟨bm, 4, none⟩ = some (.bool S.down) := h.blk.cell 4
  have f4 := h.blk.frozen 4
  have H := Lib.hid h
  have HOK := Lib.hid hok
  clear h hok
  have hm1 : Hid (Mods (· = bm) w ((w.setCell ⟨bm, 4, none⟩ (.bool true)).alloc (.cells #[.int .i64 a.K, .int .i64 a.N, .string a.name, .string a.to_, .string a.text] 30))) := Lib.hid (((Mods.refl (· = bm) w).setCell (p := ⟨bm, 4, none⟩) (.inl rfl) _).alloc _)
  have hb1 : Hid (Blk ((w.setCell ⟨bm, 4, none⟩ (.bool true)).alloc (.cells #[.int .i64 a.K, .int .i64 a.N, .string a.name, .string a.to_, .string a.text] 30)) bm ((mcs S bs sv).set 4 (.bool true)) 41) := Lib.hid ((H.out.blk.set 4 _).keep (fp := fun _ => False) ((Mods.refl _ _).alloc _) id)
  cases hd : S.down
  · have hfl : S.falls = true ∧ S.left = 0 := by
      unfold turnS at ht
      rw [hd] at ht
      simp only [Bool.false_eq_true, if_false] at ht
      cases hf : S.falls
      · rw [hf] at ht; simp at ht
      · rw [hf] at ht
        by_cases h0 : S.left = 0
        · exact ⟨rfl, h0⟩
        · simp [h0] at ht
    have e1 : flI S = 0 := by unfold flI; rw [hfl.1, hfl.2]; rfl
    have e2 : turnS S = (false, { S with down := true }) := by unfold turnS; rw [hd, hfl.1, hfl.2]; rfl
    rw [e1] at c3
    rw [hd] at c4
    rw [e2] at HOK ⊢
    clear e1 e2 hfl hd ht hk
    go_enter Try.func16, Try.ntmps16
    go_wp2
    go_ret
    exact ⟨rfl, H.out.turned (S' := { S with down := true }) hm1.out hb1.out rfl rfl HOK.out, hm1.out⟩
  · have e2 : turnS S = (false, S) := by unfold turnS; rw [hd]; rfl
    rw [hd] at c4
    rw [e2] at HOK ⊢
    have HD := Lib.hid hd
    clear e2 hd ht hk
    go_enter Try.func16, Try.ntmps16
    go_wp2
    go_ret
    refine ⟨rfl, H.out.turned (S' := S) hm1.out ?_ rfl rfl HOK.out, hm1.out⟩
    have := hb1.out
    unfold mcs at this ⊢
    rw [HD.out]
    exact this

end Go.Proofs.Ytecegjdnodcamaa
