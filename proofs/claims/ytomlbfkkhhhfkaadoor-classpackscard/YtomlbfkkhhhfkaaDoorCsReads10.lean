/-
  A file, as it is read.
-/
import Derived.Test.YtomlbfkkhhhfkaaDoorCsReads9
import Derived.Deep.AppendLies
import Derived.Deep.RegionLaw
namespace Go.Proofs.YtomlbfkkhhhfkaaDoor.Fc
open Go.RowKit
set_option linter.unusedVariables false

theorem blk_no {w : World} {b : Nat} {cs : List Value} {t e : TypeId} (h : Blk w b cs t) (he : t ≠ e) : ∀ cur, w.heap[b]? ≠ some (.cells cur e (0, 0)) := fun cur hc => by
  have h' : w.heap[b]? = some (.cells cs.toArray t (0, 0)) := h
  rw [h'] at hc
  cases hc
  exact he rfl
theorem blk_rowgrown {base n size b : Nat} {v : Value} {x y : World} {xs cs : List Value} {o : Obj} {t e : TypeId} (h : Blk x b cs t) (ht : t ≠ e) (hrow : x.ownsRow base e size v n xs) (hg : (x.alloc o).grownBy y v.ownBlock) : Blk y b cs t := by
  have hlt := h.lt
  have h' : x.heap[b]? = some (.cells cs.toArray t (0, 0)) := h
  show y.heap[b]? = _
  rw [hg.block b (by simp; omega) (fun e' => by
    rcases hrow.2 with ⟨h0, _⟩ | ⟨g, cap, cur', h0, _, h2, _⟩
    · rw [h0] at e'; simp [Value.ownBlock] at e'
    · rw [h0] at e'
      simp [Value.ownBlock] at e'
      subst e'
      rw [h'] at h2
      cases h2
      exact ht rfl), Below.heap_alloc _ _ _ hlt]
  exact h'
theorem set9 {P : List Value} (h : P.length = 9) (u v : Value) : (P ++ [u]).set 9 v = P ++ [v] := by rw [List.set_append]; simp [h]
theorem row_below {base n size : Nat} {e : TypeId} {v : Value} {x y : World} {xs : List Value} (h : x.ownsRow base e size v n xs) (hb : Below x.heap.size x y) : y.ownsRow base e size v n xs := by
  refine ⟨h.1, ?_⟩
  rcases h.2 with h0 | ⟨g, cap, cur, rfl, hb', hg, r⟩
  · exact .inl h0
  · exact .inr ⟨g, cap, cur, rfl, hb', (hb.block g (lt_of_block hg)).trans hg, r⟩
theorem st10_mods {w : World} {fb : Nat} (v0 v1 v2 v3 v4 v5 v6 v7 v8 v9 : Value) : Mods (· = fb) w ((((((((((w.setCell ⟨fb, 0, none⟩ v0).setCell ⟨fb, 1, none⟩ v1).setCell ⟨fb, 2, none⟩ v2).setCell ⟨fb, 3, none⟩ v3).setCell ⟨fb, 4, none⟩ v4).setCell ⟨fb, 5, none⟩ v5).setCell ⟨fb, 6, none⟩ v6).setCell ⟨fb, 7, none⟩ v7).setCell ⟨fb, 8, none⟩ v8).setCell ⟨fb, 9, none⟩ v9) :=
  (((((st5_mods v0 v1 v2 v3 v4).setCell (p := ⟨fb, 5, none⟩) (.inl rfl) _).setCell (p := ⟨fb, 6, none⟩) (.inl rfl) _).setCell (p := ⟨fb, 7, none⟩) (.inl rfl) _).setCell (p := ⟨fb, 8, none⟩) (.inl rfl) _).setCell (p := ⟨fb, 9, none⟩) (.inl rfl) _
set_option maxHeartbeats 4000000 in
set_option maxRecDepth 100000 in
theorem readfile36 (br : Nat) (st : Pk.St) (w : World) (h : Pk.RAt br w st) (hs : st.s.length ≤ 140737488355328) (hb0 : 0 < br) (hT : TabR w) :
    Calls Tryd.prog 36 #[.pointer (some ⟨br, 0, none⟩)] w fun e w' => ∃ x : FsP, e = .returned (.agg (encFl x).toArray) ∧ x.fl = (rdFl st).1 ∧ FlO w.heap.size w' x ∧ Mods (· = br) w w' := by
  obtain ⟨i0, hi, hii⟩ : ∃ i, Tryd.prog.info? 69 = some i ∧ (i.size, i.bytes, i.zero.map (fun z => z.cells.size)) = (3, 40, some 3) := Option.map_eq_some_iff.1 (show (Tryd.prog.info? 69).map (fun i => (i.size, i.bytes, i.zero.map (fun z => z.cells.size))) = some (3, 40, some 3) by kernel_rfl)
  simp only [Prod.mk.injEq, Option.map_eq_some_iff] at hii
  obtain ⟨y1, y2, z, ez, y3⟩ := hii
  have hlt := rat_lt h
  have HT := Lib.hid hT
  have hE : Hid ((rdFl st).1 = ⟨(rdFc 40 200 st).1, (rdPo (rdFc 40 200 st).2).1.nu, (rdPo (rdFc 40 200 st).2).1.cl, (rdPo (rdFc 40 200 st).2).1.ty, (rdPo (rdFc 40 200 st).2).1.fd, (rdPo (rdFc 40 200 st).2).1.mt, (rdN rdBd (rdFc 40 200 st).1.ms.length (rdPo (rdFc 40 200 st).2).2).1⟩) := Lib.hid rfl
  have HNM : Hid ((rdFc 40 200 st).1.ms.length ≤ 200) := Lib.hid (by
    have hE' : (rdFc 40 200 st).1.ms = (rdMany (rdSg 40 200) 200 (rdMany (rdVr 40) 200 (rdS 40 (rdS 40 st).2).2).2).1 := rfl
    rw [hE']
    unfold rdMany
    rw [rdN_count]
    have := rMany_le (rdN (rdVr 40) (Pk.rMany (rdS 40 (rdS 40 st).2).2 200).1 (Pk.rMany (rdS 40 (rdS 40 st).2).2 200).2).2 200
    omega)
  have L1 := (cod_fc 40 200).len st
  have H1 : Hid (∀ w1, Pk.RAt br w1 st → Calls Tryd.prog 67 #[.pointer (some ⟨br, 0, none⟩)] w1 fun e w' => ∃ a n c a' n' c' ps, e = .returned (.agg #[.string (rdFc 40 200 st).1.name, .string (rdFc 40 200 st).1.sup, .slice a n c, .slice a' n' c']) ∧ Sl w' 3 VrR (rdFc 40 200 st).1.fs (.slice a n c) ∧ Sl w' 5 GpR ps (.slice a' n' c') ∧ ps.map Prod.fst = (rdFc 40 200 st).1.ms ∧ PsR w1.heap.size w' ps ∧ Own w1.heap.size w' 75 a ∧ Own w1.heap.size w' 63 a' ∧ Pk.RAt br w' (rdFc 40 200 st).2 ∧ Mods (· = br) w1 w') := Lib.hid (fun w1 h1 => read17o br st w1 h1 hs)
  generalize rdFc 40 200 st = r at *
  have L2 := bk_po.len r.2
  have H2 : Hid (∀ w1, Pk.RAt br w1 r.2 → Calls Tryd.prog 68 #[.pointer (some ⟨br, 0, none⟩)] w1 fun e w' => ∃ a1 n1 c1 a2 n2 c2 a3 n3 c3 a4 n4 c4 a5 n5 c5 ps, e = .returned (.agg #[.slice a1 n1 c1, .slice a2 n2 c2, .slice a3 n3 c3, .slice a4 n4 c4, .slice a5 n5 c5]) ∧ PoO w1.heap.size w' (rdPo r.2).1 ps a1 n1 c1 a2 n2 c2 a3 n3 c3 a4 n4 c4 a5 n5 c5 ∧ Pk.RAt br w' (rdPo r.2).2 ∧ Mods (· = br) w1 w') := Lib.hid (fun w1 h1 => pool68 br r.2 w1 h1 (by omega))
  generalize rdPo r.2 = q at *
  have HLN : Hid (∀ k, (rdN rdBd k q.2).2.s.length ≤ 140737488355328) := Lib.hid (fun k => by have := bk_len bk_bd k q.2; omega)
  obtain ⟨Z10, HZ10⟩ : ∃ l : List Value, Hid (l = [.string ⟨#[]⟩, .string ⟨#[]⟩, .slice none 0 0, .slice none 0 0, .slice none 0 0, .slice none 0 0, .slice none 0 0, .slice none 0 0, .slice none 0 0, .slice none 0 0]) := ⟨_, Lib.hid rfl⟩
  obtain ⟨w0, HW0⟩ : ∃ W, Hid (W = w.alloc (.cells #[.string ⟨#[]⟩, .string ⟨#[]⟩, .slice none 0 0, .slice none 0 0, .slice none 0 0, .slice none 0 0, .slice none 0 0, .slice none 0 0, .slice none 0 0, .slice none 0 0] 35)) := ⟨_, Lib.hid rfl⟩
  have R0 : Hid (Blk w0 w.heap.size Z10 35) := Lib.hid (by rw [HW0.out, HZ10.out]; exact Blk.new w _ 35)
  have hr0 : Pk.RAt br w0 st := by rw [HW0.out]; exact rat_al h _
  have HM0 : Hid (Mods (· = br) w w0) := Lib.hid (by rw [HW0.out]; exact mods_al w _)
  have hs0 : w0.heap.size = w.heap.size + 1 := by rw [HW0.out]; simp
  clear h L1 L2 hs hT
  go_enter Tryd.func36, Tryd.ntmps36
  go_upto_region 1 with fail
  rw [← HW0.out]
  clear HW0
  go_wp2_with fail
  refine (H1.out w0 hr0).mono ?_
  rintro e w1 ⟨a1, n1, c1, a2, n2, c2, sps, rfl, hS1, hS2, hmm, hPS, hO1, hO2, hr1, hm1⟩
  have hs1 := hm1.size
  have R1 := Lib.hid (R0.out.keep hm1 (by omega))
  have HM1 := Lib.hid (HM0.out.trans hm1 (fun _ _ e => e) (fun _ _ e => e))
  have F1 : Hid (FcO w.heap.size w1 r.1 sps a1 n1 c1 a2 n2 c2) := Lib.hid ((FcO.mk hS1 hS2 hmm hPS hO1 hO2).mono (by omega))
  have HN2 : Hid (n2 = r.1.ms.length) := Lib.hid (by have := hS2.at.1; rw [← hmm, List.length_map]; exact this)
  clear hS1 hS2 hmm hPS hO1 hO2 hm1 R0 HM0 H1
  go_wp2_with fail
  refine (H2.out w1 hr1).mono ?_
  rintro e w2 ⟨a3, n3, c3, a4, n4, c4, a5, n5, c5, a6, n6, c6, a7, n7, c7, mps, rfl, hpo, hr2, hm2⟩
  have hs2 := hm2.size
  have R2 := Lib.hid (R1.out.keep hm2 (by omega))
  have HM2 := Lib.hid (HM1.out.trans hm2 (fun _ _ e => e) (fun _ _ e => e))
  have F2 : Hid (FcO w.heap.size w2 r.1 sps a1 n1 c1 a2 n2 c2) := Lib.hid (F1.out.keep (Kb.rat hm2 hr1))
  have P2 : Hid (PoO w.heap.size w2 q.1 mps a3 n3 c3 a4 n4 c4 a5 n5 c5 a6 n6 c6 a7 n7 c7) := Lib.hid (hpo.mono (by omega))
  have hlt2 := rat_lt hr2
  clear hpo hm2 hr1 R1 HM1 H2 F1
  obtain ⟨FB, HFB⟩ : ∃ b, Hid (b = w2.heap.size) := ⟨_, Lib.hid rfl⟩
  obtain ⟨P9, HP9⟩ : ∃ l : List Value, Hid (l = [.string r.1.name, .string r.1.sup, .slice a1 n1 c1, .slice a2 n2 c2, .slice a3 n3 c3, .slice a4 n4 c4, .slice a5 n5 c5, .slice a6 n6 c6, .slice a7 n7 c7]) := ⟨_, Lib.hid rfl⟩
  have l9 : P9.length = 9 := by rw [HP9.out]; rfl
  obtain ⟨w3, HW3⟩ : ∃ W, Hid (W = w2.alloc (.cells #[.string r.1.name, .string r.1.sup, .slice a1 n1 c1, .slice a2 n2 c2, .slice a3 n3 c3, .slice a4 n4 c4, .slice a5 n5 c5, .slice a6 n6 c6, .slice a7 n7 c7, .slice none 0 0] 35)) := ⟨_, Lib.hid rfl⟩
  have B3 : Hid (Blk w3 FB (P9 ++ [.slice none 0 0]) 35) := Lib.hid (by rw [HW3.out, HFB.out, HP9.out]; exact Blk.new w2 _ 35)
  have R3 : Hid (Blk w3 w.heap.size Z10 35) := Lib.hid (by rw [HW3.out]; exact R2.out.below (below1 w2 _))
  have HM3 : Hid (Mods (· = br) w w3) := Lib.hid (by rw [HW3.out]; exact HM2.out.alloc _)
  have HR3 : Hid (Pk.RAt br w3 (rdN rdBd 0 q.2).2) := Lib.hid (by rw [HW3.out]; exact rat_al hr2 _)
  have HKB3 : Hid (Kb w.heap.size w2 w3) := Lib.hid (by rw [HW3.out]; exact Kf.kb (Kf.below (below1 w2 _)))
  have hFB : w.heap.size < FB := by rw [HFB.out]; omega
  have hFbr : br ≠ FB := by rw [HFB.out]; omega
  have p3 : w3.cell? ⟨FB, 3, none⟩ = some (.slice a2 n2 c2) := (B3.out.cell 3).trans (by rw [HP9.out]; rfl)
  go_upto_region 2 with fail
  rw [← HW3.out, ← HFB.out]
  clear HW3 HFB hr2 R2 HM2 hlt2
  go_wp2
  have hn : n2 ≤ 200 := by rw [HN2.out]; exact HNM.out
  go_loopw [13] (fun i wr => ∃ (k : Nat) (ps : List BpP) (va : Option Addr) (vm vc : Nat), k ≤ n2 ∧ i = .int .i64 k ∧ Hid (Blk wr FB (P9 ++ [.slice va vm vc]) 35) ∧ Hid (wr.ownsRow w.heap.size 69 3 (.slice va vm vc) k (ps.flatMap encQ)) ∧ Hid (ps.map Prod.fst = (rdN rdBd k q.2).1) ∧ Hid (PbR w.heap.size wr ps) ∧ Hid (Pk.RAt br wr (rdN rdBd k q.2).2) ∧ Hid (Blk wr w.heap.size Z10 35) ∧ Hid (Kb w.heap.size w2 wr) ∧ Mods (· = br) w wr) (fun i _ => n2 - (intOf i).toNat)
  case atStart => exact ⟨0, [], none, 0, 0, Nat.zero_le _, rfl, B3, Lib.hid (World.ownsRow_nil _ _ _ _), Lib.hid rfl, Lib.hid (by intro p hp; simp at hp), HR3, R3, HKB3, HM3.out⟩
  case round =>
    clear B3 R3 HM3 HR3 HKB3 p3
    obtain ⟨k, ps, va, vm, vc, hk, rfl, HB, HO, HPS, HPB, HR, HRES, HKB, hm⟩ := hrel
    have hsr := hm.size
    by_cases hkl : k < n2
    · have HP := Lib.hid (body69 br (rdN rdBd k q.2).2 wr.drew (show Pk.RAt br wr.drew _ from HR.out) (HLN.out k) hb0 (show TabR wr.drew from HT.out.mods hm.drew (by omega)))
      have HRD : Hid (Pk.RAt br wr.drew (rdN rdBd k q.2).2) := Lib.hid HR.out
      have HSN : Hid (rdN rdBd (k + 1) q.2 = ((rdN rdBd k q.2).1 ++ [(rdBd (rdN rdBd k q.2).2).1], (rdBd (rdN rdBd k q.2).2).2)) := Lib.hid rfl
      generalize rdN rdBd k q.2 = qk at *
      generalize rdBd qk.2 = x at *
      obtain ⟨x, st2⟩ := x
      dsimp only at HP HSN
      obtain ⟨ROW, HROW⟩ : ∃ r : List Value, Hid (r = ps.flatMap encQ) := ⟨_, Lib.hid rfl⟩
      rw [← HROW.out] at HO
      have HB0 : Hid (Blk wr.drew FB (P9 ++ [.slice va vm vc]) 35) := Lib.hid HB.out
      have p9 : wr.drew.cell? ⟨FB, 9, none⟩ = some (.slice va vm vc) := (HB0.out.cell 9).trans (by rw [List.getElem?_append_right (by omega), l9]; rfl)
      have HOD : Hid (wr.drew.ownsRow w.heap.size 69 3 (.slice va vm vc) k ROW) := Lib.hid HO.out
      have HKBD : Hid (Kb w.heap.size w2 wr.drew) := Lib.hid HKB.out
      have HPBD : Hid (PbR w.heap.size wr.drew ps) := Lib.hid HPB.out
      have HMD : Hid (Mods (· = br) w wr.drew) := Lib.hid hm.drew
      have HRESD : Hid (Blk wr.drew w.heap.size Z10 35) := Lib.hid HRES.out
      go_wp2_with fail
      refine wp_region_held_drew (S := fun _ => True) (by kernel_rfl) ?_ (fun hHeld => ?_)
      · trivial
      refine wpAnyH_take (i := 0) (v := ?_) rfl (by kernel_rfl) (by kernel_rfl) (by kernel_rfl) (fun _ _ _ h => h) (Or.inl ⟨by rfl, ?_⟩) (by assumption) ?_
      rotate_left
      focus (intro w hSw; skip; go_simp; first | done | with_reducible rfl)
      simp only [Act.put, List.getElem_toArray, List.getElem_cons_zero, List.setIfInBounds_toArray, List.set_cons_zero, List.set_cons_succ]
      refine wpAnyH_take (i := 2) (v := ?_) rfl (by kernel_rfl) (by kernel_rfl) (by kernel_rfl) (fun _ _ _ h => h) (Or.inl ⟨by rfl, ?_⟩) (by assumption) ?_
      rotate_left
      focus (intro w hSw; skip; go_simp; first | done | with_reducible rfl)
      simp only [Act.put, List.getElem_toArray, List.getElem_cons_zero, List.getElem_cons_succ, List.setIfInBounds_toArray, List.set_cons_zero, List.set_cons_succ]
      refine wpAnyH_ready (rs := [1, 3]) (by kernel_rfl) (by simp) ?_
      refine AllReadyH.cons (o := _) rfl (fun K hK => ?_) (AllReadyH.cons (o := _) rfl (fun K hK => ?_) AllReadyH.nil)
      · go_simp
        refine hK.out _ _ trivial (fun _ => ?_)
        clear hK K
        try simp only [Act.put, List.getElem_toArray, List.getElem_cons_zero, List.getElem_cons_succ, List.setIfInBounds_toArray, List.set_cons_zero, List.set_cons_succ]
        refine wpAnyH_ready (rs := [3]) (by kernel_rfl) (by simp) ?_
        refine AllReadyH.cons (o := _) rfl (fun K hK => ?_) AllReadyH.nil
        go_simp
        refine HP.out.mono ?_
        rintro e z1 ⟨a', n', c', rfl, hsl2, hown2, hr2, hm2⟩
        have hsz1 : wr.heap.size ≤ z1.heap.size := hm2.size
        have HB1 : Hid (Blk z1 FB (P9 ++ [.slice va vm vc]) 35) := Lib.hid (HB0.out.keep hm2 (by omega))
        have q9 : z1.cell? ⟨FB, 9, none⟩ = some (.slice va vm vc) := (HB1.out.cell 9).trans (by rw [List.getElem?_append_right (by omega), l9]; rfl)
        have HO1 : Hid (z1.ownsRow w.heap.size 69 3 (.slice va vm vc) k ROW) := Lib.hid (row_mods HOD.out hm2 (rat_no HRD.out 69 (by decide)))
        have HR1 := Lib.hid hr2
        have HSL := Lib.hid hsl2
        have HOW := Lib.hid hown2
        have HKB1 : Hid (Kb w.heap.size w2 z1) := Lib.hid (HKBD.out.trans (Kb.rat hm2 HRD.out))
        have HPB1 : Hid (PbR w.heap.size z1 ps) := Lib.hid (HPBD.out.mods hm2 (.inr (rat_no HRD.out 66 (by decide))))
        have HM1 : Hid (Mods (· = br) w z1) := Lib.hid (HMD.out.trans hm2 (fun _ _ e => e) (fun _ _ e => e))
        have HRES1 : Hid (Blk z1 w.heap.size Z10 35) := Lib.hid (HRESD.out.keep hm2 (by omega))
        clear hr2 hsl2 hown2 hm2
        go_simp
        refine hK.out _ _ trivial (fun _ => ?_)
        clear hK K
        try simp only [Act.put, List.getElem_toArray, List.getElem_cons_zero, List.getElem_cons_succ, List.setIfInBounds_toArray, List.set_cons_zero, List.set_cons_succ]
        refine wpAnyH_ready (rs := [4]) (by kernel_rfl) (by simp) ?_
        refine AllReadyH.cons (o := _) rfl (fun K hK => ?_) AllReadyH.nil
        go_simp
        obtain ⟨z2, HZ2⟩ : ∃ z, Hid (z = z1.alloc (.cells #[.int .i64 x.lo, .int .i64 x.st, .slice a' n' c'] 69)) := ⟨_, Lib.hid rfl⟩
        have HN : Hid (Blk z2 z1.heap.size [.int .i64 x.lo, .int .i64 x.st, .slice a' n' c'] 69) := Lib.hid (by rw [HZ2.out]; exact Blk.new z1 [.int .i64 x.lo, .int .i64 x.st, .slice a' n' c'] 69)
        have q9' : z2.cell? ⟨FB, 9, none⟩ = some (.slice va vm vc) := by rw [HZ2.out]; exact ((below1 z1 _).cell (World.block_lt_of_cell? _ _ q9)).trans q9
        rw [← HZ2.out]
        refine hK.out _ _ trivial (fun _ => ?_)
        clear hK K
        try simp only [Act.put, List.getElem_toArray, List.getElem_cons_zero, List.getElem_cons_succ, List.setIfInBounds_toArray, List.set_cons_zero, List.set_cons_succ]
        refine wpAnyH_ready (rs := [5]) (by kernel_rfl) (by simp) ?_
        refine AllReadyH.cons (o := _) rfl (fun K hK => ?_) AllReadyH.nil
        refine step_append_lies _ rfl (.tmp 16) (.tmp 19) 33 rfl w.heap.size 69 i0 z 3 40 Tryd.underlying33 hi ez y1 y2 y3 (by decide) _ _ _ rfl (row_below HO1.out (show Below z1.heap.size z1 z2 by rw [HZ2.out]; exact below1 z1 _)) ⟨z1.heap.size, 0, none⟩ 1 1 [.int .i64 x.lo, .int .i64 x.st, .slice a' n' c'] rfl rfl (fun j u hu => by rw [add_pl, Nat.zero_add]; exact (HN.out.cell j).trans hu) (by simp [Value.oneCell']) (by omega) (by unfold maxLen; omega) (by omega) (by rw [HZ2.out]; simp; omega) _ rfl ?_
        intro g cap z5 hown5 hgrow5 hat5 hlt5
        rw [HZ2.out] at hgrow5
        have hsz5 := hgrow5.size
        simp at hsz5
        have HB5 : Hid (Blk z5 FB (P9 ++ [.slice va vm vc]) 35) := Lib.hid (blk_rowgrown HB1.out (by decide) HO1.out hgrow5)
        have HRES5 : Hid (Blk z5 w.heap.size Z10 35) := Lib.hid (blk_rowgrown HRES1.out (by decide) HO1.out hgrow5)
        have HKB5 : Hid (Kb w.heap.size w2 z5) := Lib.hid (HKB1.out.trans (Kb.grown HO1.out hgrow5))
        have HM5 : Hid (Mods (· = br) w z5) := Lib.hid (mods_grown HM1.out HO1.out hgrow5 (Nat.le_refl _))
        have HR5 := Lib.hid (rat_grown HR1.out HO1.out hgrow5 hlt)
        have HPB5 : Hid (PbR w.heap.size z5 (ps ++ [((x, a', n', c') : BpP)])) := Lib.hid (PbR.grown (PbR.snoc HPB1.out (p := (x, a', n', c')) HSL.out (own_mono HOW.out hsr)) HO1.out hgrow5)
        have f9 := HB5.out.frozen 9
        have g9 : z5.cell? ⟨FB, 9, none⟩ = some (.slice va vm vc) := (HB5.out.cell 9).trans (by rw [List.getElem?_append_right (by omega), l9]; rfl)
        have HO5 := Lib.hid hown5
        clear hown5 hgrow5 hat5 hlt5
        refine hK.out _ _ trivial (fun _ => ?_)
        clear hK K
        try simp only [Act.put, List.getElem_toArray, List.getElem_cons_zero, List.getElem_cons_succ, List.setIfInBounds_toArray, List.set_cons_zero, List.set_cons_succ]
        refine wpAnyH_take (i := 6) (v := ?_) rfl (by kernel_rfl) (by kernel_rfl) (by kernel_rfl) (fun _ _ _ h => h) (Or.inl ⟨by rfl, ?_⟩) (by assumption) ?_
        rotate_left
        focus (intro w hSw; skip; go_simp; first | done | with_reducible rfl)
        simp only [Act.put, List.getElem_toArray, List.getElem_cons_zero, List.getElem_cons_succ, List.setIfInBounds_toArray, List.set_cons_zero, List.set_cons_succ]
        refine wpAnyH_ready (rs := [7]) (by kernel_rfl) (by simp) ?_
        refine AllReadyH.cons (o := _) rfl (fun K hK => ?_) AllReadyH.nil
        go_simp
        refine hK.out _ _ trivial (fun _ => ?_)
        clear hK K
        try simp only [Act.put, List.getElem_toArray, List.getElem_cons_zero, List.getElem_cons_succ, List.setIfInBounds_toArray, List.set_cons_zero, List.set_cons_succ]
        refine wpAnyH_done (by kernel_rfl) ?_ _
        obtain ⟨z6, HZ6⟩ : ∃ z, Hid (z = z5.setCell ⟨FB, 9, none⟩ (.slice (some ⟨g, 0, none⟩) (k + 1) cap)) := ⟨_, Lib.hid rfl⟩
        have M : Mods (· = FB) z5 z6 := by rw [HZ6.out]; exact st1_mods _
        have HBF : Hid (Blk z6 FB (P9 ++ [.slice (some ⟨g, 0, none⟩) (k + 1) cap]) 35) := Lib.hid (by rw [HZ6.out]; have := HB5.out.set 9 (.slice (some ⟨g, 0, none⟩) (k + 1) cap); rw [set9 l9] at this; exact this)
        have HOF : Hid (z6.ownsRow w.heap.size 69 3 (.slice (some ⟨g, 0, none⟩) (k + 1) cap) (k + 1) ((ps ++ [((x, a', n', c') : BpP)]).flatMap encQ)) := Lib.hid (by rw [List.flatMap_append, List.flatMap_singleton, ← HROW.out]; exact row_mods HO5.out M (blk_no HB5.out (by decide)))
        have HRESF : Hid (Blk z6 w.heap.size Z10 35) := Lib.hid (HRES5.out.keep M (by omega))
        have HKBF : Hid (Kb w.heap.size w2 z6) := Lib.hid (HKB5.out.trans (Kb.mods M (fun cur e _ _ a3 => blk_no HB5.out (fun h => a3 h.symm) cur)))
        have HMF : Hid (Mods (· = br) w z6) := Lib.hid (mods_more HM5.out M (by omega))
        have HRF : Hid (Pk.RAt br z6 (rdN rdBd (k + 1) q.2).2) := Lib.hid (by rw [HSN.out]; exact rat_keep HR5.out M (by omega))
        have HPBF : Hid (PbR w.heap.size z6 (ps ++ [((x, a', n', c') : BpP)])) := Lib.hid (HPB5.out.mods M (.inr (blk_no HB5.out (by decide))))
        have HPS5 : Hid ((ps ++ [((x, a', n', c') : BpP)]).map Prod.fst = (rdN rdBd (k + 1) q.2).1) := Lib.hid (by rw [HSN.out, List.map_append, HPS.out]; rfl)
        rw [← HZ6.out]
        clear M HZ6 HB5 HO5 HRES5 HKB5 HM5 HR5 HPB5 f9 g9 HN HZ2 q9' q9 HB1 HO1 HR1 HSL HOW HKB1 HPB1 HM1 HRES1 HP HSN HB0 HOD HRD HKBD HPBD HMD HRESD p9 HB HO HPS HPB HR HKB hm HRES
        go_wp2
        go_roundw
        case rel => exact ⟨k + 1, _, some ⟨g, 0, none⟩, k + 1, cap, by omega, by go_num, HBF, HOF, HPS5, HPBF, HRF, HRESF, HKBF, HMF.out⟩
        case measure => simp [intOf]; omega
      · go_simp
        refine HP.out.mono ?_
        rintro e z1 ⟨a', n', c', rfl, hsl2, hown2, hr2, hm2⟩
        have hsz1 : wr.heap.size ≤ z1.heap.size := hm2.size
        have HB1 : Hid (Blk z1 FB (P9 ++ [.slice va vm vc]) 35) := Lib.hid (HB0.out.keep hm2 (by omega))
        have q9 : z1.cell? ⟨FB, 9, none⟩ = some (.slice va vm vc) := (HB1.out.cell 9).trans (by rw [List.getElem?_append_right (by omega), l9]; rfl)
        have HO1 : Hid (z1.ownsRow w.heap.size 69 3 (.slice va vm vc) k ROW) := Lib.hid (row_mods HOD.out hm2 (rat_no HRD.out 69 (by decide)))
        have HR1 := Lib.hid hr2
        have HSL := Lib.hid hsl2
        have HOW := Lib.hid hown2
        have HKB1 : Hid (Kb w.heap.size w2 z1) := Lib.hid (HKBD.out.trans (Kb.rat hm2 HRD.out))
        have HPB1 : Hid (PbR w.heap.size z1 ps) := Lib.hid (HPBD.out.mods hm2 (.inr (rat_no HRD.out 66 (by decide))))
        have HM1 : Hid (Mods (· = br) w z1) := Lib.hid (HMD.out.trans hm2 (fun _ _ e => e) (fun _ _ e => e))
        have HRES1 : Hid (Blk z1 w.heap.size Z10 35) := Lib.hid (HRESD.out.keep hm2 (by omega))
        clear hr2 hsl2 hown2 hm2
        go_simp
        refine hK.out _ _ trivial (fun _ => ?_)
        clear hK K
        try simp only [Act.put, List.getElem_toArray, List.getElem_cons_zero, List.getElem_cons_succ, List.setIfInBounds_toArray, List.set_cons_zero, List.set_cons_succ]
        refine wpAnyH_ready (rs := [1, 4]) (by kernel_rfl) (by simp) ?_
        refine AllReadyH.cons (o := _) rfl (fun K hK => ?_) (AllReadyH.cons (o := _) rfl (fun K hK => ?_) AllReadyH.nil)
        · go_simp
          refine hK.out _ _ trivial (fun _ => ?_)
          clear hK K
          try simp only [Act.put, List.getElem_toArray, List.getElem_cons_zero, List.getElem_cons_succ, List.setIfInBounds_toArray, List.set_cons_zero, List.set_cons_succ]
          refine wpAnyH_ready (rs := [4]) (by kernel_rfl) (by simp) ?_
          refine AllReadyH.cons (o := _) rfl (fun K hK => ?_) AllReadyH.nil
          go_simp
          obtain ⟨z2, HZ2⟩ : ∃ z, Hid (z = z1.alloc (.cells #[.int .i64 x.lo, .int .i64 x.st, .slice a' n' c'] 69)) := ⟨_, Lib.hid rfl⟩
          have HN : Hid (Blk z2 z1.heap.size [.int .i64 x.lo, .int .i64 x.st, .slice a' n' c'] 69) := Lib.hid (by rw [HZ2.out]; exact Blk.new z1 [.int .i64 x.lo, .int .i64 x.st, .slice a' n' c'] 69)
          have q9' : z2.cell? ⟨FB, 9, none⟩ = some (.slice va vm vc) := by rw [HZ2.out]; exact ((below1 z1 _).cell (World.block_lt_of_cell? _ _ q9)).trans q9
          rw [← HZ2.out]
          refine hK.out _ _ trivial (fun _ => ?_)
          clear hK K
          try simp only [Act.put, List.getElem_toArray, List.getElem_cons_zero, List.getElem_cons_succ, List.setIfInBounds_toArray, List.set_cons_zero, List.set_cons_succ]
          refine wpAnyH_ready (rs := [5]) (by kernel_rfl) (by simp) ?_
          refine AllReadyH.cons (o := _) rfl (fun K hK => ?_) AllReadyH.nil
          refine step_append_lies _ rfl (.tmp 16) (.tmp 19) 33 rfl w.heap.size 69 i0 z 3 40 Tryd.underlying33 hi ez y1 y2 y3 (by decide) _ _ _ rfl (row_below HO1.out (show Below z1.heap.size z1 z2 by rw [HZ2.out]; exact below1 z1 _)) ⟨z1.heap.size, 0, none⟩ 1 1 [.int .i64 x.lo, .int .i64 x.st, .slice a' n' c'] rfl rfl (fun j u hu => by rw [add_pl, Nat.zero_add]; exact (HN.out.cell j).trans hu) (by simp [Value.oneCell']) (by omega) (by unfold maxLen; omega) (by omega) (by rw [HZ2.out]; simp; omega) _ rfl ?_
          intro g cap z5 hown5 hgrow5 hat5 hlt5
          rw [HZ2.out] at hgrow5
          have hsz5 := hgrow5.size
          simp at hsz5
          have HB5 : Hid (Blk z5 FB (P9 ++ [.slice va vm vc]) 35) := Lib.hid (blk_rowgrown HB1.out (by decide) HO1.out hgrow5)
          have HRES5 : Hid (Blk z5 w.heap.size Z10 35) := Lib.hid (blk_rowgrown HRES1.out (by decide) HO1.out hgrow5)
          have HKB5 : Hid (Kb w.heap.size w2 z5) := Lib.hid (HKB1.out.trans (Kb.grown HO1.out hgrow5))
          have HM5 : Hid (Mods (· = br) w z5) := Lib.hid (mods_grown HM1.out HO1.out hgrow5 (Nat.le_refl _))
          have HR5 := Lib.hid (rat_grown HR1.out HO1.out hgrow5 hlt)
          have HPB5 : Hid (PbR w.heap.size z5 (ps ++ [((x, a', n', c') : BpP)])) := Lib.hid (PbR.grown (PbR.snoc HPB1.out (p := (x, a', n', c')) HSL.out (own_mono HOW.out hsr)) HO1.out hgrow5)
          have f9 := HB5.out.frozen 9
          have g9 : z5.cell? ⟨FB, 9, none⟩ = some (.slice va vm vc) := (HB5.out.cell 9).trans (by rw [List.getElem?_append_right (by omega), l9]; rfl)
          have HO5 := Lib.hid hown5
          clear hown5 hgrow5 hat5 hlt5
          refine hK.out _ _ trivial (fun _ => ?_)
          clear hK K
          try simp only [Act.put, List.getElem_toArray, List.getElem_cons_zero, List.getElem_cons_succ, List.setIfInBounds_toArray, List.set_cons_zero, List.set_cons_succ]
          refine wpAnyH_take (i := 6) (v := ?_) rfl (by kernel_rfl) (by kernel_rfl) (by kernel_rfl) (fun _ _ _ h => h) (Or.inl ⟨by rfl, ?_⟩) (by assumption) ?_
          rotate_left
          focus (intro w hSw; skip; go_simp; first | done | with_reducible rfl)
          simp only [Act.put, List.getElem_toArray, List.getElem_cons_zero, List.getElem_cons_succ, List.setIfInBounds_toArray, List.set_cons_zero, List.set_cons_succ]
          refine wpAnyH_ready (rs := [7]) (by kernel_rfl) (by simp) ?_
          refine AllReadyH.cons (o := _) rfl (fun K hK => ?_) AllReadyH.nil
          go_simp
          refine hK.out _ _ trivial (fun _ => ?_)
          clear hK K
          try simp only [Act.put, List.getElem_toArray, List.getElem_cons_zero, List.getElem_cons_succ, List.setIfInBounds_toArray, List.set_cons_zero, List.set_cons_succ]
          refine wpAnyH_done (by kernel_rfl) ?_ _
          obtain ⟨z6, HZ6⟩ : ∃ z, Hid (z = z5.setCell ⟨FB, 9, none⟩ (.slice (some ⟨g, 0, none⟩) (k + 1) cap)) := ⟨_, Lib.hid rfl⟩
          have M : Mods (· = FB) z5 z6 := by rw [HZ6.out]; exact st1_mods _
          have HBF : Hid (Blk z6 FB (P9 ++ [.slice (some ⟨g, 0, none⟩) (k + 1) cap]) 35) := Lib.hid (by rw [HZ6.out]; have := HB5.out.set 9 (.slice (some ⟨g, 0, none⟩) (k + 1) cap); rw [set9 l9] at this; exact this)
          have HOF : Hid (z6.ownsRow w.heap.size 69 3 (.slice (some ⟨g, 0, none⟩) (k + 1) cap) (k + 1) ((ps ++ [((x, a', n', c') : BpP)]).flatMap encQ)) := Lib.hid (by rw [List.flatMap_append, List.flatMap_singleton, ← HROW.out]; exact row_mods HO5.out M (blk_no HB5.out (by decide)))
          have HRESF : Hid (Blk z6 w.heap.size Z10 35) := Lib.hid (HRES5.out.keep M (by omega))
          have HKBF : Hid (Kb w.heap.size w2 z6) := Lib.hid (HKB5.out.trans (Kb.mods M (fun cur e _ _ a3 => blk_no HB5.out (fun h => a3 h.symm) cur)))
          have HMF : Hid (Mods (· = br) w z6) := Lib.hid (mods_more HM5.out M (by omega))
          have HRF : Hid (Pk.RAt br z6 (rdN rdBd (k + 1) q.2).2) := Lib.hid (by rw [HSN.out]; exact rat_keep HR5.out M (by omega))
          have HPBF : Hid (PbR w.heap.size z6 (ps ++ [((x, a', n', c') : BpP)])) := Lib.hid (HPB5.out.mods M (.inr (blk_no HB5.out (by decide))))
          have HPS5 : Hid ((ps ++ [((x, a', n', c') : BpP)]).map Prod.fst = (rdN rdBd (k + 1) q.2).1) := Lib.hid (by rw [HSN.out, List.map_append, HPS.out]; rfl)
          rw [← HZ6.out]
          clear M HZ6 HB5 HO5 HRES5 HKB5 HM5 HR5 HPB5 f9 g9 HN HZ2 q9' q9 HB1 HO1 HR1 HSL HOW HKB1 HPB1 HM1 HRES1 HP HSN HB0 HOD HRD HKBD HPBD HMD HRESD p9 HB HO HPS HPB HR HKB hm HRES
          go_wp2
          go_roundw
          case rel => exact ⟨k + 1, _, some ⟨g, 0, none⟩, k + 1, cap, by omega, by go_num, HBF, HOF, HPS5, HPBF, HRF, HRESF, HKBF, HMF.out⟩
          case measure => simp [intOf]; omega
        · go_simp
          obtain ⟨z2, HZ2⟩ : ∃ z, Hid (z = z1.alloc (.cells #[.int .i64 x.lo, .int .i64 x.st, .slice a' n' c'] 69)) := ⟨_, Lib.hid rfl⟩
          have HN : Hid (Blk z2 z1.heap.size [.int .i64 x.lo, .int .i64 x.st, .slice a' n' c'] 69) := Lib.hid (by rw [HZ2.out]; exact Blk.new z1 [.int .i64 x.lo, .int .i64 x.st, .slice a' n' c'] 69)
          have q9' : z2.cell? ⟨FB, 9, none⟩ = some (.slice va vm vc) := by rw [HZ2.out]; exact ((below1 z1 _).cell (World.block_lt_of_cell? _ _ q9)).trans q9
          rw [← HZ2.out]
          refine hK.out _ _ trivial (fun _ => ?_)
          clear hK K
          try simp only [Act.put, List.getElem_toArray, List.getElem_cons_zero, List.getElem_cons_succ, List.setIfInBounds_toArray, List.set_cons_zero, List.set_cons_succ]
          refine wpAnyH_ready (rs := [1]) (by kernel_rfl) (by simp) ?_
          refine AllReadyH.cons (o := _) rfl (fun K hK => ?_) AllReadyH.nil
          go_simp
          refine hK.out _ _ trivial (fun _ => ?_)
          clear hK K
          try simp only [Act.put, List.getElem_toArray, List.getElem_cons_zero, List.getElem_cons_succ, List.setIfInBounds_toArray, List.set_cons_zero, List.set_cons_succ]
          refine wpAnyH_ready (rs := [5]) (by kernel_rfl) (by simp) ?_
          refine AllReadyH.cons (o := _) rfl (fun K hK => ?_) AllReadyH.nil
          refine step_append_lies _ rfl (.tmp 16) (.tmp 19) 33 rfl w.heap.size 69 i0 z 3 40 Tryd.underlying33 hi ez y1 y2 y3 (by decide) _ _ _ rfl (row_below HO1.out (show Below z1.heap.size z1 z2 by rw [HZ2.out]; exact below1 z1 _)) ⟨z1.heap.size, 0, none⟩ 1 1 [.int .i64 x.lo, .int .i64 x.st, .slice a' n' c'] rfl rfl (fun j u hu => by rw [add_pl, Nat.zero_add]; exact (HN.out.cell j).trans hu) (by simp [Value.oneCell']) (by omega) (by unfold maxLen; omega) (by omega) (by rw [HZ2.out]; simp; omega) _ rfl ?_
          intro g cap z5 hown5 hgrow5 hat5 hlt5
          rw [HZ2.out] at hgrow5
          have hsz5 := hgrow5.size
          simp at hsz5
          have HB5 : Hid (Blk z5 FB (P9 ++ [.slice va vm vc]) 35) := Lib.hid (blk_rowgrown HB1.out (by decide) HO1.out hgrow5)
          have HRES5 : Hid (Blk z5 w.heap.size Z10 35) := Lib.hid (blk_rowgrown HRES1.out (by decide) HO1.out hgrow5)
          have HKB5 : Hid (Kb w.heap.size w2 z5) := Lib.hid (HKB1.out.trans (Kb.grown HO1.out hgrow5))
          have HM5 : Hid (Mods (· = br) w z5) := Lib.hid (mods_grown HM1.out HO1.out hgrow5 (Nat.le_refl _))
          have HR5 := Lib.hid (rat_grown HR1.out HO1.out hgrow5 hlt)
          have HPB5 : Hid (PbR w.heap.size z5 (ps ++ [((x, a', n', c') : BpP)])) := Lib.hid (PbR.grown (PbR.snoc HPB1.out (p := (x, a', n', c')) HSL.out (own_mono HOW.out hsr)) HO1.out hgrow5)
          have f9 := HB5.out.frozen 9
          have g9 : z5.cell? ⟨FB, 9, none⟩ = some (.slice va vm vc) := (HB5.out.cell 9).trans (by rw [List.getElem?_append_right (by omega), l9]; rfl)
          have HO5 := Lib.hid hown5
          clear hown5 hgrow5 hat5 hlt5
          refine hK.out _ _ trivial (fun _ => ?_)
          clear hK K
          try simp only [Act.put, List.getElem_toArray, List.getElem_cons_zero, List.getElem_cons_succ, List.setIfInBounds_toArray, List.set_cons_zero, List.set_cons_succ]
          refine wpAnyH_take (i := 6) (v := ?_) rfl (by kernel_rfl) (by kernel_rfl) (by kernel_rfl) (fun _ _ _ h => h) (Or.inl ⟨by rfl, ?_⟩) (by assumption) ?_
          rotate_left
          focus (intro w hSw; skip; go_simp; first | done | with_reducible rfl)
          simp only [Act.put, List.getElem_toArray, List.getElem_cons_zero, List.getElem_cons_succ, List.setIfInBounds_toArray, List.set_cons_zero, List.set_cons_succ]
          refine wpAnyH_ready (rs := [7]) (by kernel_rfl) (by simp) ?_
          refine AllReadyH.cons (o := _) rfl (fun K hK => ?_) AllReadyH.nil
          go_simp
          refine hK.out _ _ trivial (fun _ => ?_)
          clear hK K
          try simp only [Act.put, List.getElem_toArray, List.getElem_cons_zero, List.getElem_cons_succ, List.setIfInBounds_toArray, List.set_cons_zero, List.set_cons_succ]
          refine wpAnyH_done (by kernel_rfl) ?_ _
          obtain ⟨z6, HZ6⟩ : ∃ z, Hid (z = z5.setCell ⟨FB, 9, none⟩ (.slice (some ⟨g, 0, none⟩) (k + 1) cap)) := ⟨_, Lib.hid rfl⟩
          have M : Mods (· = FB) z5 z6 := by rw [HZ6.out]; exact st1_mods _
          have HBF : Hid (Blk z6 FB (P9 ++ [.slice (some ⟨g, 0, none⟩) (k + 1) cap]) 35) := Lib.hid (by rw [HZ6.out]; have := HB5.out.set 9 (.slice (some ⟨g, 0, none⟩) (k + 1) cap); rw [set9 l9] at this; exact this)
          have HOF : Hid (z6.ownsRow w.heap.size 69 3 (.slice (some ⟨g, 0, none⟩) (k + 1) cap) (k + 1) ((ps ++ [((x, a', n', c') : BpP)]).flatMap encQ)) := Lib.hid (by rw [List.flatMap_append, List.flatMap_singleton, ← HROW.out]; exact row_mods HO5.out M (blk_no HB5.out (by decide)))
          have HRESF : Hid (Blk z6 w.heap.size Z10 35) := Lib.hid (HRES5.out.keep M (by omega))
          have HKBF : Hid (Kb w.heap.size w2 z6) := Lib.hid (HKB5.out.trans (Kb.mods M (fun cur e _ _ a3 => blk_no HB5.out (fun h => a3 h.symm) cur)))
          have HMF : Hid (Mods (· = br) w z6) := Lib.hid (mods_more HM5.out M (by omega))
          have HRF : Hid (Pk.RAt br z6 (rdN rdBd (k + 1) q.2).2) := Lib.hid (by rw [HSN.out]; exact rat_keep HR5.out M (by omega))
          have HPBF : Hid (PbR w.heap.size z6 (ps ++ [((x, a', n', c') : BpP)])) := Lib.hid (HPB5.out.mods M (.inr (blk_no HB5.out (by decide))))
          have HPS5 : Hid ((ps ++ [((x, a', n', c') : BpP)]).map Prod.fst = (rdN rdBd (k + 1) q.2).1) := Lib.hid (by rw [HSN.out, List.map_append, HPS.out]; rfl)
          rw [← HZ6.out]
          clear M HZ6 HB5 HO5 HRES5 HKB5 HM5 HR5 HPB5 f9 g9 HN HZ2 q9' q9 HB1 HO1 HR1 HSL HOW HKB1 HPB1 HM1 HRES1 HP HSN HB0 HOD HRD HKBD HPBD HMD HRESD p9 HB HO HPS HPB HR HKB hm HRES
          go_wp2
          go_roundw
          case rel => exact ⟨k + 1, _, some ⟨g, 0, none⟩, k + 1, cap, by omega, by go_num, HBF, HOF, HPS5, HPBF, HRF, HRESF, HKBF, HMF.out⟩
          case measure => simp [intOf]; omega

    · obtain rfl : k = n2 := by omega
      have hpl : ps.length = k := by have := congrArg List.length HPS.out; rw [List.length_map, rdN_count] at this; exact this
      obtain ⟨a0, c0, e1, hsl, hown⟩ := row_sl (enc := encQ) (fun _ => rfl) hpl HO.out
      cases e1
      have HSL := Lib.hid hsl
      have HOW := Lib.hid hown
      clear hsl hown HO hpl
      have BB := HB.out
      rw [HP9.out] at BB
      have RR := HRES.out
      rw [HZ10.out] at RR
      have b0 := BB.cell 0
      have b1 := BB.cell 1
      have b2 := BB.cell 2
      have b3 := BB.cell 3
      have b4 := BB.cell 4
      have b5 := BB.cell 5
      have b6 := BB.cell 6
      have b7 := BB.cell 7
      have b8 := BB.cell 8
      have b9 := BB.cell 9
      simp only [List.cons_append, List.nil_append, List.getElem?_cons_succ, List.getElem?_cons_zero] at b0 b1 b2 b3 b4 b5 b6 b7 b8 b9
      have s0 := RR.frozen 0
      have t0 := RR.cell 0
      have s1 := RR.frozen 1
      have t1 := RR.cell 1
      have s2 := RR.frozen 2
      have t2 := RR.cell 2
      have s3 := RR.frozen 3
      have t3 := RR.cell 3
      have s4 := RR.frozen 4
      have t4 := RR.cell 4
      have s5 := RR.frozen 5
      have t5 := RR.cell 5
      have s6 := RR.frozen 6
      have t6 := RR.cell 6
      have s7 := RR.frozen 7
      have t7 := RR.cell 7
      have s8 := RR.frozen 8
      have t8 := RR.cell 8
      have s9 := RR.frozen 9
      have t9 := RR.cell 9
      simp only [List.getElem?_cons_succ, List.getElem?_cons_zero] at t0 t1 t2 t3 t4 t5 t6 t7 t8 t9
      have M := st10_mods (w := wr) (fb := w.heap.size) (.string r.1.name) (.string r.1.sup) (.slice a1 n1 c1) (.slice a2 k c2) (.slice a3 n3 c3) (.slice a4 n4 c4) (.slice a5 n5 c5) (.slice a6 n6 c6) (.slice a7 n7 c7) (.slice va k vc)
      have ZZ := ((((((((((RR.set 0 (.string r.1.name)).set 1 (.string r.1.sup)).set 2 (.slice a1 n1 c1)).set 3 (.slice a2 k c2)).set 4 (.slice a3 n3 c3)).set 5 (.slice a4 n4 c4)).set 6 (.slice a5 n5 c5)).set 7 (.slice a6 n6 c6)).set 8 (.slice a7 n7 c7)).set 9 (.slice va k vc))
      have z0 := ZZ.cell 0
      have z1 := ZZ.cell 1
      have z2 := ZZ.cell 2
      have z3 := ZZ.cell 3
      have z4 := ZZ.cell 4
      have z5 := ZZ.cell 5
      have z6 := ZZ.cell 6
      have z7 := ZZ.cell 7
      have z8 := ZZ.cell 8
      have z9 := ZZ.cell 9
      simp only [List.set_cons_zero, List.set_cons_succ, List.getElem?_cons_succ, List.getElem?_cons_zero] at z0 z1 z2 z3 z4 z5 z6 z7 z8 z9
      have HKF : Kb w.heap.size w2 _ := HKB.out.trans (Kb.mods M (fun cur e _ _ a3 => blk_no RR (fun h => a3 h.symm) cur))
      have kk := HSL.out.kept HOW.out (fun b cur hb hc => M.block b (lt_of_block hc) (fun e => by subst e; exact blk_no RR (by decide) cur hc))
      have hmF := mods_more hm M (Nat.le_refl _)
      have HFO : Hid (FlO w.heap.size _ ⟨(rdFl st).1, (a1, n1, c1), (a2, k, c2), (a3, n3, c3), (a4, n4, c4), (a5, n5, c5), (a6, n6, c6), (a7, n7, c7), (va, k, vc)⟩) := Lib.hid (by
        rw [hE.out]
        exact ⟨sps, mps, ps, F2.out.keep HKF, P2.out.keep HKF, kk.1, by rw [HPS.out, HN2.out], HPB.out.mods M (.inr (blk_no RR (by decide))), kk.2⟩)
      have HMF := Lib.hid hmF
      clear HKF kk hmF M ZZ BB RR
      go_wp2
      refine bodyPost_ret (v := .agg #[.string r.1.name, .string r.1.sup, .slice a1 n1 c1, .slice a2 k c2, .slice a3 n3 c3, .slice a4 n4 c4, .slice a5 n5 c5, .slice a6 n6 c6, .slice a7 n7 c7, .slice va k vc]) (by simp [results, Tryd.results36, go_sem, z0, z1, z2, z3, z4, z5, z6, z7, z8, z9]) rfl ?_
      exact ⟨⟨(rdFl st).1, (a1, n1, c1), (a2, k, c2), (a3, n3, c3), (a4, n4, c4), (a5, n5, c5), (a6, n6, c6), (a7, n7, c7), (va, k, vc)⟩, by rw [encFl, hE.out], rfl, HFO.out, HMF.out⟩
end Go.Proofs.YtomlbfkkhhhfkaaDoor.Fc
