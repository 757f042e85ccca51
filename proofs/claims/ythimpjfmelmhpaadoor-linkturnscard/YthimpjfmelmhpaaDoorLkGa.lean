/-
  Files gathered by their names.
-/
import Derived.Test.YthimpjfmelmhpaaDoorLkG
import Derived.Test.YthimpjfmelmhpaaDoorFcNew
namespace Go.Proofs.YthimpjfmelmhpaaDoor.Fc
open Go.RowKit
set_option linter.unusedVariables false
set_option linter.unusedSimpArgs false

def GPost (fs : List Fl) (w : World) (e : Ending) (w' : World) : Prop :=
  (gat [] fs ≠ 0 ∧ e = .returned (.tuple #[.pointer none, .int .i64 (gat [] fs)]) ∧ Below w.heap.size w w') ∨
  (gat [] fs = 0 ∧ ∃ (i : ImS) (sv : Value), i.W0 = w ∧ i.fs = fs ∧ e = .returned (.tuple #[.pointer (some ⟨i.im, 0, none⟩), .int .i64 0]) ∧ Im i sv 0 w')
theorem gat_cons (ns : List ByteArray) (f : Fl) (r : List Fl) : (¬ RightF f → gat ns (f :: r) = 2) ∧ (RightF f → f.fc.name ∈ ns → gat ns (f :: r) = 6) ∧ (RightF f → f.fc.name ∉ ns → gat ns (f :: r) = gat (ns ++ [f.fc.name]) r) := by
  refine ⟨fun h => ?_, fun h h2 => ?_, fun h h2 => ?_⟩
  · rw [gat, if_pos h]
  · rw [gat, if_neg (by simpa using h), if_pos h2]
  · rw [gat, if_neg (by simpa using h), if_neg h2]
theorem take_names (fs : List Fl) (k : Nat) (x : Fl) (hx : fs[k]? = some x) : (fs.take (k + 1)).map (fun f => f.fc.name) = (fs.take k).map (fun f => f.fc.name) ++ [x.fc.name] := by
  obtain ⟨h, rfl⟩ := List.getElem?_eq_some_iff.1 hx
  rw [List.take_succ_eq_append_getElem h, List.map_append]
  rfl
theorem gs_zero {w1 : World} {fa : Option Addr} {fcp : Nat} {fs : List Fl} {C : Nat → List Value} : GS w1 fa fcp fs C 0 0 (.slice none 0 0) ((w1.alloc (.map #[] 0)).alloc (.cells #[.pointer none, .slice fa fs.length fcp, .map (some w1.heap.size)] 65)) := by
  refine ⟨⟨_, (MAt.made w1).keep (fp := fun _ => False) (Mods.of_below (below1 _ _)) id, fun s => by simp [plc]⟩, ?_, ⟨by simp [flat], .inl ⟨rfl, rfl⟩⟩, below2 w1 _ _, by simp⟩
  have := Blk.new (w1.alloc (.map #[] 0)) [.pointer none, .slice fa fs.length fcp, .map (some w1.heap.size)] 65
  simpa using this
set_option maxHeartbeats 4000000 in
set_option maxRecDepth 100000 in
theorem gather22 (fs : List Fl) (a : Option Addr) (n cp : Nat) (w : World) (h : Sl w 10 (FlR w) fs (.slice a n cp)) (hn : n ≤ 300) (hT : TabR w) (hsm : ∀ f ∈ fs, Small f.fc) :
    Calls Tryd.prog 22 #[.slice a n cp] w (GPost fs w) := by
  have HCL := Lib.hid (cloneF_any fs w a n cp h (by omega))
  obtain ⟨hnn, hl, hcp, _⟩ := h.at
  unfold maxLen at hcp
  obtain ⟨D, hD⟩ := h.rows
  have HD := Lib.hid hD
  have HN := Lib.hid hnn
  have HTB := Lib.hid hT
  have HSM := Lib.hid hsm
  obtain ⟨C, hC⟩ : ∃ C : Nat → List Value, ∀ i, C i = (D i).take 4 := ⟨fun i => (D i).take 4, fun _ => rfl⟩
  have HC4 : Hid (∀ i, i < n → ((faces fs)[i]?.isSome ∧ ∃ x, fs[i]? = some x ∧ FcR w x.fc (C i)) ∧ (C i).length = 4 ∧ ∀ u ∈ C i, u.oneCell' = true) := Lib.hid (fun i hi => by
    rw [hC i]
    obtain ⟨⟨x, hx, hF⟩, _⟩ := hD i hi
    obtain ⟨a8, n8, c8, a9, n9, c9, a1, n1, c1, a2, n2, c2, a3, n3, c3, a4, n4, c4, a5, n5, c5, a0, n0, c0, hDi, hfc, _⟩ := hF
    rw [hDi]
    exact ⟨⟨by simp [faces, hx], x, hx, hfc⟩, rfl, by simp [Value.oneCell']⟩)
  have HCe := Lib.hid hC
  clear h hD hnn hT hsm hC
  go_enter Tryd.func22, Tryd.ntmps22
  go_wp2_with fail
  refine HCL.out.mono ?_
  rintro e w1 ⟨a', c', rfl, hcl, hown, hb1⟩
  have HCP := Lib.hid hcl
  have HB1 := Lib.hid hb1
  have hs1 := hb1.size
  have hmm := @run_makeMap Tryd.prog
  have HG0 : Hid (GS w1 a' c' fs C 0 0 (.slice none 0 0) ((w1.alloc (.map #[] 0)).alloc (.cells #[.pointer none, .slice a' n c', .map (some w1.heap.size)] 65))) := Lib.hid (by rw [show n = fs.length from HN.out]; exact gs_zero)
  clear HCL hcl hown hb1
  go_wp2
  go_loopw [5, 17] (fun vv ii wr => ∃ (k : Nat) (v : Value), k ≤ n ∧ v = vv ∧ ii = .int .i64 k ∧ Hid (GS w1 a' c' fs C k k v wr) ∧ Hid (gat [] fs = gat ((fs.take k).map (fun f => f.fc.name)) (fs.drop k))) (fun _ ii _ => n - (intOf ii).toNat)
  case atStart => exact ⟨0, _, Nat.zero_le _, rfl, rfl, HG0, Lib.hid (by simp)⟩
  case round =>
    obtain ⟨k, v, hk, rfl, rfl, HG, HE⟩ := hrel
    clear HG0
    have hbw := HG.out.bel
    have hlw := HG.out.lt
    have hwr : Below w.heap.size w wr := HB1.out.trans (hbw.mono hs1)
    have HWR := Lib.hid hwr
    have hip := HG.out.blk.lt
    by_cases hlt : k < n
    · obtain ⟨⟨x, hx, hF⟩, b, o, hab, hcell⟩ := HD.out k hlt
      have HCk := Lib.hid (HC4.out k hlt)
      have HSX := Lib.hid (HSM.out x (List.mem_of_getElem? hx))
      have hFw := hF.keep (Keeps.of_below hwr)
      obtain ⟨a8, n8, c8, a9, n9, c9, a1, n1, c1, a2, n2, c2, a3, n3, c3, a4, n4, c4, a5, n5, c5, a0, n0, c0, hDk, _⟩ := id hF
      have hCk : C k = [.string x.fc.name, .string x.fc.sup, .slice a8 n8 c8, .slice a9 n9 c9] := by rw [HCe.out k, hDk]; rfl
      rw [hDk] at hFw
      rw [hDk] at hcell
      subst hab
      have k0 : wr.cell? ⟨b, o + k * 10, none⟩ = some (.string x.fc.name) := (hwr.cell (World.block_lt_of_cell? _ _ (hcell 0 _ rfl))).trans (hcell 0 _ rfl)
      have k1 := (hwr.cell (World.block_lt_of_cell? _ _ (hcell 1 _ rfl))).trans (hcell 1 _ rfl)
      have k2 := (hwr.cell (World.block_lt_of_cell? _ _ (hcell 2 _ rfl))).trans (hcell 2 _ rfl)
      have k3 := (hwr.cell (World.block_lt_of_cell? _ _ (hcell 3 _ rfl))).trans (hcell 3 _ rfl)
      have k4 := (hwr.cell (World.block_lt_of_cell? _ _ (hcell 4 _ rfl))).trans (hcell 4 _ rfl)
      have k5 := (hwr.cell (World.block_lt_of_cell? _ _ (hcell 5 _ rfl))).trans (hcell 5 _ rfl)
      have k6 := (hwr.cell (World.block_lt_of_cell? _ _ (hcell 6 _ rfl))).trans (hcell 6 _ rfl)
      have k7 := (hwr.cell (World.block_lt_of_cell? _ _ (hcell 7 _ rfl))).trans (hcell 7 _ rfl)
      have k8 := (hwr.cell (World.block_lt_of_cell? _ _ (hcell 8 _ rfl))).trans (hcell 8 _ rfl)
      have k9 := (hwr.cell (World.block_lt_of_cell? _ _ (hcell 9 _ rfl))).trans (hcell 9 _ rfl)
      have hgl : b < wr.heap.size := World.block_lt_of_cell? _ _ k0
      have HXX := Lib.hid hx
      have HCK := Lib.hid hCk
      have HRT := Lib.hid (right11 x _ (wr.alloc (.cells #[.string x.fc.name, .string x.fc.sup, .slice a8 n8 c8, .slice a9 n9 c9, .slice a1 n1 c1, .slice a2 n2 c2, .slice a3 n3 c3, .slice a4 n4 c4, .slice a5 n5 c5, .slice a0 n0 c0] 44)) (hFw.keep (Keeps.of_below (below1 wr _))) ((HTB.out.bel hwr).bel (below1 wr _)))
      have HNX : Hid (gat [] fs = gat ((fs.take k).map (fun f => f.fc.name)) (x :: fs.drop (k + 1))) := Lib.hid (by rw [HE.out, drop_at hx])
      clear hcell hF hFw hDk hx hCk hwr
      go_wp2_with fail
      refine HRT.out.mono ?_
      rintro e w2 ⟨r, rfl, hr, hb2⟩
      have HR := Lib.hid hr
      have HB2 : Hid (Below wr.heap.size wr w2) := Lib.hid ((below1 wr _).trans (hb2.mono (by simp)))
      have HBX : Hid (Blk w2 wr.heap.size [.string x.fc.name, .string x.fc.sup, .slice a8 n8 c8, .slice a9 n9 c9, .slice a1 n1 c1, .slice a2 n2 c2, .slice a3 n3 c3, .slice a4 n4 c4, .slice a5 n5 c5, .slice a0 n0 c0] 44) := Lib.hid ((Blk.new wr [.string x.fc.name, .string x.fc.sup, .slice a8 n8 c8, .slice a9 n9 c9, .slice a1 n1 c1, .slice a2 n2 c2, .slice a3 n3 c3, .slice a4 n4 c4, .slice a5 n5 c5, .slice a0 n0 c0] 44).below hb2)
      have hsz2 := HB2.out.size
      have hsz3 := HBX.out.lt
      clear hb2 hr HRT k0 k1 k2 k3 k4 k5 k6 k7 k8 k9
      cases r with
      | false =>
        have HA : Hid (gat [] fs = 2) := Lib.hid (by rw [HNX.out]; exact (gat_cons _ _ _).1 (fun h => by have := HR.out.2 h; cases this))
        go_wp2
        refine bodyPost_ret (v := .tuple #[.pointer none, .int .i64 2]) (by simp [results, Tryd.results22, go_sem]) rfl ?_
        exact .inl ⟨by rw [HA.out]; decide, by rw [HA.out], HWR.out.trans (HB2.out.mono HWR.out.size)⟩
      | true =>
      have HRF := Lib.hid (HR.out.1 rfl)
      have HG2 := Lib.hid ((HG.out.below HB2.out).below (belowD w2))
      have HBX2 : Hid (Blk w2.drew wr.heap.size [.string x.fc.name, .string x.fc.sup, .slice a8 n8 c8, .slice a9 n9 c9, .slice a1 n1 c1, .slice a2 n2 c2, .slice a3 n3 c3, .slice a4 n4 c4, .slice a5 n5 c5, .slice a0 n0 c0] 44) := Lib.hid HBX.out.dr
      have hlk := HG2.out.look (s := x.fc.name) (by have := HSX.out.name; unfold maxLen; omega)
      have HPM := Lib.hid (plc_mem (fs.take k) x.fc.name)
      cases hp : plc (fs.take k) x.fc.name with
      | some j =>
        rw [hp] at hlk
        rw [hp] at HPM
        simp only [Option.map_some, Option.getD_some, Option.isSome_some] at hlk
        have HA : Hid (gat [] fs = 6) := Lib.hid (by
          rw [HNX.out]
          exact (gat_cons _ _ _).2.1 HRF.out (by have := HPM.out; simp only [Option.isSome_some] at this; exact of_decide_eq_true this.symm))
        clear hp
        go_upto_region 8 with fail
        refine wp_region_held_drew (S := fun z => z.cell? ⟨w1.heap.size + 1, 2, none⟩ = some (.map (some w1.heap.size)) ∧ z.cell? ⟨wr.heap.size, 0, none⟩ = some (.string x.fc.name) ∧ (Instr.lookup 63 (.map (some w1.heap.size)) (.string x.fc.name) true).run Tryd.prog z = .ok (.tuple #[.int .i64 (j : Int), .bool true]) z) (by kernel_rfl) ?_ (fun hHeld => ?_)
        · exact ⟨HG2.out.blk.cell 2, HBX2.out.cell 0, hlk⟩
        refine wpAnyH_take (i := 0) (v := ?_) rfl (by kernel_rfl) (by kernel_rfl) (by kernel_rfl) (fun _ _ _ h => h) (Or.inl ⟨by rfl, ?_⟩) (by assumption) ?_
        rotate_left
        focus (intro w hSw; obtain ⟨s0, s1, s2⟩ := hSw; go_simp; first | done | with_reducible rfl)
        simp only [Act.put, List.getElem_toArray, List.getElem_cons_zero, List.setIfInBounds_toArray, List.set_cons_zero, List.set_cons_succ]
        refine wpAnyH_take (i := 1) (v := ?_) rfl (by kernel_rfl) (by kernel_rfl) (by kernel_rfl) (fun _ _ _ h => h) (Or.inl ⟨by rfl, ?_⟩) (by assumption) ?_
        rotate_left
        focus (intro w hSw; obtain ⟨s0, s1, s2⟩ := hSw; go_simp; first | done | with_reducible rfl)
        simp only [Act.put, List.getElem_toArray, List.getElem_cons_zero, List.getElem_cons_succ, List.setIfInBounds_toArray, List.set_cons_zero, List.set_cons_succ]
        refine wpAnyH_take (i := 2) (v := ?_) rfl (by kernel_rfl) (by kernel_rfl) (by kernel_rfl) (fun _ _ _ h => h) (Or.inl ⟨by rfl, ?_⟩) (by assumption) ?_
        rotate_left
        focus (intro w hSw; obtain ⟨s0, s1, s2⟩ := hSw; go_simp; first | done | with_reducible rfl)
        simp only [Act.put, List.getElem_toArray, List.getElem_cons_zero, List.getElem_cons_succ, List.setIfInBounds_toArray, List.set_cons_zero, List.set_cons_succ]
        refine wpAnyH_take (i := 3) (v := ?_) rfl (by kernel_rfl) (by kernel_rfl) (by kernel_rfl) (fun _ _ _ h => h) (Or.inl ⟨by rfl, ?_⟩) (by assumption) ?_
        rotate_left
        focus (intro w hSw; obtain ⟨s0, s1, s2⟩ := hSw; go_simp; first | done | with_reducible rfl)
        simp only [Act.put, List.getElem_toArray, List.getElem_cons_zero, List.getElem_cons_succ, List.setIfInBounds_toArray, List.set_cons_zero, List.set_cons_succ]
        refine wpAnyH_take (i := 4) (v := ?_) rfl (by kernel_rfl) (by kernel_rfl) (by kernel_rfl) (fun _ _ _ h => h) (Or.inl ⟨by rfl, ?_⟩) (by assumption) ?_
        rotate_left
        focus (intro w hSw; obtain ⟨s0, s1, s2⟩ := hSw; go_simp; first | done | with_reducible rfl)
        simp only [Act.put, List.getElem_toArray, List.getElem_cons_zero, List.getElem_cons_succ, List.setIfInBounds_toArray, List.set_cons_zero, List.set_cons_succ]
        refine wpAnyH_take (i := 5) (v := ?_) rfl (by kernel_rfl) (by kernel_rfl) (by kernel_rfl) (fun _ _ _ h => h) (Or.inl ⟨by rfl, ?_⟩) (by assumption) ?_
        rotate_left
        focus (intro w hSw; obtain ⟨s0, s1, s2⟩ := hSw; go_simp; first | done | with_reducible rfl)
        simp only [Act.put, List.getElem_toArray, List.getElem_cons_zero, List.getElem_cons_succ, List.setIfInBounds_toArray, List.set_cons_zero, List.set_cons_succ]
        refine wpAnyH_take (i := 6) (v := ?_) rfl (by kernel_rfl) (by kernel_rfl) (by kernel_rfl) (fun _ _ _ h => h) (Or.inl ⟨by rfl, ?_⟩) (by assumption) ?_
        rotate_left
        focus (intro w hSw; obtain ⟨s0, s1, s2⟩ := hSw; go_simp; first | done | with_reducible rfl)
        simp only [Act.put, List.getElem_toArray, List.getElem_cons_zero, List.getElem_cons_succ, List.setIfInBounds_toArray, List.set_cons_zero, List.set_cons_succ]
        refine wpAnyH_take (i := 7) (v := ?_) rfl (by kernel_rfl) (by kernel_rfl) (by kernel_rfl) (fun _ _ _ h => h) (Or.inl ⟨by rfl, ?_⟩) (by assumption) ?_
        rotate_left
        focus (intro w hSw; obtain ⟨s0, s1, s2⟩ := hSw; go_simp; first | done | with_reducible rfl)
        simp only [Act.put, List.getElem_toArray, List.getElem_cons_zero, List.getElem_cons_succ, List.setIfInBounds_toArray, List.set_cons_zero, List.set_cons_succ]
        refine wpAnyH_take (i := 8) (v := ?_) rfl (by kernel_rfl) (by kernel_rfl) (by kernel_rfl) (fun _ _ _ h => h) (Or.inl ⟨by rfl, ?_⟩) (by assumption) ?_
        rotate_left
        focus (intro w hSw; obtain ⟨s0, s1, s2⟩ := hSw; go_simp; first | done | with_reducible rfl)
        simp only [Act.put, List.getElem_toArray, List.getElem_cons_zero, List.getElem_cons_succ, List.setIfInBounds_toArray, List.set_cons_zero, List.set_cons_succ]
        refine wpAnyH_take (i := 9) (v := ?_) rfl (by kernel_rfl) (by kernel_rfl) (by kernel_rfl) (fun _ _ _ h => h) (Or.inl ⟨by rfl, ?_⟩) (by assumption) ?_
        rotate_left
        focus (intro w hSw; obtain ⟨s0, s1, s2⟩ := hSw; go_simp; first | done | with_reducible rfl)
        simp only [Act.put, List.getElem_toArray, List.getElem_cons_zero, List.getElem_cons_succ, List.setIfInBounds_toArray, List.set_cons_zero, List.set_cons_succ]
        refine wpAnyH_take (i := 10) (v := ?_) rfl (by kernel_rfl) (by kernel_rfl) (by kernel_rfl) (fun _ _ _ h => h) (Or.inl ⟨by rfl, ?_⟩) (by assumption) ?_
        rotate_left
        focus (intro w hSw; obtain ⟨s0, s1, s2⟩ := hSw; go_simp; first | done | with_reducible rfl)
        simp only [Act.put, List.getElem_toArray, List.getElem_cons_zero, List.getElem_cons_succ, List.setIfInBounds_toArray, List.set_cons_zero, List.set_cons_succ]
        refine wpAnyH_take (i := 11) (v := ?_) rfl (by kernel_rfl) (by kernel_rfl) (by kernel_rfl) (fun _ _ _ h => h) (Or.inl ⟨by rfl, ?_⟩) (by assumption) ?_
        rotate_left
        focus (intro w hSw; obtain ⟨s0, s1, s2⟩ := hSw; go_simp; first | done | with_reducible rfl)
        simp only [Act.put, List.getElem_toArray, List.getElem_cons_zero, List.getElem_cons_succ, List.setIfInBounds_toArray, List.set_cons_zero, List.set_cons_succ]
        refine wpAnyH_take (i := 12) (v := ?_) rfl (by kernel_rfl) (by kernel_rfl) (by kernel_rfl) (fun _ _ _ h => h) (Or.inl ⟨by rfl, ?_⟩) (by assumption) ?_
        rotate_left
        focus (intro w hSw; obtain ⟨s0, s1, s2⟩ := hSw; go_simp; first | done | with_reducible rfl)
        simp only [Act.put, List.getElem_toArray, List.getElem_cons_zero, List.getElem_cons_succ, List.setIfInBounds_toArray, List.set_cons_zero, List.set_cons_succ]
        refine wpAnyH_done (by kernel_rfl) ?_ _
        clear hHeld
        go_wp2
        refine bodyPost_ret (v := .tuple #[.pointer none, .int .i64 6]) (by simp [results, Tryd.results22, go_sem]) rfl ?_
        exact .inl ⟨by rw [HA.out]; decide, by rw [HA.out], HWR.out.trans ((HB2.out.trans ((belowD w2).mono hsz2)).mono HWR.out.size)⟩
      | none =>
        have HPN := Lib.hid hp
        rw [hp] at hlk
        rw [hp] at HPM
        simp only [Option.map_none, Option.getD_none, Option.isSome_none] at hlk
        have HA : Hid (gat [] fs = gat ((fs.take (k + 1)).map (fun f => f.fc.name)) (fs.drop (k + 1))) := Lib.hid (by
          rw [HNX.out, take_names fs k x HXX.out]
          exact (gat_cons _ _ _).2.2 HRF.out (by have := HPM.out; simp only [Option.isSome_none] at this; exact of_decide_eq_false this.symm))
        have HG3 := Lib.hid (HG2.out.below (belowD w2.drew))
        have HBX3 : Hid (Blk w2.drew.drew wr.heap.size [.string x.fc.name, .string x.fc.sup, .slice a8 n8 c8, .slice a9 n9 c9, .slice a1 n1 c1, .slice a2 n2 c2, .slice a3 n3 c3, .slice a4 n4 c4, .slice a5 n5 c5, .slice a0 n0 c0] 44) := Lib.hid HBX2.out.dr
        obtain ⟨w3, hrun, hG4, hM4, hK4⟩ := HG3.out.store HXX.out (by have := HSX.out.name; unfold maxLen; omega) (by omega) HPN.out
        have HRUN := Lib.hid hrun
        have HG4 := Lib.hid hG4
        have HBX4 : Hid (Blk w3 wr.heap.size [.string x.fc.name, .string x.fc.sup, .slice a8 n8 c8, .slice a9 n9 c9, .slice a1 n1 c1, .slice a2 n2 c2, .slice a3 n3 c3, .slice a4 n4 c4, .slice a5 n5 c5, .slice a0 n0 c0] 44) := Lib.hid (HBX3.out.keep hM4 (fun e => by omega))
        have hsz4 := hM4.size
        clear hp hrun hG4 hM4 hK4
        go_upto_region 8 with fail
        refine wp_region_held_drew (S := fun z => z.cell? ⟨w1.heap.size + 1, 2, none⟩ = some (.map (some w1.heap.size)) ∧ z.cell? ⟨wr.heap.size, 0, none⟩ = some (.string x.fc.name) ∧ (Instr.lookup 63 (.map (some w1.heap.size)) (.string x.fc.name) true).run Tryd.prog z = .ok (.tuple #[.int .i64 0, .bool false]) z) (by kernel_rfl) ?_ (fun hHeld => ?_)
        · exact ⟨HG2.out.blk.cell 2, HBX2.out.cell 0, hlk⟩
        refine wpAnyH_take (i := 0) (v := ?_) rfl (by kernel_rfl) (by kernel_rfl) (by kernel_rfl) (fun _ _ _ h => h) (Or.inl ⟨by rfl, ?_⟩) (by assumption) ?_
        rotate_left
        focus (intro w hSw; obtain ⟨s0, s1, s2⟩ := hSw; go_simp; first | done | with_reducible rfl)
        simp only [Act.put, List.getElem_toArray, List.getElem_cons_zero, List.setIfInBounds_toArray, List.set_cons_zero, List.set_cons_succ]
        refine wpAnyH_take (i := 1) (v := ?_) rfl (by kernel_rfl) (by kernel_rfl) (by kernel_rfl) (fun _ _ _ h => h) (Or.inl ⟨by rfl, ?_⟩) (by assumption) ?_
        rotate_left
        focus (intro w hSw; obtain ⟨s0, s1, s2⟩ := hSw; go_simp; first | done | with_reducible rfl)
        simp only [Act.put, List.getElem_toArray, List.getElem_cons_zero, List.getElem_cons_succ, List.setIfInBounds_toArray, List.set_cons_zero, List.set_cons_succ]
        refine wpAnyH_take (i := 2) (v := ?_) rfl (by kernel_rfl) (by kernel_rfl) (by kernel_rfl) (fun _ _ _ h => h) (Or.inl ⟨by rfl, ?_⟩) (by assumption) ?_
        rotate_left
        focus (intro w hSw; obtain ⟨s0, s1, s2⟩ := hSw; go_simp; first | done | with_reducible rfl)
        simp only [Act.put, List.getElem_toArray, List.getElem_cons_zero, List.getElem_cons_succ, List.setIfInBounds_toArray, List.set_cons_zero, List.set_cons_succ]
        refine wpAnyH_take (i := 3) (v := ?_) rfl (by kernel_rfl) (by kernel_rfl) (by kernel_rfl) (fun _ _ _ h => h) (Or.inl ⟨by rfl, ?_⟩) (by assumption) ?_
        rotate_left
        focus (intro w hSw; obtain ⟨s0, s1, s2⟩ := hSw; go_simp; first | done | with_reducible rfl)
        simp only [Act.put, List.getElem_toArray, List.getElem_cons_zero, List.getElem_cons_succ, List.setIfInBounds_toArray, List.set_cons_zero, List.set_cons_succ]
        refine wpAnyH_take (i := 4) (v := ?_) rfl (by kernel_rfl) (by kernel_rfl) (by kernel_rfl) (fun _ _ _ h => h) (Or.inl ⟨by rfl, ?_⟩) (by assumption) ?_
        rotate_left
        focus (intro w hSw; obtain ⟨s0, s1, s2⟩ := hSw; go_simp; first | done | with_reducible rfl)
        simp only [Act.put, List.getElem_toArray, List.getElem_cons_zero, List.getElem_cons_succ, List.setIfInBounds_toArray, List.set_cons_zero, List.set_cons_succ]
        refine wpAnyH_take (i := 5) (v := ?_) rfl (by kernel_rfl) (by kernel_rfl) (by kernel_rfl) (fun _ _ _ h => h) (Or.inl ⟨by rfl, ?_⟩) (by assumption) ?_
        rotate_left
        focus (intro w hSw; obtain ⟨s0, s1, s2⟩ := hSw; go_simp; first | done | with_reducible rfl)
        simp only [Act.put, List.getElem_toArray, List.getElem_cons_zero, List.getElem_cons_succ, List.setIfInBounds_toArray, List.set_cons_zero, List.set_cons_succ]
        refine wpAnyH_take (i := 6) (v := ?_) rfl (by kernel_rfl) (by kernel_rfl) (by kernel_rfl) (fun _ _ _ h => h) (Or.inl ⟨by rfl, ?_⟩) (by assumption) ?_
        rotate_left
        focus (intro w hSw; obtain ⟨s0, s1, s2⟩ := hSw; go_simp; first | done | with_reducible rfl)
        simp only [Act.put, List.getElem_toArray, List.getElem_cons_zero, List.getElem_cons_succ, List.setIfInBounds_toArray, List.set_cons_zero, List.set_cons_succ]
        refine wpAnyH_take (i := 7) (v := ?_) rfl (by kernel_rfl) (by kernel_rfl) (by kernel_rfl) (fun _ _ _ h => h) (Or.inl ⟨by rfl, ?_⟩) (by assumption) ?_
        rotate_left
        focus (intro w hSw; obtain ⟨s0, s1, s2⟩ := hSw; go_simp; first | done | with_reducible rfl)
        simp only [Act.put, List.getElem_toArray, List.getElem_cons_zero, List.getElem_cons_succ, List.setIfInBounds_toArray, List.set_cons_zero, List.set_cons_succ]
        refine wpAnyH_take (i := 8) (v := ?_) rfl (by kernel_rfl) (by kernel_rfl) (by kernel_rfl) (fun _ _ _ h => h) (Or.inl ⟨by rfl, ?_⟩) (by assumption) ?_
        rotate_left
        focus (intro w hSw; obtain ⟨s0, s1, s2⟩ := hSw; go_simp; first | done | with_reducible rfl)
        simp only [Act.put, List.getElem_toArray, List.getElem_cons_zero, List.getElem_cons_succ, List.setIfInBounds_toArray, List.set_cons_zero, List.set_cons_succ]
        refine wpAnyH_take (i := 9) (v := ?_) rfl (by kernel_rfl) (by kernel_rfl) (by kernel_rfl) (fun _ _ _ h => h) (Or.inl ⟨by rfl, ?_⟩) (by assumption) ?_
        rotate_left
        focus (intro w hSw; obtain ⟨s0, s1, s2⟩ := hSw; go_simp; first | done | with_reducible rfl)
        simp only [Act.put, List.getElem_toArray, List.getElem_cons_zero, List.getElem_cons_succ, List.setIfInBounds_toArray, List.set_cons_zero, List.set_cons_succ]
        refine wpAnyH_take (i := 10) (v := ?_) rfl (by kernel_rfl) (by kernel_rfl) (by kernel_rfl) (fun _ _ _ h => h) (Or.inl ⟨by rfl, ?_⟩) (by assumption) ?_
        rotate_left
        focus (intro w hSw; obtain ⟨s0, s1, s2⟩ := hSw; go_simp; first | done | with_reducible rfl)
        simp only [Act.put, List.getElem_toArray, List.getElem_cons_zero, List.getElem_cons_succ, List.setIfInBounds_toArray, List.set_cons_zero, List.set_cons_succ]
        refine wpAnyH_take (i := 11) (v := ?_) rfl (by kernel_rfl) (by kernel_rfl) (by kernel_rfl) (fun _ _ _ h => h) (Or.inl ⟨by rfl, ?_⟩) (by assumption) ?_
        rotate_left
        focus (intro w hSw; obtain ⟨s0, s1, s2⟩ := hSw; go_simp; first | done | with_reducible rfl)
        simp only [Act.put, List.getElem_toArray, List.getElem_cons_zero, List.getElem_cons_succ, List.setIfInBounds_toArray, List.set_cons_zero, List.set_cons_succ]
        refine wpAnyH_take (i := 12) (v := ?_) rfl (by kernel_rfl) (by kernel_rfl) (by kernel_rfl) (fun _ _ _ h => h) (Or.inl ⟨by rfl, ?_⟩) (by assumption) ?_
        rotate_left
        focus (intro w hSw; obtain ⟨s0, s1, s2⟩ := hSw; go_simp; first | done | with_reducible rfl)
        simp only [Act.put, List.getElem_toArray, List.getElem_cons_zero, List.getElem_cons_succ, List.setIfInBounds_toArray, List.set_cons_zero, List.set_cons_succ]
        refine wpAnyH_done (by kernel_rfl) ?_ _
        clear hHeld hlk
        go_upto_region 11 with fail
        have hrun := HRUN.out
        refine wp_region_held_drew (S := fun z => z.cell? ⟨w1.heap.size + 1, 2, none⟩ = some (.map (some w1.heap.size)) ∧ z.cell? ⟨wr.heap.size, 0, none⟩ = some (.string x.fc.name)) (by kernel_rfl) ?_ (fun hHeld => ?_)
        · exact ⟨HG3.out.blk.cell 2, HBX3.out.cell 0⟩
        refine wpAnyH_take (i := 0) (v := ?_) rfl (by kernel_rfl) (by kernel_rfl) (by kernel_rfl) (fun _ _ _ h => h) (Or.inl ⟨by rfl, ?_⟩) (by assumption) ?_
        rotate_left
        focus (intro w hSw; obtain ⟨s0, s1⟩ := hSw; go_simp; first | done | with_reducible rfl)
        simp only [Act.put, List.getElem_toArray, List.getElem_cons_zero, List.setIfInBounds_toArray, List.set_cons_zero, List.set_cons_succ]
        refine wpAnyH_take (i := 1) (v := ?_) rfl (by kernel_rfl) (by kernel_rfl) (by kernel_rfl) (fun _ _ _ h => h) (Or.inl ⟨by rfl, ?_⟩) (by assumption) ?_
        rotate_left
        focus (intro w hSw; obtain ⟨s0, s1⟩ := hSw; go_simp; first | done | with_reducible rfl)
        simp only [Act.put, List.getElem_toArray, List.getElem_cons_zero, List.getElem_cons_succ, List.setIfInBounds_toArray, List.set_cons_zero, List.set_cons_succ]
        refine wpAnyH_take (i := 2) (v := ?_) rfl (by kernel_rfl) (by kernel_rfl) (by kernel_rfl) (fun _ _ _ h => h) (Or.inl ⟨by rfl, ?_⟩) (by assumption) ?_
        rotate_left
        focus (intro w hSw; obtain ⟨s0, s1⟩ := hSw; go_simp; first | done | with_reducible rfl)
        simp only [Act.put, List.getElem_toArray, List.getElem_cons_zero, List.getElem_cons_succ, List.setIfInBounds_toArray, List.set_cons_zero, List.set_cons_succ]
        refine wpAnyH_take (i := 3) (v := ?_) rfl (by kernel_rfl) (by kernel_rfl) (by kernel_rfl) (fun _ _ _ h => h) (Or.inl ⟨by rfl, ?_⟩) (by assumption) ?_
        rotate_left
        focus (intro w hSw; obtain ⟨s0, s1⟩ := hSw; go_simp; first | done | with_reducible rfl)
        simp only [Act.put, List.getElem_toArray, List.getElem_cons_zero, List.getElem_cons_succ, List.setIfInBounds_toArray, List.set_cons_zero, List.set_cons_succ]
        refine wpAnyH_take (i := 4) (v := ?_) rfl (by kernel_rfl) (by kernel_rfl) (by kernel_rfl) (fun _ _ _ h => h) (Or.inl ⟨by rfl, ?_⟩) (by assumption) ?_
        rotate_left
        focus (intro w hSw; obtain ⟨s0, s1⟩ := hSw; go_simp; first | done | with_reducible rfl)
        simp only [Act.put, List.getElem_toArray, List.getElem_cons_zero, List.getElem_cons_succ, List.setIfInBounds_toArray, List.set_cons_zero, List.set_cons_succ]
        refine wpAnyH_take (i := 5) (v := ?_) rfl (by kernel_rfl) (by kernel_rfl) (by kernel_rfl) (fun _ _ _ h => h) (Or.inl ⟨by rfl, ?_⟩) (by assumption) ?_
        rotate_left
        focus (intro w hSw; obtain ⟨s0, s1⟩ := hSw; go_simp; first | done | with_reducible rfl)
        simp only [Act.put, List.getElem_toArray, List.getElem_cons_zero, List.getElem_cons_succ, List.setIfInBounds_toArray, List.set_cons_zero, List.set_cons_succ]
        refine wpAnyH_take (i := 6) (v := ?_) rfl (by kernel_rfl) (by kernel_rfl) (by kernel_rfl) (fun _ _ _ h => h) (Or.inl ⟨by rfl, ?_⟩) (by assumption) ?_
        rotate_left
        focus (intro w hSw; obtain ⟨s0, s1⟩ := hSw; go_simp; first | done | with_reducible rfl)
        simp only [Act.put, List.getElem_toArray, List.getElem_cons_zero, List.getElem_cons_succ, List.setIfInBounds_toArray, List.set_cons_zero, List.set_cons_succ]
        refine wpAnyH_take (i := 7) (v := ?_) rfl (by kernel_rfl) (by kernel_rfl) (by kernel_rfl) (fun _ _ _ h => h) (Or.inl ⟨by rfl, ?_⟩) (by assumption) ?_
        rotate_left
        focus (intro w hSw; obtain ⟨s0, s1⟩ := hSw; go_simp; first | done | with_reducible rfl)
        simp only [Act.put, List.getElem_toArray, List.getElem_cons_zero, List.getElem_cons_succ, List.setIfInBounds_toArray, List.set_cons_zero, List.set_cons_succ]
        refine wpAnyH_ready (rs := [8]) (by kernel_rfl) (by simp) ?_
        refine AllReadyH.cons (o := _) rfl (fun K hK => ?_) AllReadyH.nil
        go_simp
        refine hK.out _ _ ⟨HG4.out.blk.cell 2, HBX4.out.cell 0⟩ (fun hHeld => ?_)
        clear hK K
        try simp only [Act.put, List.getElem_toArray, List.getElem_cons_zero, List.getElem_cons_succ, List.setIfInBounds_toArray, List.set_cons_zero, List.set_cons_succ]
        refine wpAnyH_done (by kernel_rfl) ?_ _
        clear hHeld hrun
        obtain ⟨v', w4, hap, hG5⟩ := HG4.out.app HCk.out.2.1 HCk.out.2.2 (by omega)
        rw [HCK.out] at hap
        have HG5 := Lib.hid hG5
        clear hG5
        have b0 := HBX4.out.cell 0
        have b1 := HBX4.out.cell 1
        have b2 := HBX4.out.cell 2
        have b3 := HBX4.out.cell 3
        simp only [List.getElem?_cons_zero, List.getElem?_cons_succ] at b0 b1 b2 b3
        go_wp2_with (at_builtin; refine wpList_append_run rfl _ _ 80 rfl rfl rfl rfl hap ?_)
        go_wp2
        go_roundw
        case rel => exact ⟨k + 1, _, by omega, rfl, by go_num, HG5, HA⟩
        case measure => simp [intOf]; omega
    · have hkn : k = fs.length := by have := HN.out; omega
      have HA : Hid (gat [] fs = 0) := Lib.hid (by rw [HE.out, hkn, List.drop_length]; rfl)
      have hsl : Sl wr 4 (FcR wr) (faces fs) v := row_sl HG.out.row (by rw [hkn]; simp [faces]) (fun i hi => by
        have h4 := HC4.out i (by omega)
        obtain ⟨x, hx, hf⟩ := h4.1.2
        refine ⟨⟨x.fc, by simp [faces, hx], ?_⟩, ?_⟩
        · exact hf.keep (Keeps.of_below HWR.out)
        · exact h4.2.1)
      obtain ⟨av, cv, rfl⟩ := hsl.form
      have HNW := Lib.hid (new11' wr (faces fs) av (faces fs).length cv hsl (by simp [faces]; have := HN.out; omega) (fun y hy => by
        obtain ⟨f, hf, rfl⟩ := List.mem_map.1 hy
        exact HSM.out f hf))
      clear hsl
      go_wp2_with fail
      refine HNW.out.mono ?_
      rintro e w5 ⟨tb, fm, rfl, hTb, hb5, hfmlo⟩
      have hG5 := HG.out.below hb5
      have p0 := hG5.blk.cell 0
      have f0 := hG5.blk.frozen 0
      simp only [List.getElem?_cons_zero] at p0
      have hil := hG5.blk.lt
      have HIM : Hid (∃ (i : ImS) (sv : Value), i.W0 = w ∧ i.fs = fs ∧ i.im = w1.heap.size + 1 ∧ Im i sv 0 (w5.setCell ⟨w1.heap.size + 1, 0, none⟩ (.pointer (some ⟨tb, 0, none⟩)))) := Lib.hid (by
        have hM : Mods (· = w1.heap.size + 1) w5 (w5.setCell ⟨w1.heap.size + 1, 0, none⟩ (.pointer (some ⟨tb, 0, none⟩))) := (Mods.refl (· = w1.heap.size + 1) w5).setCell (p := ⟨w1.heap.size + 1, 0, none⟩) (.inl rfl) _
        have hbf : Below w1.heap.size w1 (w5.setCell ⟨w1.heap.size + 1, 0, none⟩ (.pointer (some ⟨tb, 0, none⟩))) := hG5.bel.trans (hM.below (fun k e => by omega) hG5.bel.size)
        refine ⟨⟨w, w1.heap.size + 1, tb, fm, wr.heap.size, a', c', w1.heap.size, fs, w5.setCell ⟨w1.heap.size + 1, 0, none⟩ (.pointer (some ⟨tb, 0, none⟩)), .map none⟩, .map none, rfl, rfl, rfl, hTb.setIm (by omega) p0 _, hG5.blk.set 0 _, ?_, ?_, (show w1.heap.size + 1 < wr.heap.size by omega), (show w1.heap.size < wr.heap.size by omega), ?_, HB1.out.trans (hbf.mono hs1), (show w.heap.size ≤ w1.heap.size + 1 by omega), (show w.heap.size ≤ fm by have := HG.out.lt; omega), (show w.heap.size ≤ w1.heap.size by omega), Stp.refl _ _ _⟩
        · have := fls_keep (Keeps.of_below hbf) HCP.out
          rw [HN.out] at this
          exact this
        · obtain ⟨g, hg, hg2⟩ := hG5.map
          refine ⟨g, ?_, fun s => ?_⟩
          · obtain ⟨DD, hDD, hf⟩ := hg.keep hM (fun e => by omega)
            exact ⟨DD, hDD.mono (by omega), hf⟩
          · rw [hg2 s, hkn, List.take_length]
        · exact Nat.le_trans hb5.size hM.size)
      clear hG5 hTb hb5 HNW hfmlo
      go_wp2
      refine bodyPost_ret (v := .tuple #[.pointer (some ⟨w1.heap.size + 1, 0, none⟩), .int .i64 0]) (by simp [results, Tryd.results22, go_sem]) rfl ?_
      obtain ⟨i, sv, e1, e2, e3, hI⟩ := HIM.out
      exact .inr ⟨HA.out, i, sv, e1, e2, by rw [e3], hI⟩
end Go.Proofs.YthimpjfmelmhpaaDoor.Fc
