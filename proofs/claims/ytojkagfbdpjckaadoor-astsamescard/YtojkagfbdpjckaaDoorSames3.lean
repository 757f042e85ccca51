/-
  AstSames, by what is turned.
-/
import Derived.Test.YtojkagfbdpjckaaDoorApp3
namespace Go.Proofs.YtojkagfbdpjckaaDoor
open Go.RowKit

set_option maxHeartbeats 8000000 in
set_option maxRecDepth 100000 in
theorem sames_3 (ln co : Int) (name sup : ByteArray) (fs : List Vr) (ms : List Mt) (a1 : Option Addr) (n1 c1 : Nat) (a2 : Option Addr) (n2 c2 : Nat) (which : Int) (nm : ByteArray) (W : World) (hpow : Pow W) (h1 : Sl W 3 VrR fs (.slice a1 n1 c1)) (h2 : Sl W 8 (MtR W) ms (.slice a2 n2 c2)) (hz : name.size + sup.size ≤ 281474976710656) (hnm : ¬ 40 < nm.size) (hn2 : ((n2 : Int) == 0) = false)
    (hbits : bits .and .i64 which 7 = 3) :
    Calls Tryd.prog 4 #[.agg #[.int .i64 ln, .int .i64 co, .string name, .string sup, .slice a1 n1 c1, .slice a2 n2 c2], .int .i64 which, .string nm] W fun e w' => e = .returned (.bool true) ∧ Below W.heap.size W w' := by
  have hpos := Pow.pos hpow
  have HP := Lib.hid (fun (w : World) (hb : Below W.heap.size W w) => Pow.keep hpow hpos hb)
  have H1 := Lib.hid h1
  have H2 := Lib.hid h2
  clear hpow h1 h2
  go_enter Tryd.func4, Tryd.ntmps4
  go_wp2_with fail
  refine (head8 _ (HP.out _ (below1 W _))).mono ?_
  rintro e w1 ⟨rfl, hb1⟩
  have hB1 : Below W.heap.size W w1 := (below1 W _).trans (hb1.mono (by simp))
  have hr0 := (hb1.block W.heap.size (by simp)).trans (heap_al1 W _)
  have hs1 : W.heap.size + 1 ≤ w1.heap.size := by have := hb1.size; simpa using this
  clear hb1
  have p0 := cell_row hr0 0 rfl
  have p1 := cell_row hr0 1 rfl
  have p2 := cell_row hr0 2 rfl
  have p3 := cell_row hr0 3 rfl
  have p4 := cell_row hr0 4 rfl
  have p5 := cell_row hr0 5 rfl
  go_wp2_with fail
  refine (few13 ln co name sup fs ms a1 n1 c1 a2 n2 c2 w1 (H1.out.mono hB1 (fun _ _ h => h)) (H2.out.mono hB1 (fun _ _ h => h.below hB1)) (by omega)).mono ?_
  rintro e w2 ⟨r, rfl, hfew, hb⟩
  have hB2 : Below W.heap.size W w2 := hB1.trans (hb.mono (by omega))
  have hr0 := (hb.block W.heap.size (by omega)).trans hr0
  have hs2 : W.heap.size + 1 ≤ w2.heap.size := by have := hb.size; omega
  clear hb p0 p1 p2 p3 p4 p5
  have o0 := cell_row hr0 0 rfl
  have o1 := cell_row hr0 1 rfl
  have o2 := cell_row hr0 2 rfl
  have o3 := cell_row hr0 3 rfl
  have o4 := cell_row hr0 4 rfl
  have o5 := cell_row hr0 5 rfl
  cases r with
  | false =>
    go_wp2
    go_ret
    exact ⟨rfl, hB2⟩
  | true =>
    have HFew := Lib.hid (hfew rfl)
    clear hfew
    have hl0 : W.heap.size < w2.heap.size := by omega
    obtain ⟨C, hC⟩ := Sl.rows (H2.out.mono hB2 (fun _ _ h => h.below hB2))
    obtain ⟨hm2, hcap2, hcm2, _⟩ := H2.out.at
    have hn10 : n2 ≤ 10 := by rw [hm2]; exact HFew.out.2.1
    have hnpos : 0 < n2 := by
      rcases Nat.eq_zero_or_pos n2 with h | h
      · subst h; simp at hn2
      · exact h
    obtain ⟨inf, hi, hii⟩ := info43
    obtain ⟨v3, w3, hrun, hown, hgr, hv3⟩ := app_run (t := 36) (w := (w2.alloc (.cells #[.int .i64 ln, .int .i64 co, .string name, .string sup, .slice a1 n1 c1, .slice a2 n2 c2] 38)).alloc (.cells #[] 43)) (base := w2.heap.size + 1) (v := .slice (some ⟨w2.heap.size + 1, 0, none⟩) 0 0) (n := 0) (xs := []) (a := a2) (m := n2) (c := c2) (C := C) Tryd.underlying36 hi hii (by decide)
      (by have h := World.ownsRow_made (base := w2.heap.size + 1) (e := 43) (size := 8) (w2.alloc (.cells #[.int .i64 ln, .int .i64 co, .string name, .string sup, .slice a1 n1 c1, .slice a2 n2 c2] 38)) #[] 0 (by simp) (by decide) rfl; simpa using h) (by simp)
      (fun i hi => by obtain ⟨⟨x, _, pv, bv, e, _⟩, _⟩ := hC i hi; rw [e]; rfl)
      (fun i hi u hu => by obtain ⟨⟨x, _, pv, bv, e, hp, d, hb⟩, _⟩ := hC i hi; rw [e] at hu; obtain ⟨pa, pc, rfl⟩ := hp.form; obtain ⟨ba, bc, rfl⟩ := hb.form; simp only [mtC, List.mem_cons, List.not_mem_nil, or_false] at hu; rcases hu with rfl | rfl | rfl | rfl | rfl | rfl | rfl | rfl <;> rfl)
      (fun i hi => by
        obtain ⟨_, b, o, ea, hc⟩ := hC i hi
        exact ⟨b, o, ea, fun j v hv => ((below2 w2 _ _).cell (World.block_lt_of_cell? _ _ (hc j v hv))).trans (hc j v hv)⟩)
      (fun h => by subst h; obtain ⟨_, b, o, ea, _⟩ := hC 0 hnpos; cases ea) (by unfold maxLen; omega) (by omega) (by simp)
    have hB3 : Below w2.heap.size w2 w3 := (below2 w2 _ _).trans (grown_below hgr (by simp; omega) (fun k hk => by simp [Value.ownBlock] at hk; omega))
    have hs3 : w2.heap.size + 2 ≤ w3.heap.size := by have := hgr.size; simpa using this
    have hrD : w3.heap[w2.heap.size]? = some (.cells #[.int .i64 ln, .int .i64 co, .string name, .string sup, .slice a1 n1 c1, .slice a2 n2 c2] 38 (0, 0)) := (hgr.block w2.heap.size (by simp; omega) (by simp [Value.ownBlock])).trans (heap_al2 w2 _ _)
    have hrC : w3.heap[W.heap.size]? = some (.cells #[.int .i64 ln, .int .i64 co, .string name, .string sup, .slice a1 n1 c1, .slice a2 n2 c2] 38 (0, 0)) := (hB3.block W.heap.size (by omega)).trans hr0
    have e3 : ∃ g cap cur, v3 = .slice (some ⟨g, 0, none⟩) n2 cap ∧ w2.heap.size + 1 ≤ g ∧ n2 ≤ cap ∧ cap ≤ maxLen ∧ w3.heap[g]? = some (.cells cur 43 (0, 0)) := by
      rcases hown.2 with ⟨h, _⟩ | ⟨g, cap, cur, rfl, hb, hgg, hnc, hcm, _⟩
      · exact absurd h hv3
      · exact ⟨g, cap, cur, by simp, hb, by omega, hcm, hgg⟩
    obtain ⟨g, cap, cur, rfl, hgb, hgc, hgm, hrG⟩ := e3
    have hG : ∀ i, i < n2 → Rw w3 g (i * 8) (C i) := by
      intro i hi j v hv
      have hj : j < 8 := by have h8 : (C i).length = 8 := by obtain ⟨⟨x, _, pv, bv, e, _⟩, _⟩ := hC i hi; rw [e]; rfl
                            rw [← h8]; exact (List.getElem?_eq_some_iff.1 hv).1
      have h := hown.cells (g := g) rfl (i * 8 + j) v (by
        rw [List.nil_append, flat_at (n := 8) n2 (fun i hi => by obtain ⟨⟨x, _, pv, bv, e, _⟩, _⟩ := hC i hi; rw [e]; rfl) i j hi hj]
        exact hv)
      rwa [Go.WideShapes.add_plain, Nat.zero_add] at h
    obtain ⟨⟨m0, hm0, pv, bv, eC0, hp0, d0, hb0⟩, _⟩ := hC 0 hnpos
    obtain ⟨pa, pc, rfl⟩ := hp0.form
    obtain ⟨ba, bc, rfl⟩ := hb0.form
    have HG := Lib.hid hG
    have HC := Lib.hid hC
    have HP0 := Lib.hid hp0
    have HB0 := Lib.hid hb0
    have HM0 := Lib.hid hm0
    have hpl : m0.params.length ≤ 8 := (HFew.out.2.2 m0 (List.mem_of_getElem? hm0)).1
    have hbl : m0.body.length ≤ 10 := (HFew.out.2.2 m0 (List.mem_of_getElem? hm0)).2
    have hg0 := hG 0 hnpos
    rw [eC0] at hg0
    have EC0 := Lib.hid eC0
    clear hG hC hown hgr hv3 hp0 hb0 hm0 eC0 hr0 hm2
    obtain ⟨mln, mco, mname, mst, mps, mrn, mra, mbody⟩ := m0
    dsimp only [mtC] at *
    generalize hpn : mps.length = pn at *
    generalize hbn : mbody.length = bn at *
    clear hpn hbn
    have g0 : w3.cell? ⟨g, 0, none⟩ = some (.int .i64 mln) := by simpa using hg0 0 _ rfl
    have g1 : w3.cell? ⟨g, 1, none⟩ = some (.int .i64 mco) := by simpa using hg0 1 _ rfl
    have g2 : w3.cell? ⟨g, 2, none⟩ = some (.string mname) := by simpa using hg0 2 _ rfl
    have g3 : w3.cell? ⟨g, 3, none⟩ = some (.bool mst) := by simpa using hg0 3 _ rfl
    have g4 : w3.cell? ⟨g, 4, none⟩ = some (.slice pa pn pc) := by simpa using hg0 4 _ rfl
    have g5 : w3.cell? ⟨g, 5, none⟩ = some (.string mrn) := by simpa using hg0 5 _ rfl
    have g6 : w3.cell? ⟨g, 6, none⟩ = some (.bool mra) := by simpa using hg0 6 _ rfl
    have g7 : w3.cell? ⟨g, 7, none⟩ = some (.slice ba bn bc) := by simpa using hg0 7 _ rfl
    have q0 : w3.cell? ⟨w2.heap.size, 0, none⟩ = some (.int .i64 ln) := cell_row hrD 0 rfl
    have p0 : w3.cell? ⟨W.heap.size, 0, none⟩ = some (.int .i64 ln) := cell_row hrC 0 rfl
    have q1 : w3.cell? ⟨w2.heap.size, 1, none⟩ = some (.int .i64 co) := cell_row hrD 1 rfl
    have p1 : w3.cell? ⟨W.heap.size, 1, none⟩ = some (.int .i64 co) := cell_row hrC 1 rfl
    have q2 : w3.cell? ⟨w2.heap.size, 2, none⟩ = some (.string name) := cell_row hrD 2 rfl
    have p2 : w3.cell? ⟨W.heap.size, 2, none⟩ = some (.string name) := cell_row hrC 2 rfl
    have q3 : w3.cell? ⟨w2.heap.size, 3, none⟩ = some (.string sup) := cell_row hrD 3 rfl
    have p3 : w3.cell? ⟨W.heap.size, 3, none⟩ = some (.string sup) := cell_row hrC 3 rfl
    have q4 : w3.cell? ⟨w2.heap.size, 4, none⟩ = some (.slice a1 n1 c1) := cell_row hrD 4 rfl
    have p4 : w3.cell? ⟨W.heap.size, 4, none⟩ = some (.slice a1 n1 c1) := cell_row hrC 4 rfl
    have q5 : w3.cell? ⟨w2.heap.size, 5, none⟩ = some (.slice a2 n2 c2) := cell_row hrD 5 rfl
    have p5 : w3.cell? ⟨W.heap.size, 5, none⟩ = some (.slice a2 n2 c2) := cell_row hrC 5 rfl
    have fD := fun j => Lib.frozen_of_heap hrD j
    have fG := fun j => Lib.frozen_of_heap hrG j
    have hgs : g < w3.heap.size := World.block_lt_of_cell? _ _ g0
    have hDs : w2.heap.size < w3.heap.size := by omega
    have hWs : W.heap.size < w3.heap.size := by omega
    have hgD : g ≠ w2.heap.size := by omega
    have hgW : g ≠ W.heap.size := by omega
    have hWD : W.heap.size ≠ w2.heap.size := by omega
    have RD : Hid (Rw w3 w2.heap.size 0 [.int .i64 ln, .int .i64 co, .string name, .string sup, .slice a1 n1 c1, .slice a2 n2 c2]) := Lib.hid (fun j v hv => by rw [Nat.zero_add]; exact cell_row hrD j (by simpa using hv))
    have RC : Hid (Rw w3 W.heap.size 0 [.int .i64 ln, .int .i64 co, .string name, .string sup, .slice a1 n1 c1, .slice a2 n2 c2]) := Lib.hid (fun j v hv => by rw [Nat.zero_add]; exact cell_row hrC j (by simpa using hv))
    have BX : Hid (Below w2.heap.size w2 w3) := Lib.hid hB3
    clear hg0 hrD hrC hrG hB3
    go_wp2_with (at_builtin; refine wpList_append_run rfl _ _ 36 rfl rfl rfl rfl hrun ?_)
    go_wp2_with fail
    have RD1 : Rw ((w3).setCell ⟨w2.heap.size, 5, none⟩ ((.slice (some ⟨g, 0, none⟩) n2 cap))) w2.heap.size 0 [.int .i64 ln, .int .i64 co, .string name, .string sup, .slice a1 n1 c1, (.slice (some ⟨g, 0, none⟩) n2 cap)] := Rw.set (w := w3) RD.out 5 (by simp) ((.slice (some ⟨g, 0, none⟩) n2 cap))
    have RC1 : Rw ((w3).setCell ⟨w2.heap.size, 5, none⟩ ((.slice (some ⟨g, 0, none⟩) n2 cap))) W.heap.size 0 [.int .i64 ln, .int .i64 co, .string name, .string sup, .slice a1 n1 c1, .slice a2 n2 c2] := Rw.other (w := w3) RC.out (by omega) ((.slice (some ⟨g, 0, none⟩) n2 cap))
    have BX1 : Below w2.heap.size w2 ((w3).setCell ⟨w2.heap.size, 5, none⟩ ((.slice (some ⟨g, 0, none⟩) n2 cap))) := Below.setCell BX.out (p := ⟨w2.heap.size, 5, none⟩) (Nat.le_refl _) ((.slice (some ⟨g, 0, none⟩) n2 cap))
    have GX1 : ∀ i, i < n2 → Rw ((w3).setCell ⟨w2.heap.size, 5, none⟩ ((.slice (some ⟨g, 0, none⟩) n2 cap))) g (i * 8) (C i) := fun i hi => Rw.other (w := w3) (HG.out i hi) (by omega) ((.slice (some ⟨g, 0, none⟩) n2 cap))
    have RD2 : Rw ((((w3).setCell ⟨w2.heap.size, 5, none⟩ ((.slice (some ⟨g, 0, none⟩) n2 cap)))).setCell ⟨g, 3, none⟩ (.bool (!mst))) w2.heap.size 0 [.int .i64 ln, .int .i64 co, .string name, .string sup, .slice a1 n1 c1, (.slice (some ⟨g, 0, none⟩) n2 cap)] := Rw.other (w := ((w3).setCell ⟨w2.heap.size, 5, none⟩ ((.slice (some ⟨g, 0, none⟩) n2 cap)))) RD1 (by omega) (.bool (!mst))
    have RC2 : Rw ((((w3).setCell ⟨w2.heap.size, 5, none⟩ ((.slice (some ⟨g, 0, none⟩) n2 cap)))).setCell ⟨g, 3, none⟩ (.bool (!mst))) W.heap.size 0 [.int .i64 ln, .int .i64 co, .string name, .string sup, .slice a1 n1 c1, .slice a2 n2 c2] := Rw.other (w := ((w3).setCell ⟨w2.heap.size, 5, none⟩ ((.slice (some ⟨g, 0, none⟩) n2 cap)))) RC1 (by omega) (.bool (!mst))
    have BX2 : Below w2.heap.size w2 ((((w3).setCell ⟨w2.heap.size, 5, none⟩ ((.slice (some ⟨g, 0, none⟩) n2 cap)))).setCell ⟨g, 3, none⟩ (.bool (!mst))) := Below.setCell BX1 (p := ⟨g, 3, none⟩) (show w2.heap.size ≤ g by omega) (.bool (!mst))
    have GX2 : ∀ i, i < n2 → Rw ((((w3).setCell ⟨w2.heap.size, 5, none⟩ ((.slice (some ⟨g, 0, none⟩) n2 cap)))).setCell ⟨g, 3, none⟩ (.bool (!mst))) g (i * 8) (firstOr [.int .i64 mln, .int .i64 mco, .string mname, .bool (!mst), .slice pa pn pc, .string mrn, .bool mra, .slice ba bn bc] C i) := fun i hi => by
      by_cases h : i = 0
      · subst h
        have h8 := GX1 0 hi
        rw [EC0.out] at h8
        have h9 := Rw.set h8 3 (by simp) (.bool (!mst))
        simpa [firstOr] using h9
      · unfold firstOr
        rw [if_neg h]
        exact Rw.apart (w := ((w3).setCell ⟨w2.heap.size, 5, none⟩ ((.slice (some ⟨g, 0, none⟩) n2 cap)))) (GX1 i hi) (fun j _ => by omega) (.bool (!mst))
    have HBX : Below W.heap.size W ((((w3).setCell ⟨w2.heap.size, 5, none⟩ ((.slice (some ⟨g, 0, none⟩) n2 cap)))).setCell ⟨g, 3, none⟩ (.bool (!mst))) := hB2.trans (BX2.mono (by omega))
    have RCx := RC2
    have RDx := RD2
    have BXx := BX2
    have GXx := GX2
    clear RD1 RC1 BX1 GX1 RD2 RC2 BX2 GX2
    generalize ((((w3).setCell ⟨w2.heap.size, 5, none⟩ ((.slice (some ⟨g, 0, none⟩) n2 cap)))).setCell ⟨g, 3, none⟩ (.bool (!mst))) = x0 at RCx RDx BXx GXx HBX ⊢
    have HRC := Lib.hid RCx
    have HRD := Lib.hid RDx
    have HBXx := Lib.hid BXx
    have HGX := Lib.hid GXx
    have HHB := Lib.hid HBX
    clear RCx RDx BXx GXx HBX
    have HMM := Lib.hid (meths HC.out HBXx.out hnpos hcap2 hgc hcm2 hgm mln mco mname (!mst) pa pn pc mrn mra ba bn bc HGX.out false (fun w _ => by rw [EC0.out]; exact m37_static mln mco mln mco mname mst pa pn pc mrn mra ba bn bc pa pn pc mrn mra ba bn bc w) (fun w _ => by rw [EC0.out]; have h := m37_static mln mco mln mco mname (!mst) pa pn pc mrn mra ba bn bc pa pn pc mrn mra ba bn bc w; rw [Bool.not_not] at h; exact h))
    refine (c14_methods x0 fs ln co ln co name sup a1 n1 c1 a2 n2 c2 (some ⟨g, 0, none⟩) n2 cap false (H1.out.mono HHB.out (fun _ _ h => h)) HMM.out.1 x0 (Below.refl _ _)).mono ?_
    rintro e x1 ⟨rfl, hb⟩
    have y0 : x1.cell? ⟨W.heap.size, 0, none⟩ = some (.int .i64 ln) := by simpa using HRC.out.below hb 0 _ rfl
    have y1 : x1.cell? ⟨W.heap.size, 1, none⟩ = some (.int .i64 co) := by simpa using HRC.out.below hb 1 _ rfl
    have y2 : x1.cell? ⟨W.heap.size, 2, none⟩ = some (.string name) := by simpa using HRC.out.below hb 2 _ rfl
    have y3 : x1.cell? ⟨W.heap.size, 3, none⟩ = some (.string sup) := by simpa using HRC.out.below hb 3 _ rfl
    have y4 : x1.cell? ⟨W.heap.size, 4, none⟩ = some (.slice a1 n1 c1) := by simpa using HRC.out.below hb 4 _ rfl
    have y5 : x1.cell? ⟨W.heap.size, 5, none⟩ = some (.slice a2 n2 c2) := by simpa using HRC.out.below hb 5 _ rfl
    have z0 : x1.cell? ⟨w2.heap.size, 0, none⟩ = some (.int .i64 ln) := by simpa using HRD.out.below hb 0 _ rfl
    have z1 : x1.cell? ⟨w2.heap.size, 1, none⟩ = some (.int .i64 co) := by simpa using HRD.out.below hb 1 _ rfl
    have z2 : x1.cell? ⟨w2.heap.size, 2, none⟩ = some (.string name) := by simpa using HRD.out.below hb 2 _ rfl
    have z3 : x1.cell? ⟨w2.heap.size, 3, none⟩ = some (.string sup) := by simpa using HRD.out.below hb 3 _ rfl
    have z4 : x1.cell? ⟨w2.heap.size, 4, none⟩ = some (.slice a1 n1 c1) := by simpa using HRD.out.below hb 4 _ rfl
    have z5 : x1.cell? ⟨w2.heap.size, 5, none⟩ = some ((.slice (some ⟨g, 0, none⟩) n2 cap)) := by simpa using HRD.out.below hb 5 _ rfl
    have hb1 : Below W.heap.size W x1 := HHB.out.trans (hb.mono HHB.out.size)
    have HB1 := Lib.hid hb
    clear hb
    go_wp2_with fail
    refine (c14_methods x0 fs ln co ln co name sup a1 n1 c1 (some ⟨g, 0, none⟩) n2 cap a2 n2 c2 false (H1.out.mono HHB.out (fun _ _ h => h)) HMM.out.2 x1 HB1.out).mono ?_
    rintro e x2 ⟨rfl, hb⟩
    have hb2 : Below W.heap.size W x2 := hb1.trans (hb.mono hb1.size)
    clear hb
    go_wp2
    go_ret
    exact ⟨rfl, hb2⟩
end Go.Proofs.YtojkagfbdpjckaaDoor
