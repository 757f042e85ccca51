/-
  Link: files that fit together are an image; else the first fault.
-/
import Derived.Test.YthimpjfmelmhpaaDoorLkGa
namespace Go.Proofs.YthimpjfmelmhpaaDoor.Fc
open Go.RowKit
set_option linter.unusedVariables false
set_option linter.unusedSimpArgs false

def LPost (fs : List Fl) (w : World) (e : Ending) (w' : World) : Prop :=
  (200 < fs.length ∧ e = .returned (.tuple #[.pointer none, .int .i64 4]) ∧ Below w.heap.size w w') ∨
  (fs.length ≤ 200 ∧ lkE fs ≠ 0 ∧ e = .returned (.tuple #[.pointer none, .int .i64 (lkE fs)]) ∧ Below w.heap.size w w') ∨
  (fs.length ≤ 200 ∧ lkE fs = 0 ∧ ∃ (i : ImS) (sv : Value) (c : Nat), i.W0 = w ∧ i.fs = fs ∧ e = .returned (.tuple #[.pointer (some ⟨i.im, 0, none⟩), .int .i64 0]) ∧ Im i sv c w' ∧ c ≤ 1000000000)
/-- not too much in a file -/
def FwC (f : Fl) : Prop := Small f.fc ∧ f.cl.length ≤ 1000 ∧ f.ty.length ≤ 1000 ∧ f.fd.length ≤ 1000 ∧ f.mt.length ≤ 1000
theorem FwC.pob {f : Fl} (h : FwC f) (hr : RightF f) : PoB f := PoB.of hr.po h.2.1 h.2.2.1 h.2.2.2.1 h.2.2.2.2
theorem lkE_gat {fs : List Fl} (h : gat [] fs ≠ 0) : lkE fs = gat [] fs := by unfold lkE; rw [if_pos h]
theorem lkE_fit {fs : List Fl} (h : gat [] fs = 0) : lkE fs = fitsE fs fs := by unfold lkE; rw [if_neg (by simpa using h)]
set_option maxHeartbeats 4000000 in
set_option maxRecDepth 100000 in
theorem link8 (fs : List Fl) (a : Option Addr) (n cp : Nat) (w : World) (h : Sl w 10 (FlR w) fs (.slice a n cp)) (hT : TabR w) (hfw : ∀ f ∈ fs, FwC f) :
    Calls Tryd.prog 8 #[.slice a n cp] w (LPost fs w) := by
  obtain ⟨hnn, hl, hcp, hkk⟩ := h.at
  unfold maxLen at hcp
  by_cases h200 : 200 < n
  · have hA : 200 < fs.length := by omega
    go_enter Tryd.func8, Tryd.ntmps8
    go_wp2
    refine bodyPost_ret (v := .tuple #[.pointer none, .int .i64 4]) (by simp [results, Tryd.results8, go_sem]) rfl ?_
    exact .inl ⟨hA, rfl, Below.refl _ _⟩
  have hle : fs.length ≤ 200 := by omega
  have HGA := Lib.hid (gather22 fs a n cp w h (by omega) hT (fun f hf => (hfw f hf).1))
  have HK := Lib.hid hkk
  have HN := Lib.hid hnn
  have HFW := Lib.hid hfw
  clear h hkk hnn hT hfw
  go_enter Tryd.func8, Tryd.ntmps8
  go_wp2_with fail
  refine HGA.out.mono ?_
  rintro e w1 (⟨hg, rfl, hb⟩ | ⟨hg, i, sv, hW, hF, rfl, hI⟩)
  · have HA : Hid (lkE fs = gat [] fs) := Lib.hid (lkE_gat hg)
    have HNE := Lib.hid hg
    have tz : (gat [] fs == 0) = false := by simp [hg]
    have HB := Lib.hid hb
    generalize hge : gat [] fs = ge at *
    clear hg hb HGA hge
    go_wp2
    refine bodyPost_ret (v := .tuple #[.pointer none, .int .i64 ge]) (by simp [results, Tryd.results8, go_sem]) rfl ?_
    exact .inr (.inl ⟨hle, by rw [HA.out]; exact HNE.out, by rw [HA.out], HB.out⟩)
  · have HLK := Lib.hid (lkE_fit hg)
    have HOK := Lib.hid (gat_ok hg)
    have HI := Lib.hid hI
    have HW := Lib.hid hW
    have HF := Lib.hid hF
    have hlf : i.fs.length ≤ 300 := by rw [hF]; omega
    have hbw := HI.out.below
    rw [hW] at hbw
    have HBW := Lib.hid hbw
    clear hg HGA hI hW hF hbw
    go_wp2
    go_loopw [22] (fun ii wr => ∃ (k : Nat) (sv1 : Value) (q1 : Nat), k ≤ n ∧ ii = .int .i64 k ∧ Hid (Im i sv1 q1 wr) ∧ Hid (fitsE fs fs = fitsE fs (fs.drop k)) ∧ q1 ≤ k * 1010000) (fun ii _ => n - (intOf ii).toNat)
    case atStart => exact ⟨0, sv, 0, Nat.zero_le _, rfl, HI, Lib.hid (by simp), by omega⟩
    case round =>
      obtain ⟨k, sv1, q1, hk, rfl, HI1, HE, hc1⟩ := hrel
      have hwr : Below w.heap.size w wr := by have := HI1.out.below; rw [HW.out] at this; exact this
      have HWR := Lib.hid hwr
      by_cases hlt : k < n
      · obtain ⟨x, hx⟩ : ∃ x, fs[k]? = some x := ⟨_, List.getElem?_eq_getElem (by have := HN.out; omega)⟩
        obtain ⟨b, o, cs, hab, hcell, hF⟩ := HK.out k x hx
        have hFw := hF.keep (Keeps.of_below hwr)
        obtain ⟨a8, n8, c8, a9, n9, c9, a1, n1, c1, a2, n2, c2, a3, n3, c3, a4, n4, c4, a5, n5, c5, a0, n0, c0, rfl, _⟩ := id hF
        subst hab
        have k0 : wr.cell? ⟨b, o + k * 10, none⟩ = some (.string x.fc.name) := (hwr.cell (World.block_lt_of_cell? _ _ (hcell 0 _ rfl))).trans (hcell 0 _ rfl)
        have k1 := (hwr.cell (World.block_lt_of_cell? _ _ (hcell 1 _ rfl))).trans (hcell 1 _ rfl)
        have k2 := (hwr.cell (World.block_lt_of_cell? _ _ (hcell 2 _ rfl))).trans (hcell 2 _ rfl)
        have k3 := (hwr.cell (World.block_lt_of_cell? _ _ (hcell 3 _ rfl))).trans (hcell 3 _ rfl)
        have k4 := (hwr.cell (World.block_lt_of_cell? _ _ (hcell 4 _ rfl))).trans (hcell 4 _ rfl)
        have k5 := (hwr.cell (World.block_lt_of_cell? _ _ (hcell 5 _ rfl))).trans (hcell 5 _ rfl)
        have k6 := (hwr.cell (World.block_lt_of_cell? _ _ (hcell 6 _ rfl))).trans (hcell 6 _ rfl)
        have k7 := (hwr.cell (World.block_lt_of_cell? _ _ (hcell 7 _ rfl))).trans (hcell 7 _ rfl)
        have k8 := (hwr.cell (World.block_lt_of_cell? _ _ (hcell 8 _ rfl))).trans (hcell 8 _ rfl)
        have k9 := (hwr.cell (World.block_lt_of_cell? _ _ (hcell 9 _ rfl))).trans (hcell 9 _ rfl)
        have hgl : b < wr.heap.size := World.block_lt_of_cell? _ _ k0
        have hm := List.mem_of_getElem? hx
        have HFT := Lib.hid (fits23 i hlf sv1 q1 (wr.alloc (.cells #[.string x.fc.name, .string x.fc.sup, .slice a8 n8 c8, .slice a9 n9 c9, .slice a1 n1 c1, .slice a2 n2 c2, .slice a3 n3 c3, .slice a4 n4 c4, .slice a5 n5 c5, .slice a0 n0 c0] 44)) (HI1.out.bel (below1 wr _)) (by omega) x ((HFW.out x hm).pob (HOK.out.1 x hm).1) (by have := (HFW.out x hm).1.name; unfold maxLen; omega) _ (hFw.keep (Keeps.of_below (below1 wr _))))
        have HNX : Hid (fitsE fs fs = if fitE fs x ≠ 0 then fitE fs x else fitsE fs (fs.drop (k + 1))) := Lib.hid (by rw [HE.out, drop_at hx, fitsE])
        have hhb := HI1.out.hB
        clear hcell hF hFw hx hm hwr
        rw [HF.out] at HFT
        go_wp2_with fail
        refine HFT.out.mono ?_
        rintro e w2 ⟨sv2, q2, rfl, hI2, hk2, hb2, hc2⟩
        have HI2 := Lib.hid hI2
        clear hI2 hk2 hb2 HFT k0 k1 k2 k3 k4 k5 k6 k7 k8 k9
        generalize hfe : fitE fs x = fe at *
        clear hfe
        by_cases h0 : fe = 0
        · have tz : (fe == 0) = true := by simp [h0]
          have HE2 : Hid (fitsE fs fs = fitsE fs (fs.drop (k + 1))) := Lib.hid (by rw [HNX.out, if_neg (by simp [h0])])
          clear h0 HNX
          go_wp2
          go_roundw
          case rel => exact ⟨k + 1, sv2, q2, by omega, by go_num, HI2, HE2, by omega⟩
          case measure => simp [intOf]; omega
        · have tz : (fe == 0) = false := by simp [h0]
          have HA : Hid (lkE fs = fe) := Lib.hid (by rw [HLK.out, HNX.out, if_pos h0])
          have HNE := Lib.hid h0
          have hbf := HI2.out.below
          rw [HW.out] at hbf
          have HBF := Lib.hid hbf
          clear h0 HNX hbf
          go_wp2
          refine bodyPost_ret (v := .tuple #[.pointer none, .int .i64 fe]) (by simp [results, Tryd.results8, go_sem]) rfl ?_
          exact .inr (.inl ⟨hle, by rw [HA.out]; exact HNE.out, by rw [HA.out], HBF.out⟩)
      · have hkn : fs.length ≤ k := by have := HN.out; omega
        have HA : Hid (lkE fs = 0) := Lib.hid (by rw [HLK.out, HE.out, List.drop_eq_nil_of_le hkn]; rfl)
        go_wp2
        refine bodyPost_ret (v := .tuple #[.pointer (some ⟨i.im, 0, none⟩), .int .i64 0]) (by simp [results, Tryd.results8, go_sem]) rfl ?_
        exact .inr (.inr ⟨hle, HA.out, i, sv1, q1, HW.out, HF.out, rfl, HI1.out, by omega⟩)
end Go.Proofs.YthimpjfmelmhpaaDoor.Fc
