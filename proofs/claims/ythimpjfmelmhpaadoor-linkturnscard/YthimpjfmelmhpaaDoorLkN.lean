/-
  The statement's own 'check'.
-/
import Derived.Test.YthimpjfmelmhpaaDoorLkJK
namespace Go.Proofs.YthimpjfmelmhpaaDoor.Fc
open Go.RowKit
set_option linter.unusedVariables false
set_option linter.unusedSimpArgs false

def CPost (fs : List Fl) (w : World) (e : Ending) (w' : World) : Prop := e = .returned (.int .i64 (ckE fs)) ∧ Below w.heap.size w w'
set_option maxHeartbeats 16000000 in
set_option maxRecDepth 100000 in
theorem check9 (fs : List Fl) (a : Option Addr) (n cp : Nat) (w : World) (h : Sl w 10 (FlR w) fs (.slice a n cp)) (hn : n ≤ 300) (hT : TabR w) (hfw : ∀ f ∈ fs, FwC f) :
    Calls Tryd.prog 9 #[.slice a n cp] w (CPost fs w) := by
  obtain ⟨hnn, hl, hcp, hkk⟩ := h.at
  unfold maxLen at hcp
  obtain ⟨D, hD⟩ := h.rows
  have HD := Lib.hid hD
  have HN := Lib.hid hnn
  have HTB := Lib.hid hT
  have HFW := Lib.hid hfw
  obtain ⟨C, hC⟩ : ∃ C : Nat → List Value, ∀ i, C i = (D i).take 4 := ⟨fun i => (D i).take 4, fun _ => rfl⟩
  have HC4 : Hid (∀ i, i < n → ((faces fs)[i]?.isSome ∧ ∃ x, fs[i]? = some x ∧ FcR w x.fc (C i)) ∧ (C i).length = 4 ∧ ∀ u ∈ C i, u.oneCell' = true) := Lib.hid (fun i hi => by
    rw [hC i]
    obtain ⟨⟨x, hx, hF⟩, _⟩ := hD i hi
    obtain ⟨a8, n8, c8, a9, n9, c9, a1, n1, c1, a2, n2, c2, a3, n3, c3, a4, n4, c4, a5, n5, c5, a0, n0, c0, hDi, hfc, _⟩ := hF
    rw [hDi]
    exact ⟨⟨by simp [faces, hx], x, hx, hfc⟩, rfl, by simp [Value.oneCell']⟩)
  have HCe := Lib.hid hC
  have HCZ := Lib.hid (cst_zero w C)
  have HMX : Hid (∀ i x, i < n → fs[i]? = some x → FlR w x (D i)) := Lib.hid (fun i x hi hx => by
    obtain ⟨⟨y, hy, hF⟩, _⟩ := hD i hi
    rw [hx] at hy
    cases hy
    exact hF)
  clear h hD hnn hT hfw hkk hC
  go_enter Tryd.func9, Tryd.ntmps9
  go_wp2
  go_loopw [3, 29] (fun vv ii wr => ∃ (k : Nat) (v : Value), k ≤ n ∧ v = vv ∧ ii = .int .i64 k ∧ Hid (CSt w C k v wr) ∧ Hid (gat [] fs = gat ((fs.take k).map (fun f => f.fc.name)) (fs.drop k))) (fun _ ii _ => n - (intOf ii).toNat)
  case atStart => exact ⟨0, _, Nat.zero_le _, rfl, rfl, HCZ, Lib.hid (by simp)⟩
  case round =>
    obtain ⟨k, v, hk, rfl, rfl, HG, HE⟩ := hrel
    clear HCZ
    have hwr := HG.out.bel
    have HWR := Lib.hid hwr
    have hsw := hwr.size
    obtain ⟨wo, hwo⟩ : ∃ wo, wo = wr := ⟨_, rfl⟩
    subst hwo
    by_cases hlt : k < n
    · obtain ⟨⟨x, hx, hF⟩, b, o, hab, hcell⟩ := HD.out k hlt
      have HCk := Lib.hid (HC4.out k hlt)
      have hFw := hF.keep (Keeps.of_below hwr)
      obtain ⟨a8, n8, c8, a9, n9, c9, a1, n1, c1, a2, n2, c2, a3, n3, c3, a4, n4, c4, a5, n5, c5, a0, n0, c0, hDk, _⟩ := id hF
      have hCk : C k = [.string x.fc.name, .string x.fc.sup, .slice a8 n8 c8, .slice a9 n9 c9] := by rw [HCe.out k, hDk]; rfl
      rw [hDk] at hFw
      rw [hDk] at hcell
      subst hab
      have k0 : wo.cell? ⟨b, o + k * 10, none⟩ = some (.string x.fc.name) := (hwr.cell (World.block_lt_of_cell? _ _ (hcell 0 _ rfl))).trans (hcell 0 _ rfl)
      have k1 := (hwr.cell (World.block_lt_of_cell? _ _ (hcell 1 _ rfl))).trans (hcell 1 _ rfl)
      have k2 := (hwr.cell (World.block_lt_of_cell? _ _ (hcell 2 _ rfl))).trans (hcell 2 _ rfl)
      have k3 := (hwr.cell (World.block_lt_of_cell? _ _ (hcell 3 _ rfl))).trans (hcell 3 _ rfl)
      have k4 := (hwr.cell (World.block_lt_of_cell? _ _ (hcell 4 _ rfl))).trans (hcell 4 _ rfl)
      have k5 := (hwr.cell (World.block_lt_of_cell? _ _ (hcell 5 _ rfl))).trans (hcell 5 _ rfl)
      have k6 := (hwr.cell (World.block_lt_of_cell? _ _ (hcell 6 _ rfl))).trans (hcell 6 _ rfl)
      have k7 := (hwr.cell (World.block_lt_of_cell? _ _ (hcell 7 _ rfl))).trans (hcell 7 _ rfl)
      have k8 := (hwr.cell (World.block_lt_of_cell? _ _ (hcell 8 _ rfl))).trans (hcell 8 _ rfl)
      have k9 := (hwr.cell (World.block_lt_of_cell? _ _ (hcell 9 _ rfl))).trans (hcell 9 _ rfl)
      have hgl : b < wo.heap.size := World.block_lt_of_cell? _ _ k0
      have HXX := Lib.hid hx
      have HCK := Lib.hid hCk
      have HRT := Lib.hid (right11 x _ (wo.alloc (.cells #[.string x.fc.name, .string x.fc.sup, .slice a8 n8 c8, .slice a9 n9 c9, .slice a1 n1 c1, .slice a2 n2 c2, .slice a3 n3 c3, .slice a4 n4 c4, .slice a5 n5 c5, .slice a0 n0 c0] 44)) (hFw.keep (Keeps.of_below (below1 wo _))) ((HTB.out.bel hwr).bel (below1 wo _)))
      have HNX : Hid (gat [] fs = gat ((fs.take k).map (fun f => f.fc.name)) (x :: fs.drop (k + 1))) := Lib.hid (by rw [HE.out, drop_at hx])
      clear hcell hF hFw hDk hx hCk
      go_wp2_with fail
      refine HRT.out.mono ?_
      rintro e w2 ⟨r, rfl, hr, hb2⟩
      have HR := Lib.hid hr
      have HB2 : Hid (Below wo.heap.size wo w2) := Lib.hid ((below1 wo _).trans (hb2.mono (by simp)))
      have HBX : Hid (Blk w2 wo.heap.size [.string x.fc.name, .string x.fc.sup, .slice a8 n8 c8, .slice a9 n9 c9, .slice a1 n1 c1, .slice a2 n2 c2, .slice a3 n3 c3, .slice a4 n4 c4, .slice a5 n5 c5, .slice a0 n0 c0] 44) := Lib.hid ((Blk.new wo [.string x.fc.name, .string x.fc.sup, .slice a8 n8 c8, .slice a9 n9 c9, .slice a1 n1 c1, .slice a2 n2 c2, .slice a3 n3 c3, .slice a4 n4 c4, .slice a5 n5 c5, .slice a0 n0 c0] 44).below hb2)
      have hsz2 := HB2.out.size
      have hsz3 := HBX.out.lt
      clear hb2 hr HRT k0 k1 k2 k3 k4 k5 k6 k7 k8 k9
      cases r with
      | false =>
        have HA : Hid (ckE fs = 2) := Lib.hid (by
          have h2 : gat [] fs = 2 := by rw [HNX.out]; exact (gat_cons _ _ _).1 (fun h => by have := HR.out.2 h; cases this)
          unfold ckE
          rw [h2]
          simp)
        go_wp2
        go_ret
        exact ⟨by rw [HA.out]; rfl, HWR.out.trans (HB2.out.mono hsw)⟩
      | true =>
      have HRF := Lib.hid (HR.out.1 rfl)
      go_wp2
      go_loopw [41] (fun ii wr => ∃ (q : Nat), q ≤ k ∧ ii = .int .i64 q ∧ Hid (∀ y ∈ fs.take q, y.fc.name ≠ x.fc.name) ∧ Hid (Below w2.heap.size w2 wr)) (fun ii _ => k - (intOf ii).toNat)
      case atStart => exact ⟨0, Nat.zero_le _, rfl, Lib.hid (by simp), Lib.hid (Below.refl _ _)⟩
      case round =>
        obtain ⟨q, hq, rfl, HNO, HBQ⟩ := hrel
        have hsq := HBQ.out.size
        have hbw : Below w.heap.size w wr := HWR.out.trans ((HB2.out.trans (HBQ.out.mono hsz2)).mono hsw)
        have x0 : wr.cell? ⟨wo.heap.size, 0, none⟩ = some (.string x.fc.name) := (HBX.out.below HBQ.out).cell 0
        by_cases hlq : q < k
        · obtain ⟨⟨y, hy, hFy⟩, b2, o2, hab2, hcell2⟩ := HD.out q (by omega)
          obtain ⟨ay8, ny8, cy8, ay9, ny9, cy9, ay1, ny1, cy1, ay2, ny2, cy2, ay3, ny3, cy3, ay4, ny4, cy4, ay5, ny5, cy5, ay0, ny0, cy0, hDq, _⟩ := id hFy
          rw [hDq] at hcell2
          cases hab2
          have y0 : wr.cell? ⟨b, o + q * 10, none⟩ = some (.string y.fc.name) := (hbw.cell (World.block_lt_of_cell? _ _ (hcell2 0 _ rfl))).trans (hcell2 0 _ rfl)
          have y1 := (hbw.cell (World.block_lt_of_cell? _ _ (hcell2 1 _ rfl))).trans (hcell2 1 _ rfl)
          have y2 := (hbw.cell (World.block_lt_of_cell? _ _ (hcell2 2 _ rfl))).trans (hcell2 2 _ rfl)
          have y3 := (hbw.cell (World.block_lt_of_cell? _ _ (hcell2 3 _ rfl))).trans (hcell2 3 _ rfl)
          have y4 := (hbw.cell (World.block_lt_of_cell? _ _ (hcell2 4 _ rfl))).trans (hcell2 4 _ rfl)
          have y5 := (hbw.cell (World.block_lt_of_cell? _ _ (hcell2 5 _ rfl))).trans (hcell2 5 _ rfl)
          have y6 := (hbw.cell (World.block_lt_of_cell? _ _ (hcell2 6 _ rfl))).trans (hcell2 6 _ rfl)
          have y7 := (hbw.cell (World.block_lt_of_cell? _ _ (hcell2 7 _ rfl))).trans (hcell2 7 _ rfl)
          have y8 := (hbw.cell (World.block_lt_of_cell? _ _ (hcell2 8 _ rfl))).trans (hcell2 8 _ rfl)
          have y9 := (hbw.cell (World.block_lt_of_cell? _ _ (hcell2 9 _ rfl))).trans (hcell2 9 _ rfl)
          have hgl2 : b < wr.heap.size := World.block_lt_of_cell? _ _ y0
          have xa : (wr.alloc (.cells #[.string y.fc.name, .string y.fc.sup, .slice ay8 ny8 cy8, .slice ay9 ny9 cy9, .slice ay1 ny1 cy1, .slice ay2 ny2 cy2, .slice ay3 ny3 cy3, .slice ay4 ny4 cy4, .slice ay5 ny5 cy5, .slice ay0 ny0 cy0] 44)).cell? ⟨wo.heap.size, 0, none⟩ = some (.string x.fc.name) := ((below1 wr _).cell (World.block_lt_of_cell? _ _ x0)).trans x0
          have HYY := Lib.hid hy
          clear hcell2 hFy hDq hy
          by_cases hnm : y.fc.name = x.fc.name
          · have tn := teq hnm
            have HA : Hid (ckE fs = 6) := Lib.hid (by
              have h2 : gat [] fs = 6 := by
                rw [HNX.out]
                refine (gat_cons _ _ _).2.1 HRF.out (List.mem_map.2 ⟨y, ?_, hnm⟩)
                exact List.mem_of_getElem? (i := q) (by rw [List.getElem?_take, if_pos hlq]; exact HYY.out)
              unfold ckE
              rw [h2]
              simp)
            have HBF := Lib.hid (hbw.trans ((below1 wr (.cells #[.string y.fc.name, .string y.fc.sup, .slice ay8 ny8 cy8, .slice ay9 ny9 cy9, .slice ay1 ny1 cy1, .slice ay2 ny2 cy2, .slice ay3 ny3 cy3, .slice ay4 ny4 cy4, .slice ay5 ny5 cy5, .slice ay0 ny0 cy0] 44)).mono hbw.size))
            clear hnm hbw
            go_wp2
            go_ret
            exact ⟨by rw [HA.out]; rfl, HBF.out⟩
          · have tn := tne hnm
            have HN2 := Lib.hid (all_snoc (P := fun y : Fl => y.fc.name ≠ x.fc.name) HYY.out HNO.out hnm)
            clear hnm hbw
            go_wp2
            go_roundw
            case rel => exact ⟨q + 1, by omega, by go_num, HN2, Lib.hid (HBQ.out.trans ((below1 wr _).mono hsq))⟩
            case measure => simp [intOf]; omega
        · have HA : Hid (gat [] fs = gat ((fs.take (k + 1)).map (fun f => f.fc.name)) (fs.drop (k + 1))) := Lib.hid (by
            rw [HNX.out, take_names fs k x HXX.out]
            refine (gat_cons _ _ _).2.2 HRF.out (fun hm => ?_)
            obtain ⟨y, hy, he⟩ := List.mem_map.1 hm
            exact HNO.out y (by rw [show q = k by omega]; exact hy) he)
          have hG2 := HG.out.below (HB2.out.trans (HBQ.out.mono hsz2))
          obtain ⟨v', w4, hap, hG5, hs4⟩ := hG2.app HCk.out.2.1 HCk.out.2.2 (by omega)
          rw [HCK.out] at hap
          have HG5 := Lib.hid hG5
          clear hG5 hG2 x0
          have hbx := HBX.out.below HBQ.out
          have b0 := hbx.cell 0
          have b1 := hbx.cell 1
          have b2 := hbx.cell 2
          have b3 := hbx.cell 3
          simp only [List.getElem?_cons_zero, List.getElem?_cons_succ] at b0 b1 b2 b3
          clear hbx hbw
          go_wp2_with (at_builtin; refine wpList_append_run rfl _ _ 80 rfl rfl rfl rfl hap ?_)
          go_wp2
          go_roundw
          case rel => exact ⟨k + 1, _, by omega, rfl, by go_num, HG5, HA⟩
          case measure => simp [intOf]; omega
    · have hkn : k = fs.length := by have := HN.out; omega
      have HGZ : Hid (gat [] fs = 0) := Lib.hid (by rw [HE.out, hkn, List.drop_length]; rfl)
      have hsl : Sl wo 4 (FcR wo) (faces fs) v := row_sl HG.out.row (by rw [hkn]; simp [faces]) (fun i hi => by
        have h4 := HC4.out i (by omega)
        obtain ⟨x, hx, hf⟩ := h4.1.2
        refine ⟨⟨x.fc, by simp [faces, hx], ?_⟩, ?_⟩
        · exact hf.keep (Keeps.of_below HWR.out)
        · exact h4.2.1)
      obtain ⟨av, cv, rfl⟩ := hsl.form
      have HNW := Lib.hid (new11 wo (faces fs) av (faces fs).length cv hsl (by simp [faces]; have := HN.out; omega) (fun y hy => by
        obtain ⟨f, hf, rfl⟩ := List.mem_map.1 hy
        exact (HFW.out f hf).1))
      have HCE : Hid (ckE fs = fitsT (faces fs) fs) := Lib.hid (by unfold ckE; rw [HGZ.out]; simp)
      have HOK := Lib.hid (gat_ok HGZ.out)
      clear hsl HE HGZ HG
      go_wp2_with fail
      refine HNW.out.mono ?_
      rintro e w5 ⟨tb, fm, rfl, hTb, hb5⟩
      have HTS0 := Lib.hid (TS.start HWR.out hTb hb5)
      clear hTb hb5 HNW hwr hsw
      go_wp2
      go_loopw [63] (fun ii wr => ∃ (k : Nat), k ≤ n ∧ ii = .int .i64 k ∧ Hid (TS w tb fm (faces fs) (k * 2000000) wr) ∧ Hid (fitsT (faces fs) fs = fitsT (faces fs) (fs.drop k))) (fun ii _ => n - (intOf ii).toNat)
      case atStart => exact ⟨0, Nat.zero_le _, rfl, HTS0, Lib.hid (by simp)⟩
      case round =>
        clear hlt hk hkn HWR
        obtain ⟨k, hk, rfl, HS, HE⟩ := hrel
        clear HTS0
        obtain ⟨wq, hwq⟩ : ∃ wq, wq = wr := ⟨_, rfl⟩
        subst hwq
        have hwr := HS.out.bel
        by_cases hlt : k < n
        · obtain ⟨⟨x, hx, hF⟩, b, o, hab, hcell⟩ := HD.out k hlt
          have hFw := hF.keep (Keeps.of_below hwr)
          obtain ⟨a8, n8, c8, a9, n9, c9, a1, n1, c1, a2, n2, c2, a3, n3, c3, a4, n4, c4, a5, n5, c5, a0, n0, c0, hDk, _⟩ := id hF
          rw [hDk] at hFw
          rw [hDk] at hcell
          subst hab
          have k0 : wq.cell? ⟨b, o + k * 10, none⟩ = some (.string x.fc.name) := (hwr.cell (World.block_lt_of_cell? _ _ (hcell 0 _ rfl))).trans (hcell 0 _ rfl)
          have k1 := (hwr.cell (World.block_lt_of_cell? _ _ (hcell 1 _ rfl))).trans (hcell 1 _ rfl)
          have k2 := (hwr.cell (World.block_lt_of_cell? _ _ (hcell 2 _ rfl))).trans (hcell 2 _ rfl)
          have k3 := (hwr.cell (World.block_lt_of_cell? _ _ (hcell 3 _ rfl))).trans (hcell 3 _ rfl)
          have k4 := (hwr.cell (World.block_lt_of_cell? _ _ (hcell 4 _ rfl))).trans (hcell 4 _ rfl)
          have k5 := (hwr.cell (World.block_lt_of_cell? _ _ (hcell 5 _ rfl))).trans (hcell 5 _ rfl)
          have k6 := (hwr.cell (World.block_lt_of_cell? _ _ (hcell 6 _ rfl))).trans (hcell 6 _ rfl)
          have k7 := (hwr.cell (World.block_lt_of_cell? _ _ (hcell 7 _ rfl))).trans (hcell 7 _ rfl)
          have k8 := (hwr.cell (World.block_lt_of_cell? _ _ (hcell 8 _ rfl))).trans (hcell 8 _ rfl)
          have k9 := (hwr.cell (World.block_lt_of_cell? _ _ (hcell 9 _ rfl))).trans (hcell 9 _ rfl)
          have hgl : b < wq.heap.size := World.block_lt_of_cell? _ _ k0
          have hm := List.mem_of_getElem? hx
          have HRF := Lib.hid (HOK.out.1 x hm).1
          have HPB := Lib.hid ((HFW.out x hm).pob HRF.out)
          have hnm : x.fc.name.size ≤ maxLen := by have := (HFW.out x hm).1.name; unfold maxLen; omega
          have HS1 := Lib.hid (HS.out.below (below1 wq (.cells #[.string x.fc.name, .string x.fc.sup, .slice a8 n8 c8, .slice a9 n9 c9, .slice a1 n1 c1, .slice a2 n2 c2, .slice a3 n3 c3, .slice a4 n4 c4, .slice a5 n5 c5, .slice a0 n0 c0] 44)))
          have HLL : Hid ((faces fs).length ≤ 300) := Lib.hid (by simp [faces]; have := HN.out; omega)
          have HCK := Lib.hid (HS1.out.call (by omega) (fun B sv c hB hT hc => check29 B tb fm (faces fs) HLL.out x.fc.name hnm _ sv c hB hT (by omega)))
          have HBX0 : Hid (Bx wq.heap.size [Value.string x.fc.name, .string x.fc.sup, .slice a8 n8 c8, .slice a9 n9 c9, .slice a1 n1 c1, .slice a2 n2 c2, .slice a3 n3 c3, .slice a4 n4 c4, .slice a5 n5 c5, .slice a0 n0 c0] (wq.alloc (.cells #[.string x.fc.name, .string x.fc.sup, .slice a8 n8 c8, .slice a9 n9 c9, .slice a1 n1 c1, .slice a2 n2 c2, .slice a3 n3 c3, .slice a4 n4 c4, .slice a5 n5 c5, .slice a0 n0 c0] 44))) := Lib.hid (Bx.new (by
              intro v hv
              simp only [List.mem_cons, List.not_mem_nil, or_false] at hv
              rcases hv with rfl | rfl | rfl | rfl | rfl | rfl | rfl | rfl | rfl | rfl
              all_goals first | exact pl_str _ | exact pl_slice _ _ _))
          have HPO0 : Hid (PoR wq x (.slice a1 n1 c1) (.slice a2 n2 c2) (.slice a3 n3 c3) (.slice a4 n4 c4) (.slice a5 n5 c5)) := Lib.hid (by
            obtain ⟨az8, nz8, cz8, az9, nz9, cz9, az1, nz1, cz1, az2, nz2, cz2, az3, nz3, cz3, az4, nz4, cz4, az5, nz5, cz5, az0, nz0, cz0, he, _, hpo, _⟩ := id hFw
            simp only [List.cons.injEq, Value.slice.injEq, Value.string.injEq, and_true] at he
            obtain ⟨_, _, _, _, ⟨rfl, rfl, rfl⟩, ⟨rfl, rfl, rfl⟩, ⟨rfl, rfl, rfl⟩, ⟨rfl, rfl, rfl⟩, ⟨rfl, rfl, rfl⟩, _⟩ := he
            exact hpo)
          have HPO := Lib.hid (HPO0.out.keep (Keeps.of_below (below1 wq (.cells #[.string x.fc.name, .string x.fc.sup, .slice a8 n8 c8, .slice a9 n9 c9, .slice a1 n1 c1, .slice a2 n2 c2, .slice a3 n3 c3, .slice a4 n4 c4, .slice a5 n5 c5, .slice a0 n0 c0] 44))))
          have HNX : Hid (fitsT (faces fs) fs = if fitT (faces fs) x ≠ 0 then fitT (faces fs) x else fitsT (faces fs) (fs.drop (k + 1))) := Lib.hid (by rw [HE.out, drop_at hx, fitsT])
          have HFT : Hid (fitT (faces fs) x = if chk (faces fs) x.fc.name ≠ 0 then chk (faces fs) x.fc.name else if okB (faces fs) x then 0 else 30) := Lib.hid rfl
          clear hcell hF hFw hDk hx hm hnm HPO0 HE hwr
          go_wp2_with fail
          refine HCK.out.mono ?_
          rintro e w2 ⟨rfl, hS2, hk2, hz2⟩
          have HS2 := Lib.hid hS2
          have HBX2 := Lib.hid (HBX0.out.keep hk2)
          have HPO2 := Lib.hid (HPO.out.keep hk2)
          generalize chk (faces fs) x.fc.name = ck at *
          clear hS2 hk2 HCK HBX0 HPO k0 k1 k2 k3 k4 k5 k6 k7 k8 k9
          by_cases h0 : ck = 0
          rotate_left
          · have tz : (ck == 0) = false := by simp [h0]
            have HA : Hid (ckE fs = ck) := Lib.hid (by rw [HCE.out, HNX.out, HFT.out, if_pos h0, if_pos h0])
            have HBF := Lib.hid HS2.out.bel
            clear h0
            go_wp2
            go_ret
            exact ⟨by rw [HA.out]; rfl, HBF.out⟩
          have tz : (ck == 0) = true := by simp [h0]
          have HFT2 : Hid (fitT (faces fs) x = if okB (faces fs) x then 0 else 30) := Lib.hid (by rw [HFT.out, if_neg (by simp [h0])])
          clear h0 HFT
          have b6 := HBX2.out.box 6 _ rfl
          have HKN := Lib.hid (HS2.out.call (by omega) (fun B sv c hB hT hc => known27 B tb fm (faces fs) x.ty HPB.out.ty.2 HPB.out.ty.1 a3 n3 c3 w2 sv c HPO2.out.ty hB hT (by omega)))
          have htl := HPB.out.ty.1
          go_wp2_with fail
          refine HKN.out.mono ?_
          rintro e w3 ⟨rfl, hS3, hk3, hz3⟩
          have HS3 := Lib.hid (hS3.le (j := k * 2000000 + 11000) (by omega))
          have HBX3 := Lib.hid (HBX2.out.keep hk3)
          have HPO3 := Lib.hid (HPO2.out.keep hk3)
          have HOKB : Hid (okB (faces fs) x = (x.ty.all (fun t => knB (faces fs) t.n) && x.cl.all (fun c => (fnd (faces fs) c).isSome) && x.fd.all (okFd (faces fs)) && x.mt.all (fun y => (fdL (faces fs) y).isSome))) := Lib.hid rfl
          generalize x.ty.all (fun t => knB (faces fs) t.n) = B1 at *
          clear hS3 hk3 HKN HBX2 HPO2 HS2 b6
          obtain ⟨ec, lc, mc, hkc⟩ := HPO3.out.cl.at
          unfold maxLen at mc
          have EC := Lib.hid ec
          have HKC := Lib.hid hkc
          have hlc := HPB.out.cl.1
          clear ec hkc
          have b5 := HBX3.out.box 5 _ rfl
          have hn2 : n2 ≤ 1000 := by have := EC.out; omega
          go_wp2
          go_loopw [12, 84] (fun bb ii wr => ∃ (q : Nat), q ≤ n2 ∧ ii = .int .i64 q ∧ bb = .bool (B1 && (x.cl.take q).all (fun c => (fnd (faces fs) c).isSome)) ∧ Hid (TS w tb fm (faces fs) (k * 2000000 + 11000 + q) wr ∧ Keeps w3 wr ∧ w3.heap.size ≤ wr.heap.size)) (fun _ ii _ => n2 - (intOf ii).toNat)
          case atStart => exact ⟨0, Nat.zero_le _, rfl, by simp, Lib.hid ⟨HS3.out, Keeps.refl _, Nat.le_refl _⟩⟩
          case round =>
            obtain ⟨q, hq, rfl, rfl, HS4⟩ := hrel
            by_cases hlq : q < n2
            · obtain ⟨c, hcx⟩ : ∃ c, x.cl[q]? = some c := ⟨_, List.getElem?_eq_getElem (by have := EC.out; omega)⟩
              obtain ⟨g2, o2, cs2, rfl, hcell2, rfl⟩ := HKC.out q c hcx
              have y0 : wr.cell? ⟨g2, o2 + q * 1, none⟩ = some (.string c) := HS4.out.2.1 _ _ (hcell2 0 _ rfl) (pl_str _)
              have hgl2 : g2 < wr.heap.size := World.block_lt_of_cell? _ _ y0
              have hcs := HPB.out.cl.2 c (List.mem_of_getElem? hcx)
              have HSN : Hid ((x.cl.take (q + 1)).all (fun c => (fnd (faces fs) c).isSome) = ((x.cl.take q).all (fun c => (fnd (faces fs) c).isSome) && (fnd (faces fs) c).isSome)) := Lib.hid (by
                obtain ⟨hq', rfl⟩ := List.getElem?_eq_some_iff.1 hcx
                rw [List.take_succ_eq_append_getElem hq', List.all_append]
                simp)
              have HFA := Lib.hid (HS4.out.1.face (by omega) c hcs)
              simp only [Nat.mul_one] at y0
              clear hcell2 hcx
              generalize (x.cl.take q).all (fun c => (fnd (faces fs) c).isSome) = B2 at *
              go_wp2_with fail
              refine HFA.out.mono ?_
              rintro e w4 ⟨u1, u2, u3, v1, v2, v3, rfl, hS5, hk5, hz5⟩
              have HS5 : Hid (∀ z, Below w4.heap.size w4 z → Hid (TS w tb fm (faces fs) (k * 2000000 + 11000 + (q + 1)) z ∧ Keeps w3 z ∧ w3.heap.size ≤ z.heap.size)) := Lib.hid (fun z hz => Lib.hid ⟨(hS5.le (by omega)).below hz, (HS4.out.2.1.trans hk5).trans (Keeps.of_below hz), Nat.le_trans HS4.out.2.2 (Nat.le_trans hz5 hz.size)⟩)
              generalize hF1 : (fnd (faces fs) c).isSome = F1 at *
              generalize (fnd (faces fs) c).getD zF = fz at *
              clear hS5 hk5 HFA y0
              cases hcur : (B1 && B2) with
              | true =>
                have HNB : Hid (Value.bool F1 = .bool (B1 && (x.cl.take (q + 1)).all (fun c => (fnd (faces fs) c).isSome))) := Lib.hid (by rw [HSN.out, ← Bool.and_assoc, hcur]; simp)
                clear hcur
                go_wp2
                go_roundw
                case rel => exact ⟨q + 1, by omega, by go_num, HNB.out, HS5.out _ (below1 w4 _)⟩
                case measure => simp [intOf]; omega
              | false =>
                have HNB : Hid (Value.bool false = .bool (B1 && (x.cl.take (q + 1)).all (fun c => (fnd (faces fs) c).isSome))) := Lib.hid (by rw [HSN.out, ← Bool.and_assoc, hcur]; simp)
                clear hcur
                go_wp2
                go_roundw
                case rel => exact ⟨q + 1, by omega, by go_num, HNB.out, HS5.out _ (below1 w4 _)⟩
                case measure => simp [intOf]; omega
            · have HTK : Hid ((x.cl.take q).all (fun c => (fnd (faces fs) c).isSome) = x.cl.all (fun c => (fnd (faces fs) c).isSome)) := Lib.hid (by rw [List.take_of_length_le (by have := EC.out; omega)])
              rw [HTK.out]
              have HOK2 : Hid (okB (faces fs) x = ((B1 && x.cl.all (fun c => (fnd (faces fs) c).isSome)) && x.fd.all (okFd (faces fs)) && x.mt.all (fun y => (fdL (faces fs) y).isSome))) := HOKB
              generalize (B1 && x.cl.all (fun c => (fnd (faces fs) c).isSome)) = B3 at *
              obtain ⟨w6, hw6⟩ : ∃ w6, w6 = wr := ⟨_, rfl⟩
              subst hw6
              have HS6 := Lib.hid (HS4.out.1.le (j := k * 2000000 + 12000) (by omega))
              have HPO6 := Lib.hid (HPO3.out.keep HS4.out.2.1)
              have HBX6 := Lib.hid (HBX3.out.keep HS4.out.2.1)
              clear HTK HS4 HKC EC
              obtain ⟨ed, ld, md, hkd⟩ := HPO6.out.fd.at
              unfold maxLen at md
              have ED := Lib.hid ed
              have HKD := Lib.hid hkd
              have hld := HPB.out.fd.1
              clear ed hkd
              have b7 := HBX6.out.box 7 _ rfl
              have hn4 : n4 ≤ 1000 := by have := ED.out; omega
              go_wp2
              go_loopw [12, 103] (fun bb ii wr => ∃ (q : Nat), q ≤ n4 ∧ ii = .int .i64 q ∧ bb = .bool (B3 && (x.fd.take q).all (okFd (faces fs))) ∧ Hid (TS w tb fm (faces fs) (k * 2000000 + 12000 + q * 602) wr ∧ Keeps w6 wr ∧ w6.heap.size ≤ wr.heap.size)) (fun _ ii _ => n4 - (intOf ii).toNat)
              case atStart => exact ⟨0, Nat.zero_le _, rfl, by simp, Lib.hid ⟨HS6.out, Keeps.refl _, Nat.le_refl _⟩⟩
              case round =>
                obtain ⟨q, hq, rfl, rfl, HS7⟩ := hrel
                by_cases hlq : q < n4
                · obtain ⟨y, hyx⟩ : ∃ y, x.fd[q]? = some y := ⟨_, List.getElem?_eq_getElem (by have := ED.out; omega)⟩
                  obtain ⟨g2, o2, cs2, rfl, hcell2, rfl⟩ := HKD.out q y hyx
                  have y0 : wr.cell? ⟨g2, o2 + q * 4, none⟩ = some (.string y.1.name) := HS7.out.2.1 _ _ (hcell2 0 _ rfl) (pl_str _)
                  have y1 := HS7.out.2.1 _ _ (hcell2 1 _ rfl) (pl_str _)
                  have y2 := HS7.out.2.1 _ _ (hcell2 2 _ rfl) (pl_bool _)
                  have y3 := HS7.out.2.1 _ _ (hcell2 3 _ rfl) (pl_str _)
                  have hgl2 : g2 < wr.heap.size := World.block_lt_of_cell? _ _ y0
                  have hcs := HPB.out.fd.2 y (List.mem_of_getElem? hyx)
                  have HSN : Hid ((x.fd.take (q + 1)).all (okFd (faces fs)) = ((x.fd.take q).all (okFd (faces fs)) && okFd (faces fs) y)) := Lib.hid (by
                    obtain ⟨hq', rfl⟩ := List.getElem?_eq_some_iff.1 hyx
                    rw [List.take_succ_eq_append_getElem hq', List.all_append]
                    simp)
                  have HSA := Lib.hid (HS7.out.1.below (below1 wr (.cells #[.string y.1.name, .string y.1.tn, .bool y.1.ta, .string y.2] 87)))
                  have HFA := Lib.hid (HSA.out.call (by omega) (fun B sv c hB hT hc => field20 B tb fm (faces fs) HLL.out y.2 y.1.name hcs _ sv c hB hT (by omega)))
                  have HBY : Hid (Bx wr.heap.size [Value.string y.1.name, .string y.1.tn, .bool y.1.ta, .string y.2] (wr.alloc (.cells #[.string y.1.name, .string y.1.tn, .bool y.1.ta, .string y.2] 87))) := Lib.hid (Bx.new (by
                    intro v hv
                    simp only [List.mem_cons, List.not_mem_nil, or_false] at hv
                    rcases hv with rfl | rfl | rfl | rfl
                    all_goals first | exact pl_str _ | exact pl_bool _))
                  have hOK : okFd (faces fs) y = decide ((fldOf (faces fs) (ab (faces fs) y.2).1 y.1.name).map (·.2) = some ⟨y.1.tn, y.1.ta⟩) := rfl
                  clear hcell2 hyx
                  generalize (x.fd.take q).all (okFd (faces fs)) = B4 at *
                  generalize fldOf (faces fs) (ab (faces fs) y.2).1 y.1.name = oo at *
                  go_wp2_with fail
                  refine HFA.out.mono ?_
                  rintro e w8 ⟨rfl, hS8, hk8, hz8⟩
                  have hb8 := HBY.out.keep hk8
                  have hz9 : wr.heap.size + 1 ≤ w8.heap.size := by simpa using hz8
                  have HS8 : Hid (∀ z, Below w8.heap.size w8 z → Hid (TS w tb fm (faces fs) (k * 2000000 + 12000 + (q + 1) * 602) z ∧ Keeps w6 z ∧ w6.heap.size ≤ z.heap.size)) := Lib.hid (fun z hz => Lib.hid ⟨(hS8.le (by omega)).below hz, (HS7.out.2.1.trans ((Keeps.of_below (below1 wr (.cells #[.string y.1.name, .string y.1.tn, .bool y.1.ta, .string y.2] 87))).trans hk8)).trans (Keeps.of_below hz), Nat.le_trans HS7.out.2.2 (Nat.le_trans (by omega) hz.size)⟩)
                  have HB8 := Lib.hid hb8
                  have hq0 := hb8.box 0 _ rfl
                  have hq1 := hb8.box 1 _ rfl
                  have hq2 := hb8.box 2 _ rfl
                  have hq3 := hb8.box 3 _ rfl
                  clear hS8 hk8 HFA HSA HBY hb8 y0 y1 y2 y3 hz8
                  cases hcur : (B3 && B4) with
                  | true =>
                    cases oo with
                    | none =>
                      have HOF : okFd (faces fs) y = false := by rw [hOK]; simp
                      clear hOK
                      simp only [Option.getD_none, Option.isSome_none, eE, zT, tyV]
                      have HNB : Hid (Value.bool false = .bool (B3 && (x.fd.take (q + 1)).all (okFd (faces fs)))) := Lib.hid (by rw [HSN.out, ← Bool.and_assoc, hcur, HOF]; rfl)
                      clear hcur
                      clear HOF
                      go_wp2
                      go_roundw
                      case rel => exact ⟨q + 1, by omega, by go_num, HNB.out, HS8.out _ (below1 w8 _)⟩
                      case measure => simp [intOf]; omega
                    | some p =>
                      obtain ⟨pc, pn, pa⟩ := p
                      simp only [Option.getD_some, Option.isSome_some, tyV]
                      have hr1 := ((below1 w8 (.cells #[.string pn, .bool pa] 49)).cell (World.block_lt_of_cell? _ _ hq1)).trans hq1
                      have hr2 := ((below1 w8 (.cells #[.string pn, .bool pa] 49)).cell (World.block_lt_of_cell? _ _ hq2)).trans hq2
                      by_cases hn : pn = y.1.tn
                      · have tq := teq hn
                        by_cases ha : pa = y.1.ta
                        · have HOF : okFd (faces fs) y = true := by rw [hOK]; simp [hn, ha]
                          have ta : (pa == y.1.ta) = true := by simp [ha]
                          clear hOK hn ha
                          have HNB : Hid (Value.bool true = .bool (B3 && (x.fd.take (q + 1)).all (okFd (faces fs)))) := Lib.hid (by rw [HSN.out, ← Bool.and_assoc, hcur, HOF]; rfl)
                          clear hcur
                          clear HOF
                          go_wp2
                          go_roundw
                          case rel => exact ⟨q + 1, by omega, by go_num, HNB.out, HS8.out _ (below1 w8 _)⟩
                          case measure => simp [intOf]; omega
                        · have HOF : okFd (faces fs) y = false := by rw [hOK]; simp [ha]
                          have ta : (pa == y.1.ta) = false := by simp [ha]
                          clear hOK hn ha
                          have HNB : Hid (Value.bool false = .bool (B3 && (x.fd.take (q + 1)).all (okFd (faces fs)))) := Lib.hid (by rw [HSN.out, ← Bool.and_assoc, hcur, HOF]; rfl)
                          clear hcur
                          clear HOF
                          go_wp2
                          go_roundw
                          case rel => exact ⟨q + 1, by omega, by go_num, HNB.out, HS8.out _ (below1 w8 _)⟩
                          case measure => simp [intOf]; omega
                      · have tq := tne hn
                        have HOF : okFd (faces fs) y = false := by rw [hOK]; simp [hn]
                        clear hOK hn
                        have HNB : Hid (Value.bool false = .bool (B3 && (x.fd.take (q + 1)).all (okFd (faces fs)))) := Lib.hid (by rw [HSN.out, ← Bool.and_assoc, hcur, HOF]; rfl)
                        clear hcur
                        clear HOF
                        go_wp2
                        go_roundw
                        case rel => exact ⟨q + 1, by omega, by go_num, HNB.out, HS8.out _ (below1 w8 _)⟩
                        case measure => simp [intOf]; omega
                  | false =>
                    cases oo with
                    | none =>
                      have HOF : okFd (faces fs) y = false := by rw [hOK]; simp
                      clear hOK
                      simp only [Option.getD_none, Option.isSome_none, eE, zT, tyV]
                      have HNB : Hid (Value.bool false = .bool (B3 && (x.fd.take (q + 1)).all (okFd (faces fs)))) := Lib.hid (by rw [HSN.out, ← Bool.and_assoc, hcur, HOF]; rfl)
                      clear hcur
                      clear HOF
                      go_wp2
                      go_roundw
                      case rel => exact ⟨q + 1, by omega, by go_num, HNB.out, HS8.out _ (below1 w8 _)⟩
                      case measure => simp [intOf]; omega
                    | some p =>
                      obtain ⟨pc, pn, pa⟩ := p
                      simp only [Option.getD_some, Option.isSome_some, tyV]
                      have hr1 := ((below1 w8 (.cells #[.string pn, .bool pa] 49)).cell (World.block_lt_of_cell? _ _ hq1)).trans hq1
                      have hr2 := ((below1 w8 (.cells #[.string pn, .bool pa] 49)).cell (World.block_lt_of_cell? _ _ hq2)).trans hq2
                      by_cases hn : pn = y.1.tn
                      · have tq := teq hn
                        by_cases ha : pa = y.1.ta
                        · have HOF : okFd (faces fs) y = true := by rw [hOK]; simp [hn, ha]
                          have ta : (pa == y.1.ta) = true := by simp [ha]
                          clear hOK hn ha
                          have HNB : Hid (Value.bool false = .bool (B3 && (x.fd.take (q + 1)).all (okFd (faces fs)))) := Lib.hid (by rw [HSN.out, ← Bool.and_assoc, hcur, HOF]; rfl)
                          clear hcur
                          clear HOF
                          go_wp2
                          go_roundw
                          case rel => exact ⟨q + 1, by omega, by go_num, HNB.out, HS8.out _ (below1 w8 _)⟩
                          case measure => simp [intOf]; omega
                        · have HOF : okFd (faces fs) y = false := by rw [hOK]; simp [ha]
                          have ta : (pa == y.1.ta) = false := by simp [ha]
                          clear hOK hn ha
                          have HNB : Hid (Value.bool false = .bool (B3 && (x.fd.take (q + 1)).all (okFd (faces fs)))) := Lib.hid (by rw [HSN.out, ← Bool.and_assoc, hcur, HOF]; rfl)
                          clear hcur
                          clear HOF
                          go_wp2
                          go_roundw
                          case rel => exact ⟨q + 1, by omega, by go_num, HNB.out, HS8.out _ (below1 w8 _)⟩
                          case measure => simp [intOf]; omega
                      · have tq := tne hn
                        have HOF : okFd (faces fs) y = false := by rw [hOK]; simp [hn]
                        clear hOK hn
                        have HNB : Hid (Value.bool false = .bool (B3 && (x.fd.take (q + 1)).all (okFd (faces fs)))) := Lib.hid (by rw [HSN.out, ← Bool.and_assoc, hcur, HOF]; rfl)
                        clear hcur
                        clear HOF
                        go_wp2
                        go_roundw
                        case rel => exact ⟨q + 1, by omega, by go_num, HNB.out, HS8.out _ (below1 w8 _)⟩
                        case measure => simp [intOf]; omega
                · have HTK : Hid ((x.fd.take q).all (okFd (faces fs)) = x.fd.all (okFd (faces fs))) := Lib.hid (by rw [List.take_of_length_le (by have := ED.out; omega)])
                  rw [HTK.out]
                  have HOK3 : Hid (okB (faces fs) x = ((B3 && x.fd.all (okFd (faces fs))) && x.mt.all (fun y => (fdL (faces fs) y).isSome))) := HOK2
                  generalize (B3 && x.fd.all (okFd (faces fs))) = B5 at *
                  obtain ⟨w9, hw9⟩ : ∃ w9, w9 = wr := ⟨_, rfl⟩
                  subst hw9
                  have HS9 := Lib.hid (HS7.out.1.le (j := k * 2000000 + 620000) (by omega))
                  have HPO9 := Lib.hid (HPO6.out.keep HS7.out.2.1)
                  have HBX9 := Lib.hid (HBX6.out.keep HS7.out.2.1)
                  clear HTK HS7 HKD ED
                  obtain ⟨em, lm, mm, hkm⟩ := HPO9.out.mt.at
                  unfold maxLen at mm
                  have EM := Lib.hid em
                  have HKM := Lib.hid hkm
                  have hlm := HPB.out.mt.1
                  clear em hkm
                  have b8 := HBX9.out.box 8 _ rfl
                  have hn5 : n5 ≤ 1000 := by have := EM.out; omega
                  go_wp2
                  go_loopw [12, 134] (fun bb ii wr => ∃ (q : Nat), q ≤ n5 ∧ ii = .int .i64 q ∧ bb = .bool (B5 && (x.mt.take q).all (fun y => (fdL (faces fs) y).isSome)) ∧ Hid (TS w tb fm (faces fs) (k * 2000000 + 620000 + q * 602) wr ∧ Keeps w9 wr ∧ w9.heap.size ≤ wr.heap.size)) (fun _ ii _ => n5 - (intOf ii).toNat)
                  case atStart => exact ⟨0, Nat.zero_le _, rfl, by simp, Lib.hid ⟨HS9.out, Keeps.refl _, Nat.le_refl _⟩⟩
                  case round =>
                    obtain ⟨q, hq, rfl, rfl, HS7⟩ := hrel
                    by_cases hlq : q < n5
                    · obtain ⟨y, hyx⟩ : ∃ y, x.mt[q]? = some y := ⟨_, List.getElem?_eq_getElem (by have := EM.out; omega)⟩
                      obtain ⟨g2, o2, cs2, rfl, hcell2, am, nm, cm, rfl, hps⟩ := HKM.out q y hyx
                      have y0 : wr.cell? ⟨g2, o2 + q * 6, none⟩ = some (.string y.1.name) := HS7.out.2.1 _ _ (hcell2 0 _ rfl) (pl_str _)
                      have y1 := HS7.out.2.1 _ _ (hcell2 1 _ rfl) (pl_bool _)
                      have y2 := HS7.out.2.1 _ _ (hcell2 2 _ rfl) (pl_slice _ _ _)
                      have y3 := HS7.out.2.1 _ _ (hcell2 3 _ rfl) (pl_str _)
                      have y4 := HS7.out.2.1 _ _ (hcell2 4 _ rfl) (pl_bool _)
                      have y5 := HS7.out.2.1 _ _ (hcell2 5 _ rfl) (pl_str _)
                      have hgl2 : g2 < wr.heap.size := World.block_lt_of_cell? _ _ y0
                      have hcs := HPB.out.mt.2 y (List.mem_of_getElem? hyx)
                      have hpw := tys_keep (HS7.out.2.1.trans (Keeps.of_below (below1 wr (.cells #[.string y.1.name, .bool y.1.st, .slice am nm cm, .string y.1.rn, .bool y.1.ra, .string y.2] 58)))) hps
                      have HSN : Hid ((x.mt.take (q + 1)).all (fun y => (fdL (faces fs) y).isSome) = ((x.mt.take q).all (fun y => (fdL (faces fs) y).isSome) && (fdL (faces fs) y).isSome)) := Lib.hid (by
                        obtain ⟨hq', rfl⟩ := List.getElem?_eq_some_iff.1 hyx
                        rw [List.take_succ_eq_append_getElem hq', List.all_append]
                        simp)
                      have HSA := Lib.hid (HS7.out.1.below (below1 wr (.cells #[.string y.1.name, .bool y.1.st, .slice am nm cm, .string y.1.rn, .bool y.1.ra, .string y.2] 58)))
                      have HFA := Lib.hid (HSA.out.call (by omega) (fun B sv c hB hT hc => find15 B tb fm (faces fs) HLL.out y am nm cm _ sv c hpw hcs hB hT (by omega)))
                      clear hcell2 hyx hps hpw
                      generalize (x.mt.take q).all (fun y => (fdL (faces fs) y).isSome) = B6 at *
                      go_wp2_with fail
                      refine HFA.out.mono ?_
                      rintro e w8 ⟨rfl, hS8, hk8, hz8⟩
                      have hz9 : wr.heap.size + 1 ≤ w8.heap.size := by simpa using hz8
                      have HS8 : Hid (TS w tb fm (faces fs) (k * 2000000 + 620000 + (q + 1) * 602) w8 ∧ Keeps w9 w8 ∧ w9.heap.size ≤ w8.heap.size) := Lib.hid ⟨hS8.le (by omega), HS7.out.2.1.trans ((Keeps.of_below (below1 wr (.cells #[.string y.1.name, .bool y.1.st, .slice am nm cm, .string y.1.rn, .bool y.1.ra, .string y.2] 58))).trans hk8), Nat.le_trans HS7.out.2.2 (by omega)⟩
                      generalize (fdL (faces fs) y).getD eE = rr at *
                      generalize (fdL (faces fs) y).isSome = F1 at *
                      clear hS8 hk8 HFA HSA y0 y1 y2 y3 y4 y5 hz8
                      cases hcur : (B5 && B6) with
                      | true =>
                        have HNB : Hid (Value.bool F1 = .bool (B5 && (x.mt.take (q + 1)).all (fun y => (fdL (faces fs) y).isSome))) := Lib.hid (by rw [HSN.out, ← Bool.and_assoc, hcur]; simp)
                        clear hcur
                        go_wp2
                        go_roundw
                        case rel => exact ⟨q + 1, by omega, by go_num, HNB.out, HS8⟩
                        case measure => simp [intOf]; omega
                      | false =>
                        have HNB : Hid (Value.bool false = .bool (B5 && (x.mt.take (q + 1)).all (fun y => (fdL (faces fs) y).isSome))) := Lib.hid (by rw [HSN.out, ← Bool.and_assoc, hcur]; simp)
                        clear hcur
                        go_wp2
                        go_roundw
                        case rel => exact ⟨q + 1, by omega, by go_num, HNB.out, HS8⟩
                        case measure => simp [intOf]; omega
                    · have HTK : Hid ((x.mt.take q).all (fun y => (fdL (faces fs) y).isSome) = x.mt.all (fun y => (fdL (faces fs) y).isSome)) := Lib.hid (by rw [List.take_of_length_le (by have := EM.out; omega)])
                      rw [HTK.out]
                      have HS10 := Lib.hid (HS7.out.1.le (j := (k + 1) * 2000000) (by omega))
                      cases hok : (B5 && x.mt.all (fun y => (fdL (faces fs) y).isSome)) with
                      | true =>
                        have HE2 : Hid (fitsT (faces fs) fs = fitsT (faces fs) (fs.drop (k + 1))) := Lib.hid (by rw [HNX.out, HFT2.out, HOK3.out, hok]; simp)
                        clear hok HTK
                        go_wp2
                        go_roundw
                        case rel => exact ⟨k + 1, by omega, by go_num, HS10, HE2⟩
                        case measure => simp [intOf]; omega
                      | false =>
                        have HA : Hid (ckE fs = 30) := Lib.hid (by rw [HCE.out, HNX.out, HFT2.out, HOK3.out, hok]; simp)
                        clear hok HTK
                        go_wp2
                        go_ret
                        exact ⟨by rw [HA.out]; rfl, HS10.out.bel⟩
        · have HA : Hid (ckE fs = 0) := Lib.hid (by rw [HCE.out, HE.out, List.drop_eq_nil_of_le (by have := HN.out; omega)]; rfl)
          go_wp2
          go_ret
          exact ⟨by rw [HA.out]; rfl, hwr⟩
end Go.Proofs.YthimpjfmelmhpaaDoor.Fc
