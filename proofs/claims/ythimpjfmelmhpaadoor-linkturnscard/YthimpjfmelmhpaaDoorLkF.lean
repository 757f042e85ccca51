/-
  The way up of an image; whose a method is.
-/
import Derived.Test.YthimpjfmelmhpaaDoorLkI
namespace Go.Proofs.YthimpjfmelmhpaaDoor.Fc
open Go.RowKit
set_option linter.unusedVariables false
set_option linter.unusedSimpArgs false

/-- what 'above' answers -/
def UPost (i : ImS) (s : ByteArray) (w : World) (c : Nat) (e : Ending) (w' : World) : Prop :=
  ∃ v sv' c', e = .returned v ∧ Sl w' 1 StrR (ab (faces i.fs) s).1 v ∧ Im i sv' c' w' ∧ Keeps w w' ∧ Below i.B w w' ∧ c' ≤ c + 301
set_option maxHeartbeats 4000000 in
set_option maxRecDepth 100000 in
theorem above32 (i : ImS) (hL : i.fs.length ≤ 300) (sv : Value) (c : Nat) (w : World) (h : Im i sv c w) (hc : c < 100000000000) (s : ByteArray) (hs : s.size ≤ maxLen) :
    Calls Tryd.prog 32 #[.pointer (some ⟨i.im, 0, none⟩), .string s] w (UPost i s w c) := by
  have hLL : (faces i.fs).length ≤ 300 := by simpa [faces] using hL
  have HA := Lib.hid (above13 i.B i.tb i.fm (faces i.fs) hLL s hs w sv c h.hB h.tab (by omega))
  have HI := Lib.hid h
  have hp0 := h.ptr
  have hil := h.lt
  clear h
  go_enter Tryd.func32, Tryd.ntmps32
  go_wp2_with fail
  refine HA.out.mono ?_
  rintro e w1 ⟨v, sv', c', rfl, hv, hT, hst, hc'⟩
  have HP : Hid (UPost i s w c (.returned v) w1) := Lib.hid ⟨v, sv', c', rfl, hv, HI.out.next hT hst, hst.keeps, hst.below HI.out.tab HI.out.hB, by omega⟩
  clear hv hT hst
  go_wp2
  go_ret
  exact HP.out
theorem keep_bool (b : Bool) : (b = true) = (b = true) := rfl
set_option maxHeartbeats 4000000 in
set_option maxRecDepth 100000 in
theorem find14 (i : ImS) (hL : i.fs.length ≤ 300) (sv : Value) (c : Nat) (w : World) (h : Im i sv c w) (hc : c < 100000000000) (x : Mt) (ax : Option Addr) (nx cx : Nat) (hx : Sl w 2 TyR x.1.ps (.slice ax nx cx)) (hs : x.2.size ≤ maxLen) :
    Calls Tryd.prog 14 #[.pointer (some ⟨i.im, 0, none⟩), .agg #[.string x.1.name, .bool x.1.st, .slice ax nx cx, .string x.1.rn, .bool x.1.ra, .string x.2]] w (IPost i w c 301 (.tuple #[.string ((fdM i.fs x).getD eE), .bool (fdM i.fs x).isSome])) := by
  have hb0 := below1 w (.cells #[.string x.1.name, .bool x.1.st, .slice ax nx cx, .string x.1.rn, .bool x.1.ra, .string x.2] 58)
  have HI0 := Lib.hid (h.bel hb0)
  have HU := Lib.hid (above32 i hL sv c _ HI0.out hc x.2 hs)
  have HB0 := Lib.hid hb0
  have X0 : Hid (Blk (w.alloc (.cells #[.string x.1.name, .bool x.1.st, .slice ax nx cx, .string x.1.rn, .bool x.1.ra, .string x.2] 58)) w.heap.size [.string x.1.name, .bool x.1.st, .slice ax nx cx, .string x.1.rn, .bool x.1.ra, .string x.2] 58) := Lib.hid (Blk.new w [.string x.1.name, .bool x.1.st, .slice ax nx cx, .string x.1.rn, .bool x.1.ra, .string x.2] 58)
  have HX := Lib.hid (tys_keep (Keeps.of_below hb0) hx)
  have HhB := Lib.hid h.hB
  have HSM : Hid (∀ s, ∀ m ∈ ((flAt i.fs s).getD zFl).fc.ms, m.ps.length ≤ 1000) := Lib.hid (fun s m hm => by
    cases hf : flAt i.fs s with
    | none => rw [hf] at hm; cases hm
    | some f =>
      rw [hf] at hm
      have h1 := (h.tab.sm f.fc (List.mem_map.2 ⟨f, (flAt_mem hf).1, rfl⟩)).m1 m hm
      omega)
  have hil := h.lt
  clear h hx hb0
  go_enter Tryd.func14, Tryd.ntmps14
  go_wp2_with fail
  refine HU.out.mono ?_
  rintro e w1 ⟨v, sv1, c1, rfl, hv, hI1, hk1, hb1, hc1⟩
  have hs1 : w.heap.size + 1 ≤ w1.heap.size := by have := hb1.size; simpa using this
  have HK1 := Lib.hid hk1
  have HI1 := Lib.hid hI1
  have HB1 : Hid (Below i.B w w1) := Lib.hid ((HB0.out.mono HhB.out).trans hb1)
  have HX1 := Lib.hid (tys_keep hk1 HX.out)
  have XB : Hid (∀ (j : Nat) u, [Value.string x.1.name, .bool x.1.st, .slice ax nx cx, .string x.1.rn, .bool x.1.ra, .string x.2][j]? = some u → w1.cell? ⟨w.heap.size, j, none⟩ = some u) := Lib.hid (fun j u hu => hk1 _ _ (by rw [X0.out.cell]; exact hu) (by
    have := List.mem_of_getElem? hu
    simp only [List.mem_cons, List.not_mem_nil, or_false] at this
    rcases this with rfl | rfl | rfl | rfl | rfl | rfl
    all_goals first | exact pl_str _ | exact pl_bool _ | exact pl_slice _ _ _))
  obtain ⟨va, vc, rfl⟩ := hv.form
  obtain ⟨_, hvl, hvc, hvk⟩ := hv.at
  unfold maxLen at hvc
  have HV := Lib.hid hvk
  have hcl : Hid (∀ t ∈ (ab (faces i.fs) x.2).1, t.size ≤ maxLen) := Lib.hid (fun t ht => by have := ab_small HI1.out.tab.sm hs t ht; unfold maxLen; omega)
  have HFM : Hid (fdM i.fs x = (ab (faces i.fs) x.2).1.find? (fdF i.fs x)) := Lib.hid rfl
  generalize (ab (faces i.fs) x.2).1 = cls at *
  clear hv hvk hI1 hk1 hb1 HU X0 HX HB0 HI0
  obtain ⟨N, hN⟩ : ∃ N, N = cls.length := ⟨_, rfl⟩
  rw [← hN] at hvl ⊢
  have HN := Lib.hid hN
  clear hN
  go_wp2
  go_loopw [17] (fun ii wr => ∃ j : Nat, j ≤ N ∧ ii = .int .i64 j ∧ Hid (∀ t ∈ cls.take j, fdF i.fs x t = false) ∧ Below w1.heap.size w1 wr) (fun ii _ => N - (intOf ii).toNat)
  case atStart => exact ⟨0, Nat.zero_le _, rfl, Lib.hid (by simp), Below.refl _ _⟩
  case round =>
    obtain ⟨j, hj, rfl, HA, hbr⟩ := hrel
    have hsr := hbr.size
    have HBR := Lib.hid hbr
    have HEND : Hid (∀ r, fdM i.fs x = r → ∀ w', Below wr.heap.size wr w' → IPost i w c 301 (.tuple #[.string (r.getD eE), .bool r.isSome]) (.returned (.tuple #[.string (r.getD eE), .bool r.isSome])) w') := Lib.hid (fun r hr w' hb => by
      have hb' := HBR.out.trans (hb.mono hsr)
      exact ⟨sv1, c1, rfl, HI1.out.bel hb', (Keeps.of_below ((below1 w (.cells #[.string x.1.name, .bool x.1.st, .slice ax nx cx, .string x.1.rn, .bool x.1.ra, .string x.2] 58)))).trans (HK1.out.trans (Keeps.of_below hb')), HB1.out.trans (hb'.mono HI1.out.hB), hc1⟩)
    by_cases hlt : j < N
    · obtain ⟨t, ht⟩ : ∃ t, cls[j]? = some t := ⟨_, List.getElem?_eq_getElem (by have := HN.out; omega)⟩
      obtain ⟨g, o, cs, rfl, hcell, rfl⟩ := HV.out j t ht
      have hmem := hcl.out t (List.mem_of_getElem? ht)
      have k0 : wr.cell? ⟨g, o + j * 1, none⟩ = some (.string t) := (hbr.cell (World.block_lt_of_cell? _ _ (hcell 0 _ rfl))).trans (hcell 0 _ rfl)
      have hgl : g < wr.heap.size := World.block_lt_of_cell? _ _ k0
      have HT := Lib.hid ht
      clear hcell ht
      simp only [Nat.mul_one] at k0
      have HF := Lib.hid (file11 i sv1 c1 wr (HI1.out.bel hbr) t hmem)
      go_wp2_with fail
      refine HF.out.mono ?_
      rintro e w2 ⟨cs, rfl, hfl, hb2⟩
      have HMS := Lib.hid (HSM.out t)
      generalize hfd : (flAt i.fs t).getD zFl = fl at *
      obtain ⟨a8, n8, c8, a9, n9, c9, a1, n1, c1, a2, n2, c2, a3, n3, c3, a4, n4, c4, a5, n5, c5, a0, n0, c0, rfl, hfc, _⟩ := hfl
      obtain ⟨_, _, _, _, _, _, he, hf8, hf9⟩ := hfc
      simp only [List.cons.injEq, Value.slice.injEq, true_and, and_true] at he
      obtain ⟨⟨rfl, rfl, rfl⟩, rfl, rfl, rfl⟩ := he
      have hs2 := hb2.size
      have HB2 : Hid (Below wr.heap.size wr (w2.alloc (.cells #[.string fl.fc.name, .string fl.fc.sup, .slice a8 n8 c8, .slice a9 n9 c9, .slice a1 n1 c1, .slice a2 n2 c2, .slice a3 n3 c3, .slice a4 n4 c4, .slice a5 n5 c5, .slice a0 n0 c0] 44))) := Lib.hid (hb2.trans ((below1 w2 _).mono hb2.size))
      have HM := Lib.hid (method54 fl.fc x.1.name a8 n8 c8 a9 n9 c9 (w2.alloc (.cells #[.string fl.fc.name, .string fl.fc.sup, .slice a8 n8 c8, .slice a9 n9 c9, .slice a1 n1 c1, .slice a2 n2 c2, .slice a3 n3 c3, .slice a4 n4 c4, .slice a5 n5 c5, .slice a0 n0 c0] 44)) (sgs_keep (Keeps.of_below (below1 w2 _)) hf9) HMS.out)
      have HFD := Lib.hid hfd
      clear HF hf8 hf9 hb2 hfd HMS
      have xq : ∀ (jj : Nat) u, [Value.string x.1.name, .bool x.1.st, .slice ax nx cx, .string x.1.rn, .bool x.1.ra, .string x.2][jj]? = some u → (w2.alloc (.cells #[.string fl.fc.name, .string fl.fc.sup, .slice a8 n8 c8, .slice a9 n9 c9, .slice a1 n1 c1, .slice a2 n2 c2, .slice a3 n3 c3, .slice a4 n4 c4, .slice a5 n5 c5, .slice a0 n0 c0] 44)).cell? ⟨w.heap.size, jj, none⟩ = some u := fun jj u hu => ((HBR.out.trans (HB2.out.mono hsr)).cell (World.block_lt_of_cell? _ _ (XB.out jj u hu))).trans (XB.out jj u hu)
      have x0 := xq 0 _ rfl
      have HXQ := Lib.hid xq
      clear xq
      go_wp2_with fail
      refine HM.out.mono ?_
      rintro e w3 ⟨am, nm, cm, rfl, hps, _, hb3⟩
      have hs3 := hb3.size
      have HB3 : Hid (Below wr.heap.size wr w3) := Lib.hid (HB2.out.trans (hb3.mono HB2.out.size))
      have hs3' : wr.heap.size ≤ w3.heap.size := HB3.out.size
      have xq : ∀ (jj : Nat) u, [Value.string x.1.name, .bool x.1.st, .slice ax nx cx, .string x.1.rn, .bool x.1.ra, .string x.2][jj]? = some u → w3.cell? ⟨w.heap.size, jj, none⟩ = some u := fun jj u hu => (hb3.cell (World.block_lt_of_cell? _ _ (HXQ.out jj u hu))).trans (HXQ.out jj u hu)
      have y0 := xq 0 _ rfl
      have y1 := xq 1 _ rfl
      have y2 := xq 2 _ rfl
      have y3 := xq 3 _ rfl
      have y4 := xq 4 _ rfl
      have y5 := xq 5 _ rfl
      have HPS := Lib.hid hps
      clear xq HXQ HM x0 hb3 hps
      have HSTEP : Hid (fdF i.fs x t = false → Hid (∀ t ∈ cls.take (j + 1), fdF i.fs x t = false)) := Lib.hid (fun hf => Lib.hid (all_snoc (P := fun t => fdF i.fs x t = false) HT.out HA.out hf))
      have HFF : Hid (fdF i.fs x t = decide (mthF fl.fc.ms x.1.name = some x.1)) := Lib.hid (by unfold fdF; rw [HFD.out])
      have hxs : Sl w3 2 TyR x.1.ps (.slice ax nx cx) := tys_keep (Keeps.of_below (HBR.out.trans (HB3.out.mono hsr))) HX1.out
      cases hm : mthF fl.fc.ms x.1.name with
      | none =>
        rw [hm] at HFF
        have HA2 := HSTEP.out (by rw [HFF.out]; simp)
        clear hxs HPS
        simp only [Option.isSome_none, Option.getD_none]
        go_wp2
        go_roundw
        case rel => exact ⟨j + 1, by omega, by go_num, HA2, HBR.out.trans ((HB3.out.trans ((below1 w3 _).mono (by omega))).mono hsr)⟩
        case measure => simp [intOf]; omega
      | some m =>
        rw [hm] at HFF HPS
        simp only [Option.getD_some] at HPS
        simp only [Option.isSome_some, Option.getD_some]
        have HSA := Lib.hid (same24 m x.1 am nm cm ax nx cx (w3.alloc (.cells #[.string m.name, .bool m.st, .slice am nm cm, .string m.rn, .bool m.ra] 51)) (tys_keep (Keeps.of_below (below1 w3 _)) HPS.out) (tys_keep (Keeps.of_below (below1 w3 _)) hxs))
        have HB4 : Hid (Below wr.heap.size wr (w3.alloc (.cells #[.string m.name, .bool m.st, .slice am nm cm, .string m.rn, .bool m.ra] 51))) := Lib.hid (HB3.out.trans ((below1 w3 _).mono (by omega)))
        clear hxs HPS
        have q0 := ((below1 w3 (.cells #[.string m.name, .bool m.st, .slice am nm cm, .string m.rn, .bool m.ra] 51)).cell (World.block_lt_of_cell? _ _ y0)).trans y0
        have q1 := ((below1 w3 (.cells #[.string m.name, .bool m.st, .slice am nm cm, .string m.rn, .bool m.ra] 51)).cell (World.block_lt_of_cell? _ _ y1)).trans y1
        have q2 := ((below1 w3 (.cells #[.string m.name, .bool m.st, .slice am nm cm, .string m.rn, .bool m.ra] 51)).cell (World.block_lt_of_cell? _ _ y2)).trans y2
        have q3 := ((below1 w3 (.cells #[.string m.name, .bool m.st, .slice am nm cm, .string m.rn, .bool m.ra] 51)).cell (World.block_lt_of_cell? _ _ y3)).trans y3
        have q4 := ((below1 w3 (.cells #[.string m.name, .bool m.st, .slice am nm cm, .string m.rn, .bool m.ra] 51)).cell (World.block_lt_of_cell? _ _ y4)).trans y4
        clear y0 y1 y2 y3 y4 y5
        go_wp2_with fail
        refine HSA.out.mono ?_
        rintro e w4 ⟨rfl, hb4⟩
        have HB5 : Hid (Below wr.heap.size wr w4) := Lib.hid (HB4.out.trans (hb4.mono HB4.out.size))
        clear hb4 HSA
        by_cases hmx : m = x.1
        · have hd : decide (m = x.1) = true := by simp [hmx]
          have HR : Hid (fdM i.fs x = some t) := Lib.hid (by rw [HFM.out]; exact find_at HT.out HA.out (by rw [HFF.out]; simp [hmx]))
          clear hmx
          go_wp2
          refine bodyPost_ret (v := .tuple #[.string t, .bool true]) (by simp [results, Tryd.results14, go_sem]) rfl ?_
          have := HEND.out (some t) HR.out w4 HB5.out
          rw [HR.out]
          exact this
        · have hd : decide (m = x.1) = false := by simp [hmx]
          have HA2 := HSTEP.out (by rw [HFF.out]; simp [hmx])
          clear hmx
          go_wp2
          go_roundw
          case rel => exact ⟨j + 1, by omega, by go_num, HA2, HBR.out.trans (HB5.out.mono hsr)⟩
          case measure => simp [intOf]; omega
    · have HR : Hid (fdM i.fs x = none) := Lib.hid (by rw [HFM.out]; exact find_no (by have := HN.out; omega) HA.out)
      go_wp2
      refine bodyPost_ret (v := .tuple #[.string ⟨#[]⟩, .bool false]) (by simp [results, Tryd.results14, go_sem]) rfl ?_
      have := HEND.out none HR.out wr (Below.refl _ _)
      rw [HR.out]
      exact this
end Go.Proofs.YthimpjfmelmhpaaDoor.Fc
