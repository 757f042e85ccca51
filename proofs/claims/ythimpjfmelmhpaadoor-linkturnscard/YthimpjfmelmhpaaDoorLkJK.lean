/-
  The statement's own 'find', over a table.
  The statement's own 'check': what it holds, plainly and between two calls.
-/
import Derived.Test.YthimpjfmelmhpaaDoorLkH
namespace Go.Proofs.YthimpjfmelmhpaaDoor.Fc
open Go.RowKit
set_option linter.unusedVariables false
set_option linter.unusedSimpArgs false

set_option maxHeartbeats 4000000 in
set_option maxRecDepth 100000 in
theorem find15 (B tb fm : Nat) (L : List Fc) (hL : L.length ≤ 300) (x : Mt) (ax : Option Addr) (nx cx : Nat) (w : World) (sv : Value) (c : Nat) (hx : Sl w 2 TyR x.1.ps (.slice ax nx cx)) (hs : x.2.size ≤ maxLen) (hB : B ≤ w.heap.size) (hT : Tb B w tb fm sv c L) (hc : c < 100000000000) :
    Calls Tryd.prog 15 #[.pointer (some ⟨tb, 0, none⟩), .agg #[.string x.1.name, .bool x.1.st, .slice ax nx cx, .string x.1.rn, .bool x.1.ra, .string x.2]] w (TPost B tb fm L w sv c 602 (.tuple #[.string ((fdL L x).getD eE), .bool (fdL L x).isSome])) := by
  have hb0 := below1 w (.cells #[.string x.1.name, .bool x.1.st, .slice ax nx cx, .string x.1.rn, .bool x.1.ra, .string x.2] 58)
  have HA := Lib.hid (above13 B tb fm L hL x.2 hs (w.alloc (.cells #[.string x.1.name, .bool x.1.st, .slice ax nx cx, .string x.1.rn, .bool x.1.ra, .string x.2] 58)) sv c (by simp; omega) (hT.below hb0) (by omega))
  have HB0 := Lib.hid hb0
  have X0 : Hid (Blk (w.alloc (.cells #[.string x.1.name, .bool x.1.st, .slice ax nx cx, .string x.1.rn, .bool x.1.ra, .string x.2] 58)) w.heap.size [.string x.1.name, .bool x.1.st, .slice ax nx cx, .string x.1.rn, .bool x.1.ra, .string x.2] 58) := Lib.hid (Blk.new w [.string x.1.name, .bool x.1.st, .slice ax nx cx, .string x.1.rn, .bool x.1.ra, .string x.2] 58)
  have HX := Lib.hid (tys_keep (Keeps.of_below hb0) hx)
  have HLB := Lib.hid hB
  have HSM := Lib.hid hT.sm
  have hil := hT.blk.lt
  clear hT hx hb0 hB
  go_enter Tryd.func15, Tryd.ntmps15
  go_wp2_with fail
  refine HA.out.mono ?_
  rintro e w1 ⟨v, sv1, c1, rfl, hv, hT1, hst1, hc1⟩
  have hs1 : w.heap.size + 1 ≤ w1.heap.size := by have := hst1.mods.size; simpa using this
  have HT1 := Lib.hid hT1
  have HST1 := Lib.hid (hst1.pre HB0.out)
  have HX1 := Lib.hid (tys_keep hst1.keeps HX.out)
  have XB : Hid (∀ (j : Nat) u, [Value.string x.1.name, .bool x.1.st, .slice ax nx cx, .string x.1.rn, .bool x.1.ra, .string x.2][j]? = some u → w1.cell? ⟨w.heap.size, j, none⟩ = some u) := Lib.hid (fun j u hu => hst1.keeps _ _ (by rw [X0.out.cell]; exact hu) (by
    have := List.mem_of_getElem? hu
    simp only [List.mem_cons, List.not_mem_nil, or_false] at this
    rcases this with rfl | rfl | rfl | rfl | rfl | rfl
    all_goals first | exact pl_str _ | exact pl_bool _ | exact pl_slice _ _ _))
  have XPL : Hid (∀ (j : Nat) u, [Value.string x.1.name, .bool x.1.st, .slice ax nx cx, .string x.1.rn, .bool x.1.ra, .string x.2][j]? = some u → Pl u) := Lib.hid (fun j u hu => by
    have := List.mem_of_getElem? hu
    simp only [List.mem_cons, List.not_mem_nil, or_false] at this
    rcases this with rfl | rfl | rfl | rfl | rfl | rfl
    all_goals first | exact pl_str _ | exact pl_bool _ | exact pl_slice _ _ _)
  obtain ⟨va, vc, rfl⟩ := hv.form
  obtain ⟨_, hvl, hvc, hvk⟩ := hv.at
  unfold maxLen at hvc
  have HV := Lib.hid hvk
  have hcl : Hid (∀ t ∈ (ab L x.2).1, t.size ≤ maxLen) := Lib.hid (fun t ht => by have := ab_small HSM.out hs t ht; unfold maxLen; omega)
  have hcn : (ab L x.2).1.length ≤ L.length + 1 := ab_len L x.2
  have HFM : Hid (fdL L x = (ab L x.2).1.find? (fdT L x)) := Lib.hid rfl
  generalize (ab L x.2).1 = cls at *
  clear hv hvk hT1 hst1 HA X0 HX HB0
  obtain ⟨N, hN⟩ : ∃ N, N = cls.length := ⟨_, rfl⟩
  rw [← hN] at hvl hcn ⊢
  have HN := Lib.hid hN
  clear hN
  go_wp2
  go_loopw [23] (fun ii wr => ∃ (j : Nat) (sv2 : Value) (c2 : Nat), j ≤ N ∧ ii = .int .i64 j ∧ Hid (∀ t ∈ cls.take j, fdT L x t = false) ∧ Hid (Tb B wr tb fm sv2 c2 L ∧ Stp tb w sv wr sv2 ∧ Keeps w1 wr) ∧ c2 ≤ c1 + j ∧ w1.heap.size ≤ wr.heap.size) (fun ii _ => N - (intOf ii).toNat)
  case atStart => exact ⟨0, sv1, c1, Nat.zero_le _, rfl, Lib.hid (by simp), Lib.hid ⟨HT1.out, HST1.out, Keeps.refl _⟩, by omega, Nat.le_refl _⟩
  case round =>
    obtain ⟨j, sv2, c2, hj, rfl, HAx, HS, hc2, hsr⟩ := hrel
    obtain ⟨wo, hwo⟩ : ∃ wo, wo = wr := ⟨_, rfl⟩
    subst hwo
    by_cases hlt : j < N
    · obtain ⟨t, ht⟩ : ∃ t, cls[j]? = some t := ⟨_, List.getElem?_eq_getElem (by have := HN.out; omega)⟩
      obtain ⟨g, o, cs, rfl, hcell, rfl⟩ := HV.out j t ht
      have hmem := hcl.out t (List.mem_of_getElem? ht)
      have k0 : wo.cell? ⟨g, o + j * 1, none⟩ = some (.string t) := HS.out.2.2 _ _ (hcell 0 _ rfl) (pl_str _)
      have hgl : g < wo.heap.size := World.block_lt_of_cell? _ _ k0
      have HT := Lib.hid ht
      have hBo : B ≤ wo.heap.size := by have := HS.out.2.1.mods.size; have := HLB.out; omega
      have HF := Lib.hid (face15 B tb fm L t hmem wo sv2 c2 hBo HS.out.1 (by omega))
      simp only [Nat.mul_one] at k0
      clear hcell ht
      go_wp2_with fail
      refine HF.out.mono ?_
      rintro e w2 ⟨cs, sv3, c3, rfl, hfc, hT3, hs3, hc3⟩
      have HFF : Hid (fdT L x t = decide (mthF ((fnd L t).getD zF).ms x.1.name = some x.1)) := Lib.hid rfl
      generalize (fnd L t).getD zF = fc at *
      obtain ⟨u1, u2, u3, v1, v2, v3, rfl, hf8, hf9⟩ := hfc
      obtain ⟨e9, l9, k9, hk9⟩ := hf9.at
      unfold maxLen at k9
      have E9 := Lib.hid e9
      have HK9 := Lib.hid hk9
      have hso := hs3.mods.size
      have hb2 := below1 w2 (.cells #[.string fc.name, .string fc.sup, .slice u1 u2 u3, .slice v1 v2 v3] 35)
      have HSB : Hid (Tb B (w2.alloc (.cells #[.string fc.name, .string fc.sup, .slice u1 u2 u3, .slice v1 v2 v3] 35)) tb fm sv3 c3 L ∧ Stp tb w sv (w2.alloc (.cells #[.string fc.name, .string fc.sup, .slice u1 u2 u3, .slice v1 v2 v3] 35)) sv3 ∧ Keeps w1 (w2.alloc (.cells #[.string fc.name, .string fc.sup, .slice u1 u2 u3, .slice v1 v2 v3] 35))) := Lib.hid ⟨hT3.below hb2, (HS.out.2.1.trans hs3).post hb2, (HS.out.2.2.trans hs3.keeps).trans (Keeps.of_below hb2)⟩
      have HB2 := Lib.hid hb2
      clear HF hf8 hf9 e9 hk9 hT3 hs3 hb2
      obtain ⟨W2, HW2⟩ : ∃ W2, Hid (W2 = w2.alloc (.cells #[.string fc.name, .string fc.sup, .slice u1 u2 u3, .slice v1 v2 v3] 35)) := ⟨_, Lib.hid rfl⟩
      have F3 : Hid (Blk W2 w2.heap.size [.string fc.name, .string fc.sup, .slice u1 u2 u3, .slice v1 v2 v3] 35) := Lib.hid (by rw [HW2.out]; exact Blk.new w2 [.string fc.name, .string fc.sup, .slice u1 u2 u3, .slice v1 v2 v3] 35)
      have hsW : w2.heap.size + 1 ≤ W2.heap.size := by rw [HW2.out]; simp
      rw [← HW2.out] at HSB
      rw [← HW2.out] at HB2
      have HSTEP : Hid (fdT L x t = false → Hid (∀ t ∈ cls.take (j + 1), fdT L x t = false)) := Lib.hid (fun hf => Lib.hid (all_snoc (P := fun t => fdT L x t = false) HT.out HAx.out hf))
      have HNXT : Hid (∀ z, Below W2.heap.size W2 z → Hid (Tb B z tb fm sv3 c3 L ∧ Stp tb w sv z sv3 ∧ Keeps w1 z)) := Lib.hid (fun z hz => Lib.hid ⟨HSB.out.1.below hz, HSB.out.2.1.post hz, HSB.out.2.2.trans (Keeps.of_below hz)⟩)
      have p3 := F3.out.cell 3
      simp only [List.getElem?_cons_succ, List.getElem?_cons_zero] at p3
      go_upto_region 6 with fail
      rw [← HW2.out]
      go_wp2
      go_loopw [36] (fun ii wr => ∃ (q : Nat), q ≤ v2 ∧ ii = .int .i64 q ∧ Hid (∀ m ∈ fc.ms.take q, decide (m.name = x.1.name) = false) ∧ Below W2.heap.size W2 wr) (fun ii _ => v2 - (intOf ii).toNat)
      case atStart => exact ⟨0, Nat.zero_le _, rfl, Lib.hid (by simp), Below.refl _ _⟩
      case round =>
        obtain ⟨q, hq, rfl, HM, hbq⟩ := hrel
        have HBQ := Lib.hid hbq
        have hsq := hbq.size
        by_cases hlq : q < v2
        · obtain ⟨m, hm⟩ : ∃ m, fc.ms[q]? = some m := ⟨_, List.getElem?_eq_getElem (by have := E9.out; omega)⟩
          obtain ⟨g2, o2, cs2, rfl, hcell2, am, nm, cm, rfl, hps⟩ := HK9.out q m hm
          have hbw2 : Below w2.heap.size w2 wr := HB2.out.trans (hbq.mono (by omega))
          have m0 : wr.cell? ⟨g2, o2 + q * 5, none⟩ = some (.string m.name) := (hbw2.cell (World.block_lt_of_cell? _ _ (hcell2 0 _ rfl))).trans (hcell2 0 _ rfl)
          have m1 := (hbw2.cell (World.block_lt_of_cell? _ _ (hcell2 1 _ rfl))).trans (hcell2 1 _ rfl)
          have m2 := (hbw2.cell (World.block_lt_of_cell? _ _ (hcell2 2 _ rfl))).trans (hcell2 2 _ rfl)
          have m3 := (hbw2.cell (World.block_lt_of_cell? _ _ (hcell2 3 _ rfl))).trans (hcell2 3 _ rfl)
          have m4 := (hbw2.cell (World.block_lt_of_cell? _ _ (hcell2 4 _ rfl))).trans (hcell2 4 _ rfl)
          have hgl2 : g2 < wr.heap.size := World.block_lt_of_cell? _ _ m0
          have hpw := tys_keep (Keeps.of_below hbw2) hps
          have HMM := Lib.hid hm
          have xq : ∀ (jj : Nat) u, [Value.string x.1.name, .bool x.1.st, .slice ax nx cx, .string x.1.rn, .bool x.1.ra, .string x.2][jj]? = some u → (wr.alloc (.cells #[.string m.name, .bool m.st, .slice am nm cm, .string m.rn, .bool m.ra] 51)).cell? ⟨w.heap.size, jj, none⟩ = some u := fun jj u hu => (Keeps.of_below ((hbq).trans ((below1 wr _).mono (by omega)))) _ _ (HSB.out.2.2 _ _ (XB.out jj u hu) (XPL.out jj u hu)) (XPL.out jj u hu)
          have xr : ∀ (jj : Nat) u, [Value.string x.1.name, .bool x.1.st, .slice ax nx cx, .string x.1.rn, .bool x.1.ra, .string x.2][jj]? = some u → wr.cell? ⟨w.heap.size, jj, none⟩ = some u := fun jj u hu => (Keeps.of_below hbq) _ _ (HSB.out.2.2 _ _ (XB.out jj u hu) (XPL.out jj u hu)) (XPL.out jj u hu)
          have x0 := xr 0 _ rfl
          have y0 := xq 0 _ rfl
          have y1 := xq 1 _ rfl
          have y2 := xq 2 _ rfl
          have y3 := xq 3 _ rfl
          have y4 := xq 4 _ rfl
          have y5 := xq 5 _ rfl
          have hxs : Sl wr 2 TyR x.1.ps (.slice ax nx cx) := tys_keep (HSB.out.2.2.trans (Keeps.of_below hbq)) HX1.out
          have HSA := Lib.hid (same24 m x.1 am nm cm ax nx cx (wr.alloc (.cells #[.string m.name, .bool m.st, .slice am nm cm, .string m.rn, .bool m.ra] 51)) (tys_keep (Keeps.of_below (below1 wr _)) hpw) (tys_keep (Keeps.of_below (below1 wr _)) hxs))
          clear hcell2 hps hm hpw hxs xq xr hbq hbw2
          by_cases hn : m.name = x.1.name
          · have tn := teq hn
            have HMF : Hid (mthF fc.ms x.1.name = some m) := Lib.hid (by unfold mthF; exact find_at HMM.out HM.out (by simpa using hn))
            clear hn
            go_wp2_with fail
            refine HSA.out.mono ?_
            rintro e w4 ⟨rfl, hb4⟩
            have HB5 : Hid (Below W2.heap.size W2 w4) := Lib.hid (HBQ.out.trans (((below1 wr _).trans (hb4.mono (by simp))).mono hsq))
            clear hb4 HSA m0 m1 m2 m3 m4 x0 y0 y1 y2 y3 y4 y5
            by_cases hmx : m = x.1
            · have hd : decide (m = x.1) = true := by simp [hmx]
              have HR : Hid (fdL L x = some t) := Lib.hid (by rw [HFM.out]; exact find_at HT.out HAx.out (by rw [HFF.out, HMF.out]; simp [hmx]))
              clear hmx
              go_wp2
              refine bodyPost_ret (v := .tuple #[.string t, .bool true]) (by simp [results, Tryd.results15, go_sem]) rfl ?_
              obtain ⟨h1, h2, _⟩ := (HNXT.out w4 HB5.out).out
              exact ⟨sv3, c3, by rw [HR.out]; rfl, h1, h2, by omega⟩
            · have hd : decide (m = x.1) = false := by simp [hmx]
              have HA2 := HSTEP.out (by rw [HFF.out, HMF.out]; simp [hmx])
              clear hmx
              have hsz := HB5.out.size
              go_wp2
              go_roundw
              case rel => exact ⟨j + 1, sv3, c3, by omega, by go_num, HA2, HNXT.out w4 HB5.out, by omega, by omega⟩
              case measure => simp [intOf]; omega
          · have tn := tne hn
            have HM2 := Lib.hid (all_snoc (P := fun m => decide (m.name = x.1.name) = false) HMM.out HM.out (by simpa using hn))
            clear hn HSA y1 y2 y3 y4 y5
            go_wp2
            go_roundw
            case rel => exact ⟨q + 1, by omega, by go_num, HM2, HBQ.out.trans ((below1 wr _).mono hsq)⟩
            case measure => simp [intOf]; omega
        · have HMF : Hid (mthF fc.ms x.1.name = none) := Lib.hid (by unfold mthF; exact find_no (by have := E9.out; omega) HM.out)
          have HA2 := HSTEP.out (by rw [HFF.out, HMF.out]; simp)
          go_wp2
          go_roundw
          case rel => exact ⟨j + 1, sv3, c3, by omega, by go_num, HA2, HNXT.out wr HBQ.out, by omega, by omega⟩
          case measure => simp [intOf]; omega
    · have HR : Hid (fdL L x = none) := Lib.hid (by rw [HFM.out]; exact find_no (by have := HN.out; omega) HAx.out)
      go_wp2
      refine bodyPost_ret (v := .tuple #[.string ⟨#[]⟩, .bool false]) (by simp [results, Tryd.results15, go_sem]) rfl ?_
      exact ⟨sv2, c2, by rw [HR.out]; rfl, HS.out.1, HS.out.2.1, by omega⟩
end Go.Proofs.YthimpjfmelmhpaaDoor.Fc
namespace Go.Proofs.YthimpjfmelmhpaaDoor.Fc
open Go.RowKit
set_option linter.unusedVariables false
set_option linter.unusedSimpArgs false

/-- cells of one's own -/
structure Bx (q : Nat) (cs : List Value) (z : World) : Prop where
  box : ∀ j v, cs[j]? = some v → z.cell? ⟨q, j, none⟩ = some v
  pl : ∀ v ∈ cs, Pl v
theorem Bx.keep {q : Nat} {cs : List Value} {z z' : World} (h : Bx q cs z) (hk : Keeps z z') : Bx q cs z' := ⟨fun j v hv => hk _ _ (h.box j v hv) (h.pl v (List.mem_of_getElem? hv)), h.pl⟩
theorem Bx.new {w : World} {cs : List Value} {t : TypeId} (h : ∀ v ∈ cs, Pl v) : Bx w.heap.size cs (w.alloc (.cells cs.toArray t)) := ⟨fun j v hv => by rw [(Blk.new w cs t).cell]; exact hv, h⟩
theorem Bx.bel {q : Nat} {cs : List Value} {z z' : World} (h : Bx q cs z) (hb : Below z.heap.size z z') : Bx q cs z' := h.keep (Keeps.of_below hb)
theorem Bx.lt {q : Nat} {cs : List Value} {z : World} (h : Bx q cs z) {v : Value} (hv : cs[0]? = some v) : q < z.heap.size := World.block_lt_of_cell? _ _ (h.box 0 v hv)
/-- a call over a table, between two calls -/
theorem TS.call {W w : World} {tb fm k j f : Nat} {L : List Fc} {args : Array Value} {r : Value} (h : TS W tb fm L k w) (hk : k < 50000000000)
    (hc : ∀ B sv c, B ≤ w.heap.size → Tb B w tb fm sv c L → c < 60000000000 → Calls Tryd.prog f args w (TPost B tb fm L w sv c j r)) :
    Calls Tryd.prog f args w fun e w' => e = .returned r ∧ TS W tb fm L (k + j) w' ∧ Keeps w w' ∧ w.heap.size ≤ w'.heap.size := by
  obtain ⟨B, sv, c, h1, h2, h3, h4, h5⟩ := h
  refine (hc B sv c h3 h1 (by omega)).mono ?_
  rintro e w' ⟨sv', c', rfl, hT, hs, hc'⟩
  have := TS.next h1 h2 h3 h4 h5 hT hs hc'
  exact ⟨rfl, this.1, this.2, hs.mods.size⟩
theorem TS.face {W w : World} {tb fm k : Nat} {L : List Fc} (h : TS W tb fm L k w) (hk : k < 50000000000) (s : ByteArray) (hs : s.size ≤ maxLen) :
    Calls Tryd.prog 28 #[.pointer (some ⟨tb, 0, none⟩), .string s] w fun e w' => ∃ u1 u2 u3 v1 v2 v3, e = .returned (.tuple #[.agg #[.string ((fnd L s).getD zF).name, .string ((fnd L s).getD zF).sup, .slice u1 u2 u3, .slice v1 v2 v3], .bool (fnd L s).isSome]) ∧ TS W tb fm L (k + 1) w' ∧ Keeps w w' ∧ w.heap.size ≤ w'.heap.size := by
  obtain ⟨B, sv, c, h1, h2, h3, h4, h5⟩ := h
  refine (face15 B tb fm L s hs w sv c h3 h1 (by omega)).mono ?_
  rintro e w' ⟨cs, sv', c', rfl, hf, hT, hs, hc'⟩
  have := TS.next h1 h2 h3 h4 h5 hT hs hc'
  obtain ⟨u1, u2, u3, v1, v2, v3, rfl, _⟩ := hf
  exact ⟨u1, u2, u3, v1, v2, v3, rfl, this.1, this.2, hs.mods.size⟩
theorem TS.le {W w : World} {tb fm k j : Nat} {L : List Fc} (h : TS W tb fm L k w) (hj : k ≤ j) : TS W tb fm L j w := by
  obtain ⟨B, sv, c, h1, h2, h3, h4, h5⟩ := h
  exact ⟨B, sv, c, h1, h2, h3, by omega, h5⟩
/-! ### plainly -/
def okB (L : List Fc) (f : Fl) : Bool := f.ty.all (fun t => knB L t.n) && f.cl.all (fun c => (fnd L c).isSome) && f.fd.all (okFd L) && f.mt.all (fun x => (fdL L x).isSome)
noncomputable def fitT (L : List Fc) (f : Fl) : Int := if chk L f.fc.name ≠ 0 then chk L f.fc.name else if okB L f then 0 else 30
noncomputable def fitsT (L : List Fc) : List Fl → Int
  | [] => 0
  | f :: r => if fitT L f ≠ 0 then fitT L f else fitsT L r
noncomputable def ckE (fs : List Fl) : Int := if gat [] fs ≠ 0 then gat [] fs else fitsT (faces fs) fs
theorem kn_class {L : List Fc} {c : ByteArray} (h : classB c = true) : knB L c = (fnd L c).isSome := by
  unfold classB at h
  rw [Bool.and_eq_true] at h
  have h1 : intB c = false := by
    cases hi : intB c with
    | false => rfl
    | true => rw [int_great hi] at h; simp at h
  have h2 : boolB c = false := by
    cases hi : boolB c with
    | false => rfl
    | true => rw [bool_great hi] at h; simp at h
  unfold knB
  rw [h1, h2, h.1, h.2]
  simp
theorem any_not {α : Type} (l : List α) (p q : α → Bool) (h : ∀ x ∈ l, p x = !q x) : l.any p = !(l.all q) := by
  induction l with
  | nil => rfl
  | cons x r ih =>
    rw [List.any_cons, List.all_cons, h x (by simp), ih (fun y hy => h y (by simp [hy]))]
    cases q x <;> simp
theorem lack_ok {fs : List Fl} (h : Once fs) {f : Fl} (hf : RightF f) : lackB fs f = !okB (faces fs) f := by
  unfold lackB okB
  rw [any_not f.cl (fun c => !knB (faces fs) c) (fun c => (fnd (faces fs) c).isSome) (fun c hc => by rw [kn_class (hf.po.2.1.2 c hc).name]),
    any_not f.fd (fun x => !okFd (faces fs) x) (okFd (faces fs)) (fun _ _ => rfl),
    any_not f.mt (fun x => (fdM fs x).isNone) (fun x => (fdL (faces fs) x).isSome) (fun x _ => by rw [fdM_eq h]; cases fdL (faces fs) x <;> rfl)]
  cases f.ty.all (fun t => knB (faces fs) t.n) <;> cases f.cl.all (fun c => (fnd (faces fs) c).isSome) <;> cases f.fd.all (okFd (faces fs)) <;> simp
theorem fit_eq {fs : List Fl} (h : Once fs) {f : Fl} (hf : RightF f) : fitE fs f = fitT (faces fs) f := by
  unfold fitE fitT
  rw [lack_ok h hf]
  cases okB (faces fs) f <;> simp
theorem fits_eq {fs : List Fl} (h : Once fs) : ∀ (l : List Fl), (∀ f ∈ l, RightF f) → fitsE fs l = fitsT (faces fs) l
  | [], _ => rfl
  | f :: r, hl => by
    rw [fitsE, fitsT, fit_eq h (hl f (by simp)), fits_eq h r (fun g hg => hl g (by simp [hg]))]
/-- both ways of asking tell the same fault -/
theorem lk_ck (fs : List Fl) : lkE fs = ckE fs := by
  unfold lkE ckE
  by_cases h : gat [] fs = 0
  · have h2 := gat_ok h
    rw [if_neg (by simpa using h), if_neg (by simpa using h), fits_eq h2.2 fs (fun f hf => (h2.1 f hf).1)]
  · rw [if_pos h, if_pos h]
/-! ### faces in a row -/
structure CSt (w : World) (C : Nat → List Value) (k : Nat) (v : Value) (wr : World) : Prop where
  row : wr.ownsRow w.heap.size 35 4 v k (flat C k)
  bel : Below w.heap.size w wr
section
variable {w : World} {C : Nat → List Value} {k : Nat} {v : Value} {wr w' : World}
theorem CSt.below (h : CSt w C k v wr) (hb : Below wr.heap.size wr w') : CSt w C k v w' := ⟨row_keep (fp := fun _ => False) h.row (Mods.of_below hb) (fun _ _ _ h => h), h.bel.trans (hb.mono h.bel.size)⟩
theorem CSt.app (h : CSt w C k v wr) (hl : (C k).length = 4) (h1 : ∀ u ∈ C k, u.oneCell' = true) (hk : k ≤ 1000) :
    ∃ v' w', (Builtin.append_ #[80, 80] 80 #[v, .slice (some ⟨wr.heap.size, 0, none⟩) 1 1]).run Tryd.prog (wr.alloc (.cells (C k).toArray 35)) = .ok v' w' ∧ CSt w C (k + 1) v' w' ∧ wr.heap.size ≤ w'.heap.size := by
  have h2 := h.below (below1 wr (.cells (C k).toArray 35))
  obtain ⟨v', w', hr, ho, hm⟩ := app_fc hl h1 h.row hk h.bel.size
  refine ⟨v', w', hr, ⟨?_, h2.bel.trans (hm.below (fun k e => e.1) h2.bel.size)⟩, Nat.le_trans (by simp) hm.size⟩
  rw [flat_next]
  exact ho
end
theorem cst_zero (w : World) (C : Nat → List Value) : CSt w C 0 (.slice (some ⟨w.heap.size, 0, none⟩) 0 0) (w.alloc (.cells #[] 35)) :=
  ⟨⟨by simp [flat], .inr ⟨w.heap.size, 0, #[], rfl, Nat.le_refl _, (MapKept.heap_alloc w _).1, Nat.le_refl _, Nat.zero_le _, by simp, by simp [flat]⟩⟩, below1 w _⟩
end Go.Proofs.YthimpjfmelmhpaaDoor.Fc
