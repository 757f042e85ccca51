/-
  A file as bytes: Encode.
-/
import Derived.Test.YtomlbfkkhhhfkaaDoorCsLayP
namespace Go.Proofs.YtomlbfkkhhhfkaaDoor.Fc
open Go.RowKit
set_option linter.unusedVariables false

theorem flat_le {α : Type} (e : α → List UInt8) (B : Nat) (xs : List α) (h : ∀ x ∈ xs, (e x).length ≤ B) : (xs.flatMap e).length ≤ xs.length * B := by
  induction xs with
  | nil => simp
  | cons x xs ih =>
    have h1 := h x (by simp)
    have h2 := ih (fun y hy => h y (by simp [hy]))
    simp only [List.flatMap_cons, List.length_append, List.length_cons, Nat.succ_mul]
    omega
/-! ### how long a right file's bytes are -/
theorem enc9 {n : Nat} (h : n < 9223372036854775808) : (Pk.enc n).length ≤ 9 := Pk.enc_len9 _ h
theorem sB_le {s : ByteArray} (h : s.size ≤ 40) : (sB s).length ≤ 49 := by
  unfold sB Pk.textB; rw [List.length_append, bl_len]; have := enc9 (n := s.size) (by omega); omega
theorem tyB_le {t : Ty} (h : t.n.size ≤ 40) : (tyB t).length ≤ 50 := by unfold tyB; rw [List.length_append]; have := sB_le h; simp; omega
theorem vrB_le {v : Vr} (h1 : v.name.size ≤ 40) (h2 : v.tn.size ≤ 40) : (vrB v).length ≤ 99 := by
  unfold vrB; rw [List.length_append]; have := sB_le h1; have := tyB_le (t := v.ty) h2; omega
theorem many_len {α : Type} (e : α → List UInt8) (B : Nat) (xs : List α) (hn : xs.length < 9223372036854775808) (h : ∀ x ∈ xs, (e x).length ≤ B) : (manyB e xs).length ≤ 9 + xs.length * B := by
  unfold manyB; rw [List.length_append]; have := enc9 hn; have := flat_le e B xs h; omega
theorem sgB_le {m : Sg} (h1 : m.name.size ≤ 40) (h2 : m.rn.size ≤ 40) (h3 : m.ps.length ≤ 200) (h4 : ∀ p ∈ m.ps, p.n.size ≤ 40) : (sgB m).length ≤ 10200 := by
  unfold sgB tysB
  simp only [List.length_append, List.length_singleton]
  have a := sB_le h1
  have b := tyB_le (t := m.ret) h2
  have c := many_len tyB 50 m.ps (by omega) (fun t ht => tyB_le (h4 t ht))
  have d : m.ps.length * 50 ≤ 10000 := by omega
  omega
theorem fcB_le {f : Fc} (h : RightP f) : (fcB f).length ≤ 2200000 := by
  unfold fcB
  simp only [List.length_append]
  have a := sB_le (class_len h.name)
  have b : f.sup.size ≤ 40 := by rcases h.sup with h | h; omega; exact class_len h
  have b' := sB_le b
  have h1 := h.nf
  have h2 := h.nm
  have c := many_len vrB 99 f.fs (by omega) (fun x hx => by
    obtain ⟨k, hk⟩ := List.mem_iff_getElem?.1 hx
    obtain ⟨_, p, q⟩ := h.fs k x hk
    exact vrB_le p (good_len q))
  have d := many_len sgB 10200 f.ms (by omega) (fun x hx => by
    obtain ⟨k, hk⟩ := List.mem_iff_getElem?.1 hx
    obtain ⟨_, p, q, r, s⟩ := h.ms k x hk
    exact sgB_le p (good_len q) r (fun t ht => good_len (s t ht)))
  have c' : f.fs.length * 99 ≤ 19800 := by omega
  have d' : f.ms.length * 10200 ≤ 2040000 := by omega
  omega
theorem inB_le {x : Int × Int} (h : OkIn x) : (inB x).length ≤ 18 := by
  obtain ⟨h1, h2, h3⟩ := h
  unfold inB
  rw [List.length_append]
  have a := Pk.encI_len x.1 (by omega)
  split
  · simp; omega
  · rename_i hp; rw [if_neg hp] at h3; have b := Pk.encI_len x.2 (by omega); omega
theorem bdB_le {b : Bd} (h : OkBd b) : (bdB b).length ≤ 300000 := by
  obtain ⟨⟨h0, h1⟩, ⟨h2, h3⟩, h4, h5⟩ := h
  unfold bdB
  simp only [List.length_append]
  have a := Pk.encI_len b.lo (by omega)
  have c := Pk.encI_len b.st (by omega)
  have d := many_len inB 18 b.co (by omega) (fun x hx => inB_le (h5 x hx))
  omega
theorem po_le {f : Fl} (h : PoolP f) (hn : ∀ z ∈ f.nu, OkI z) : (poB f).length ≤ 40000000000 := by
  obtain ⟨h1, ⟨h2, g2⟩, ⟨h3, g3⟩, ⟨h4, g4⟩, ⟨h5, g5⟩⟩ := h
  unfold poB
  simp only [List.length_append]
  have a := many_len Pk.intB 18 f.nu (by omega) (fun z hz => Pk.intB_len z (hn z hz).1 (hn z hz).2)
  have b := many_len sB 49 f.cl (by omega) (fun x hx => sB_le (class_len (g2 x hx).name))
  have c := many_len tyB 50 f.ty (by omega) (fun x hx => tyB_le (good_len (g3 x hx)))
  have d := many_len fdB 200 f.fd (by omega) (fun x hx => by
    have r := g4 x hx
    obtain ⟨_, p, q⟩ := r.fs 0 x.1 rfl
    unfold fdB; rw [List.length_append]
    have u : (sB x.2).length ≤ 49 := sB_le (class_len r.name)
    have := vrB_le p (good_len q); omega)
  have e := many_len mtB 2200000 f.mt (by omega) (fun x hx => fcB_le (g5 x hx))
  omega
theorem fl_le {f : Fl} (h : RightF f) (hn : ∀ z ∈ f.nu, OkI z) : (flB f).length ≤ 50000000000 := by
  unfold flB
  simp only [List.length_append]
  have a := fcB_le h.fc
  have b := po_le h.po hn
  have c := flat_le bdB 300000 f.bd (fun x hx => bdB_le (right_bd h x hx))
  have d := h.ln
  have e := h.fc.nm
  have c' : f.bd.length * 300000 ≤ 60000000 := by omega
  omega

/-- what Encode tells -/
def EncV (f : Fl) (W : World) (e : Ending) (w' : World) : Prop :=
  ((RightF f ∧ e = .returned (.tuple #[.string ⟨(flB f).toArray⟩, .int .i64 0])) ∨ (¬ RightF f ∧ e = .returned (.tuple #[.string ⟨#[]⟩, .int .i64 1]))) ∧ Below W.heap.size W w'
set_option maxHeartbeats 4000000 in
set_option maxRecDepth 100000 in
theorem encode13 (f : Fl) (cs : List Value) (w : World) (hf : FlR w f cs) (hT : TabR w) (hnu : ∀ z ∈ f.nu, OkI z) : Calls Tryd.prog 13 #[.agg cs.toArray] w (EncV f w) := by
  have HFL := Lib.hid hf
  have h0 : 0 < w.heap.size := by
    have h := hT.pool (k := 0) (by omega)
    exact World.block_lt_of_cell? _ _ h
  obtain ⟨a8, n8, c8, a9, n9, c9, a1, n1, c1, a2, n2, c2, a3, n3, c3, a4, n4, c4, a5, n5, c5, a0, n0, c0, rfl, hfc, hpo, hbd⟩ := hf
  obtain ⟨e0, l0, k0, hk0⟩ := hbd.at
  unfold maxLen at k0
  have E0 := Lib.hid e0
  have HK0 := Lib.hid hk0
  have HF := Lib.hid hfc
  have HP := Lib.hid hpo
  have HT := Lib.hid hT
  have HNU := Lib.hid hnu
  have EN2 := Lib.hid hpo.cl.at.1
  clear e0 hk0 hfc hpo hbd hT hnu
  obtain ⟨W0, HW0⟩ : ∃ W0, Hid (W0 = w.alloc (.cells #[.string f.fc.name, .string f.fc.sup, .slice a8 n8 c8, .slice a9 n9 c9, .slice a1 n1 c1, .slice a2 n2 c2, .slice a3 n3 c3, .slice a4 n4 c4, .slice a5 n5 c5, .slice a0 n0 c0] 35)) := ⟨_, Lib.hid rfl⟩
  have F0 : Hid (Blk W0 w.heap.size [.string f.fc.name, .string f.fc.sup, .slice a8 n8 c8, .slice a9 n9 c9, .slice a1 n1 c1, .slice a2 n2 c2, .slice a3 n3 c3, .slice a4 n4 c4, .slice a5 n5 c5, .slice a0 n0 c0] 35) := Lib.hid (by rw [HW0.out]; exact Blk.new w [.string f.fc.name, .string f.fc.sup, .slice a8 n8 c8, .slice a9 n9 c9, .slice a1 n1 c1, .slice a2 n2 c2, .slice a3 n3 c3, .slice a4 n4 c4, .slice a5 n5 c5, .slice a0 n0 c0] 35)
  have HB0 : Hid (Below w.heap.size w W0) := Lib.hid (by rw [HW0.out]; exact below1 w _)
  go_enter Tryd.func13, Tryd.ntmps13
  go_upto_region 1 with fail
  rw [← HW0.out]
  clear HW0
  have p0 := F0.out.cell 0
  have p1 := F0.out.cell 1
  have p2 := F0.out.cell 2
  have p3 := F0.out.cell 3
  have p4 := F0.out.cell 4
  have p5 := F0.out.cell 5
  have p6 := F0.out.cell 6
  have p7 := F0.out.cell 7
  have p8 := F0.out.cell 8
  have p9 := F0.out.cell 9
  simp only [List.getElem?_cons_succ, List.getElem?_cons_zero] at p0 p1 p2 p3 p4 p5 p6 p7 p8 p9
  go_wp2_with fail
  refine (right11 f _ W0 (HFL.out.keep (Keeps.of_below HB0.out)) (HT.out.below HB0.out)).mono ?_
  rintro e w1 ⟨r1, rfl, hr1, hb1⟩
  have HB1 : Hid (Below w.heap.size w w1) := Lib.hid (HB0.out.trans (hb1.mono HB0.out.size))
  have F1 := Lib.hid (F0.out.below hb1)
  have HR1 := Lib.hid hr1
  clear hr1 hb1 p0 p1 p2 p3 p4 p5 p6 p7 p8 p9 F0 HB0
  cases r1 with
  | false =>
    go_wp2
    exact bodyPost_ret (v := .tuple #[.string ⟨#[]⟩, .int .i64 1]) (by simp [results, Tryd.results13, go_sem]) rfl ⟨.inr ⟨fun h => (by have := HR1.out.2 h; cases this), rfl⟩, HB1.out⟩
  | true =>
  have HRF := Lib.hid (HR1.out.1 (by simp))
  clear HR1
  have HLE := Lib.hid (fl_le HRF.out HNU.out)
  have HN1 : Hid (f.nu.length ≤ 16384) := Lib.hid HRF.out.po.1
  have hn2 : n2 ≤ 16384 := by have := EN2.out; have := HRF.out.po.2.1.1; omega
  have HLL : Hid ((fcB f.fc).length + ((poB f).length + (f.bd.flatMap bdB).length) ≤ 50000000000) := Lib.hid (by have := HLE.out; simpa only [flB, List.length_append] using this)
  obtain ⟨BW, HBWE⟩ : ∃ b, Hid (b = w1.heap.size) := ⟨_, Lib.hid rfl⟩
  obtain ⟨W2, HW2⟩ : ∃ W, Hid (W = w1.alloc (.cells #[.slice none 0 0] 54)) := ⟨_, Lib.hid rfl⟩
  have HA2 : Hid (Pk.WAt (BW + 1) BW W2 []) := Lib.hid (by rw [HW2.out, HBWE.out]; exact Pk.WAt.new _ w1)
  have F2 : Hid (Blk W2 w.heap.size [.string f.fc.name, .string f.fc.sup, .slice a8 n8 c8, .slice a9 n9 c9, .slice a1 n1 c1, .slice a2 n2 c2, .slice a3 n3 c3, .slice a4 n4 c4, .slice a5 n5 c5, .slice a0 n0 c0] 35) := Lib.hid (by rw [HW2.out]; exact F1.out.al _)
  have HB2 : Hid (Below w.heap.size w W2) := Lib.hid (by rw [HW2.out]; exact bl_al' HB1.out)
  have hs2 : BW + 1 ≤ W2.heap.size := by rw [HW2.out, HBWE.out]; simp
  have hwb : w.heap.size < BW := by rw [HBWE.out]; have := F1.out.lt; omega
  go_upto_region 4 with fail
  rw [← HW2.out, ← HBWE.out]
  clear HW2 HBWE F1 HB1
  have p0 := F2.out.cell 0
  have p1 := F2.out.cell 1
  have p2 := F2.out.cell 2
  have p3 := F2.out.cell 3
  simp only [List.getElem?_cons_succ, List.getElem?_cons_zero] at p0 p1 p2 p3
  go_wp2_with fail
  have hC1 := lay12 w f.fc _ HF.out (BW + 1) BW [] W2 HB2.out (by omega) HA2.out (by omega) hs2 (by have := HLL.out; simp; omega)
  with_reducible refine hC1.mono ?_
  rintro e w3 ⟨rfl, hw3, hk3⟩
  rw [List.nil_append] at hw3
  have HW3 := Lib.hid hw3
  have HB3 : Hid (Below w.heap.size w w3) := Lib.hid (HB2.out.trans (hk3.below (by omega) (by omega)))
  have F3 := Lib.hid (F2.out.kp hk3 (by decide) (by omega))
  have hs3 := Nat.le_trans hs2 hk3.size
  clear hw3 hk3 hC1 HA2 F2 HB2 p0 p1 p2 p3 hs2
  have p4 := F3.out.cell 4
  have p5 := F3.out.cell 5
  have p6 := F3.out.cell 6
  have p7 := F3.out.cell 7
  have p8 := F3.out.cell 8
  simp only [List.getElem?_cons_succ, List.getElem?_cons_zero] at p4 p5 p6 p7 p8
  go_wp2_with fail
  have hC2 := pool34 w f a1 n1 c1 a2 n2 c2 a3 n3 c3 a4 n4 c4 a5 n5 c5 HP.out (BW + 1) BW (fcB f.fc) w3 HB3.out (by omega) HW3.out (by omega) hs3 HNU.out hn2 (by have := HLL.out; have := HN1.out; omega)
  with_reducible refine hC2.mono ?_
  rintro e w4 ⟨rfl, hw4, hk4⟩
  have HB4 : Hid (Below w.heap.size w w4) := Lib.hid (HB3.out.trans (hk4.below (by omega) (by omega)))
  have F4 := Lib.hid (F3.out.kp hk4 (by decide) (by omega))
  have hs4 := Nat.le_trans hs3 hk4.size
  obtain ⟨P, HPP⟩ : ∃ P, Hid (P = fcB f.fc ++ poB f) := ⟨_, Lib.hid rfl⟩
  rw [← HPP.out] at hw4
  have HW4 := Lib.hid hw4
  have HLP : Hid (P.length + (f.bd.flatMap bdB).length + 60 ≤ 140737488355328) := Lib.hid (by have := HLL.out; rw [HPP.out]; simp only [List.length_append]; omega)
  clear hw4 hk4 hC2 HW3 F3 HB3 p4 p5 p6 p7 p8 hs3
  have p9 := F4.out.cell 9
  simp only [List.getElem?_cons_succ, List.getElem?_cons_zero] at p9
  go_wp2_with fail
  clear p9
  go_loopw [19] (fun i wr => ∃ k : Nat, k ≤ n0 ∧ i = .int .i64 k ∧ Hid (Pk.WAt (BW + 1) BW wr (P ++ (f.bd.take k).flatMap bdB)) ∧ Below w.heap.size w wr ∧ BW + 1 ≤ wr.heap.size) (fun i _ => n0 - (intOf i).toNat)
  case atStart => exact ⟨0, Nat.zero_le _, rfl, Lib.hid (by simpa using HW4.out), HB4.out, hs4⟩
  case round =>
    clear HW4 HB4 F4 hs4
    obtain ⟨k, hk, rfl, HWk, hbr, hsr⟩ := hrel
    by_cases hkl : k < n0
    · obtain ⟨x, hx⟩ : ∃ v, f.bd[k]? = some v := ⟨_, List.getElem?_eq_getElem (by have := E0.out; omega)⟩
      obtain ⟨g, o, cs, rfl, hcell, a6, n6, c6, rfl, hsl⟩ := HK0.out k x hx
      have p0 : wr.cell? ⟨g, o + k * 3, none⟩ = some (.int .i64 x.lo) := (hbr.cell (World.block_lt_of_cell? _ _ (hcell 0 _ rfl))).trans (hcell 0 _ rfl)
      have p1 : wr.cell? ⟨g, o + k * 3 + 1, none⟩ = some (.int .i64 x.st) := (hbr.cell (World.block_lt_of_cell? _ _ (hcell 1 _ rfl))).trans (hcell 1 _ rfl)
      have p2 : wr.cell? ⟨g, o + k * 3 + 2, none⟩ = some (.slice a6 n6 c6) := (hbr.cell (World.block_lt_of_cell? _ _ (hcell 2 _ rfl))).trans (hcell 2 _ rfl)
      have HSN : Hid (P ++ (f.bd.take (k + 1)).flatMap bdB = (P ++ (f.bd.take k).flatMap bdB) ++ bdB x) := Lib.hid (by rw [flat_snoc bdB hx, List.append_assoc])
      have HLk : Hid ((P ++ (f.bd.take k).flatMap bdB).length + (bdB x).length + 60 ≤ 140737488355328) := Lib.hid (by
        have h1 := flat_take_le bdB f.bd (k + 1)
        have h2 := HLP.out
        rw [flat_snoc bdB hx] at h1
        simp only [List.length_append] at h1 h2 ⊢
        omega)
      have hob := right_bd HRF.out x (List.mem_of_getElem? hx)
      have HOB := Lib.hid hob
      have HX := Lib.hid hx
      have HBR := Lib.hid hbr
      have HSL := Lib.hid hsl
      clear hcell hx hsl hob
      generalize (P ++ (f.bd.take k).flatMap bdB) = Q1 at *
      obtain ⟨W5, HW5⟩ : ∃ W, Hid (W = wr.alloc (.cells #[.int .i64 x.lo, .int .i64 x.st, .slice a6 n6 c6] 69)) := ⟨_, Lib.hid rfl⟩
      have X5 : Hid (Blk W5 wr.heap.size [.int .i64 x.lo, .int .i64 x.st, .slice a6 n6 c6] 69) := Lib.hid (by rw [HW5.out]; exact Blk.new wr [.int .i64 x.lo, .int .i64 x.st, .slice a6 n6 c6] 69)
      have HB5 : Hid (Below w.heap.size w W5) := Lib.hid (by rw [HW5.out]; exact bl_al' hbr)
      have HA5 : Hid (Pk.WAt (BW + 1) BW W5 Q1) := Lib.hid (by rw [HW5.out]; exact wat_al HWk.out _)
      have hs5 : BW + 1 ≤ W5.heap.size := by rw [HW5.out]; simp; omega
      go_upto_region 9 with fail
      rw [← HW5.out]
      clear HW5 p0 p1 p2 HWk hbr hsr
      have q0 := X5.out.cell 0
      have q1 := X5.out.cell 1
      have q2 := X5.out.cell 2
      simp only [List.getElem?_cons_succ, List.getElem?_cons_zero] at q0 q1 q2
      go_wp2_with fail
      have hC3 := body35 w x [.int .i64 x.lo, .int .i64 x.st, .slice a6 n6 c6] ⟨a6, n6, c6, rfl, HSL.out⟩ (BW + 1) BW Q1 W5 HB5.out (by omega) h0 (HT.out.below HB5.out) HA5.out (by omega) hs5
        (by have := HOB.out.1; constructor <;> omega) (by have := HOB.out.2.1; constructor <;> omega) (fun y hy => by
          have h := HOB.out.2.2.2 y hy
          obtain ⟨g1, g2, g3⟩ := h
          refine ⟨⟨by omega, by omega⟩, ?_⟩
          split at g3
          · exact ⟨by omega, by omega⟩
          · exact ⟨by omega, by omega⟩) (by have := HLk.out; omega)
      with_reducible refine hC3.mono ?_
      rintro e w6 ⟨rfl, hw6, hk6⟩
      have HW6 := Lib.hid hw6
      have HB6 : Hid (Below w.heap.size w w6) := Lib.hid (HB5.out.trans (hk6.below (by omega) (by omega)))
      have hs6 := Nat.le_trans hs5 hk6.size
      have HS6 := Lib.hid hs6
      clear hw6 hk6 hC3 q0 q1 q2 X5 HB5 HA5 hs5 hs6
      go_wp2
      go_roundw
      case rel => exact ⟨k + 1, by omega, by go_num, Lib.hid (by rw [HSN.out]; exact HW6.out), HB6.out, HS6.out⟩
      case measure => simp [intOf]; omega
    · have HWf : Hid (Pk.WAt (BW + 1) BW wr (flB f)) := Lib.hid (by
        have := HWk.out
        rw [List.take_of_length_le (by have := E0.out; omega), HPP.out] at this
        simpa only [flB, List.append_assoc] using this)
      have HBr := Lib.hid hbr
      clear HWk hbr
      go_wp2_with fail
      have hC4 := Pk.string_any (BW + 1) BW (flB f) wr HWf.out
      with_reducible refine hC4.mono ?_
      rintro e w7 ⟨rfl, rfl⟩
      clear hC4
      go_wp2
      exact bodyPost_ret (v := .tuple #[.string ⟨(flB f).toArray⟩, .int .i64 0]) (by simp [results, Tryd.results13, go_sem]) rfl ⟨.inl ⟨HRF.out, rfl⟩, HBr.out⟩
end Go.Proofs.YtomlbfkkhhhfkaaDoor.Fc
