/-
  AstLines: the walk, for classes in which there is not too much.
-/
import Derived.Test.YtojkagfbdpjckaaDoorLnI
import Derived.Test.YtojkagfbdpjckaaDoorLnL
import Derived.Test.YtojkagfbdpjckaaDoorFewC
namespace Go.Proofs.YtojkagfbdpjckaaDoor
open Go.RowKit
set_option linter.unusedSimpArgs false
set_option linter.unusedVariables false

theorem w64 (n : Int) (h0 : -9223372036854775808 ≤ n) (h1 : n ≤ 9223372036854775807) : wrap64 n = n := by unfold wrap64; omega
theorem cat_list (a b : ByteArray) : (a ++ b).data.toList = a.data.toList ++ b.data.toList := by simp [ByteArray.data_append]
theorem cat_size (a b : ByteArray) : (a ++ b).size = a.size + b.size := ByteArray.size_append
theorem vn_snoc (xs : List Vr) (k : Nat) (h : k < xs.length) : vn (xs.take (k + 1)) = vn (xs.take k) ++ (xs[k].name.data.toList ++ xs[k].tn.data.toList) := by
  unfold vn
  exact flat_snoc _ xs k h
theorem vn_take_le (xs : List Vr) (k : Nat) : (vn (xs.take k)).length ≤ (vn xs).length := flat_take_le _ xs k
/-- So many lines as these methods have. -/
def mlines (ms : List Mt) : Nat := (ms.map (fun m => 2 + (m.body.map (fun s => nls (sx 3 s))).sum)).sum
def slines (ss : List St) : Nat := (ss.map (fun s => nls (sx 3 s))).sum
theorem mlines_snoc (xs : List Mt) (k : Nat) (h : k < xs.length) : mlines (xs.take (k + 1)) = mlines (xs.take k) + (2 + slines xs[k].body) := by
  unfold mlines slines
  rw [List.take_succ_eq_append_getElem h, List.map_append, List.sum_append]
  simp
theorem slines_snoc (xs : List St) (k : Nat) (h : k < xs.length) : slines (xs.take (k + 1)) = slines (xs.take k) + nls (sx 3 xs[k]) := by
  unfold slines
  rw [List.take_succ_eq_append_getElem h, List.map_append, List.sum_append]
  simp
theorem slines_take_le (xs : List St) (k : Nat) : slines (xs.take k) ≤ slines xs := by
  have h : slines xs = slines (xs.take k) + slines (xs.drop k) := by
    unfold slines
    rw [← List.sum_append, ← List.map_append, List.take_append_drop]
  omega
theorem mlines_take_le (xs : List Mt) (k : Nat) : mlines (xs.take k) ≤ mlines xs := by
  have h : mlines xs = mlines (xs.take k) + mlines (xs.drop k) := by
    unfold mlines
    rw [← List.sum_append, ← List.map_append, List.take_append_drop]
  omega
theorem stBs_mem : ∀ (ss : List St) (s : St), s ∈ ss → stB s ≤ stBs ss
  | [], _, h => by simp at h
  | a :: r, s, h => by
    rw [stBs]
    rcases List.mem_cons.1 h with rfl | h
    · omega
    · have := stBs_mem r s h; omega
theorem msB_mem : ∀ (ms : List Mt) (m : Mt), m ∈ ms → mtB m ≤ msB ms
  | [], _, h => by simp at h
  | a :: r, s, h => by
    rw [msB]
    rcases List.mem_cons.1 h with rfl | h
    · omega
    · have := msB_mem r s h; omega
theorem okSs_mem : ∀ (ss : List St), okSs ss → ∀ s ∈ ss, okS s
  | [], _, s, h => by simp at h
  | a :: r, ho, s, h => by
    have ho' : okS a ∧ okSs r := by rw [okSs] at ho; exact ho
    rcases List.mem_cons.1 h with rfl | h
    · exact ho'.1
    · exact okSs_mem r ho'.2 s h
/-- How long one statement's text is, as part of a class of which there is at most so much. -/
theorem sx3_le (s : St) (ho : okS s) (hb : stB s ≤ 1048576) : (sx 3 s).length ≤ 140737488355328 := by
  have h := sx_B s 3 (1048576 + 3) ho (by omega)
  have h2 : (100 + 3 * (1048576 + 3)) * stB s ≤ (100 + 3 * (1048576 + 3)) * 1048576 := Nat.mul_le_mul_left _ hb
  omega
theorem slines_le : ∀ (ss : List St), okSs ss → stBs ss ≤ 1048576 → slines ss ≤ ss.length * 140737488355328
  | [], _, _ => by simp [slines]
  | s :: r, ho, hb => by
    have ho' : okS s ∧ okSs r := by rw [okSs] at ho; exact ho
    rw [stBs] at hb
    have h1 := sx3_le s ho'.1 (by omega)
    have h2 := slines_le r ho'.2 (by omega)
    have h3 := nls_le (sx 3 s)
    have h4 : slines (s :: r) = nls (sx 3 s) + slines r := by unfold slines; rw [List.map_cons, List.sum_cons]
    rw [h4, List.length_cons, Nat.add_mul, Nat.one_mul]
    omega
theorem mlines_le : ∀ (ms : List Mt), (∀ m ∈ ms, okSs m.body ∧ m.body.length ≤ 10) → msB ms ≤ 1048576 → mlines ms ≤ ms.length * 1407374883553282
  | [], _, _ => by simp [mlines]
  | m :: r, ho, hb => by
    have h0 := ho m (by simp)
    rw [msB] at hb
    have hs : stBs m.body ≤ mtB m := by unfold mtB; omega
    have h1 := slines_le m.body h0.1 (by omega)
    have h2 := mlines_le r (fun x hx => ho x (by simp [hx])) (by omega)
    have h3 : m.body.length * 140737488355328 ≤ 10 * 140737488355328 := Nat.mul_le_mul_right _ h0.2
    have h4 : mlines (m :: r) = (2 + slines m.body) + mlines r := by unfold mlines slines; rw [List.map_cons, List.sum_cons]
    rw [h4, List.length_cons, Nat.add_mul, Nat.one_mul]
    omega

set_option maxHeartbeats 8000000 in
set_option maxRecDepth 100000 in
theorem lines6 (ln co : Int) (name sup : ByteArray) (fs : List Vr) (ms : List Mt) (a1 : Option Addr) (n1 c1 : Nat) (a2 : Option Addr) (n2 c2 : Nat) (W : World) (hpow : Pow W) (h1 : Sl W 3 VrR fs (.slice a1 n1 c1)) (h2 : Sl W 8 (MtR W) ms (.slice a2 n2 c2)) (hB : clB name sup fs ms ≤ 1048576) :
    Calls Tryd.prog 6 #[.agg #[.int .i64 ln, .int .i64 co, .string name, .string sup, .slice a1 n1 c1, .slice a2 n2 c2]] W fun e w' => e = .returned (.bool true) ∧ Below W.heap.size W w' := by
  have hpos := Pow.pos hpow
  obtain ⟨e1, l1, k1, hk1⟩ := h1.at
  obtain ⟨e2, l2, k2, hk2⟩ := h2.at
  unfold maxLen at k1 k2
  have HF := Lib.hid (And.intro e1 hk1)
  have HM := Lib.hid (And.intro e2 hk2)
  have HB := Lib.hid hB
  have HOK := Lib.hid h2.okSs
  have HP := Lib.hid (fun (w : World) (hb : Below W.heap.size W w) => Pow.keep hpow hpos hb)
  have H1 := Lib.hid h1
  have H2 := Lib.hid h2
  have HN : Hid ((name.data.toList ++ (sup.data.toList ++ (vn fs ++ ms.flatMap mn))).length ≤ 1048576) := Lib.hid (by
    have q1 := vn_le fs
    have q2 := mn_le ms
    have q3 : name.data.toList.length = name.size := rfl
    have q4 : sup.data.toList.length = sup.size := rfl
    unfold clB at hB
    simp only [List.length_append, q3, q4]
    omega)
  have hns : name.size + sup.size ≤ 9223372036854775807 := by unfold clB at hB; omega
  clear hpow h1 h2 hk1 hk2 hB e1 e2
  go_enter Tryd.func6, Tryd.ntmps6
  go_wp2_with fail
  refine (head8 _ (HP.out _ (below1 W _))).mono ?_
  rintro e w1 ⟨rfl, hb1⟩
  have hB1 : Below W.heap.size W w1 := (below1 W _).trans (hb1.mono (by simp))
  have hr0 := (hb1.block W.heap.size (by simp)).trans (heap_al1 W _)
  have hs1 : W.heap.size + 1 ≤ w1.heap.size := by have := hb1.size; simpa using this
  clear hb1
  have p0 := cell_row hr0 0 rfl
  have p1 := cell_row hr0 1 rfl
  have p2 := cell_row hr0 2 rfl
  have p3 := cell_row hr0 3 rfl
  have p4 := cell_row hr0 4 rfl
  have p5 := cell_row hr0 5 rfl
  go_wp2_with fail
  refine (few13 ln co name sup fs ms a1 n1 c1 a2 n2 c2 w1 (H1.out.mono hB1 (fun _ _ h => h)) (H2.out.mono hB1 (fun _ _ h => h.below hB1)) (by omega)).mono ?_
  rintro e w2 ⟨r, rfl, hfew, hb⟩
  have HB2 : Hid (Below W.heap.size W w2) := Lib.hid (hB1.trans (hb.mono (by omega)))
  have hr0 := (hb.block W.heap.size (by omega)).trans hr0
  have hs2 : W.heap.size + 1 ≤ w2.heap.size := by have := hb.size; omega
  clear hb p0 p1 p2 p3 p4 p5 hB1 hs1
  cases r with
  | false =>
    go_wp2
    go_ret
    exact ⟨rfl, HB2.out⟩
  | true =>
  have hfew := hfew rfl
  have HFW := Lib.hid hfew
  have HR0 := Lib.hid hr0
  clear hfew
  have p2 := cell_row hr0 2 rfl
  have p3 := cell_row hr0 3 rfl
  have p4 := cell_row hr0 4 rfl
  have p5 := cell_row hr0 5 rfl
  clear hr0
  go_wp2
  go_loopw [4, 27] (fun s i wr => ∃ (j : Nat) (nm : ByteArray), j ≤ n1 ∧ s = .string nm ∧ i = .int .i64 j ∧ Hid (nm.data.toList = name.data.toList ++ (sup.data.toList ++ vn (fs.take j))) ∧ Below w2.heap.size w2 wr) (fun _ i _ => n1 - (intOf i).toNat)
  case atStart => exact ⟨0, name ++ sup, Nat.zero_le _, rfl, rfl, Lib.hid (by rw [cat_list]; simp [vn]), Below.refl _ _⟩
  case round =>
    obtain ⟨j, nm, hj1, rfl, rfl, HNM, hbr⟩ := hrel
    have hsr := hbr.size
    have hwr : Below W.heap.size W wr := HB2.out.trans (hbr.mono (by omega))
    by_cases hltj : j < n1
    · have hxj : j < fs.length := by have := HF.out.1; omega
      obtain ⟨g, o, cs, rfl, hcell, hcs⟩ := HF.out.2 j fs[j] (List.getElem?_eq_getElem hxj)
      have hsn := vn_snoc fs j hxj
      have htl := vn_take_le fs (j + 1)
      generalize fs[j] = f at *
      unfold VrR at hcs
      subst hcs
      have k0 := (hwr.cell (World.block_lt_of_cell? _ _ (hcell 0 _ rfl))).trans (hcell 0 _ rfl)
      have k1 := (hwr.cell (World.block_lt_of_cell? _ _ (hcell 1 _ rfl))).trans (hcell 1 _ rfl)
      have k2 := (hwr.cell (World.block_lt_of_cell? _ _ (hcell 2 _ rfl))).trans (hcell 2 _ rfl)
      have hgl : g < wr.heap.size := by have h : wr.cell? ⟨g, o + j * 3, none⟩ = some (.string f.name) := k0; exact World.block_lt_of_cell? _ _ h
      have k0 : wr.cell? ⟨g, o + j * 3, none⟩ = some (.string f.name) := k0
      clear hcell
      have hnext : (nm ++ f.name ++ f.tn).data.toList = name.data.toList ++ (sup.data.toList ++ vn (fs.take (j + 1))) := by
        rw [cat_list, cat_list, HNM.out, hsn]
        simp only [List.append_assoc]
      have hz : nm.size + (f.name.size + f.tn.size) ≤ 1048576 := by
        have h := HN.out
        have q : (nm ++ f.name ++ f.tn).data.toList.length ≤ 1048576 := by
          rw [hnext]
          simp only [List.length_append] at h ⊢
          omega
        have q' : (nm ++ f.name ++ f.tn).size ≤ 1048576 := q
        rw [cat_size, cat_size] at q'
        omega
      have s1 : nm.size + f.name.size ≤ 9223372036854775807 := by omega
      have s2 : (nm ++ f.name).size + f.tn.size ≤ 9223372036854775807 := by rw [cat_size]; omega
      have HNX := Lib.hid hnext
      clear hnext hsn htl hz HNM
      go_wp2
      go_roundw
      case rel => exact ⟨j + 1, _, by omega, rfl, by go_num, HNX, hbr.trans (by first | exact below1 wr _ | exact (below1 wr _).mono (by omega) | skip)⟩
      case measure => simp [intOf]; omega
    · have HE : Hid (fs.take j = fs) := Lib.hid (List.take_of_length_le (by have := HF.out.1; omega))
      have hnm := HNM.out
      rw [HE.out] at hnm
      have HNM1 := Lib.hid hnm
      have HR1 := Lib.hid ((hbr.block W.heap.size (by omega)).trans HR0.out)
      have p2 := cell_row HR1.out 2 rfl
      have p3 := cell_row HR1.out 3 rfl
      have p4 := cell_row HR1.out 4 rfl
      have p5 := cell_row HR1.out 5 rfl
      obtain ⟨w3, hw3⟩ : ∃ w3, w3 = wr := ⟨_, rfl⟩
      subst hw3
      have HB3 := Lib.hid hwr
      clear hnm HNM HE hwr hbr
      go_wp2
      have hn1 : n1 ≤ 10 := by have h := HF.out.1; have h2 := HFW.out.1; omega
      have hn2 : n2 ≤ 10 := by have h := HM.out.1; have h2 := HFW.out.2.1; omega
      have HMX : Hid (mlines ms ≤ 14073748835532820) := Lib.hid (by
        have q := mlines_le ms (fun m hm => ⟨HOK.out m hm, (HFW.out.2.2 m hm).2⟩) (by have h := HB.out; unfold clB at h; omega)
        have q2 : ms.length * 1407374883553282 ≤ 10 * 1407374883553282 := Nat.mul_le_mul_right _ HFW.out.2.1
        omega)
      go_loopw [4, 7, 47] (fun s k i wr => ∃ (j : Nat) (nm : ByteArray), j ≤ n2 ∧ s = .string nm ∧ i = .int .i64 j ∧ k = .int .i64 ((2 + n1 + mlines (ms.take j) : Nat) : Int) ∧ Hid (nm.data.toList = name.data.toList ++ (sup.data.toList ++ (vn fs ++ (ms.take j).flatMap mn))) ∧ Below w3.heap.size w3 wr) (fun _ _ i _ => n2 - (intOf i).toNat)
      case atStart => exact ⟨0, _, Nat.zero_le _, rfl, rfl, by rw [show mlines (ms.take 0) = 0 from rfl]; have hq : wrap64 (2 + (n1 : Int)) = 2 + (n1 : Int) := w64 _ (by omega) (by omega); rw [hq]; simp, Lib.hid (by rw [HNM1.out]; simp), Below.refl _ _⟩
      case round =>
        obtain ⟨j, nm, hj1, rfl, rfl, rfl, HNM, hbr⟩ := hrel
        obtain ⟨wo, hwo⟩ : ∃ wo, wo = wr := ⟨_, rfl⟩
        subst hwo
        have hsr := hbr.size
        have hwo : Below W.heap.size W wo := HB3.out.trans (hbr.mono (by omega))
        by_cases hltj : j < n2
        · have hxj : j < ms.length := by have := HM.out.1; omega
          obtain ⟨g, o, cs, rfl, hcell, hcs⟩ := HM.out.2 j ms[j] (List.getElem?_eq_getElem hxj)
          have HSM := Lib.hid (mlines_snoc ms j hxj)
          have HSN := Lib.hid (flat_snoc mn ms j hxj)
          have HTN := Lib.hid (flat_take_le mn ms (j + 1))
          have HOKm := Lib.hid (HOK.out ms[j] (List.getElem_mem hxj))
          have HBm := Lib.hid (msB_mem ms ms[j] (List.getElem_mem hxj))
          generalize ms[j] = m at *
          obtain ⟨pv, bv, rfl, q1, dd, q2⟩ := hcs
          obtain ⟨pa, pc, rfl⟩ := q1.form
          obtain ⟨qa, qc, rfl⟩ := q2.form
          obtain ⟨ep, lp, kp, hkp⟩ := q1.at
          obtain ⟨eb, lb, kb, hkb⟩ := q2.at
          unfold maxLen at kp kb
          have HPS := Lib.hid (And.intro ep hkp)
          have HBS := Lib.hid (And.intro eb hkb)
          unfold mtC at hcell
          have k0 := (hwo.cell (World.block_lt_of_cell? _ _ (hcell 0 _ rfl))).trans (hcell 0 _ rfl)
          have k1 := (hwo.cell (World.block_lt_of_cell? _ _ (hcell 1 _ rfl))).trans (hcell 1 _ rfl)
          have k2 := (hwo.cell (World.block_lt_of_cell? _ _ (hcell 2 _ rfl))).trans (hcell 2 _ rfl)
          have k3 := (hwo.cell (World.block_lt_of_cell? _ _ (hcell 3 _ rfl))).trans (hcell 3 _ rfl)
          have k4 := (hwo.cell (World.block_lt_of_cell? _ _ (hcell 4 _ rfl))).trans (hcell 4 _ rfl)
          have k5 := (hwo.cell (World.block_lt_of_cell? _ _ (hcell 5 _ rfl))).trans (hcell 5 _ rfl)
          have k6 := (hwo.cell (World.block_lt_of_cell? _ _ (hcell 6 _ rfl))).trans (hcell 6 _ rfl)
          have k7 := (hwo.cell (World.block_lt_of_cell? _ _ (hcell 7 _ rfl))).trans (hcell 7 _ rfl)
          have k0 : wo.cell? ⟨g, o + j * 8, none⟩ = some (.int .i64 m.ln) := k0
          have hgl : g < wo.heap.size := World.block_lt_of_cell? _ _ k0
          clear hcell q1 q2 ep hkp eb hkb
          have hz : nm.size + (m.name.size + (m.rn.size + (vn m.params).length)) ≤ 1048576 := by
            have h := HN.out
            have q := HTN.out
            have e0 := congrArg List.length HNM.out
            have e1 : nm.data.toList.length = nm.size := rfl
            have e2 : m.name.data.toList.length = m.name.size := rfl
            have e3 : m.rn.data.toList.length = m.rn.size := rfl
            rw [HSN.out] at q
            simp only [mn, List.length_append] at h q e0
            omega
          have HZ := Lib.hid hz
          have s1 : nm.size + m.name.size ≤ 9223372036854775807 := by omega
          have s2 : (nm ++ m.name).size + m.rn.size ≤ 9223372036854775807 := by rw [cat_size]; omega
          clear hz HTN
          generalize hps : m.params.length = np at *
          generalize hbs : m.body.length = nb at *
          have EPS := Lib.hid hps
          have EBS := Lib.hid hbs
          clear hps hbs
          go_wp2
          go_loopw [4, 62] (fun s i wr => ∃ (k : Nat) (nn : ByteArray), k ≤ np ∧ s = .string nn ∧ i = .int .i64 k ∧ Hid (nn.data.toList = nm.data.toList ++ (m.name.data.toList ++ (m.rn.data.toList ++ vn (m.params.take k)))) ∧ wr.heap[wo.heap.size]? = some (.cells #[.int .i64 m.ln, .int .i64 m.co, .string m.name, .bool m.static, .slice pa np pc, .string m.rn, .bool m.ra, .slice qa nb qc] 43 (0, 0)) ∧ Below wo.heap.size wo wr) (fun _ i _ => np - (intOf i).toNat)
          case atStart => exact ⟨0, _, Nat.zero_le _, rfl, rfl, Lib.hid (by rw [cat_list, cat_list]; simp [vn]), heap_al1 wo _, below1 wo _⟩
          case round =>
            obtain ⟨k, nn, hk1, rfl, rfl, HNN, hrw, hbq⟩ := hrel
            have hsq := hbq.size
            have hlq : wo.heap.size < wr.heap.size := by
              rcases Nat.lt_or_ge wo.heap.size wr.heap.size with h | h
              · exact h
              · rw [Array.getElem?_eq_none h] at hrw; cases hrw
            have hwr : Below W.heap.size W wr := hwo.trans (hbq.mono (by omega))
            by_cases hltk : k < np
            · have hxk : k < m.params.length := by have := EPS.out; omega
              obtain ⟨g2, o2, cs2, rfl, hcell2, hcs2⟩ := HPS.out.2 k m.params[k] (List.getElem?_eq_getElem hxk)
              have hsn := vn_snoc m.params k hxk
              have htl := vn_take_le m.params (k + 1)
              generalize m.params[k] = f at *
              unfold VrR at hcs2
              subst hcs2
              have k0 : wr.cell? ⟨g2, o2 + k * 3, none⟩ = some (.string f.name) := (hwr.cell (World.block_lt_of_cell? _ _ (hcell2 0 _ rfl))).trans (hcell2 0 _ rfl)
              have k1 := (hwr.cell (World.block_lt_of_cell? _ _ (hcell2 1 _ rfl))).trans (hcell2 1 _ rfl)
              have k2 := (hwr.cell (World.block_lt_of_cell? _ _ (hcell2 2 _ rfl))).trans (hcell2 2 _ rfl)
              have hgl2 : g2 < wr.heap.size := World.block_lt_of_cell? _ _ k0
              clear hcell2
              have hnext : (nn ++ f.name ++ f.tn).data.toList = nm.data.toList ++ (m.name.data.toList ++ (m.rn.data.toList ++ vn (m.params.take (k + 1)))) := by
                rw [cat_list, cat_list, HNN.out, hsn]
                simp only [List.append_assoc]
              have hz : nn.size + (f.name.size + f.tn.size) ≤ 1048576 := by
                have h := HZ.out
                have q : (nn ++ f.name ++ f.tn).data.toList.length ≤ 1048576 := by
                  rw [hnext]
                  have e1 : nm.data.toList.length = nm.size := rfl
                  have e2 : m.name.data.toList.length = m.name.size := rfl
                  have e3 : m.rn.data.toList.length = m.rn.size := rfl
                  simp only [List.length_append] at htl ⊢
                  omega
                have q' : (nn ++ f.name ++ f.tn).size ≤ 1048576 := q
                rw [cat_size, cat_size] at q'
                omega
              have s1 : nn.size + f.name.size ≤ 9223372036854775807 := by omega
              have s2 : (nn ++ f.name).size + f.tn.size ≤ 9223372036854775807 := by rw [cat_size]; omega
              have HNX := Lib.hid hnext
              clear hnext hsn htl hz HNN
              go_wp2
              go_roundw
              case rel => exact ⟨k + 1, _, by omega, rfl, by go_num, HNX, ((below1 wr _).block wo.heap.size (by omega)).trans hrw, hbq.trans ((below1 wr _).mono (by omega))⟩
              case measure => simp [intOf]; omega
            · have HE : Hid (m.params.take k = m.params) := Lib.hid (List.take_of_length_le (by have := EPS.out; omega))
              have hnn := HNN.out
              rw [HE.out] at hnn
              have hnn2 : nn.data.toList = name.data.toList ++ (sup.data.toList ++ (vn fs ++ (ms.take (j + 1)).flatMap mn)) := by
                rw [hnn, HNM.out, HSN.out]
                simp only [mn, List.append_assoc]
              have HN2 := Lib.hid hnn2
              have q5 := cell_row hrw 5 rfl
              have q6 := cell_row hrw 6 rfl
              have q7 := cell_row hrw 7 rfl
              obtain ⟨w5, hw5⟩ : ∃ w5, w5 = wr := ⟨_, rfl⟩
              subst hw5
              clear hnn hnn2 HNN HE HNM
              go_wp2
              go_loopw [7, 80] (fun c i wr => ∃ (k : Nat), k ≤ nb ∧ i = .int .i64 k ∧ c = .int .i64 ((2 + n1 + mlines (ms.take j) + 2 + slines (m.body.take k) : Nat) : Int) ∧ wr.heap[wo.heap.size]? = some (.cells #[.int .i64 m.ln, .int .i64 m.co, .string m.name, .bool m.static, .slice pa np pc, .string m.rn, .bool m.ra, .slice qa nb qc] 43 (0, 0)) ∧ Below wo.heap.size wo wr) (fun _ i _ => nb - (intOf i).toNat)
              case atStart => exact ⟨0, Nat.zero_le _, rfl, by have q1 := HMX.out; have q2 := mlines_take_le ms j; rw [show slines (m.body.take 0) = 0 from rfl, w64 _ (by omega) (by omega)]; simp, hrw, hbq⟩
              case round =>
                obtain ⟨k, hk1, rfl, rfl, hrw, hbq⟩ := hrel
                have hsq := hbq.size
                have hlq : wo.heap.size < wr.heap.size := by
                  rcases Nat.lt_or_ge wo.heap.size wr.heap.size with h | h
                  · exact h
                  · rw [Array.getElem?_eq_none h] at hrw; cases hrw
                have hwr : Below W.heap.size W wr := hwo.trans (hbq.mono (by omega))
                by_cases hltk : k < nb
                · have hxk : k < m.body.length := by have := EBS.out; omega
                  obtain ⟨g2, o2, cs2, rfl, hcell2, hcs2⟩ := HBS.out.2 k m.body[k] (List.getElem?_eq_getElem hxk)
                  have HSL := Lib.hid (slines_snoc m.body k hxk)
                  have HLE : Hid ((sx 3 m.body[k]).length ≤ 140737488355328) := Lib.hid (sx3_le _ (okSs_mem _ HOKm.out _ (List.getElem_mem hxk)) (by
                    have q1 := stBs_mem m.body _ (List.getElem_mem hxk)
                    have q2 := HBm.out
                    have q3 := HB.out
                    unfold mtB at q2
                    unfold clB at q3
                    omega))
                  have HLM := mlines_take_le ms j
                  have HLS := slines_take_le m.body (k + 1)
                  have HR : Hid (∀ w', Below W.heap.size W w' → StR w' dd m.body[k] cs2) := Lib.hid (fun w' hb => hcs2.below hb)
                  obtain ⟨sdo, sln, sco, sna, stn, sta, b1, m1, d1, b2, m2, d2, b3, m3, d3, rfl⟩ := st_shape hcs2
                  clear hcs2
                  unfold stC at hcell2
                  generalize m.body[k] = st at *
                  have k0 : wr.cell? ⟨g2, o2 + k * 9, none⟩ = some (.int .i64 sdo) := (hwr.cell (World.block_lt_of_cell? _ _ (hcell2 0 _ rfl))).trans (hcell2 0 _ rfl)
                  have k1 := (hwr.cell (World.block_lt_of_cell? _ _ (hcell2 1 _ rfl))).trans (hcell2 1 _ rfl)
                  have k2 := (hwr.cell (World.block_lt_of_cell? _ _ (hcell2 2 _ rfl))).trans (hcell2 2 _ rfl)
                  have k3 := (hwr.cell (World.block_lt_of_cell? _ _ (hcell2 3 _ rfl))).trans (hcell2 3 _ rfl)
                  have k4 := (hwr.cell (World.block_lt_of_cell? _ _ (hcell2 4 _ rfl))).trans (hcell2 4 _ rfl)
                  have k5 := (hwr.cell (World.block_lt_of_cell? _ _ (hcell2 5 _ rfl))).trans (hcell2 5 _ rfl)
                  have k6 := (hwr.cell (World.block_lt_of_cell? _ _ (hcell2 6 _ rfl))).trans (hcell2 6 _ rfl)
                  have k7 := (hwr.cell (World.block_lt_of_cell? _ _ (hcell2 7 _ rfl))).trans (hcell2 7 _ rfl)
                  have k8 := (hwr.cell (World.block_lt_of_cell? _ _ (hcell2 8 _ rfl))).trans (hcell2 8 _ rfl)
                  have hgl2 : g2 < wr.heap.size := World.block_lt_of_cell? _ _ k0
                  have hmx := HMX.out
                  have hns := nls_le (sx 3 st)
                  have hle := HLE.out
                  have hsl := HSL.out
                  have hml := HSM.out
                  have hmt := mlines_take_le ms (j + 1)
                  clear hcell2
                  have hB5 : Below W.heap.size W (wr.alloc (.cells #[.int .i64 sdo, .int .i64 sln, .int .i64 sco, .string sna, .string stn, .bool sta, .slice b1 m1 d1, .slice b2 m2 d2, .slice b3 m3 d3] 48)) := hwr.trans ((below1 wr _).mono (by omega))
                  have HST := Lib.hid (stmt23 (wr.alloc (.cells #[.int .i64 sdo, .int .i64 sln, .int .i64 sco, .string sna, .string stn, .bool sta, .slice b1 m1 d1, .slice b2 m2 d2, .slice b3 m3 d3] 48)) (HP.out _ hB5) dd st _ (HR.out _ hB5) 3 (by omega) hle)
                  clear hB5
                  unfold stC at HST
                  go_wp2_with fail
                  refine HST.out.mono ?_
                  rintro e w6 ⟨rfl, hb6⟩
                  have hb6' := (below1 wr _).trans (hb6.mono (by simp))
                  have hrw6 := (hb6'.block wo.heap.size (by omega)).trans hrw
                  have HBQ := Lib.hid (hbq.trans (hb6'.mono (by omega)))
                  clear hb6 hb6' HST HLE HR HSL
                  go_wp2_with fail
                  refine (breaks22 ⟨(sx 3 st).toArray⟩ w6 (by simpa [ByteArray.size] using hle)).mono ?_
                  rintro e w7 ⟨rfl, rfl⟩
                  simp only [List.toList_toArray]
                  go_wp2
                  go_roundw
                  case rel => exact ⟨k + 1, by omega, by go_num, by rw [hsl]; go_num, hrw6, HBQ.out⟩
                  case measure => simp [intOf]; omega
                · have HE : Hid (m.body.take k = m.body) := Lib.hid (List.take_of_length_le (by have := EBS.out; omega))
                  rw [HE.out]
                  have HBQ := Lib.hid (hbr.trans (hbq.mono (by omega)))
                  have hmx := HMX.out
                  have hml := HSM.out
                  have hmt := mlines_take_le ms (j + 1)
                  clear HE
                  go_wp2
                  go_roundw
                  case rel => exact ⟨j + 1, _, by omega, rfl, by go_num, by rw [hml]; go_num, HN2, HBQ.out⟩
                  case measure => simp [intOf]; omega
        · have HE : Hid (ms.take j = ms) := Lib.hid (List.take_of_length_le (by have := HM.out.1; omega))
          have hnm := HNM.out
          rw [HE.out] at hnm
          rw [HE.out]
          have HR4 := Lib.hid ((hbr.block W.heap.size (by omega)).trans HR1.out)
          have hlw : W.heap.size < wo.heap.size := by have := HB3.out.size; omega
          have hnz : nm.size ≤ 1048576 := by
            have h := HN.out
            have e1 : nm.data.toList.length = nm.size := rfl
            rw [← hnm] at h
            omega
          obtain ⟨kk, HKK⟩ : ∃ kk : Nat, Hid (nls nm.data.toList = kk) := ⟨_, Lib.hid rfl⟩
          have HBR : Hid (∀ z : World, Calls Tryd.prog 22 #[.string nm] z fun e w' => e = .returned (.int .i64 kk) ∧ w' = z) := Lib.hid (fun z => by have h := breaks22 nm z (by omega); rw [HKK.out] at h; exact h)
          have hcl : (cx name sup fs ms).length ≤ 140737488355328 := by
            have q := cx_le name sup fs ms (1048576 + 2) HOK.out (by have := HB.out; omega)
            have q2 : (100 + 3 * (1048576 + 2)) * clB name sup fs ms ≤ (100 + 3 * (1048576 + 2)) * 1048576 := Nat.mul_le_mul_left _ HB.out
            omega
          have hC : ∀ z : World, Below wo.heap.size wo z → Calls Tryd.prog 24 #[.agg #[.int .i64 ln, .int .i64 co, .string name, .string sup, .slice a1 n1 c1, .slice a2 n2 c2]] z fun e w' => e = .returned (.string ⟨(cx name sup fs ms).toArray⟩) ∧ Below z.heap.size z w' := fun z hz => by
            have hb := hwo.trans (hz.mono (by omega))
            exact class24 ln co name sup fs ms a1 n1 c1 a2 n2 c2 z (HP.out _ hb) (H1.out.mono hb (fun _ _ h => h)) (H2.out.mono hb (fun _ _ h => h.below hb)) hcl
          have HCT := Lib.hid hC
          have HBC : Hid (∀ z : World, Calls Tryd.prog 22 #[.string ⟨(cx name sup fs ms).toArray⟩] z fun e w' => e = .returned (.int .i64 (nls (cx name sup fs ms))) ∧ w' = z) := Lib.hid (fun z => (breaks22 ⟨(cx name sup fs ms).toArray⟩ z (by simpa [ByteArray.size] using hcl)).mono fun e w' h => by simpa using h)
          clear hC hcl
          have HWR := Lib.hid hwo
          clear hwo
          have hrz := HR4.out
          have p0 := cell_row hrz 0 rfl
          have p1 := cell_row hrz 1 rfl
          have p2 := cell_row hrz 2 rfl
          have p3 := cell_row hrz 3 rfl
          have p4 := cell_row hrz 4 rfl
          have p5 := cell_row hrz 5 rfl
          go_wp2_with fail
          refine (HBR.out _).mono ?_
          rintro e z1 ⟨rfl, rfl⟩
          by_cases hg : 0 < kk
          · have hgd : decide (kk > 0) = true := decide_eq_true hg
            go_wp2
            go_ret
            exact ⟨rfl, HWR.out⟩
          · have hk0 : kk = 0 := by omega
            subst hk0
            have hz0 := HKK.out
            rw [hnm] at hz0
            have hcx := nls_cx name sup fs ms hz0
            have heq : ((nls (cx name sup fs ms) : Nat) : Int) = ((2 + n1 + mlines ms : Nat) : Int) := by
              rw [hcx]
              unfold lines mlines
              rw [HF.out.1]
            have HEQ : Hid ((((nls (cx name sup fs ms) : Nat) : Int) == 2 + (n1 : Int) + ((mlines ms : Nat) : Int)) = true) := Lib.hid (by rw [heq]; simp)
            clear hcx hz0 heq
            go_wp2_with fail
            refine (HCT.out _ (Below.refl _ _)).mono ?_
            rintro e z2 ⟨rfl, hz2⟩
            have HZ2 := Lib.hid (HWR.out.trans (hz2.mono HWR.out.size))
            clear hz2
            go_wp2_with fail
            refine (HBC.out _).mono ?_
            rintro e z3 ⟨rfl, rfl⟩
            have heqb := HEQ.out
            generalize nls (cx name sup fs ms) = nx at *
            go_wp2
            go_ret
            exact ⟨rfl, HZ2.out⟩
end Go.Proofs.YtojkagfbdpjckaaDoor
