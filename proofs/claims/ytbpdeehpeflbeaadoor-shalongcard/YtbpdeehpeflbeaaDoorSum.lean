/-
  Sum.
-/
import Derived.Test.YtbpdeehpeflbeaaDoorStart
namespace Go.Proofs.YtbpdeehpeflbeaaDoor
open Go.RowKit

/-- all bytes of texts, one behind the other -/
def allOf (Ts : List ByteArray) : List Nat := Ts.flatMap bsOf
theorem allOf_take (Ts : List ByteArray) (k : Nat) (hk : k < Ts.length) : allOf (Ts.take (k + 1)) = allOf (Ts.take k) ++ bsOf Ts[k] := by
  unfold allOf
  rw [List.take_succ_eq_append_getElem hk]
  simp [-List.take_append_getElem]
theorem allOf_take_le (Ts : List ByteArray) (k : Nat) : (allOf (Ts.take k)).length ≤ (allOf Ts).length := by
  have h : allOf Ts = allOf (Ts.take k) ++ allOf (Ts.drop k) := by
    unfold allOf
    rw [← List.flatMap_append, List.take_append_drop]
  rw [h, List.length_append]
  omega

theorem below_row {B g : Nat} {w0 w : World} (hb : Below B w0 w) (hBg : B ≤ g) (cs : Array Value) : Below B w0 (w.setRow g cs) :=
  hb.trans ⟨rfl, rfl, rfl, by simp [World.setRow], fun k hk => setRow_other w g k cs (by omega)⟩
theorem inv_start {w w2 : World} {nb : Nat} (hK : RdW 0 w K) (hb : Below w.heap.size w w2) (hn : w.heap.size ≤ nb) (h2 : w2.heap[nb]? = some (.cells st0.toArray 43 (0, 0))) : Inv nb w2 [] 0 := by
  have h0 : 0 < w.heap.size := block_lt_of_cell (hK 0 (by omega))
  refine ⟨List.replicate 64 0, ⟨h2, rfl, by simp⟩, rfl, ?_, fun i hi => (hb.cell (by exact h0)).trans (hK i hi), by omega⟩
  intro x hx
  rw [List.eq_of_mem_replicate hx]
  omega

set_option maxHeartbeats 1600000 in
set_option maxRecDepth 100000 in
theorem sum_any (w : World) (p : Option Addr) (sb c : Nat) (Ts : List ByteArray) (hT : (allOf Ts).length < 1000000) (hTl : Ts.length < 1000000) (hc : ∀ i (h : i < Ts.length), p = some ⟨sb, 0, none⟩ ∧ sb < w.heap.size ∧ w.cell? ⟨sb, i, none⟩ = some (.string Ts[i])) (hK : RdW 0 w K) :
    Calls Tryd.prog 9 #[.slice p Ts.length c] w fun e w' => e = .returned (.agg ((shaOf (allOf Ts)).map U8).toArray) ∧ Below w.heap.size w w' := by
  obtain ⟨Z, hZ, HZ⟩ : ∃ Z : Array Value, (#[Value.int IntKind.u8 0, Value.int IntKind.u8 0, Value.int IntKind.u8 0, Value.int IntKind.u8 0, Value.int IntKind.u8 0, Value.int IntKind.u8 0, Value.int IntKind.u8 0, Value.int IntKind.u8 0, Value.int IntKind.u8 0, Value.int IntKind.u8 0, Value.int IntKind.u8 0, Value.int IntKind.u8 0, Value.int IntKind.u8 0, Value.int IntKind.u8 0, Value.int IntKind.u8 0, Value.int IntKind.u8 0, Value.int IntKind.u8 0, Value.int IntKind.u8 0, Value.int IntKind.u8 0, Value.int IntKind.u8 0, Value.int IntKind.u8 0, Value.int IntKind.u8 0, Value.int IntKind.u8 0, Value.int IntKind.u8 0, Value.int IntKind.u8 0, Value.int IntKind.u8 0, Value.int IntKind.u8 0, Value.int IntKind.u8 0, Value.int IntKind.u8 0, Value.int IntKind.u8 0, Value.int IntKind.u8 0, Value.int IntKind.u8 0] : Array Value) = Z ∧ Hid (Z = ((List.replicate 32 0).map U8).toArray) := ⟨_, rfl, Lib.hid rfl⟩
  obtain ⟨Y, hY, HY⟩ : ∃ Y, (∀ w, (zeroValue 43).run Tryd.prog w = .ok (.agg Y) w) ∧ Hid (Y.size = 74) := ⟨Z43, run_zero43, Lib.hid (by kernel_rfl)⟩
  obtain ⟨B, HB⟩ : ∃ B, Hid (B = st0.toArray) := ⟨_, Lib.hid rfl⟩
  have HBL : Hid (B.size = 74) := by rw [HB.out]; exact Lib.hid (by kernel_rfl)
  have HI2 : Hid ((Tryd.prog.info? 43).map (·.size) = some B.size) := by rw [HBL.out]; exact info43
  have hall : B.all (·.oneCell') = true := by rw [HB.out]; exact all_oneCell_toArray st0_one
  obtain ⟨w0, HW0⟩ : ∃ w0, Hid (w0 = w.alloc (.cells Z 24)) := ⟨_, Lib.hid rfl⟩
  have hz0 : w0.heap.size = w.heap.size + 1 := by rw [HW0.out]; simp
  have HZ0 := Lib.hid hz0
  clear hz0
  go_enter Tryd.func9, Tryd.ntmps9
  go_wp2_with fail
  rw [← HW0.out]
  refine (start_any w0).mono ?_
  rintro e w1 ⟨rfl, hb1⟩
  rw [← HB.out]
  have hs1 := hb1.size
  clear hZ
  obtain ⟨nb, HNB⟩ : ∃ nb, Hid (nb = w1.heap.size) := ⟨_, Lib.hid rfl⟩
  have hth : (w1.alloc (.cells Y 43)).heap[w1.heap.size]? = some (.cells Y 43 (0, 0)) := heap_alloc_new w1 _
  have HSZ : Hid (Y.size = B.size) := by rw [HY.out, HBL.out]; exact Lib.hid rfl
  have HTH := Lib.hid hth
  clear hth
  go_wp2_with (with_reducible refine wpList_store_row rfl 43 (.tmp 3) (.tmp 6) rfl w1.heap.size B rfl rfl 43 Y HTH.out HI2.out HSZ.out hall ?_)
  obtain ⟨w2, HW2⟩ : ∃ w2, Hid (w2 = (w1.alloc (.cells Y 43)).setRow w1.heap.size B) := ⟨_, Lib.hid rfl⟩
  rw [← HW2.out, ← HNB.out]
  have hb2 : Below w0.heap.size w0 w2 := by rw [HW2.out]; exact below_row (hb1.alloc hs1 _) hs1 _
  have hnb : w0.heap.size ≤ nb := by rw [HNB.out]; exact hs1
  have hb02 : Below w.heap.size w w0 := by rw [HW0.out]; exact (Below.refl _ _).alloc (Nat.le_refl _) _
  have hbw2 : Below w.heap.size w w2 := hb02.trans (hb2.mono (by rw [HZ0.out]; omega))
  have HIV : Hid (Inv nb w2 [] 0) := by
    refine Lib.hid (inv_start hK hbw2 (by rw [HZ0.out] at hnb; omega) ?_)
    rw [HW2.out, HNB.out, setRow_heap _ _ _ _ _ _ HTH.out, HB.out]
  obtain ⟨n, HNN⟩ : ∃ n, Hid (n = Ts.length) := ⟨_, Lib.hid rfl⟩
  rw [← HNN.out]
  have hcr : ∀ wr, Mod nb w2 wr → ∀ k, (h : k < Ts.length) → p = some ⟨sb, 0, none⟩ ∧ wr.cell? ⟨sb, k, none⟩ = some (.string Ts[k]) := by
    intro wr hm k h
    obtain ⟨hp, hsb, hcc⟩ := hc k h
    refine ⟨hp, ?_⟩
    have hsz2 := hbw2.size
    have h1 : sb ≠ nb := by rw [HZ0.out] at hnb; omega
    rw [World.cell?_of_block (w := w2) (hm.block sb (by omega) h1), hbw2.cell (by exact hsb)]
    exact hcc
  have HCR := Lib.hid hcr
  have HC := Lib.hid hc
  have hn1 : n < 1000000 := by rw [HNN.out]; exact hTl
  clear hcr hc hTl
  go_loopw [9] (fun i wr => ∃ k : Nat, i = .int .i64 k ∧ k ≤ n ∧ Hid (Inv nb wr (allOf (Ts.take k)) (allOf (Ts.take k)).length) ∧ Mod nb w2 wr) (fun i _ => n - (intOf i).toNat)
  case atStart => exact ⟨0, rfl, by omega, HIV, Mod.refl _ _⟩
  case round =>
    clear HIV
    obtain ⟨k, rfl, hk, HI, hm⟩ := hrel
    by_cases hkl : k < n
    · have hkt : k < Ts.length := by rw [← HNN.out]; exact hkl
      obtain ⟨hpp, hcell⟩ := HCR.out wr hm k hkt
      have HCR' := HCR
      subst hpp
      obtain ⟨S, HS⟩ : ∃ S, Hid (S = Ts[k]) := ⟨_, Lib.hid rfl⟩
      rw [← HS.out] at hcell
      have k1 : (k : Int) < (n : Int) := by omega
      go_wp2_with fail
      have hle : (allOf (Ts.take k)).length + S.size < 4294967296 := by
        have h1 := allOf_take_le Ts (k + 1)
        rw [allOf_take Ts k (by rw [← HNN.out]; exact hkl), List.length_append, ← HS.out, bsOf_length] at h1
        omega
      refine (take_any nb _ _ _ S hle HI.out).mono ?_
      clear hcell k1 hle
      rintro e w3 ⟨rfl, hinv, hm3⟩
      have HV : Hid (Inv nb w3 (allOf (Ts.take (k + 1))) (allOf (Ts.take (k + 1))).length) := by
        refine Lib.hid ?_
        rw [allOf_take Ts k (by rw [← HNN.out]; exact hkl), List.length_append, ← HS.out, bsOf_length]
        exact hinv
      clear hinv
      go_wp2
      go_roundw
      case rel => exact ⟨k + 1, by go_num, by omega, HV, hm.trans hm3⟩
      case measure => simp [intOf]; omega
    · obtain rfl : k = n := by omega
      have HV : Hid (Inv nb wr (allOf Ts) (allOf Ts).length) := by
        refine Lib.hid ?_
        have h1 := HI.out
        rw [HNN.out, List.take_length] at h1
        exact h1
      clear HI
      obtain ⟨rb, HRB⟩ : ∃ rb, Hid (rb = w.heap.size) := ⟨_, Lib.hid rfl⟩
      rw [← HRB.out]
      go_wp2_with fail
      refine (finish_any nb _ _ (by omega) HV.out).mono ?_
      rintro e w3 ⟨rfl, hm3⟩
      obtain ⟨cs, HCS⟩ : ∃ cs, Hid (cs = (shaOf (allOf Ts)).map U8) := ⟨_, Lib.hid rfl⟩
      rw [← HCS.out]
      have hm23 : Mod nb w2 w3 := hm.trans hm3
      have hcl : cs.length = 32 := by rw [HCS.out, List.length_map]; exact digestOf_length _
      have hrb : DAt rb w3 (List.replicate 32 0) := by
        refine ⟨?_, by simp⟩
        have h1 : rb < w0.heap.size := by rw [HZ0.out, HRB.out]; omega
        have h2 := hb2.size
        rw [hm23.block rb (by omega) (by omega), hb2.block rb h1, HW0.out, HRB.out, heap_alloc_new, HZ.out]
      have hthere : w3.there rb 0 cs.toArray.size := by rw [List.size_toArray, hcl]; exact hrb.there
      have hall2 : cs.toArray.all (·.oneCell') = true := by rw [HCS.out]; exact all_oneCell_toArray (U8_one _)
      have HJ : Hid ((Tryd.prog.info? 24).map (·.size) = some cs.length) := by rw [hcl]; exact info24
      have HJ2 : Hid ((Tryd.prog.info? 24).map (·.size) = some cs.toArray.size) := by rw [List.size_toArray, hcl]; exact info24
      have HRD : Hid ((loadVar 24 ⟨rb, 0, none⟩).run Tryd.prog (w3.setCells rb 0 cs) = .ok (.agg cs.toArray) (w3.setCells rb 0 cs)) := Lib.hid
        (run_loadVar_mid _ _ _ _ _ _ (World.rangeAt_setCells_same _ _ _ _ (by have := hthere; simpa using this)) Tryd.underlying24 rfl HJ.out)
      have HBe : Hid (Below w.heap.size w (w3.setCells rb 0 cs)) := by
        refine Lib.hid (below_setCells (by rw [HRB.out]; exact Nat.le_refl _) _ _ _ (hbw2.trans (hm23.below ?_ hbw2.size)))
        rw [HZ0.out] at hnb
        omega
      clear hcl hrb
      go_wp2_with (with_reducible refine wpList_store_mid rfl 24 (.tmp 2) (.tmp 16) rfl rb 0 cs.toArray rfl rfl hthere HJ2.out hall2 ?_)
      exact bodyPost_ret (v := .agg cs.toArray) (results_cell1 Tryd.results9 rfl HRD.out) rfl ⟨by rw [HCS.out], HBe.out⟩

end Go.Proofs.YtbpdeehpeflbeaaDoor
