/-
  The state's words.
-/
import Derived.Test.YtbpdeehpeflbeaaDoorMem
namespace Go.Proofs.YtbpdeehpeflbeaaDoor
open Go.RowKit

/-- an array of 64 words in a block of its own -/
def WAt (b : Nat) (w : World) (W : List Nat) : Prop := w.heap[b]? = some (.cells (W.map U32).toArray 53 (0, 0)) ∧ W.length = 64

section
variable {b : Nat} {w : World} {W : List Nat}
theorem WAt.lt (h : WAt b w W) : b < w.heap.size := lt_of_block h.1
theorem WAt.cell (h : WAt b w W) (i : Nat) (hi : i < 64) : w.cell? ⟨b, i, none⟩ = some (.int .u32 ((W.getD i 0 : Nat) : Int)) := by
  have hl := h.2
  have e : w.cell? ⟨b, i, none⟩ = (W.map U32)[i]? := by simp [World.cell?, h.1]
  rw [e]
  simp [U32, List.getElem?_eq_getElem (show i < W.length by omega), List.getD]
theorem WAt.frozen (h : WAt b w W) (i : Nat) : w.frozen? ⟨b, i, none⟩ = false := by simp [World.frozen?, h.1]
theorem WAt.set_ (h : WAt b w W) (i v : Nat) : WAt b (w.setCell ⟨b, i, none⟩ (.int .u32 (v : Int))) (W.set i v) := by
  refine ⟨?_, by simpa using h.2⟩
  rw [heap_set w b i _ _ _ h.1, List.map_set]
  rfl
theorem WAt.far (h : WAt b w W) {p : Addr} (hp : b ≠ p.block) (v : Value) : WAt b (w.setCell p v) W := ⟨(Below.heap_setCell w p v b hp).trans h.1, h.2⟩
theorem WAt.alloc (h : WAt b w W) (o : Obj) : WAt b (w.alloc o) W := ⟨(Below.heap_alloc w o b h.lt).trans h.1, h.2⟩
theorem WAt.drew (h : WAt b w W) : WAt b w.drew W := h
theorem WAt.keep {w' : World} {b' : Nat} (h : WAt b w W) (hm : Mod b' w w') (hne : b ≠ b') : WAt b w' W := ⟨(hm.block b h.lt hne).trans h.1, h.2⟩
end

theorem word_form (x c : Nat) (hc : c < 256) : bits .or .u32 ((x : Int) * 256 % 4294967296) (c : Int) = ((x * 256 % 4294967296 + c : Nat) : Int) := by
  have h1 : (x : Int) * 256 % 4294967296 = ((x * 256 % 4294967296 : Nat) : Int) := by simp
  rw [h1, u32_or_nat _ _ (Nat.mod_lt _ (by omega)) (by omega), nat_join 8 _ c (by omega) hc]

theorem getD_set (W : List Nat) (i v j : Nat) (h : ∀ k, W.getD k 0 < 4294967296) (hv : v < 4294967296) : (W.set i v).getD j 0 < 4294967296 := by
  have := h j
  simp only [List.getD_eq_getElem?_getD, List.getElem?_set] at *
  split
  · split
    · simpa using hv
    · simp
  · exact this
theorem bytes_getD (bl : List Nat) (hbl : ∀ x ∈ bl, x < 256) (k : Nat) : bl.getD k 0 < 256 := by
  rw [List.getD_eq_getElem?_getD]
  rcases hk : bl[k]? with _ | x
  · simp
  · exact hbl x (List.mem_of_getElem? hk)
theorem words1_lt (bl : List Nat) (hbl : ∀ x ∈ bl, x < 256) (k : Nat) : ∀ j, (words1 bl k).getD j 0 < 4294967296 := by
  induction k with
  | zero =>
    intro j
    simp only [words1, List.getD_eq_getElem?_getD, List.getElem?_replicate]
    split <;> simp
  | succ k ih =>
    intro j
    have hc := bytes_getD bl hbl k
    exact getD_set _ _ _ j ih (by omega)
theorem words2_lt (bl : List Nat) (hbl : ∀ x ∈ bl, x < 256) (k : Nat) : ∀ j, (words2 bl k).getD j 0 < 4294967296 := by
  induction k with
  | zero => exact words1_lt bl hbl 64
  | succ k ih => intro j; exact getD_set _ _ _ j ih (add32_lt _ _)

theorem info53 : (Tryd.prog.info? 53).map (·.size) = some 64 := by kernel_rfl
theorem WAt.size {b : Nat} {w : World} {W : List Nat} (h : WAt b w W) : (W.map U32).toArray.size = 64 := by simpa using h.2
theorem WAt.range {b : Nat} {w : World} {W : List Nat} (h : WAt b w W) : w.rangeAt b 0 (W.map U32) := by
  intro j v hv
  have e : w.cell? ⟨b, 0 + j, none⟩ = (W.map U32)[j]? := by rw [Nat.zero_add]; simp [World.cell?, h.1]
  rw [e]; exact hv
theorem WAt.there {b : Nat} {w : World} {W : List Nat} (h : WAt b w W) : w.there b 0 64 := by
  intro j hj
  rw [Nat.zero_add]
  exact ⟨by rw [h.cell j hj]; rfl, h.frozen j⟩
theorem U32_one (W : List Nat) : ∀ v ∈ W.map U32, v.oneCell' = true := by
  intro v hv
  simp only [List.mem_map] at hv
  obtain ⟨n, _, rfl⟩ := hv
  rfl
theorem below_setCells {B : Nat} {a : World} {b : Nat} (hB : B ≤ b) : ∀ (vs : List Value) (o : Nat) (w : World), Below B a w → Below B a (w.setCells b o vs)
  | [], _, _, h => h
  | v :: vs, o, _, h => below_setCells hB vs (o + 1) _ (h.setCell (p := ⟨b, o, none⟩) hB v)
theorem wrap_add (a b : Nat) : IntKind.u32.wrap ((a : Int) + (b : Int)) = ((add32 a b : Nat) : Int) := by
  rw [IntKind.wrap_u32]; unfold add32; omega
theorem mod_add (a b : Nat) : ((a : Int) + (b : Int)) % 4294967296 = ((add32 a b : Nat) : Int) := by unfold add32; omega
theorem xor_nat (a b : Nat) (ha : a < 4294967296) (hb : b < 4294967296) : bits .xor .u32 (a : Int) (b : Int) = ((a ^^^ b : Nat) : Int) := u32_xor_nat a b ha hb
theorem s0_form (x : Nat) (hx : x < 4294967296) : bits .xor .u32 (bits .xor .u32 ((rotr 7 x : Nat) : Int) ((rotr 18 x : Nat) : Int)) ((x : Int) / 8) = ((s0 x : Nat) : Int) := by
  rw [xor_nat _ _ (rotr_lt _ _ hx) (rotr_lt _ _ hx), show (x : Int) / 8 = ((x / 8 : Nat) : Int) from by omega, xor_nat _ _ (xor_lt (rotr_lt _ _ hx) (rotr_lt _ _ hx)) (shr_lt hx _)]
  rfl
theorem s1_form (x : Nat) (hx : x < 4294967296) : bits .xor .u32 (bits .xor .u32 ((rotr 17 x : Nat) : Int) ((rotr 19 x : Nat) : Int)) ((x : Int) / 1024) = ((s1 x : Nat) : Int) := by
  rw [xor_nat _ _ (rotr_lt _ _ hx) (rotr_lt _ _ hx), show (x : Int) / 1024 = ((x / 1024 : Nat) : Int) from by omega, xor_nat _ _ (xor_lt (rotr_lt _ _ hx) (rotr_lt _ _ hx)) (shr_lt hx _)]
  rfl
theorem ext_form (x16 x15 x7 x2 : Nat) (h15 : x15 < 4294967296) (h2 : x2 < 4294967296) :
    (((((x16 : Int) + bits .xor .u32 (bits .xor .u32 ((rotr 7 x15 : Nat) : Int) ((rotr 18 x15 : Nat) : Int)) ((x15 : Int) / 8)) % 4294967296 + (x7 : Int)) % 4294967296 + bits .xor .u32 (bits .xor .u32 ((rotr 17 x2 : Nat) : Int) ((rotr 19 x2 : Nat) : Int)) ((x2 : Int) / 1024)) % 4294967296) =
      ((add32 (add32 (add32 x16 (s0 x15)) x7) (s1 x2) : Nat) : Int) := by
  rw [s0_form x15 h15, s1_form x2 h2, mod_add, mod_add, mod_add]
theorem below_drewN' {B : Nat} {a w : World} (h : Below B a w) (n : Nat) : Below B a (w.drewN n) := ⟨h.os, h.tape, h.output, h.size, h.block⟩
theorem WAt.drewN {b : Nat} {w : World} {W : List Nat} (h : WAt b w W) (n : Nat) : WAt b (w.drewN n) W := h
theorem keep4 {wn : World} {v j : Nat} {x16 x7 : Value} (hj : 16 ≤ j) (h1 : wn.cell? ⟨v, j - 16, none⟩ = some x16) (h2 : wn.cell? ⟨v, j - 7, none⟩ = some x7) (h3 : ∃ u, wn.cell? ⟨v, j, none⟩ = some u) (h4 : wn.frozen? ⟨v, j, none⟩ = false) (val : Value) :
    (wn.setCell ⟨v, j, none⟩ val).drew.cell? ⟨v, j - 16, none⟩ = some x16 ∧ (wn.setCell ⟨v, j, none⟩ val).drew.cell? ⟨v, j - 7, none⟩ = some x7 ∧ (∃ u, (wn.setCell ⟨v, j, none⟩ val).drew.cell? ⟨v, j, none⟩ = some u) ∧ (wn.setCell ⟨v, j, none⟩ val).drew.frozen? ⟨v, j, none⟩ = false := by
  refine ⟨?_, ?_, ?_, ?_⟩
  · exact (World.cell?_setCell_other wn _ _ val (by intro e; injection e with _ e2; omega)).trans h1
  · exact (World.cell?_setCell_other wn _ _ val (by intro e; injection e with _ e2; omega)).trans h2
  · obtain ⟨u, hu⟩ := h3
    exact ⟨val, World.cell?_setCell_same wn _ val hu⟩
  · simpa using h4

set_option maxHeartbeats 1600000 in
set_option maxRecDepth 100000 in
theorem words_any (b : Nat) (w : World) (hs bl : List Nat) (u t : Nat) (h : SAt b w hs bl u t) (hbl : ∀ x ∈ bl, x < 256) :
    Calls Tryd.prog 21 #[.pointer (some ⟨b, 0, none⟩)] w fun e w' => e = .returned (.agg ((wordsOf bl).map U32).toArray) ∧ Below w.heap.size w w' := by
  have H := Lib.hid h
  have hblt := h.lt
  clear h
  go_enter Tryd.func21, Tryd.ntmps21
  go_wp2
  go_loopw [8] (fun i wr => ∃ k : Nat, i = .int .i64 k ∧ k ≤ 64 ∧ WAt (w.heap.size + 1) wr (words1 bl k) ∧ WAt w.heap.size wr (List.replicate 64 0) ∧ Below w.heap.size w wr) (fun i _ => 64 - (intOf i).toNat)
  case atStart =>
    refine ⟨0, rfl, by omega, ⟨?_, rfl⟩, ⟨?_, rfl⟩, ?_⟩
    · have := heap_alloc_new (w.alloc (.cells ((List.replicate 64 0).map U32).toArray 53)) (.cells ((List.replicate 64 0).map U32).toArray 53)
      rw [World.size_alloc] at this
      exact this
    · rw [Below.heap_alloc _ _ _ (by simp)]
      exact heap_alloc_new w _
    · exact ((Below.refl _ _).alloc (Nat.le_refl _) _).alloc (by simp) _
  case round =>
    obtain ⟨k, rfl, hk, hv, hr, hbk⟩ := hrel
    have HV := Lib.hid hv
    have HR := Lib.hid hr
    by_cases hkl : k < 64
    · have hbyte : wr.cell? ⟨b, 8 + k, none⟩ = some (.int .u8 ((bl.getD k 0 : Nat) : Int)) := (hbk.cell (by exact hblt)).trans (H.out.byte k hkl)
      have hc := hv.cell (k / 4) (by omega)
      have hf := hv.frozen (k / 4)
      have hcb : bl.getD k 0 < 256 := by
        have hl := H.out.2.2
        rw [List.getD_eq_getElem?_getD, List.getElem?_eq_getElem (by omega)]
        exact hbl _ (List.getElem_mem _)
      have HWF := Lib.hid (word_form ((words1 bl k).getD (k / 4) 0) (bl.getD k 0) hcb)
      have HS : Hid (words1 bl (k + 1) = (words1 bl k).set (k / 4) ((words1 bl k).getD (k / 4) 0 * 256 % 4294967296 + bl.getD k 0)) := rfl
      clear hv hr
      generalize words1 bl k = W at *
      generalize bl.getD k 0 = c at *
      generalize W.getD (k / 4) 0 = x at *
      go_wp2
      go_region
      go_wp2
      go_roundw
      case rel =>
        refine ⟨k + 1, by go_num, by omega, ?_, ?_, ?_⟩
        · rw [HS.out, HWF.out]
          exact HV.out.drew.set_ (k / 4) _
        · exact HR.out.drew.far (by simp) _
        · exact hbk.drew.setCell (by simp) _
      case measure => simp [intOf]; omega
    · obtain rfl : k = 64 := by omega
      have HV2 : Hid (WAt (w.heap.size + 1) wr (words2 bl 0)) := HV.out
      clear hv hr HV
      go_wp2
      go_loopw [5] (fun i wr => ∃ j : Nat, i = .int .i64 j ∧ 16 ≤ j ∧ j ≤ 64 ∧ WAt (w.heap.size + 1) wr (words2 bl (j - 16)) ∧ WAt w.heap.size wr (List.replicate 64 0) ∧ Below w.heap.size w wr) (fun i _ => 64 - (intOf i).toNat)
      case atStart => exact ⟨16, rfl, by omega, by omega, HV2.out, HR.out, hbk⟩
      case round =>
        clear HV2 HR hbk
        obtain ⟨j, rfl, hj1, hj2, hv, hr, hbk⟩ := hrel
        have HV := Lib.hid hv
        have HR := Lib.hid hr
        by_cases hjl : j < 64
        · have c16 := hv.cell (j - 16) (by omega)
          have c15 := hv.cell (j - 15) (by omega)
          have c7 := hv.cell (j - 7) (by omega)
          have c2 := hv.cell (j - 2) (by omega)
          have c0 := hv.cell j (by omega)
          have f0 := hv.frozen j
          have l15 := words2_lt bl hbl (j - 16) (j - 15)
          have l2 := words2_lt bl hbl (j - 16) (j - 2)
          have HE : Hid (words2 bl (j + 1 - 16) = (words2 bl (j - 16)).set j (add32 (add32 (add32 ((words2 bl (j - 16)).getD (j - 16) 0) (s0 ((words2 bl (j - 16)).getD (j - 15) 0))) ((words2 bl (j - 16)).getD (j - 7) 0)) (s1 ((words2 bl (j - 16)).getD (j - 2) 0)))) := by
            show _ = _
            rw [show j + 1 - 16 = (j - 16) + 1 from by omega, words2, show 16 + (j - 16) = j from by omega]
            rfl
          have HEF := Lib.hid (ext_form ((words2 bl (j - 16)).getD (j - 16) 0) ((words2 bl (j - 16)).getD (j - 15) 0) ((words2 bl (j - 16)).getD (j - 7) 0) ((words2 bl (j - 16)).getD (j - 2) 0) l15 l2)
          clear hv hr
          generalize words2 bl (j - 16) = W at *
          generalize W.getD (j - 16) 0 = x16 at *
          generalize W.getD (j - 15) 0 = x15 at *
          generalize W.getD (j - 7) 0 = x7 at *
          generalize W.getD (j - 2) 0 = x2 at *
          generalize W.getD j 0 = x0 at *
          go_wp2
          go_quiet (fail)
          go_wp2
          obtain ⟨wn, HWN⟩ : ∃ wn, Hid (wn = wr.drewN nq) := ⟨_, Lib.hid rfl⟩
          rw [← HWN.out]
          have c16' : wn.cell? ⟨w.heap.size + 1, j - 16, none⟩ = some (.int .u32 (x16 : Int)) := by rw [HWN.out]; exact c16
          have c7' : wn.cell? ⟨w.heap.size + 1, j - 7, none⟩ = some (.int .u32 (x7 : Int)) := by rw [HWN.out]; exact c7
          have c0' : wn.cell? ⟨w.heap.size + 1, j, none⟩ = some (.int .u32 (x0 : Int)) := by rw [HWN.out]; exact c0
          have f0' : wn.frozen? ⟨w.heap.size + 1, j, none⟩ = false := by rw [HWN.out]; exact f0
          have i1 : IntKind.i64.wrap ((j : Int) - 16) = (j : Int) - 16 := IntWalk.i64_in _ (by omega)
          have i2 : IntKind.i64.wrap ((j : Int) - 7) = (j : Int) - 7 := IntWalk.i64_in _ (by omega)
          have i3 : (0 : Int) ≤ (j : Int) - 16 := by omega
          have i4 : (0 : Int) ≤ (j : Int) - 7 := by omega
          have i5 : (j : Int) - 16 < 64 := by omega
          have i6 : (j : Int) - 7 < 64 := by omega
          have i7 : ((j : Int) - 16).toNat = j - 16 := by omega
          have i8 : ((j : Int) - 7).toNat = j - 7 := by omega
          have i9 : (16 : Int) ≤ (j : Int) := by omega
          have i10 : (7 : Int) ≤ (j : Int) := by omega
          have i11 : (j : Int) < 64 := by omega
          have i12 : (0 : Int) ≤ (j : Int) := by omega
          go_region_held3 (fun w' => w'.cell? ⟨w.heap.size + 1, j - 16, none⟩ = some (.int .u32 (x16 : Int)) ∧ w'.cell? ⟨w.heap.size + 1, j - 7, none⟩ = some (.int .u32 (x7 : Int)) ∧ (∃ v, w'.cell? ⟨w.heap.size + 1, j, none⟩ = some v) ∧ w'.frozen? ⟨w.heap.size + 1, j, none⟩ = false)
            (first | exact keep4 hj1 c16' c7' ⟨_, c0'⟩ f0' _ | go_keep)
            (first
              | (go_at_call 22; (with_reducible refine (turn_7 _ l15 _).mono ?_); rintro e w' ⟨rfl, rfl⟩)
              | (go_at_call 22; (with_reducible refine (turn_18 _ l15 _).mono ?_); rintro e w' ⟨rfl, rfl⟩)
              | (go_at_call 22; (with_reducible refine (turn_17 _ l2 _).mono ?_); rintro e w' ⟨rfl, rfl⟩)
              | (go_at_call 22; (with_reducible refine (turn_19 _ l2 _).mono ?_); rintro e w' ⟨rfl, rfl⟩))
          clear i1 i2 i3 i4 i5 i6 i7 i8 i9 i10 i11 i12
          go_wp2
          go_roundw
          case rel =>
            (repeat apply Exists.intro)
            refine ⟨?_, rfl⟩
            refine ⟨j + 1, by go_num, by omega, by omega, ?_, ?_, ?_⟩
            · rw [HEF.out, HE.out, HWN.out]
              exact ((HV.out.drewN nq).set_ j _).drew
            · rw [HWN.out]
              exact ((HR.out.drewN nq).far (by simp) _).drew
            · rw [HWN.out]
              exact ((below_drewN' hbk nq).setCell (by simp) _).drew
          case measure => simp [intOf]; omega
        · obtain rfl : j = 64 := by omega
          have HV64 : Hid (WAt (w.heap.size + 1) wr (wordsOf bl)) := HV.out
          have hrange : wr.rangeAt (w.heap.size + 1) 0 ((wordsOf bl).map U32) := HV64.out.range
          have hthere : wr.there w.heap.size 0 ((wordsOf bl).map U32).toArray.size := by rw [HV64.out.size]; exact hr.there
          have hall : ((wordsOf bl).map U32).toArray.all (·.oneCell') = true := all_oneCell_toArray (U32_one _)
          have HI : Hid ((Tryd.prog.info? 53).map (·.size) = some ((wordsOf bl).map U32).length) := by rw [List.length_map, HV64.out.2]; exact info53
          have HI2 : Hid ((Tryd.prog.info? 53).map (·.size) = some ((wordsOf bl).map U32).toArray.size) := by rw [HV64.out.size]; exact info53
          have hrd : (loadVar 53 ⟨w.heap.size, 0, none⟩).run Tryd.prog (wr.setCells w.heap.size 0 ((wordsOf bl).map U32)) = .ok (.agg ((wordsOf bl).map U32).toArray) (wr.setCells w.heap.size 0 ((wordsOf bl).map U32)) :=
            run_loadVar_mid _ _ _ _ _ _ (World.rangeAt_setCells_same _ _ _ _ (by have := hthere; simpa using this)) Tryd.underlying53 rfl HI.out
          have HRD := Lib.hid hrd
          have HB : Hid (Below w.heap.size w (wr.setCells w.heap.size 0 ((wordsOf bl).map U32))) := below_setCells (Nat.le_refl _) _ _ _ hbk
          clear hv hr HV hrd
          obtain ⟨cs, HCS⟩ : ∃ cs, Hid (cs = (wordsOf bl).map U32) := ⟨_, Lib.hid rfl⟩
          rw [← HCS.out] at hrange hthere hall HI HI2 HRD HB
          go_wp2_with (first
            | (with_reducible refine wpList_load_mid rfl 53 (.tmp 3) rfl (w.heap.size + 1) 0 rfl cs _ hrange Tryd.underlying53 rfl HI.out ?_)
            | (with_reducible refine wpList_store_mid rfl 53 (.tmp 2) (.tmp 69) rfl w.heap.size 0 cs.toArray rfl rfl hthere HI2.out hall ?_))
          exact bodyPost_ret (v := .agg cs.toArray) (results_cell1 Tryd.results21 rfl HRD.out) rfl ⟨by rw [HCS.out], HB.out⟩

end Go.Proofs.YtbpdeehpeflbeaaDoor
