/-
  The state's mix.
-/
import Derived.Test.YtbpdeehpeflbeaaDoorWords
namespace Go.Proofs.YtbpdeehpeflbeaaDoor
open Go.RowKit

/-- 64 words that can be read in block b -/
def RdW (b : Nat) (w : World) (W : List Nat) : Prop := ∀ i, i < 64 → w.cell? ⟨b, i, none⟩ = some (.int .u32 ((W.getD i 0 : Nat) : Int))

theorem there_of {w : World} {b : Nat} {c : Array Value} {t : TypeId} {n : Nat} (e : w.heap[b]? = some (.cells c t (0, 0))) (hn : c.size = n) : w.there b 0 n := by
  intro j hj
  rw [Nat.zero_add]
  refine ⟨?_, by simp [World.frozen?, e]⟩
  have : w.cell? ⟨b, j, none⟩ = c[j]? := by simp [World.cell?, e]
  rw [this, Array.getElem?_eq_getElem (by omega)]
  rfl
theorem there_new (w : World) (c : Array Value) (t : TypeId) (n : Nat) (hn : c.size = n) : (w.alloc (.cells c t)).there w.heap.size 0 n := there_of (heap_alloc_new w (.cells c t)) hn
theorem mod_setCells {b : Nat} {x : World} {k : Nat} (hk : x.heap.size ≤ k) : ∀ (vs : List Value) (o : Nat) (y : World), Mod b x y → Mod b x (y.setCells k o vs)
  | [], _, _, h => h
  | v :: vs, o, _, h => mod_setCells hk vs (o + 1) _ (h.setCell (p := ⟨k, o, none⟩) (.inr hk) v)
theorem sat_setCells {b k : Nat} {hs bl : List Nat} {u t : Nat} (hne : b ≠ k) : ∀ (vs : List Value) (o : Nat) (y : World), SAt b y hs bl u t → SAt b (y.setCells k o vs) hs bl u t
  | [], _, _, h => h
  | v :: vs, o, _, h => sat_setCells hne vs (o + 1) _ (h.far (p := ⟨k, o, none⟩) hne v)
theorem RdW.keep {b b' : Nat} {w w' : World} {W : List Nat} (h : RdW b w W) (hm : Mod b' w w') (hne : b ≠ b') : RdW b w' W := fun i hi => by
  have hc := h i hi
  have hlt := block_lt_of_cell hc
  rw [World.cell?_of_block (w := w) (hm.block b hlt hne)]
  exact hc
theorem RdW.of_range {b : Nat} {w : World} {W : List Nat} (h : w.rangeAt b 0 (W.map U32)) (hl : W.length = 64) : RdW b w W := fun i hi => by
  have := h i (U32 (W.getD i 0)) (by simp [List.getElem?_eq_getElem (show i < W.length by omega), List.getD])
  rw [Nat.zero_add] at this
  exact this
theorem wordsOf_length (bl : List Nat) : (wordsOf bl).length = 64 := by
  have h1 : ∀ k, (words1 bl k).length = 64 := by
    intro k
    induction k with
    | zero => simp [words1]
    | succ k ih => simp [words1, wordStep, ih]
  have h2 : ∀ k, (words2 bl k).length = 64 := by
    intro k
    induction k with
    | zero => exact h1 64
    | succ k ih => simp [words2, wordExt, ih]
  exact h2 48

/-- all of a to h have 32 bits -/
def Vok (v : Vs) : Prop := v.a < 4294967296 ∧ v.b < 4294967296 ∧ v.c < 4294967296 ∧ v.d < 4294967296 ∧ v.e < 4294967296 ∧ v.f < 4294967296 ∧ v.g < 4294967296 ∧ v.h < 4294967296
theorem list_getD (l : List Nat) (h : ∀ x ∈ l, x < 4294967296) (k : Nat) : l.getD k 0 < 4294967296 := by
  rw [List.getD_eq_getElem?_getD]
  rcases hk : l[k]? with _ | x
  · simp
  · exact h x (List.mem_of_getElem? hk)
theorem vsOf_ok (hs : List Nat) (h : ∀ x ∈ hs, x < 4294967296) : Vok (vsOf hs) :=
  ⟨list_getD hs h 0, list_getD hs h 1, list_getD hs h 2, list_getD hs h 3, list_getD hs h 4, list_getD hs h 5, list_getD hs h 6, list_getD hs h 7⟩
theorem wordsOf_lt (bl : List Nat) (hbl : ∀ x ∈ bl, x < 256) : ∀ j, (wordsOf bl).getD j 0 < 4294967296 := words2_lt bl hbl 48
theorem rounds_ok (W : List Nat) (_hW : ∀ j, W.getD j 0 < 4294967296) (v : Vs) (h : Vok v) (k : Nat) : Vok (roundsOf W v k) := by
  induction k with
  | zero => exact h
  | succ k ih => exact ⟨add32_lt _ _, ih.1, ih.2.1, ih.2.2.1, add32_lt _ _, ih.2.2.2.2.1, ih.2.2.2.2.2.1, ih.2.2.2.2.2.2.1⟩
theorem not32 (e : Nat) (he : e < 4294967296) : bits .xor .u32 (if IntKind.u32.signed = true then -1 else IntKind.u32.max) (e : Int) = ((4294967295 - e : Nat) : Int) := by
  have h0 : (if IntKind.u32.signed = true then (-1 : Int) else IntKind.u32.max) = ((4294967295 : Nat) : Int) := by decide
  rw [h0, u32_xor_nat _ _ (by omega) he]
  congr 1
  apply Nat.eq_of_testBit_eq
  intro i
  have h1 : (4294967295 : Nat) = 2 ^ 32 - 1 := by decide
  have h2 : 4294967295 - e = 2 ^ 32 - (e + 1) := by omega
  rw [h2, Nat.testBit_two_pow_sub_succ (by omega), Nat.testBit_xor, h1, Nat.testBit_two_pow_sub_one]
  by_cases hi : i < 32
  · simp [hi]
  · have : e.testBit i = false := Nat.testBit_lt_two_pow (Nat.lt_of_lt_of_le he (by rw [show (4294967296 : Nat) = 2 ^ 32 from rfl]; exact Nat.pow_le_pow_right (by omega) (by omega)))
    simp [hi, this]
theorem S1_form (x : Nat) (hx : x < 4294967296) : bits .xor .u32 (bits .xor .u32 ((rotr 6 x : Nat) : Int) ((rotr 11 x : Nat) : Int)) ((rotr 25 x : Nat) : Int) = ((S1 x : Nat) : Int) := by
  rw [xor_nat _ _ (rotr_lt _ _ hx) (rotr_lt _ _ hx), xor_nat _ _ (xor_lt (rotr_lt _ _ hx) (rotr_lt _ _ hx)) (rotr_lt _ _ hx)]
  rfl
theorem S0_form (x : Nat) (hx : x < 4294967296) : bits .xor .u32 (bits .xor .u32 ((rotr 2 x : Nat) : Int) ((rotr 13 x : Nat) : Int)) ((rotr 22 x : Nat) : Int) = ((S0 x : Nat) : Int) := by
  rw [xor_nat _ _ (rotr_lt _ _ hx) (rotr_lt _ _ hx), xor_nat _ _ (xor_lt (rotr_lt _ _ hx) (rotr_lt _ _ hx)) (rotr_lt _ _ hx)]
  rfl
theorem ch_form (e f g : Nat) (he : e < 4294967296) (hf : f < 4294967296) (hg : g < 4294967296) :
    bits .xor .u32 (bits .and .u32 (e : Int) (f : Int)) (bits .and .u32 (bits .xor .u32 (if IntKind.u32.signed = true then -1 else IntKind.u32.max) (e : Int)) (g : Int)) = ((ch e f g : Nat) : Int) := by
  rw [not32 e he, u32_and_nat e f he hf, u32_and_nat _ g (by omega) hg, xor_nat _ _ (and_lt hf) (and_lt hg)]
  rfl
theorem maj_form (a b c : Nat) (ha : a < 4294967296) (hb : b < 4294967296) (hc : c < 4294967296) :
    bits .xor .u32 (bits .xor .u32 (bits .and .u32 (a : Int) (b : Int)) (bits .and .u32 (a : Int) (c : Int))) (bits .and .u32 (b : Int) (c : Int)) = ((maj a b c : Nat) : Int) := by
  rw [u32_and_nat a b ha hb, u32_and_nat a c ha hc, u32_and_nat b c hb hc, xor_nat _ _ (and_lt hb) (and_lt hc), xor_nat _ _ (xor_lt (and_lt hb) (and_lt hc)) (and_lt hc)]
  rfl
theorem t_form (v : Vs) (kk wk : Nat) (he : v.e < 4294967296) (hf : v.f < 4294967296) (hg : v.g < 4294967296) :
    (((v.h : Int) + bits .xor .u32 (bits .xor .u32 ((rotr 6 v.e : Nat) : Int) ((rotr 11 v.e : Nat) : Int)) ((rotr 25 v.e : Nat) : Int) +
      bits .xor .u32 (bits .and .u32 (v.e : Int) (v.f : Int)) (bits .and .u32 (bits .xor .u32 (if IntKind.u32.signed = true then -1 else IntKind.u32.max) (v.e : Int)) (v.g : Int)) + (kk : Int)) % 4294967296 + (wk : Int)) % 4294967296 = ((tOf v kk wk : Nat) : Int) := by
  rw [S1_form v.e he, ch_form v.e v.f v.g he hf hg]
  unfold tOf add32
  omega

theorem u_form (v : Vs) (ha : v.a < 4294967296) (hb : v.b < 4294967296) (hc : v.c < 4294967296) :
    (bits .xor .u32 (bits .xor .u32 ((rotr 2 v.a : Nat) : Int) ((rotr 13 v.a : Nat) : Int)) ((rotr 22 v.a : Nat) : Int) +
      bits .xor .u32 (bits .xor .u32 (bits .and .u32 (v.a : Int) (v.b : Int)) (bits .and .u32 (v.a : Int) (v.c : Int))) (bits .and .u32 (v.b : Int) (v.c : Int))) % 4294967296 = ((uOf v : Nat) : Int) := by
  rw [S0_form v.a ha, maj_form v.a v.b v.c ha hb hc, mod_add]
  rfl
/-- the first k sums are more by their parts -/
def zk (hs vs : List Nat) (k : Nat) : List Nat := List.zipWith add32 (hs.take k) (vs.take k) ++ hs.drop k
theorem zk_zero (hs vs : List Nat) : zk hs vs 0 = hs := by simp [zk]
theorem zk_len (hs vs : List Nat) (k : Nat) (h1 : hs.length = 8) (h2 : vs.length = 8) (hk : k ≤ 8) : (List.zipWith add32 (hs.take k) (vs.take k)).length = k := by simp; omega
theorem zk_getD (hs vs : List Nat) (k : Nat) (hk : k < 8) (h1 : (zk hs vs k).length = 8) (h2 : vs.length = 8) : (zk hs vs k).getD k 0 = hs.getD k 0 := by
  have hl : hs.length = 8 := by simp [zk] at h1; omega
  unfold zk
  have := zk_len hs vs k hl h2 (by omega)
  rw [List.getD_eq_getElem?_getD, List.getElem?_append_right (by omega), this, List.getElem?_drop, List.getD_eq_getElem?_getD]
  simp
theorem zk_succ (hs vs : List Nat) (k : Nat) (hk : k < 8) (h1 : (zk hs vs k).length = 8) (h2 : vs.length = 8) : zk hs vs (k + 1) = (zk hs vs k).set k (add32 (hs.getD k 0) (vs.getD k 0)) := by
  have hl : hs.length = 8 := by simp [zk] at h1; omega
  unfold zk
  have := zk_len hs vs k hl h2 (by omega)
  rw [List.set_append_right _ _ (by omega), this, Nat.sub_self, List.drop_eq_getElem_cons (show k < hs.length by omega), List.set_cons_zero,
    List.take_succ_eq_append_getElem (show k < hs.length by omega), List.take_succ_eq_append_getElem (show k < vs.length by omega), List.zipWith_append (by simp; omega)]
  simp [List.getD, List.getElem?_eq_getElem (show k < hs.length by omega), List.getElem?_eq_getElem (show k < vs.length by omega)]
theorem zk_all (hs vs : List Nat) (h1 : hs.length = 8) (h2 : vs.length = 8) : zk hs vs 8 = List.zipWith add32 hs vs := by
  unfold zk
  rw [List.take_of_length_le (by omega), List.take_of_length_le (by omega), List.drop_of_length_le (by omega), List.append_nil]
theorem cell_map {w : World} {b k : Nat} {l : List Nat} {ty : TypeId} (h : w.heap[b]? = some (.cells (l.map U32).toArray ty (0, 0))) (hk : k < l.length) : w.cell? ⟨b, k, none⟩ = some (.int .u32 ((l.getD k 0 : Nat) : Int)) := by
  have e : w.cell? ⟨b, k, none⟩ = (l.map U32)[k]? := by simp [World.cell?, h]
  rw [e]
  simp [U32, List.getElem?_eq_getElem hk, List.getD]

/-- what stands in every round -/
def Rst (b gk n1 : Nat) (w : World) (hs bl : List Nat) (u t : Nat) (W : List Nat) (wr : World) : Prop := Mod b w wr ∧ SAt b wr hs bl u t ∧ RdW n1 wr W ∧ RdW gk wr K

set_option maxHeartbeats 1600000 in
set_option maxRecDepth 100000 in
theorem mix_any (b : Nat) (w : World) (hs bl : List Nat) (u t : Nat) (h : SAt b w hs bl u t) (hbl : ∀ x ∈ bl, x < 256) (hhs : ∀ x ∈ hs, x < 4294967296) (hK : RdW 0 w K) (hg : 0 ≠ b) :
    Calls Tryd.prog 20 #[.pointer (some ⟨b, 0, none⟩)] w fun e w' => e = .returned (.tuple #[]) ∧ SAt b w' (mixOf hs bl) bl u t ∧ Mod b w w' := by
  have H := Lib.hid h
  have hblt := h.lt
  have HC := Lib.hid (words_any b w hs bl u t h hbl)
  clear h
  go_enter Tryd.func20, Tryd.ntmps20
  go_wp2_with fail
  refine HC.out.mono ?_
  rintro e w1 ⟨rfl, hb1⟩
  have hs1 := hb1.size
  obtain ⟨Z, hZ, HZ⟩ : ∃ Z : Array Value, (#[Value.int IntKind.u32 0, Value.int IntKind.u32 0, Value.int IntKind.u32 0, Value.int IntKind.u32 0, Value.int IntKind.u32 0, Value.int IntKind.u32 0, Value.int IntKind.u32 0, Value.int IntKind.u32 0, Value.int IntKind.u32 0, Value.int IntKind.u32 0, Value.int IntKind.u32 0, Value.int IntKind.u32 0, Value.int IntKind.u32 0, Value.int IntKind.u32 0, Value.int IntKind.u32 0, Value.int IntKind.u32 0, Value.int IntKind.u32 0, Value.int IntKind.u32 0, Value.int IntKind.u32 0, Value.int IntKind.u32 0, Value.int IntKind.u32 0, Value.int IntKind.u32 0, Value.int IntKind.u32 0, Value.int IntKind.u32 0, Value.int IntKind.u32 0, Value.int IntKind.u32 0, Value.int IntKind.u32 0, Value.int IntKind.u32 0, Value.int IntKind.u32 0, Value.int IntKind.u32 0, Value.int IntKind.u32 0, Value.int IntKind.u32 0, Value.int IntKind.u32 0, Value.int IntKind.u32 0, Value.int IntKind.u32 0, Value.int IntKind.u32 0, Value.int IntKind.u32 0, Value.int IntKind.u32 0, Value.int IntKind.u32 0, Value.int IntKind.u32 0, Value.int IntKind.u32 0, Value.int IntKind.u32 0, Value.int IntKind.u32 0, Value.int IntKind.u32 0, Value.int IntKind.u32 0, Value.int IntKind.u32 0, Value.int IntKind.u32 0, Value.int IntKind.u32 0, Value.int IntKind.u32 0, Value.int IntKind.u32 0, Value.int IntKind.u32 0, Value.int IntKind.u32 0, Value.int IntKind.u32 0, Value.int IntKind.u32 0, Value.int IntKind.u32 0, Value.int IntKind.u32 0, Value.int IntKind.u32 0, Value.int IntKind.u32 0, Value.int IntKind.u32 0, Value.int IntKind.u32 0, Value.int IntKind.u32 0, Value.int IntKind.u32 0, Value.int IntKind.u32 0, Value.int IntKind.u32 0] : Array Value) = Z ∧ Hid (Z = ((List.replicate 64 0).map U32).toArray) := ⟨_, rfl, Lib.hid rfl⟩
  obtain ⟨cs, HCS⟩ : ∃ cs, Hid (cs = (wordsOf bl).map U32) := ⟨_, Lib.hid rfl⟩
  rw [← HCS.out]
  have hcl : cs.toArray.size = 64 := by rw [HCS.out]; simp [wordsOf_length]
  have HCL := Lib.hid hcl
  have HI2 : Hid ((Tryd.prog.info? 53).map (·.size) = some cs.toArray.size) := by rw [HCL.out]; exact info53
  have hall : cs.toArray.all (·.oneCell') = true := by rw [HCS.out]; exact all_oneCell_toArray (U32_one _)
  clear hcl
  go_wp2_with (with_reducible refine wpList_store_mid rfl 53 (.tmp 2) (.tmp 17) rfl w1.heap.size 0 cs.toArray rfl rfl ?ht HI2.out hall ?_)
  case ht => rw [HCL.out]; exact there_new w1 _ 53 64 (by rw [HZ.out]; rfl)
  obtain ⟨W2, HW2⟩ : ∃ W2, Hid (W2 = (w1.alloc (.cells Z 53)).setCells w1.heap.size 0 cs) := ⟨_, Lib.hid rfl⟩
  rw [← HW2.out]
  clear hZ
  have hm2 : Mod b w W2 := by
    rw [HW2.out]
    exact mod_setCells hs1 _ _ _ ((Mod.of_below hb1).alloc _)
  have hrw : RdW w1.heap.size W2 (wordsOf bl) := by
    refine RdW.of_range ?_ (wordsOf_length bl)
    rw [HW2.out, HCS.out]
    refine World.rangeAt_setCells_same _ _ _ _ ?_
    have := there_new w1 Z 53 64 (by rw [HZ.out]; rfl)
    simpa [wordsOf_length] using this
  have HS2 : Hid (SAt b W2 hs bl u t) := by
    show SAt _ _ _ _ _ _
    have h0 : SAt b w1 hs bl u t := ⟨(hb1.block b hblt).trans H.out.1, H.out.2⟩
    rw [HW2.out]
    refine sat_setCells (by omega) _ _ _ (h0.alloc _)
  have hK2 : RdW 0 W2 K := hK.keep hm2 hg
  obtain ⟨n1, hn1, HN1⟩ : ∃ n1, w.heap.size ≤ n1 ∧ Hid (n1 = w1.heap.size) := ⟨_, hs1, Lib.hid rfl⟩
  rw [← HN1.out] at hrw ⊢
  have q0 := HS2.out.sum 0 (by omega)
  have q1 := HS2.out.sum 1 (by omega)
  have q2 := HS2.out.sum 2 (by omega)
  have q3 := HS2.out.sum 3 (by omega)
  have q4 := HS2.out.sum 4 (by omega)
  have q5 := HS2.out.sum 5 (by omega)
  have q6 := HS2.out.sum 6 (by omega)
  have q7 := HS2.out.sum 7 (by omega)
  clear hb1 HC HW2 HN1 HCS HCL HI2 hall HZ hK H
  obtain ⟨v0, HV0⟩ : ∃ v0, Hid (v0 = vsOf hs) := ⟨_, Lib.hid rfl⟩
  have HVB : Hid (Vok v0) := by rw [HV0.out]; exact vsOf_ok hs hhs
  have e0 : hs.getD 0 0 = v0.a ∧ hs.getD 1 0 = v0.b ∧ hs.getD 2 0 = v0.c ∧ hs.getD 3 0 = v0.d ∧ hs.getD 4 0 = v0.e ∧ hs.getD 5 0 = v0.f ∧ hs.getD 6 0 = v0.g ∧ hs.getD 7 0 = v0.h := by rw [HV0.out]; exact ⟨rfl, rfl, rfl, rfl, rfl, rfl, rfl, rfl⟩
  rw [e0.1] at q0
  rw [e0.2.1] at q1
  rw [e0.2.2.1] at q2
  rw [e0.2.2.2.1] at q3
  rw [e0.2.2.2.2.1] at q4
  rw [e0.2.2.2.2.2.1] at q5
  rw [e0.2.2.2.2.2.2.1] at q6
  rw [e0.2.2.2.2.2.2.2] at q7
  clear e0
  go_quiet (fail)
  go_wp2
  obtain ⟨W3, HW3⟩ : ∃ W3, Hid (W3 = W2.drewN nq) := ⟨_, Lib.hid rfl⟩
  rw [← HW3.out]
  have q4' : W3.cell? ⟨b, 4, none⟩ = some (.int .u32 (v0.e : Int)) := by rw [HW3.out]; exact q4
  have q5' : W3.cell? ⟨b, 5, none⟩ = some (.int .u32 (v0.f : Int)) := by rw [HW3.out]; exact q5
  have q6' : W3.cell? ⟨b, 6, none⟩ = some (.int .u32 (v0.g : Int)) := by rw [HW3.out]; exact q6
  have q7' : W3.cell? ⟨b, 7, none⟩ = some (.int .u32 (v0.h : Int)) := by rw [HW3.out]; exact q7
  go_quiet (fail)
  have HST : Hid (Rst b 0 n1 w hs bl u t (wordsOf bl) ((W3.drewN nq))) := by
    show Rst _ _ _ _ _ _ _ _ _ _
    rw [HW3.out]
    exact ⟨(hm2.drewN _).drewN _, (HS2.out.drewN _).drewN _, hrw, hK2⟩
  clear q0 q1 q2 q3 q4 q5 q6 q7 q4' q5' q6' q7' hm2 HS2 hrw hK2
  go_wp2
  go_loopw [3, 4, 5, 6, 7, 8, 9, 10, 58] (fun r3 r4 r5 r6 r7 r8 r9 r10 i wr => ∃ (k : Nat) (v : Vs), i = .int .i64 k ∧ k ≤ 64 ∧ Hid (v = roundsOf (wordsOf bl) v0 k) ∧ r3 = .int .u32 (v.a : Int) ∧ r4 = .int .u32 (v.b : Int) ∧ r5 = .int .u32 (v.c : Int) ∧ r6 = .int .u32 (v.d : Int) ∧ r7 = .int .u32 (v.e : Int) ∧ r8 = .int .u32 (v.f : Int) ∧ r9 = .int .u32 (v.g : Int) ∧ r10 = .int .u32 (v.h : Int) ∧ Rst b 0 n1 w hs bl u t (wordsOf bl) wr) (fun _ _ _ _ _ _ _ _ i _ => 64 - (intOf i).toNat)
  case atStart => exact ⟨0, v0, rfl, by omega, Lib.hid rfl, rfl, rfl, rfl, rfl, rfl, rfl, rfl, rfl, HST.out⟩
  case round =>
    obtain ⟨k, v, rfl, hk, HV, rfl, rfl, rfl, rfl, rfl, rfl, rfl, rfl, hst⟩ := hrel
    have HS := Lib.hid hst
    by_cases hkl : k < 64
    · have hkk := hst.2.2.2 k hkl
      have hww := hst.2.2.1 k hkl
      have hok : Vok v := by rw [HV.out]; exact rounds_ok _ (wordsOf_lt bl hbl) _ HVB.out k
      obtain ⟨ha, hb, hc, hd, he, hf, hg', hh⟩ := hok
      clear hst HST
      obtain ⟨kk, HKK⟩ : ∃ kk, Hid (kk = K.getD k 0) := ⟨_, Lib.hid rfl⟩
      obtain ⟨wk, HWK⟩ : ∃ wk, Hid (wk = (wordsOf bl).getD k 0) := ⟨_, Lib.hid rfl⟩
      rw [← HKK.out] at hkk
      rw [← HWK.out] at hww
      have i1 : (0 : Int) ≤ (k : Int) := by omega
      have i2 : (k : Int) < 64 := by omega
      go_wp2
      go_quiet ((first
        | (go_at_call 22; (with_reducible exact Calls.quiet_of_same (turnq_6 _ he _)))
        | (go_at_call 22; (with_reducible exact Calls.quiet_of_same (turnq_11 _ he _)))
        | (go_at_call 22; (with_reducible exact Calls.quiet_of_same (turnq_25 _ he _)))))
      obtain ⟨T, HT⟩ : ∃ T, Hid (T = tOf v kk wk) := ⟨_, Lib.hid rfl⟩
      have HTF := Lib.hid (t_form v kk wk he hf hg')
      rw [HTF.out, ← HT.out]
      obtain ⟨W4, HW4⟩ : ∃ W4, Hid (W4 = wr.drewN nq) := ⟨_, Lib.hid rfl⟩
      rw [← HW4.out]
      have HS4 : Hid (Rst b 0 n1 w hs bl u t (wordsOf bl) W4) := by
        show Rst _ _ _ _ _ _ _ _ _ _
        rw [HW4.out]
        exact ⟨HS.out.1.drewN _, HS.out.2.1.drewN _, HS.out.2.2.1, HS.out.2.2.2⟩
      clear i1 i2 hkk hww HS HTF HW4
      go_wp2_with fail
      refine (turn_2 _ ha _).mono ?_
      rintro e w' ⟨rfl, rfl⟩
      go_wp2_with fail
      refine (turn_13 _ ha _).mono ?_
      rintro e w' ⟨rfl, rfl⟩
      go_wp2_with fail
      refine (turn_22 _ ha _).mono ?_
      rintro e w' ⟨rfl, rfl⟩
      have HUF := Lib.hid (u_form v ha hb hc)
      go_wp2
      go_roundw
      case rel =>
        refine ⟨k + 1, roundOf v kk wk, by go_num, by omega, ?_, ?_, rfl, rfl, rfl, ?_, rfl, rfl, rfl, HS4.out⟩
        · rw [HKK.out, HWK.out, HV.out]; exact Lib.hid rfl
        · rw [HUF.out, mod_add, HT.out]; rfl
        · rw [mod_add, HT.out]; rfl
      case measure => simp [intOf]; omega
    · obtain rfl : k = 64 := by omega
      have hok : Vok v := by rw [HV.out]; exact rounds_ok _ (wordsOf_lt bl hbl) _ HVB.out 64
      have hm := hst.1
      have HMIX : Hid (zk hs v.list 8 = mixOf hs bl) := by
        rw [HV.out, HV0.out]
        exact Lib.hid (zk_all hs _ HS.out.2.1.2.1 rfl)
      have hmz := hm.size
      clear hst HST
      go_wp2
      obtain ⟨n2, HN2⟩ : ∃ n2, Hid (n2 = wr.heap.size) := ⟨_, Lib.hid rfl⟩
      obtain ⟨W5, HW5⟩ : ∃ W5, Hid (W5 = wr.alloc (.cells #[.int .u32 (v.a : Int), .int .u32 (v.b : Int), .int .u32 (v.c : Int), .int .u32 (v.d : Int), .int .u32 (v.e : Int), .int .u32 (v.f : Int), .int .u32 (v.g : Int), .int .u32 (v.h : Int)] 39)) := ⟨_, Lib.hid rfl⟩
      rw [← HW5.out, ← HN2.out]
      have hn2 : w.heap.size ≤ n2 := by rw [HN2.out]; exact hmz
      have HS5 : Hid (SAt b W5 (zk hs v.list 0) bl u t) := by rw [HW5.out, zk_zero]; exact HS.out.2.1.alloc _
      have HR5 : Hid (W5.heap[n2]? = some (.cells (v.list.map U32).toArray 39 (0, 0))) := by rw [HW5.out, HN2.out]; exact heap_alloc_new wr _
      have HM5 : Hid (Mod b w W5) := by rw [HW5.out]; exact hm.alloc _
      clear HS hm HW5 HN2 hmz
      go_loopw [130] (fun i wr => ∃ k : Nat, i = .int .i64 k ∧ k ≤ 8 ∧ SAt b wr (zk hs v.list k) bl u t ∧ wr.heap[n2]? = some (.cells (v.list.map U32).toArray 39 (0, 0)) ∧ Mod b w wr) (fun i _ => 8 - (intOf i).toNat)
      case atStart => exact ⟨0, rfl, by omega, HS5.out, HR5.out, HM5.out⟩
      case round =>
        clear HS5 HR5 HM5
        obtain ⟨k, rfl, hk, hsat, hr2, hmod⟩ := hrel
        by_cases hkl : k < 8
        · have c0 := hsat.sum k hkl
          have f0 := hsat.frozen k
          have c1 : wr.cell? ⟨n2, k, none⟩ = some (.int .u32 ((v.list.getD k 0 : Nat) : Int)) := cell_map hr2 (by show k < 8; exact hkl)
          have HZ := Lib.hid (zk_succ hs v.list k hkl hsat.2.1 rfl)
          have HSAT := Lib.hid hsat
          have HR2 := Lib.hid hr2
          clear hsat hr2
          rw [zk_getD hs v.list k hkl HSAT.out.2.1 rfl] at c0
          generalize hs.getD k 0 = x at *
          generalize v.list.getD k 0 = y at *
          go_wp2
          go_region
          go_wp2
          go_roundw
          case rel =>
            refine ⟨k + 1, by go_num, by omega, ?_, ?_, ?_⟩
            · rw [HZ.out, mod_add]
              exact (HSAT.out.setSum k _ hkl).drew
            · exact (Below.heap_setCell _ _ _ _ (by simp only; omega)).trans HR2.out
            · exact (hmod.setCell (.inl rfl) _).drew
          case measure => simp [intOf]; omega
        · obtain rfl : k = 8 := by omega
          have HSAT := Lib.hid hsat
          clear hsat hr2
          go_wp2
          go_end0
          rw [← HMIX.out]
          exact ⟨rfl, HSAT.out, hmod⟩

end Go.Proofs.YtbpdeehpeflbeaaDoor
