/-
  The walk of ClassLimits.
-/
import Derived.Test.YtomlbfkkhhhfkaaDoorCsHead
import Derived.Deep.AppendLies
import Derived.Deep.RegionLaw
namespace Go.Proofs.YtomlbfkkhhhfkaaDoor.Fc
open Go.RowKit
set_option linter.unusedVariables false

/-- blocks that are no rows of types are as they were -/
theorem blk_grown {base n size b : Nat} {v : Value} {x y : World} {xs cs : List Value} {t : TypeId} {o : Obj} (h : Blk x b cs t) (ht : t ≠ 60) (hrow : x.ownsRow base 60 size v n xs) (hg : (x.alloc o).grownBy y v.ownBlock) : Blk y b cs t := by
  have hlt := h.lt
  refine (hg.block b (by simp; omega) (fun e => ?_)).trans ((Below.heap_alloc _ _ _ hlt).trans h)
  rcases hrow.2 with ⟨h0, _⟩ | ⟨g, cap, cur', h0, _, h2, _⟩
  · rw [h0] at e; simp [Value.ownBlock] at e
  · rw [h0] at e
    simp [Value.ownBlock] at e
    subst e
    rw [show x.heap[b]? = _ from h] at h2
    cases h2
    exact ht rfl
theorem below_grown {B base n size : Nat} {v : Value} {w x y : World} {xs : List Value} {o : Obj} (hb : Below B w x) (hB : B ≤ w.heap.size) (hrow : x.ownsRow base 60 size v n xs) (hg : (x.alloc o).grownBy y v.ownBlock) (h : B ≤ base) : Below B w y := by
  refine ⟨hg.os.trans hb.os, hg.tape.trans hb.tape, hg.output.trans hb.output, Nat.le_trans hb.size (Nat.le_trans (by simp) hg.size), fun k hk => ?_⟩
  have h1 : k < x.heap.size := Nat.lt_of_lt_of_le hk (Nat.le_trans hB hb.size)
  rw [hg.block k (by simp; omega) (fun e => by have := (World.ownsRow.lt hrow k e.symm).1; omega), Below.heap_alloc _ _ _ h1]
  exact hb.block k hk
theorem row_st {base n size q : Nat} {v u : Value} {w : World} {xs : List Value} {i : Nat} (h : w.ownsRow base 60 size v n xs) (hq : q < base) : (w.setCell ⟨q, i, none⟩ u).ownsRow base 60 size v n xs := by
  refine ⟨h.1, ?_⟩
  rcases h.2 with h0 | ⟨g, cap, cur, rfl, hb, hg, r⟩
  · exact .inl h0
  · exact .inr ⟨g, cap, cur, rfl, hb, (Below.heap_setCell w ⟨q, i, none⟩ u g (by show g ≠ q; omega)).trans hg, r⟩


theorem own_below {base n size : Nat} {e : TypeId} {v : Value} {x y : World} {xs : List Value} (h : x.ownsRow base e size v n xs) (hb : Below x.heap.size x y) : y.ownsRow base e size v n xs := by
  refine ⟨h.1, ?_⟩
  rcases h.2 with h0 | ⟨g, cap, cur, rfl, hb', hg, r⟩
  · exact .inl h0
  · exact .inr ⟨g, cap, cur, rfl, hb', (hb.block g (lt_of_block hg)).trans hg, r⟩
theorem blk_grown0 {base n size b : Nat} {v : Value} {x y : World} {xs cs : List Value} {t : TypeId} (h : Blk x b cs t) (ht : t ≠ 60) (hrow : x.ownsRow base 60 size v n xs) (hg : x.grownBy y v.ownBlock) : Blk y b cs t := by
  have hlt := h.lt
  refine (hg.block b hlt (fun e => ?_)).trans h
  rcases hrow.2 with ⟨h0, _⟩ | ⟨g, cap, cur', h0, _, h2, _⟩
  · rw [h0] at e; simp [Value.ownBlock] at e
  · rw [h0] at e
    simp [Value.ownBlock] at e
    subst e
    rw [show x.heap[b]? = _ from h] at h2
    cases h2
    exact ht rfl
theorem below_grown0 {B base n size : Nat} {v : Value} {w x y : World} {xs : List Value} (hb : Below B w x) (hB : B ≤ w.heap.size) (hrow : x.ownsRow base 60 size v n xs) (hg : x.grownBy y v.ownBlock) (h : B ≤ base) : Below B w y := by
  refine ⟨hg.os.trans hb.os, hg.tape.trans hb.tape, hg.output.trans hb.output, Nat.le_trans hb.size hg.size, fun k hk => ?_⟩
  have h1 : k < x.heap.size := Nat.lt_of_lt_of_le hk (Nat.le_trans hB hb.size)
  rw [hg.block k h1 (fun e => by have := (World.ownsRow.lt hrow k e.symm).1; omega)]
  exact hb.block k hk
theorem i64_and (n : Int) (j m : Nat) (hj : j ≤ 16) (hm : (BitVec.ofInt 64 m).toNat = 2 ^ j - 1) : ∃ q : Nat, q < 2 ^ j ∧ bits .and .i64 n m = (q : Int) := by
  have key : (BitVec.ofInt 64 n &&& BitVec.ofInt 64 m).toNat = (n % ((2 ^ 64 : Nat) : Int)).toNat % 2 ^ j := by
    rw [BitVec.toNat_and, BitVec.toNat_ofInt, hm, Nat.and_two_pow_sub_one_eq_mod]
  have h2 : 2 ^ j ≤ 2 ^ 16 := Nat.pow_le_pow_right (by omega) hj
  have h3 : (n % ((2 ^ 64 : Nat) : Int)).toNat % 2 ^ j < 2 ^ j := Nat.mod_lt _ (Nat.pow_pos (by omega))
  refine ⟨(n % ((2 ^ 64 : Nat) : Int)).toNat % 2 ^ j, h3, ?_⟩
  show IntKind.i64.wrap ((BitVec.ofInt 64 n &&& BitVec.ofInt 64 m).toNat : Nat) = _
  rw [key, IntKind.wrap_i64]
  omega
def intT : Ty := ⟨⟨#[105, 110, 116]⟩, false⟩

theorem alsz (w : World) (o : Obj) : (w.alloc o).heap.size = w.heap.size + 1 := by simp
def limS (st : Bool) (k : Nat) : Sg := ⟨⟨#[109]⟩, st, List.replicate k intT, ⟨#[105, 110, 116]⟩, false⟩
def limC (st : Bool) (k : Nat) : Fc := ⟨⟨#[65]⟩, ⟨#[]⟩, [], [limS st k]⟩
def limF (st : Bool) (k : Nat) (b : Bd) : Fl := ⟨limC st k, [], [], [], [], [], [b]⟩
theorem good_int_ : goodB ⟨#[105, 110, 116]⟩ = true := by
  unfold goodB intB
  rw [ByteArray.toList_eq]; rfl
theorem lim_face (st : Bool) (k : Nat) (hk : k < 8) : RightP (limC st k) where
  name := by show classB ⟨#[65]⟩ = true; unfold classB greatB; decide +kernel
  sup := .inl rfl
  nf := Nat.zero_le _
  nm := by show 1 ≤ 200; omega
  fs := fun i x h => by simp [limC] at h
  ms := fun i x h => by
    match i with
    | 0 =>
      simp [limC] at h; subst h
      refine ⟨ltS_nil (by show 0 < (⟨#[109]⟩ : ByteArray).size; decide), by show (⟨#[109]⟩ : ByteArray).size ≤ 40; decide, good_int_, by simp [limS]; omega, fun p hp => ?_⟩
      have := List.eq_of_mem_replicate hp; subst this; exact good_int_
    | i + 1 => simp [limC] at h
theorem lim_iff (st : Bool) (k : Nat) (hk : k < 8) (b : Bd) : RightF (limF st k b) ↔ BodyP 0 0 0 0 0 (limS st k) b := by
  constructor
  · intro h; exact h.bd 0 _ _ rfl rfl
  · intro h
    refine ⟨lim_face st k hk, ⟨Nat.zero_le _, ⟨Nat.zero_le _, by simp [limF]⟩, ⟨Nat.zero_le _, by simp [limF]⟩, ⟨Nat.zero_le _, by simp [limF]⟩, ⟨Nat.zero_le _, by simp [limF]⟩⟩, rfl, fun i s b' h1 h2 => ?_⟩
    match i with
    | 0 => simp [limF, limC] at h1 h2; subst h1 h2; exact h
    | i + 1 => simp [limF] at h2
theorem lim1 (st : Bool) (k : Nat) (L S : Nat) : BodyP 0 0 0 0 0 (limS st k) ⟨(L : Int), (S : Int), [(2, 0)]⟩ ↔ givenN (limS st k) ≤ L ∧ L ≤ 401 ∧ S ≤ 1000 := by
  constructor
  · intro h; have := h.l1; have := h.l2; have := h.s2; simp only at *; omega
  · rintro ⟨h1, h2, h3⟩
    exact ⟨by simp only; omega, by simp only; omega, by simp only; omega, by simp only; omega, by simp, by simp, fun x hx => by simp at hx; subst hx; rfl⟩
theorem lim2 (st : Bool) (k : Nat) (hk : k < 8) (c a : Int) : BodyP 0 0 0 0 0 (limS st k) ⟨8, 0, [(c, a), (2, 0)]⟩ ↔ rightB (kd c) a (manyN 0 0 0 0 0 8 2 (poolN (kd c))) = true := by
  have hg : givenN (limS st k) ≤ 8 := by unfold givenN limS; cases st <;> simp <;> omega
  constructor
  · intro h; exact h.co.2.2 (c, a) (by simp)
  · intro h
    exact ⟨by simp only; omega, by simp only; omega, by simp only; omega, by simp only; omega, by simp, by simp, fun x hx => by
      simp at hx; rcases hx with rfl | rfl
      · exact h
      · rfl⟩
def limOk (c a : Int) : Bool := rightB (kd c) a (manyN 0 0 0 0 0 8 2 (poolN (kd c)))
theorem lim_cases (c a : Int) : (¬ (1 ≤ c ∧ c ≤ 32) ∧ poolN (kd c) = 0 ∧ limOk c a = false) ∨ ((1 ≤ c ∧ c ≤ 32) ∧ poolN (kd c) = 0 ∧ limOk c a = (a == 0)) ∨
    ((1 ≤ c ∧ c ≤ 32) ∧ poolN (kd c) = 108 ∧ ((0 ≤ a ∧ limOk c a = decide (a < 8)) ∨ (¬ 0 ≤ a ∧ limOk c a = false))) ∨
    ((1 ≤ c ∧ c ≤ 32) ∧ (poolN (kd c) = 106 ∨ poolN (kd c) = 98) ∧ ((0 ≤ a ∧ limOk c a = decide (a < 2)) ∨ (¬ 0 ≤ a ∧ limOk c a = false))) ∨
    ((1 ≤ c ∧ c ≤ 32) ∧ poolN (kd c) ≠ 0 ∧ poolN (kd c) ≠ 108 ∧ poolN (kd c) ≠ 106 ∧ poolN (kd c) ≠ 98 ∧ limOk c a = false) := by
  by_cases hk : 1 ≤ c ∧ c ≤ 32
  · right
    have hk0 : kd c ≠ 0 := by have := kd_in hk.1 hk.2; omega
    unfold limOk rightB
    rw [decide_eq_true hk0, Bool.true_and]
    generalize poolN (kd c) = P
    have two : ∀ m : Int, ((0 ≤ a ∧ (decide (0 ≤ a) && decide (a < m)) = decide (a < m)) ∨ (¬ 0 ≤ a ∧ (decide (0 ≤ a) && decide (a < m)) = false)) := fun m => by
      by_cases h0 : 0 ≤ a
      · left; exact ⟨h0, by rw [decide_eq_true h0, Bool.true_and]⟩
      · right; exact ⟨h0, by rw [decide_eq_false h0, Bool.false_and]⟩
    by_cases h0 : P = 0
    · left; subst h0; exact ⟨hk, rfl, by rw [if_pos rfl, Bool.eq_iff_iff]; simp⟩
    right
    rw [if_neg h0]
    by_cases h1 : P = 108
    · left; subst h1; exact ⟨hk, rfl, two 8⟩
    right
    by_cases h2 : P = 106
    · left; subst h2; exact ⟨hk, .inl rfl, two 2⟩
    by_cases h3 : P = 98
    · left; subst h3; exact ⟨hk, .inr rfl, two 2⟩
    right
    refine ⟨hk, h0, h1, h2, h3, ?_⟩
    have : manyN 0 0 0 0 0 8 2 P = 0 := by
      unfold manyN
      split; · rfl
      split; · rfl
      split; · rfl
      split; · rfl
      split; · rfl
      first | rfl | rw [if_neg h1, if_neg h2, if_neg h3]
    rw [this, Bool.and_eq_false_iff]
    by_cases ha : 0 ≤ a
    · right; exact decide_eq_false (by omega)
    · left; exact decide_eq_false ha
  · left
    exact ⟨hk, by rw [kd_out hk]; rfl, by unfold limOk rightB; rw [kd_out hk]; rfl⟩
def limQ (c a : Int) : Bool := if 1 ≤ c ∧ c ≤ 32 then (if poolN (kd c) = 0 then (a == 0) else false) else false
theorem limQ_cases (c a : Int) : (¬ (1 ≤ c ∧ c ≤ 32) ∧ limQ c a = false) ∨ ((1 ≤ c ∧ c ≤ 32) ∧ poolN (kd c) = 0 ∧ limQ c a = (a == 0)) ∨ ((1 ≤ c ∧ c ≤ 32) ∧ (poolN (kd c) == 0) = false ∧ limQ c a = false) := by
  unfold limQ
  by_cases hk : 1 ≤ c ∧ c ≤ 32
  · right
    by_cases h0 : poolN (kd c) = 0
    · left; exact ⟨hk, h0, by rw [if_pos hk, if_pos h0]⟩
    · right; exact ⟨hk, by simpa using h0, by rw [if_pos hk, if_neg h0]⟩
  · left; exact ⟨hk, by rw [if_neg hk]⟩
theorem lim_cases2 (c a : Int) : (poolN (kd c) = 0 ∧ limOk c a = limQ c a) ∨ (poolN (kd c) = 108 ∧ ((0 ≤ a ∧ limOk c a = decide (a < 8)) ∨ (¬ 0 ≤ a ∧ limOk c a = false))) ∨
    ((poolN (kd c) = 106 ∨ poolN (kd c) = 98) ∧ ((0 ≤ a ∧ limOk c a = decide (a < 2)) ∨ (¬ 0 ≤ a ∧ limOk c a = false))) ∨
    ((poolN (kd c) ≠ 108 ∧ poolN (kd c) ≠ 106 ∧ poolN (kd c) ≠ 98) ∧ limOk c a = limQ c a) := by
  rcases lim_cases c a with ⟨hk, h0, h⟩ | ⟨hk, h0, h⟩ | ⟨hk, h0, h⟩ | ⟨hk, h0, h⟩ | ⟨hk, n0, n1, n2, n3, h⟩
  · left; exact ⟨h0, by rw [h, limQ, if_neg hk]⟩
  · left; exact ⟨h0, by rw [h, limQ, if_pos hk, if_pos h0]⟩
  · right; left; exact ⟨h0, h⟩
  · right; right; left; exact ⟨h0, h⟩
  · right; right; right; exact ⟨⟨n1, n2, n3⟩, by rw [h, limQ, if_pos hk, if_neg n0]⟩
theorem Sl.two {w : World} {b : Nat} {c a c' a' : Int} {t : TypeId} (h : Blk w b [.int .i64 c, .int .i64 a, .int .i64 c', .int .i64 a'] t) : Sl w 2 InR [(c, a), (c', a')] (.slice (some ⟨b, 0, none⟩) 2 2) :=
  ⟨some ⟨b, 0, none⟩, 2, rfl, Nat.le_refl _, by unfold maxLen; omega, fun i y hi => by
    match i with
    | 0 => simp at hi; subst hi; exact ⟨b, 0, _, rfl, fun j v hv => by
        rw [Nat.zero_mul, Nat.add_zero, Nat.zero_add, h.cell]
        match j with
        | 0 => exact hv
        | 1 => exact hv
        | j + 2 => simp at hv, rfl⟩
    | 1 => simp at hi; subst hi; exact ⟨b, 0, _, rfl, fun j v hv => by
        rw [Nat.zero_add, h.cell]
        match j with
        | 0 => exact hv
        | 1 => exact hv
        | j + 2 => simp at hv, rfl⟩
    | i + 2 => simp at hi⟩
/-- what lies in memory: the method, a body's code, the body, the file -/
structure LmW (w : World) (B D : Nat) (gm gd gb gf : List Value) (z : World) : Prop where
  m : Blk z B gm 63
  c : Blk z D gd 66
  b : Blk z (B + 1 + 1) gb 69
  f : Blk z (B + 1 + 1 + 1) gf 35
  below : Below w.heap.size w z
theorem LmW.next {w z z' : World} {B D : Nat} {gm gd gb gf : List Value} (h : LmW w B D gm gd gb gf z) (hb : Below z.heap.size z z') : LmW w B D gm gd gb gf z' :=
  ⟨h.m.below hb, h.c.below hb, h.b.below hb, h.f.below hb, h.below.trans (hb.mono h.below.size)⟩
/-- the file's cells -/
abbrev lmC (B : Nat) : List Value := [.string ⟨#[65]⟩, .string ⟨#[]⟩, .slice none 0 0, .slice (some ⟨B, 0, none⟩) 1 1, .slice none 0 0, .slice none 0 0, .slice none 0 0, .slice none 0 0, .slice none 0 0, .slice (some ⟨B + 1 + 1, 0, none⟩) 1 1]
abbrev lmM (st : Bool) (va : Option Addr) (k vc : Nat) : List Value := [.string ⟨#[109]⟩, .bool st, .slice va k vc, .string ⟨#[105, 110, 116]⟩, .bool false]
theorem lm_file {w z : World} {B D k vc n : Nat} {va : Option Addr} {st : Bool} {gd : List Value} {b : Bd} (h : LmW w B D (lmM st va k vc) gd [.int .i64 b.lo, .int .i64 b.st, .slice (some ⟨D, 0, none⟩) n n] (lmC B) z)
    (hp : Sl z 2 TyR (List.replicate k intT) (.slice va k vc)) (hc : Sl z 2 InR b.co (.slice (some ⟨D, 0, none⟩) n n)) : FlR z (limF st k b) (lmC B) :=
  ⟨none, 0, 0, some ⟨B, 0, none⟩, 1, 1, none, 0, 0, none, 0, 0, none, 0, 0, none, 0, 0, none, 0, 0, some ⟨B + 1 + 1, 0, none⟩, 1, 1, rfl,
    ⟨none, 0, 0, some ⟨B, 0, none⟩, 1, 1, rfl, Sl.nil _ _ _, Sl.one h.m ⟨va, k, vc, rfl, hp⟩⟩,
    ⟨Sl.nil _ _ _, Sl.nil _ _ _, Sl.nil _ _ _, Sl.nil _ _ _, Sl.nil _ _ _⟩, Sl.one h.b ⟨_, _, _, rfl, hc⟩⟩

set_option maxHeartbeats 4000000 in
set_option maxRecDepth 100000 in
theorem limits6 (locals stack params : Int) (st : Bool) (code a : Int) (w : World) (hT : TabR w) :
    Calls Tryd.prog 6 #[.int .i64 locals, .int .i64 stack, .int .i64 params, .bool st, .int .i64 code, .int .i64 a] w fun e w' => e = .returned (.bool true) ∧ Below w.heap.size w w' := by
  obtain ⟨i0, hi, hii⟩ := info45
  simp only [Prod.mk.injEq, Option.map_eq_some_iff] at hii
  obtain ⟨z1', z2', z, ez, z3'⟩ := hii
  obtain ⟨L, hL, eL⟩ := i64_and locals 9 511 (by omega) (by decide)
  obtain ⟨S, hS, eS⟩ := i64_and stack 11 2047 (by omega) (by decide)
  obtain ⟨P, hP, eP⟩ := i64_and params 3 7 (by omega) (by decide)
  simp only [Nat.reducePow] at hL hS hP
  have EL : bits .and .i64 locals 511 = (L : Int) := eL
  have ES : bits .and .i64 stack 2047 = (S : Int) := eS
  have EP : bits .and .i64 params 7 = (P : Int) := eP
  clear eL eS eP
  have HT := Lib.hid hT
  clear hT
  go_enter Tryd.func6, Tryd.ntmps6
  go_wp2_with fail
  refine (head9 w).mono ?_
  rintro e w1 ⟨rfl, hb1⟩
  go_wp2_with fail
  refine (int55 w1).mono ?_
  rintro e w2 ⟨rfl, hb2⟩
  have HB2 : Hid (Below w.heap.size w w2) := Lib.hid (hb1.trans (hb2.mono hb1.size))
  clear hb1 hb2 EL ES EP
  go_wp2
  obtain ⟨W3, HW3⟩ : ∃ W, Hid (W = w2.alloc (.cells #[.string ⟨#[109]⟩, .bool st, .slice none 0 0, .string ⟨#[105, 110, 116]⟩, .bool false] 63)) := ⟨_, Lib.hid rfl⟩
  have S0 : Hid (Blk W3 w2.heap.size [.string ⟨#[109]⟩, .bool st, .slice none 0 0, .string ⟨#[105, 110, 116]⟩, .bool false] 63) := Lib.hid (by rw [HW3.out]; exact Blk.new w2 [.string ⟨#[109]⟩, .bool st, .slice none 0 0, .string ⟨#[105, 110, 116]⟩, .bool false] 63)
  have HB3 : Hid (Below w.heap.size w W3) := Lib.hid (by rw [HW3.out]; exact bl_al' HB2.out)
  have hs3 : W3.heap.size = w2.heap.size + 1 := by rw [HW3.out]; simp
  have hsw : w.heap.size ≤ w2.heap.size := HB2.out.size
  rw [← HW3.out]
  clear HW3
  obtain ⟨SB, HSB⟩ : ∃ b, Hid (b = w2.heap.size) := ⟨_, Lib.hid rfl⟩
  rw [← HSB.out] at S0 hs3 hsw ⊢
  clear HSB HB2
  go_loopw [14] (fun i wr => ∃ (k : Nat) (va : Option Addr) (vm vc : Nat), k ≤ P ∧ i = .int .i64 k ∧ Hid (Blk wr SB [.string ⟨#[109]⟩, .bool st, .slice va vm vc, .string ⟨#[105, 110, 116]⟩, .bool false] 63) ∧ Hid (wr.ownsRow (SB + 1) 60 2 (.slice va vm vc) k ((List.replicate k intT).flatMap encT)) ∧ Below w.heap.size w wr ∧ SB + 1 ≤ wr.heap.size) (fun i _ => P - (intOf i).toNat)
  case atStart => exact ⟨0, none, 0, 0, Nat.zero_le _, rfl, S0, Lib.hid (World.ownsRow_nil _ _ _ _), HB3.out, by omega⟩
  case round =>
    clear S0 HB3 hs3
    obtain ⟨k, va, vm, vc, hk, rfl, HS, HO, hbr, hbs⟩ := hrel
    by_cases hkl : k < P
    · obtain ⟨base, hbase⟩ : ∃ b, w.heap.size ≤ b ∧ b = SB + 1 := ⟨SB + 1, by omega, rfl⟩
      obtain ⟨hbase, HBE⟩ := hbase
      obtain ⟨ROW, HROW⟩ : ∃ r : List Value, Hid (r = (List.replicate k intT).flatMap encT) := ⟨_, Lib.hid rfl⟩
      obtain ⟨SC, HSC⟩ : ∃ r : List Value, Hid (r = [.string ⟨#[109]⟩, .bool st, .slice va vm vc, .string ⟨#[105, 110, 116]⟩, .bool false]) := ⟨_, Lib.hid rfl⟩
      rw [← HSC.out] at HS
      rw [← HROW.out, ← HBE] at HO
      rw [← HBE] at hbs
      have HOD : Hid (wr.drew.ownsRow base 60 2 (.slice va vm vc) k ROW) := Lib.hid HO.out
      have p2 : wr.drew.cell? ⟨SB, 2, none⟩ = some (.slice va vm vc) := (HS.out.cell 2).trans (by rw [HSC.out]; rfl)
      have HS0 : Hid (Blk wr.drew SB SC 63) := Lib.hid HS.out
      go_wp2_with fail
      refine wp_region_held_drew (S := fun _ => True) (by kernel_rfl) ?_ (fun hHeld => ?_)
      · trivial
      refine wpAnyH_take (i := 0) (v := ?_) rfl (by kernel_rfl) (by kernel_rfl) (by kernel_rfl) (fun _ _ _ h => h) (Or.inl ⟨by rfl, ?_⟩) (by assumption) ?_
      rotate_left
      focus (intro w hSw; skip; go_simp; first | done | with_reducible rfl)
      simp only [Act.put, List.getElem_toArray, List.getElem_cons_zero, List.setIfInBounds_toArray, List.set_cons_zero, List.set_cons_succ]
      refine wpAnyH_ready (rs := [1, 2]) (by kernel_rfl) (by simp) ?_
      refine AllReadyH.cons (o := _) rfl (fun K hK => ?_) (AllReadyH.cons (o := _) rfl (fun K hK => ?_) AllReadyH.nil)
      · go_simp
        refine hK.out _ _ trivial (fun _ => ?_)
        clear hK K
        try simp only [Act.put, List.getElem_toArray, List.getElem_cons_zero, List.getElem_cons_succ, List.setIfInBounds_toArray, List.set_cons_zero, List.set_cons_succ]
        refine wpAnyH_ready (rs := [2]) (by kernel_rfl) (by simp) ?_
        refine AllReadyH.cons (o := _) rfl (fun K hK => ?_) AllReadyH.nil
        go_simp
        refine (int55 _).mono ?_
        rintro e z1 ⟨rfl, hz1⟩
        have q2 : z1.cell? ⟨SB, 2, none⟩ = some (.slice va vm vc) := (hz1.cell (World.block_lt_of_cell? _ _ p2)).trans p2
        have HO1 : Hid (z1.ownsRow base 60 2 (.slice va vm vc) k ROW) := Lib.hid (own_below HOD.out hz1)
        have HS1 : Hid (Blk z1 SB SC 63) := Lib.hid (HS0.out.below hz1)
        have HB1 : Hid (Below w.heap.size w z1) := Lib.hid (hbr.drew.trans (hz1.mono hbr.size))
        have hs1 : base ≤ z1.heap.size := Nat.le_trans hbs hz1.size
        go_simp
        refine hK.out _ _ trivial (fun _ => ?_)
        clear hK K
        try simp only [Act.put, List.getElem_toArray, List.getElem_cons_zero, List.getElem_cons_succ, List.setIfInBounds_toArray, List.set_cons_zero, List.set_cons_succ]
        refine wpAnyH_ready (rs := [3]) (by kernel_rfl) (by simp) ?_
        refine AllReadyH.cons (o := _) rfl (fun K hK => ?_) AllReadyH.nil
        go_simp
        obtain ⟨z2, HZ2⟩ : ∃ z, Hid (z = z1.alloc (.cells #[.string ⟨#[105, 110, 116]⟩, .bool false] 60)) := ⟨_, Lib.hid rfl⟩
        have HN : Hid (Blk z2 z1.heap.size [.string ⟨#[105, 110, 116]⟩, .bool false] 60) := Lib.hid (by rw [HZ2.out]; exact Blk.new z1 [.string ⟨#[105, 110, 116]⟩, .bool false] 60)
        have hz2 : Below z1.heap.size z1 z2 := by rw [HZ2.out]; exact below1 z1 _
        have HO2 : Hid (z2.ownsRow base 60 2 (.slice va vm vc) k ROW) := Lib.hid (own_below HO1.out hz2)
        have HS2 : Hid (Blk z2 SB SC 63) := Lib.hid (HS1.out.below hz2)
        have HB2 : Hid (Below w.heap.size w z2) := Lib.hid (HB1.out.trans (hz2.mono HB1.out.size))
        have hs2 : base ≤ z2.heap.size := Nat.le_trans hs1 hz2.size
        have q3 : z2.cell? ⟨SB, 2, none⟩ = some (.slice va vm vc) := (hz2.cell (World.block_lt_of_cell? _ _ q2)).trans q2
        rw [← HZ2.out]
        refine hK.out _ _ trivial (fun _ => ?_)
        clear hK K
        try simp only [Act.put, List.getElem_toArray, List.getElem_cons_zero, List.getElem_cons_succ, List.setIfInBounds_toArray, List.set_cons_zero, List.set_cons_succ]
        refine wpAnyH_ready (rs := [4]) (by kernel_rfl) (by simp) ?_
        refine AllReadyH.cons (o := _) rfl (fun K hK => ?_) AllReadyH.nil
        refine step_append_lies _ rfl (.tmp 36) (.tmp 38) 28 rfl base 60 i0 z 2 24 Tryd.underlying28 hi ez z1' z2' z3' (by decide) _ _ _ rfl HO2.out ⟨z1.heap.size, 0, none⟩ 1 1 [.string ⟨#[105, 110, 116]⟩, .bool false] rfl rfl (fun j u hu => by rw [add_pl, Nat.zero_add]; exact (HN.out.cell j).trans hu) (by simp [Value.oneCell']) (by omega) (by unfold maxLen; omega) (by omega) hs2 _ rfl ?_
        intro g cap z5 hown5 hgrow5 hat5 hlt5
        have HS5 : Hid (Blk z5 SB SC 63) := Lib.hid (blk_grown0 HS2.out (by decide) HO2.out hgrow5)
        have HB5 : Hid (Below w.heap.size w z5) := Lib.hid (below_grown0 HB2.out (Nat.le_refl _) HO2.out hgrow5 hbase)
        have hs5 : base ≤ z5.heap.size := Nat.le_trans hs2 hgrow5.size
        have f2 := HS5.out.frozen 2
        have g2 : z5.cell? ⟨SB, 2, none⟩ = some (.slice va vm vc) := (HS5.out.cell 2).trans (by rw [HSC.out]; rfl)
        have HO5 := Lib.hid hown5
        clear hown5 hgrow5 hat5 hlt5
        refine hK.out _ _ trivial (fun _ => ?_)
        clear hK K
        try simp only [Act.put, List.getElem_toArray, List.getElem_cons_zero, List.getElem_cons_succ, List.setIfInBounds_toArray, List.set_cons_zero, List.set_cons_succ]
        refine wpAnyH_take (i := 5) (v := ?_) rfl (by kernel_rfl) (by kernel_rfl) (by kernel_rfl) (fun _ _ _ h => h) (Or.inl ⟨by rfl, ?_⟩) (by assumption) ?_
        rotate_left
        focus (intro w hSw; skip; go_simp; first | done | with_reducible rfl)
        simp only [Act.put, List.getElem_toArray, List.getElem_cons_zero, List.getElem_cons_succ, List.setIfInBounds_toArray, List.set_cons_zero, List.set_cons_succ]
        refine wpAnyH_ready (rs := [6]) (by kernel_rfl) (by simp) ?_
        refine AllReadyH.cons (o := _) rfl (fun K hK => ?_) AllReadyH.nil
        go_simp
        refine hK.out _ _ trivial (fun _ => ?_)
        clear hK K
        try simp only [Act.put, List.getElem_toArray, List.getElem_cons_zero, List.getElem_cons_succ, List.setIfInBounds_toArray, List.set_cons_zero, List.set_cons_succ]
        refine wpAnyH_done (by kernel_rfl) ?_ _
        have M := st1_mods (w := z5) (fb := SB) (i := 2) (.slice (some ⟨g, 0, none⟩) (k + 1) cap)
        have HSF : Hid (Blk (z5.setCell ⟨SB, 2, none⟩ (.slice (some ⟨g, 0, none⟩) (k + 1) cap)) SB [.string ⟨#[109]⟩, .bool st, .slice (some ⟨g, 0, none⟩) (k + 1) cap, .string ⟨#[105, 110, 116]⟩, .bool false] 63) := Lib.hid (by have := HS5.out.set 2 (.slice (some ⟨g, 0, none⟩) (k + 1) cap); rw [HSC.out] at this; exact this)
        have HOF : Hid ((z5.setCell ⟨SB, 2, none⟩ (.slice (some ⟨g, 0, none⟩) (k + 1) cap)).ownsRow (SB + 1) 60 2 (.slice (some ⟨g, 0, none⟩) (k + 1) cap) (k + 1) ((List.replicate (k + 1) intT).flatMap encT)) := Lib.hid (by rw [List.replicate_succ', List.flatMap_append, ← HROW.out, ← HBE]; exact row_st HO5.out (by omega))
        have HBF : Hid (Below w.heap.size w (z5.setCell ⟨SB, 2, none⟩ (.slice (some ⟨g, 0, none⟩) (k + 1) cap))) := Lib.hid (HB5.out.trans (M.below (fun j e => by omega) HB5.out.size))
        have HSZ : Hid (SB + 1 ≤ (z5.setCell ⟨SB, 2, none⟩ (.slice (some ⟨g, 0, none⟩) (k + 1) cap)).heap.size) := Lib.hid (by rw [← HBE]; exact Nat.le_trans hs5 M.size)
        clear M HS5 HO5 HB5 hs5 HO2 HS2 HB2 hs2 HN HZ2 hz2 HO1 HS1 HB1 hs1 hz1 HOD HS0 HO HS p2 q2 q3 f2 g2 HBE hbase
        go_wp2
        go_roundw
        case rel => exact ⟨k + 1, some ⟨g, 0, none⟩, k + 1, cap, by omega, by go_num, HSF, HOF, HBF.out, HSZ.out⟩
        case measure => simp [intOf]; omega
      · go_simp
        refine (int55 _).mono ?_
        rintro e z1 ⟨rfl, hz1⟩
        have q2 : z1.cell? ⟨SB, 2, none⟩ = some (.slice va vm vc) := (hz1.cell (World.block_lt_of_cell? _ _ p2)).trans p2
        have HO1 : Hid (z1.ownsRow base 60 2 (.slice va vm vc) k ROW) := Lib.hid (own_below HOD.out hz1)
        have HS1 : Hid (Blk z1 SB SC 63) := Lib.hid (HS0.out.below hz1)
        have HB1 : Hid (Below w.heap.size w z1) := Lib.hid (hbr.drew.trans (hz1.mono hbr.size))
        have hs1 : base ≤ z1.heap.size := Nat.le_trans hbs hz1.size
        go_simp
        refine hK.out _ _ trivial (fun _ => ?_)
        clear hK K
        try simp only [Act.put, List.getElem_toArray, List.getElem_cons_zero, List.getElem_cons_succ, List.setIfInBounds_toArray, List.set_cons_zero, List.set_cons_succ]
        refine wpAnyH_ready (rs := [1, 3]) (by kernel_rfl) (by simp) ?_
        refine AllReadyH.cons (o := _) rfl (fun K hK => ?_) (AllReadyH.cons (o := _) rfl (fun K hK => ?_) AllReadyH.nil)
        · go_simp
          refine hK.out _ _ trivial (fun _ => ?_)
          clear hK K
          try simp only [Act.put, List.getElem_toArray, List.getElem_cons_zero, List.getElem_cons_succ, List.setIfInBounds_toArray, List.set_cons_zero, List.set_cons_succ]
          refine wpAnyH_ready (rs := [3]) (by kernel_rfl) (by simp) ?_
          refine AllReadyH.cons (o := _) rfl (fun K hK => ?_) AllReadyH.nil
          go_simp
          obtain ⟨z2, HZ2⟩ : ∃ z, Hid (z = z1.alloc (.cells #[.string ⟨#[105, 110, 116]⟩, .bool false] 60)) := ⟨_, Lib.hid rfl⟩
          have HN : Hid (Blk z2 z1.heap.size [.string ⟨#[105, 110, 116]⟩, .bool false] 60) := Lib.hid (by rw [HZ2.out]; exact Blk.new z1 [.string ⟨#[105, 110, 116]⟩, .bool false] 60)
          have hz2 : Below z1.heap.size z1 z2 := by rw [HZ2.out]; exact below1 z1 _
          have HO2 : Hid (z2.ownsRow base 60 2 (.slice va vm vc) k ROW) := Lib.hid (own_below HO1.out hz2)
          have HS2 : Hid (Blk z2 SB SC 63) := Lib.hid (HS1.out.below hz2)
          have HB2 : Hid (Below w.heap.size w z2) := Lib.hid (HB1.out.trans (hz2.mono HB1.out.size))
          have hs2 : base ≤ z2.heap.size := Nat.le_trans hs1 hz2.size
          have q3 : z2.cell? ⟨SB, 2, none⟩ = some (.slice va vm vc) := (hz2.cell (World.block_lt_of_cell? _ _ q2)).trans q2
          rw [← HZ2.out]
          refine hK.out _ _ trivial (fun _ => ?_)
          clear hK K
          try simp only [Act.put, List.getElem_toArray, List.getElem_cons_zero, List.getElem_cons_succ, List.setIfInBounds_toArray, List.set_cons_zero, List.set_cons_succ]
          refine wpAnyH_ready (rs := [4]) (by kernel_rfl) (by simp) ?_
          refine AllReadyH.cons (o := _) rfl (fun K hK => ?_) AllReadyH.nil
          refine step_append_lies _ rfl (.tmp 36) (.tmp 38) 28 rfl base 60 i0 z 2 24 Tryd.underlying28 hi ez z1' z2' z3' (by decide) _ _ _ rfl HO2.out ⟨z1.heap.size, 0, none⟩ 1 1 [.string ⟨#[105, 110, 116]⟩, .bool false] rfl rfl (fun j u hu => by rw [add_pl, Nat.zero_add]; exact (HN.out.cell j).trans hu) (by simp [Value.oneCell']) (by omega) (by unfold maxLen; omega) (by omega) hs2 _ rfl ?_
          intro g cap z5 hown5 hgrow5 hat5 hlt5
          have HS5 : Hid (Blk z5 SB SC 63) := Lib.hid (blk_grown0 HS2.out (by decide) HO2.out hgrow5)
          have HB5 : Hid (Below w.heap.size w z5) := Lib.hid (below_grown0 HB2.out (Nat.le_refl _) HO2.out hgrow5 hbase)
          have hs5 : base ≤ z5.heap.size := Nat.le_trans hs2 hgrow5.size
          have f2 := HS5.out.frozen 2
          have g2 : z5.cell? ⟨SB, 2, none⟩ = some (.slice va vm vc) := (HS5.out.cell 2).trans (by rw [HSC.out]; rfl)
          have HO5 := Lib.hid hown5
          clear hown5 hgrow5 hat5 hlt5
          refine hK.out _ _ trivial (fun _ => ?_)
          clear hK K
          try simp only [Act.put, List.getElem_toArray, List.getElem_cons_zero, List.getElem_cons_succ, List.setIfInBounds_toArray, List.set_cons_zero, List.set_cons_succ]
          refine wpAnyH_take (i := 5) (v := ?_) rfl (by kernel_rfl) (by kernel_rfl) (by kernel_rfl) (fun _ _ _ h => h) (Or.inl ⟨by rfl, ?_⟩) (by assumption) ?_
          rotate_left
          focus (intro w hSw; skip; go_simp; first | done | with_reducible rfl)
          simp only [Act.put, List.getElem_toArray, List.getElem_cons_zero, List.getElem_cons_succ, List.setIfInBounds_toArray, List.set_cons_zero, List.set_cons_succ]
          refine wpAnyH_ready (rs := [6]) (by kernel_rfl) (by simp) ?_
          refine AllReadyH.cons (o := _) rfl (fun K hK => ?_) AllReadyH.nil
          go_simp
          refine hK.out _ _ trivial (fun _ => ?_)
          clear hK K
          try simp only [Act.put, List.getElem_toArray, List.getElem_cons_zero, List.getElem_cons_succ, List.setIfInBounds_toArray, List.set_cons_zero, List.set_cons_succ]
          refine wpAnyH_done (by kernel_rfl) ?_ _
          have M := st1_mods (w := z5) (fb := SB) (i := 2) (.slice (some ⟨g, 0, none⟩) (k + 1) cap)
          have HSF : Hid (Blk (z5.setCell ⟨SB, 2, none⟩ (.slice (some ⟨g, 0, none⟩) (k + 1) cap)) SB [.string ⟨#[109]⟩, .bool st, .slice (some ⟨g, 0, none⟩) (k + 1) cap, .string ⟨#[105, 110, 116]⟩, .bool false] 63) := Lib.hid (by have := HS5.out.set 2 (.slice (some ⟨g, 0, none⟩) (k + 1) cap); rw [HSC.out] at this; exact this)
          have HOF : Hid ((z5.setCell ⟨SB, 2, none⟩ (.slice (some ⟨g, 0, none⟩) (k + 1) cap)).ownsRow (SB + 1) 60 2 (.slice (some ⟨g, 0, none⟩) (k + 1) cap) (k + 1) ((List.replicate (k + 1) intT).flatMap encT)) := Lib.hid (by rw [List.replicate_succ', List.flatMap_append, ← HROW.out, ← HBE]; exact row_st HO5.out (by omega))
          have HBF : Hid (Below w.heap.size w (z5.setCell ⟨SB, 2, none⟩ (.slice (some ⟨g, 0, none⟩) (k + 1) cap))) := Lib.hid (HB5.out.trans (M.below (fun j e => by omega) HB5.out.size))
          have HSZ : Hid (SB + 1 ≤ (z5.setCell ⟨SB, 2, none⟩ (.slice (some ⟨g, 0, none⟩) (k + 1) cap)).heap.size) := Lib.hid (by rw [← HBE]; exact Nat.le_trans hs5 M.size)
          clear M HS5 HO5 HB5 hs5 HO2 HS2 HB2 hs2 HN HZ2 hz2 HO1 HS1 HB1 hs1 hz1 HOD HS0 HO HS p2 q2 q3 f2 g2 HBE hbase
          go_wp2
          go_roundw
          case rel => exact ⟨k + 1, some ⟨g, 0, none⟩, k + 1, cap, by omega, by go_num, HSF, HOF, HBF.out, HSZ.out⟩
          case measure => simp [intOf]; omega
        · go_simp
          obtain ⟨z2, HZ2⟩ : ∃ z, Hid (z = z1.alloc (.cells #[.string ⟨#[105, 110, 116]⟩, .bool false] 60)) := ⟨_, Lib.hid rfl⟩
          have HN : Hid (Blk z2 z1.heap.size [.string ⟨#[105, 110, 116]⟩, .bool false] 60) := Lib.hid (by rw [HZ2.out]; exact Blk.new z1 [.string ⟨#[105, 110, 116]⟩, .bool false] 60)
          have hz2 : Below z1.heap.size z1 z2 := by rw [HZ2.out]; exact below1 z1 _
          have HO2 : Hid (z2.ownsRow base 60 2 (.slice va vm vc) k ROW) := Lib.hid (own_below HO1.out hz2)
          have HS2 : Hid (Blk z2 SB SC 63) := Lib.hid (HS1.out.below hz2)
          have HB2 : Hid (Below w.heap.size w z2) := Lib.hid (HB1.out.trans (hz2.mono HB1.out.size))
          have hs2 : base ≤ z2.heap.size := Nat.le_trans hs1 hz2.size
          have q3 : z2.cell? ⟨SB, 2, none⟩ = some (.slice va vm vc) := (hz2.cell (World.block_lt_of_cell? _ _ q2)).trans q2
          rw [← HZ2.out]
          refine hK.out _ _ trivial (fun _ => ?_)
          clear hK K
          try simp only [Act.put, List.getElem_toArray, List.getElem_cons_zero, List.getElem_cons_succ, List.setIfInBounds_toArray, List.set_cons_zero, List.set_cons_succ]
          refine wpAnyH_ready (rs := [1]) (by kernel_rfl) (by simp) ?_
          refine AllReadyH.cons (o := _) rfl (fun K hK => ?_) AllReadyH.nil
          go_simp
          refine hK.out _ _ trivial (fun _ => ?_)
          clear hK K
          try simp only [Act.put, List.getElem_toArray, List.getElem_cons_zero, List.getElem_cons_succ, List.setIfInBounds_toArray, List.set_cons_zero, List.set_cons_succ]
          refine wpAnyH_ready (rs := [4]) (by kernel_rfl) (by simp) ?_
          refine AllReadyH.cons (o := _) rfl (fun K hK => ?_) AllReadyH.nil
          refine step_append_lies _ rfl (.tmp 36) (.tmp 38) 28 rfl base 60 i0 z 2 24 Tryd.underlying28 hi ez z1' z2' z3' (by decide) _ _ _ rfl HO2.out ⟨z1.heap.size, 0, none⟩ 1 1 [.string ⟨#[105, 110, 116]⟩, .bool false] rfl rfl (fun j u hu => by rw [add_pl, Nat.zero_add]; exact (HN.out.cell j).trans hu) (by simp [Value.oneCell']) (by omega) (by unfold maxLen; omega) (by omega) hs2 _ rfl ?_
          intro g cap z5 hown5 hgrow5 hat5 hlt5
          have HS5 : Hid (Blk z5 SB SC 63) := Lib.hid (blk_grown0 HS2.out (by decide) HO2.out hgrow5)
          have HB5 : Hid (Below w.heap.size w z5) := Lib.hid (below_grown0 HB2.out (Nat.le_refl _) HO2.out hgrow5 hbase)
          have hs5 : base ≤ z5.heap.size := Nat.le_trans hs2 hgrow5.size
          have f2 := HS5.out.frozen 2
          have g2 : z5.cell? ⟨SB, 2, none⟩ = some (.slice va vm vc) := (HS5.out.cell 2).trans (by rw [HSC.out]; rfl)
          have HO5 := Lib.hid hown5
          clear hown5 hgrow5 hat5 hlt5
          refine hK.out _ _ trivial (fun _ => ?_)
          clear hK K
          try simp only [Act.put, List.getElem_toArray, List.getElem_cons_zero, List.getElem_cons_succ, List.setIfInBounds_toArray, List.set_cons_zero, List.set_cons_succ]
          refine wpAnyH_take (i := 5) (v := ?_) rfl (by kernel_rfl) (by kernel_rfl) (by kernel_rfl) (fun _ _ _ h => h) (Or.inl ⟨by rfl, ?_⟩) (by assumption) ?_
          rotate_left
          focus (intro w hSw; skip; go_simp; first | done | with_reducible rfl)
          simp only [Act.put, List.getElem_toArray, List.getElem_cons_zero, List.getElem_cons_succ, List.setIfInBounds_toArray, List.set_cons_zero, List.set_cons_succ]
          refine wpAnyH_ready (rs := [6]) (by kernel_rfl) (by simp) ?_
          refine AllReadyH.cons (o := _) rfl (fun K hK => ?_) AllReadyH.nil
          go_simp
          refine hK.out _ _ trivial (fun _ => ?_)
          clear hK K
          try simp only [Act.put, List.getElem_toArray, List.getElem_cons_zero, List.getElem_cons_succ, List.setIfInBounds_toArray, List.set_cons_zero, List.set_cons_succ]
          refine wpAnyH_done (by kernel_rfl) ?_ _
          have M := st1_mods (w := z5) (fb := SB) (i := 2) (.slice (some ⟨g, 0, none⟩) (k + 1) cap)
          have HSF : Hid (Blk (z5.setCell ⟨SB, 2, none⟩ (.slice (some ⟨g, 0, none⟩) (k + 1) cap)) SB [.string ⟨#[109]⟩, .bool st, .slice (some ⟨g, 0, none⟩) (k + 1) cap, .string ⟨#[105, 110, 116]⟩, .bool false] 63) := Lib.hid (by have := HS5.out.set 2 (.slice (some ⟨g, 0, none⟩) (k + 1) cap); rw [HSC.out] at this; exact this)
          have HOF : Hid ((z5.setCell ⟨SB, 2, none⟩ (.slice (some ⟨g, 0, none⟩) (k + 1) cap)).ownsRow (SB + 1) 60 2 (.slice (some ⟨g, 0, none⟩) (k + 1) cap) (k + 1) ((List.replicate (k + 1) intT).flatMap encT)) := Lib.hid (by rw [List.replicate_succ', List.flatMap_append, ← HROW.out, ← HBE]; exact row_st HO5.out (by omega))
          have HBF : Hid (Below w.heap.size w (z5.setCell ⟨SB, 2, none⟩ (.slice (some ⟨g, 0, none⟩) (k + 1) cap))) := Lib.hid (HB5.out.trans (M.below (fun j e => by omega) HB5.out.size))
          have HSZ : Hid (SB + 1 ≤ (z5.setCell ⟨SB, 2, none⟩ (.slice (some ⟨g, 0, none⟩) (k + 1) cap)).heap.size) := Lib.hid (by rw [← HBE]; exact Nat.le_trans hs5 M.size)
          clear M HS5 HO5 HB5 hs5 HO2 HS2 HB2 hs2 HN HZ2 hz2 HO1 HS1 HB1 hs1 hz1 HOD HS0 HO HS p2 q2 q3 f2 g2 HBE hbase
          go_wp2
          go_roundw
          case rel => exact ⟨k + 1, some ⟨g, 0, none⟩, k + 1, cap, by omega, by go_num, HSF, HOF, HBF.out, HSZ.out⟩
          case measure => simp [intOf]; omega

    · obtain rfl : k = P := by omega
      obtain ⟨a', c'', e1, hsl, _⟩ := row_sl (enc := encT) (fun _ => rfl) (by simp) HO.out
      cases e1
      have HSL := Lib.hid hsl
      have q0 := HS.out.cell 0
      have q1 := HS.out.cell 1
      have q2 := HS.out.cell 2
      have q3 := HS.out.cell 3
      have q4 := HS.out.cell 4
      simp only [List.getElem?_cons_succ, List.getElem?_cons_zero] at q0 q1 q2 q3 q4
      clear hsl HO
      cases st with
      | true =>
        have HG : Hid (givenN (limS true k) = k) := Lib.hid (by simp [givenN, limS])
        obtain ⟨B, HBB⟩ : ∃ b, Hid (b = wr.heap.size) := ⟨_, Lib.hid rfl⟩
        obtain ⟨W4, HW4⟩ : ∃ W, Hid (W = (((wr.alloc (.cells #[.string ⟨#[109]⟩, .bool true, .slice va k vc, .string ⟨#[105, 110, 116]⟩, .bool false] 63)).alloc (.cells #[.int .i64 2, .int .i64 0] 66)).alloc (.cells #[.int .i64 (L : Int), .int .i64 (S : Int), .slice (some ⟨wr.heap.size + 1, 0, none⟩) 1 1] 69)).alloc (.cells #[.string ⟨#[65]⟩, .string ⟨#[]⟩, .slice none 0 0, .slice (some ⟨wr.heap.size, 0, none⟩) 1 1, .slice none 0 0, .slice none 0 0, .slice none 0 0, .slice none 0 0, .slice none 0 0, .slice (some ⟨wr.heap.size + 1 + 1, 0, none⟩) 1 1] 35)) := ⟨_, Lib.hid rfl⟩
        have HL4 : Hid (LmW w B (B + 1) (lmM true va k vc) [.int .i64 2, .int .i64 0] [.int .i64 (L : Int), .int .i64 (S : Int), .slice (some ⟨B + 1, 0, none⟩) 1 1] (lmC B) W4) := Lib.hid (by
          rw [HW4.out, HBB.out]
          have b1 := below1 wr (.cells #[.string ⟨#[109]⟩, .bool true, .slice va k vc, .string ⟨#[105, 110, 116]⟩, .bool false] 63)
          have b2 := below1 (wr.alloc (.cells #[.string ⟨#[109]⟩, .bool true, .slice va k vc, .string ⟨#[105, 110, 116]⟩, .bool false] 63)) (.cells #[.int .i64 2, .int .i64 0] 66)
          have b3 := below1 ((wr.alloc (.cells #[.string ⟨#[109]⟩, .bool true, .slice va k vc, .string ⟨#[105, 110, 116]⟩, .bool false] 63)).alloc (.cells #[.int .i64 2, .int .i64 0] 66)) (.cells #[.int .i64 (L : Int), .int .i64 (S : Int), .slice (some ⟨wr.heap.size + 1, 0, none⟩) 1 1] 69)
          have b4 := below1 (((wr.alloc (.cells #[.string ⟨#[109]⟩, .bool true, .slice va k vc, .string ⟨#[105, 110, 116]⟩, .bool false] 63)).alloc (.cells #[.int .i64 2, .int .i64 0] 66)).alloc (.cells #[.int .i64 (L : Int), .int .i64 (S : Int), .slice (some ⟨wr.heap.size + 1, 0, none⟩) 1 1] 69)) (.cells (lmC wr.heap.size).toArray 35)
          have e1 := (((Blk.new wr (lmM true va k vc) 63).below b2).below b3).below b4
          have e2 := ((Blk.new (wr.alloc (.cells (lmM true va k vc).toArray 63)) [.int .i64 2, .int .i64 0] 66).below b3).below b4
          have e3 := (Blk.new ((wr.alloc (.cells (lmM true va k vc).toArray 63)).alloc (.cells #[.int .i64 2, .int .i64 0] 66)) [.int .i64 (L : Int), .int .i64 (S : Int), .slice (some ⟨wr.heap.size + 1, 0, none⟩) 1 1] 69).below b4
          have e4 := Blk.new (((wr.alloc (.cells (lmM true va k vc).toArray 63)).alloc (.cells #[.int .i64 2, .int .i64 0] 66)).alloc (.cells #[.int .i64 (L : Int), .int .i64 (S : Int), .slice (some ⟨wr.heap.size + 1, 0, none⟩) 1 1] 69)) (lmC wr.heap.size) 35
          simp only [alsz] at e2 e3 e4
          exact ⟨e1, e2, e3, e4, bl_al' (bl_al' (bl_al' (bl_al' hbr)))⟩)
        have HSL4 : Hid (∀ z, Below wr.heap.size wr z → Sl z 2 TyR (List.replicate k intT) (.slice va k vc)) := Lib.hid (fun z hz => tys_keep (Keeps.of_below hz) HSL.out)
        have HK4 : Hid (Below wr.heap.size wr W4) := Lib.hid (by rw [HW4.out]; exact bl_al' (bl_al' (bl_al' (below1 wr _))))
        go_upto_region 15 with fail
        rw [← HW4.out, ← HBB.out]
        clear HW4 HS q0 q1 q2 q3 q4 HSL
        have M4 := HL4.out
        go_cut [69] from 56 to 69 (fun s69 wc => s69 = .bool false ∧ Hid (LmW w B (B + 1) (lmM true va k vc) [.int .i64 2, .int .i64 0] [.int .i64 (L : Int), .int .i64 (S : Int), .slice (some ⟨B + 1, 0, none⟩) 1 1] (lmC B) wc) ∧ Hid (Below wr.heap.size wr wc))
        case first =>
          have p0 := M4.f.cell 0
          have p1 := M4.f.cell 1
          have p2 := M4.f.cell 2
          have p3 := M4.f.cell 3
          have p4 := M4.f.cell 4
          have p5 := M4.f.cell 5
          have p6 := M4.f.cell 6
          have p7 := M4.f.cell 7
          have p8 := M4.f.cell 8
          have p9 := M4.f.cell 9
          simp only [List.getElem?_cons_succ, List.getElem?_cons_zero] at p0 p1 p2 p3 p4 p5 p6 p7 p8 p9
          have HF := Lib.hid (lm_file (b := ⟨(L : Int), (S : Int), [(2, 0)]⟩) M4 (HSL4.out _ HK4.out) (Sl.one M4.c rfl))
          clear M4
          go_wp2_with fail
          refine (right11 (limF true k ⟨(L : Int), (S : Int), [(2, 0)]⟩) _ W4 HF.out (HT.out.below HL4.out.below)).mono ?_
          rintro e w4 ⟨r, rfl, hr, hb⟩
          have hiff := hr.trans ((lim_iff true k hP _).trans (lim1 true k L S))
          rw [HG.out] at hiff
          have HL5 := Lib.hid (HL4.out.next hb)
          have HK5 : Hid (Below wr.heap.size wr w4) := Lib.hid (HK4.out.trans (hb.mono HK4.out.size))
          clear hr hb p0 p1 p2 p3 p4 p5 p6 p7 p8 p9 HF
          by_cases c1 : k ≤ L
          · have d1 : decide ((k : Int) ≤ (L : Int)) = true := decide_eq_true (by omega)
            have d1n : decide (k ≤ L) = true := decide_eq_true c1
            by_cases c2 : L ≤ 401
            · have d2 : decide ((L : Int) ≤ 401) = true := decide_eq_true (by omega)
              obtain rfl : r = decide ((S : Int) ≤ 1000) := by rw [Bool.eq_iff_iff, hiff, decide_eq_true_eq]; omega
              clear hiff
              go_wp2_with fail
              all_goals first | (exfalso; omega) | (go_meet; exact ⟨by simp, HL5, HK5⟩)
            · have d2 : decide ((L : Int) ≤ 401) = false := decide_eq_false (by omega)
              obtain rfl : r = false := by rw [Bool.eq_false_iff, Ne, hiff]; omega
              clear hiff
              go_wp2_with fail
              all_goals first | (exfalso; omega) | (go_meet; exact ⟨rfl, HL5, HK5⟩)
          · have d1 : decide ((k : Int) ≤ (L : Int)) = false := decide_eq_false (by omega)
            have d1n : decide (k ≤ L) = false := decide_eq_false c1
            obtain rfl : r = false := by rw [Bool.eq_false_iff, Ne, hiff]; omega
            clear hiff
            go_wp2_with fail
            all_goals first | (exfalso; omega) | (go_meet; exact ⟨rfl, HL5, HK5⟩)
        case rest =>
          obtain ⟨rfl, HL5, HK5⟩ := hcut
          clear HL4 HK4 M4
          have p9 := HL5.out.f.cell 9
          have b0 := HL5.out.b.cell 0
          have b1 := HL5.out.b.cell 1
          have b2 := HL5.out.b.cell 2
          have f0 := HL5.out.b.frozen 0
          have f1 := HL5.out.b.frozen 1
          have f2 := HL5.out.b.frozen 2
          simp only [List.getElem?_cons_succ, List.getElem?_cons_zero] at p9 b0 b1 b2
          have hlt := HL5.out.b.lt
          have M6 := HL5.out.next (below1 wc (.cells #[.int .i64 code, .int .i64 a, .int .i64 2, .int .i64 0] 66))
          have c0 := M6.b.cell 0
          have c1 := M6.b.cell 1
          have c2 := M6.b.cell 2
          have g0 := M6.b.frozen 0
          have g1 := M6.b.frozen 1
          have g2 := M6.b.frozen 2
          simp only [List.getElem?_cons_succ, List.getElem?_cons_zero] at c0 c1 c2
          clear M6
          obtain ⟨W7, HW7⟩ : ∃ W, Hid (W = (((wc.setCell ⟨B + 1 + 1, 0, none⟩ (.int .i64 8)).setCell ⟨B + 1 + 1, 1, none⟩ (.int .i64 0)).setCell ⟨B + 1 + 1, 2, none⟩ (.slice (some ⟨wc.heap.size, 0, none⟩) 2 2)).alloc (.cells #[.int .i64 code, .int .i64 a, .int .i64 2, .int .i64 0] 66)) := ⟨_, Lib.hid rfl⟩
          have HL7 : Hid (LmW w B wc.heap.size (lmM true va k vc) [.int .i64 code, .int .i64 a, .int .i64 2, .int .i64 0] [.int .i64 8, .int .i64 0, .slice (some ⟨wc.heap.size, 0, none⟩) 2 2] (lmC B) W7) := Lib.hid (by
            rw [HW7.out]
            have hm := ((HL5.out.m.st (p := ⟨B + 1 + 1, 0, none⟩) (by show B ≠ B + 1 + 1; omega) (v := .int .i64 8)).st (p := ⟨B + 1 + 1, 1, none⟩) (by show B ≠ B + 1 + 1; omega) (v := .int .i64 0)).st (p := ⟨B + 1 + 1, 2, none⟩) (by show B ≠ B + 1 + 1; omega) (v := .slice (some ⟨wc.heap.size, 0, none⟩) 2 2)
            have hf := ((HL5.out.f.st (p := ⟨B + 1 + 1, 0, none⟩) (by show B + 1 + 1 + 1 ≠ B + 1 + 1; omega) (v := .int .i64 8)).st (p := ⟨B + 1 + 1, 1, none⟩) (by show B + 1 + 1 + 1 ≠ B + 1 + 1; omega) (v := .int .i64 0)).st (p := ⟨B + 1 + 1, 2, none⟩) (by show B + 1 + 1 + 1 ≠ B + 1 + 1; omega) (v := .slice (some ⟨wc.heap.size, 0, none⟩) 2 2)
            have hb := ((HL5.out.b.set 0 (.int .i64 8)).set 1 (.int .i64 0)).set 2 (.slice (some ⟨wc.heap.size, 0, none⟩) 2 2)
            have hw : Below w.heap.size w (((wc.setCell ⟨B + 1 + 1, 0, none⟩ (.int .i64 8)).setCell ⟨B + 1 + 1, 1, none⟩ (.int .i64 0)).setCell ⟨B + 1 + 1, 2, none⟩ (.slice (some ⟨wc.heap.size, 0, none⟩) 2 2)) := ((HL5.out.below.setCell (by show w.heap.size ≤ B + 1 + 1; rw [HBB.out]; have := hbr.size; omega) _).setCell (by show w.heap.size ≤ B + 1 + 1; rw [HBB.out]; have := hbr.size; omega) _).setCell (by show w.heap.size ≤ B + 1 + 1; rw [HBB.out]; have := hbr.size; omega) _
            have h0 := below1 (((wc.setCell ⟨B + 1 + 1, 0, none⟩ (.int .i64 8)).setCell ⟨B + 1 + 1, 1, none⟩ (.int .i64 0)).setCell ⟨B + 1 + 1, 2, none⟩ (.slice (some ⟨wc.heap.size, 0, none⟩) 2 2)) (.cells #[.int .i64 code, .int .i64 a, .int .i64 2, .int .i64 0] 66)
            refine ⟨hm.below h0, ?_, hb.below h0, hf.below h0, bl_al' hw⟩
            have := Blk.new (((wc.setCell ⟨B + 1 + 1, 0, none⟩ (.int .i64 8)).setCell ⟨B + 1 + 1, 1, none⟩ (.int .i64 0)).setCell ⟨B + 1 + 1, 2, none⟩ (.slice (some ⟨wc.heap.size, 0, none⟩) 2 2)) [.int .i64 code, .int .i64 a, .int .i64 2, .int .i64 0] 66
            simpa [World.setCell] using this)
          have HK7 : Hid (Below wr.heap.size wr W7) := Lib.hid (by
            rw [HW7.out]
            exact bl_al' (((HK5.out.setCell (by show wr.heap.size ≤ B + 1 + 1; rw [HBB.out]; omega) _).setCell (by show wr.heap.size ≤ B + 1 + 1; rw [HBB.out]; omega) _).setCell (by show wr.heap.size ≤ B + 1 + 1; rw [HBB.out]; omega) _))
          go_upto_region 18 with fail
          rw [← HW7.out]
          clear HW7 HL5 HK5 p9 b0 b1 b2 f0 f1 f2 c0 c1 c2 g0 g1 g2 hlt
          generalize wc.heap.size = D at *
          have p9 := HL7.out.f.cell 9
          have b2 := HL7.out.b.cell 2
          have d0 := HL7.out.c.cell 0
          have d1 := HL7.out.c.cell 1
          simp only [List.getElem?_cons_succ, List.getElem?_cons_zero] at p9 b2 d0 d1
          obtain ⟨W8, HW8⟩ : ∃ W, Hid (W = W7.alloc (.cells #[.int .i64 code, .int .i64 a] 66)) := ⟨_, Lib.hid rfl⟩
          have HX8 : Hid (Blk W8 W7.heap.size [.int .i64 code, .int .i64 a] 66) := Lib.hid (by rw [HW8.out]; exact Blk.new W7 [.int .i64 code, .int .i64 a] 66)
          have HL8 : Hid (LmW w B D (lmM true va k vc) [.int .i64 code, .int .i64 a, .int .i64 2, .int .i64 0] [.int .i64 8, .int .i64 0, .slice (some ⟨D, 0, none⟩) 2 2] (lmC B) W8) := Lib.hid (by rw [HW8.out]; exact HL7.out.next (below1 _ _))
          have HK8 : Hid (Below wr.heap.size wr W8) := Lib.hid (by rw [HW8.out]; exact bl_al' HK7.out)
          go_upto_region 19 with fail
          rw [← HW8.out]
          clear HW8 HL7 HK7 p9 b2 d0 d1
          have x0 := HX8.out.cell 0
          simp only [List.getElem?_cons_zero] at x0
          have HO8 := Lib.hid (pool10 code W8 (HT.out.below HL8.out.below))
          have HL9 := HL8
          have HK9 := HK8
          have HQC := Lib.hid (limQ_cases code a)
          have HQC2 := Lib.hid (lim_cases2 code a)
          obtain ⟨OK, HOK⟩ : ∃ b, Hid (b = limOk code a) := ⟨_, Lib.hid rfl⟩
          obtain ⟨QQ, HQQ⟩ : ∃ b, Hid (b = limQ code a) := ⟨_, Lib.hid rfl⟩
          go_cut [18] from 86 to 98 (fun s18 wc => s18 = .bool QQ ∧ wc = W8)
          case first =>
            have hc := HQC.out
            rw [← HQQ.out] at hc
            clear HQQ HQC HQC2 HOK
            generalize poolN (kd code) = PP at *
            rcases hc with ⟨hk, rfl⟩ | ⟨hk, rfl, rfl⟩ | ⟨hk, m0, rfl⟩
            · have HK := Lib.hid (known_out code hk W8)
              clear hk
              go_wp2_with (first
                | (go_at_call 23; (with_reducible refine (HK.out).mono ?_); rintro e w' ⟨rfl, rfl⟩)
                | (go_at_call 24; (with_reducible refine (HO8.out).mono ?_); rintro e w' ⟨rfl, rfl⟩))
              all_goals first | (exfalso; omega) | (go_meet; exact ⟨rfl, rfl⟩)
            · have HK := Lib.hid (known8 code W8)
              rw [show (decide (1 ≤ code) && decide (code ≤ 32)) = true by simp [hk.1, hk.2]] at HK
              clear hk
              go_wp2_with (first
                | (go_at_call 23; (with_reducible refine (HK.out).mono ?_); rintro e w' ⟨rfl, rfl⟩)
                | (go_at_call 24; (with_reducible refine (HO8.out).mono ?_); rintro e w' ⟨rfl, rfl⟩))
              all_goals first | (exfalso; omega) | (go_meet; exact ⟨by first | rfl | simp_all, rfl⟩)
            · have HK := Lib.hid (known8 code W8)
              rw [show (decide (1 ≤ code) && decide (code ≤ 32)) = true by simp [hk.1, hk.2]] at HK
              clear hk
              go_wp2_with (first
                | (go_at_call 23; (with_reducible refine (HK.out).mono ?_); rintro e w' ⟨rfl, rfl⟩)
                | (go_at_call 24; (with_reducible refine (HO8.out).mono ?_); rintro e w' ⟨rfl, rfl⟩))
              all_goals first | (exfalso; omega) | (go_meet; exact ⟨rfl, rfl⟩)
          case rest =>
            obtain ⟨rfl, rfl⟩ := hcut
            go_wp2_with fail
            refine HO8.out.mono ?_
            rintro e w' ⟨rfl, rfl⟩
            have HLA := HL9
            have HKA := HK9
            clear HL8 HK8 HL9 HK9 HO8 x0 HX8 HQC
            have hc := HQC2.out
            rw [← HQQ.out, ← HOK.out] at hc
            clear HQQ HQC2
            have p0 := HLA.out.f.cell 0
            have p1 := HLA.out.f.cell 1
            have p2 := HLA.out.f.cell 2
            have p3 := HLA.out.f.cell 3
            have p4 := HLA.out.f.cell 4
            have p5 := HLA.out.f.cell 5
            have p6 := HLA.out.f.cell 6
            have p7 := HLA.out.f.cell 7
            have p8 := HLA.out.f.cell 8
            have p9 := HLA.out.f.cell 9
            simp only [List.getElem?_cons_succ, List.getElem?_cons_zero] at p0 p1 p2 p3 p4 p5 p6 p7 p8 p9
            have HF := Lib.hid (lm_file (b := ⟨8, 0, [(code, a), (2, 0)]⟩) HLA.out (HSL4.out _ HKA.out) (Sl.two HLA.out.c))
            generalize hPP : poolN (kd code) = PP at *
            clear hPP
            rcases hc with ⟨rfl, hq⟩ | ⟨rfl, ⟨h0, hq⟩ | ⟨h0, hq⟩⟩ | ⟨rfl | rfl, ⟨h0, hq⟩ | ⟨h0, hq⟩⟩ | ⟨⟨n1, n2, n3⟩, hq⟩
            · skip
              have HQ := Lib.hid hq
              clear hq
              go_wp2_with fail
              all_goals first | (exfalso; omega) | skip
              all_goals (
                refine (right11 (limF true k ⟨8, 0, [(code, a), (2, 0)]⟩) _ wc (HF.out) (HT.out.below HLA.out.below)).mono ?_
                rintro e w9 ⟨r, rfl, hr, hb⟩
                have hiff := hr.trans ((lim_iff true k hP _).trans (lim2 true k hP code a))
                have HB9 : Hid (Below w.heap.size w w9) := Lib.hid (HLA.out.below.trans (hb.mono HLA.out.below.size))
                have hrX : r = QQ := (show r = OK by rw [HOK.out, Bool.eq_iff_iff]; exact hiff).trans HQ.out
                rw [hrX]
                have hee : ((QQ : Bool) == (QQ : Bool)) = true := by simp
                clear hrX hr hb hiff p0 p1 p2 p3 p4 p5 p6 p7 p8 p9 HF HLA HKA
                go_wp2
                go_ret
                exact ⟨rfl, HB9.out⟩)
            · have e0 : decide (0 ≤ a) = true := decide_eq_true (by omega)
              have HQ := Lib.hid hq
              clear hq
              go_wp2_with fail
              all_goals first | (exfalso; omega) | skip
              all_goals (
                refine (right11 (limF true k ⟨8, 0, [(code, a), (2, 0)]⟩) _ wc (HF.out) (HT.out.below HLA.out.below)).mono ?_
                rintro e w9 ⟨r, rfl, hr, hb⟩
                have hiff := hr.trans ((lim_iff true k hP _).trans (lim2 true k hP code a))
                have HB9 : Hid (Below w.heap.size w w9) := Lib.hid (HLA.out.below.trans (hb.mono HLA.out.below.size))
                have hrX : r = decide (a < 8) := (show r = OK by rw [HOK.out, Bool.eq_iff_iff]; exact hiff).trans HQ.out
                rw [hrX]
                have hee : ((decide (a < 8) : Bool) == (decide (a < 8) : Bool)) = true := by simp
                clear hrX hr hb hiff p0 p1 p2 p3 p4 p5 p6 p7 p8 p9 HF HLA HKA
                go_wp2
                go_ret
                exact ⟨rfl, HB9.out⟩)
            · have e0 : decide (0 ≤ a) = false := decide_eq_false (by omega)
              have HQ := Lib.hid hq
              clear hq
              go_wp2_with fail
              all_goals first | (exfalso; omega) | skip
              all_goals (
                refine (right11 (limF true k ⟨8, 0, [(code, a), (2, 0)]⟩) _ wc (HF.out) (HT.out.below HLA.out.below)).mono ?_
                rintro e w9 ⟨r, rfl, hr, hb⟩
                have hiff := hr.trans ((lim_iff true k hP _).trans (lim2 true k hP code a))
                have HB9 : Hid (Below w.heap.size w w9) := Lib.hid (HLA.out.below.trans (hb.mono HLA.out.below.size))
                have hrX : r = false := (show r = OK by rw [HOK.out, Bool.eq_iff_iff]; exact hiff).trans HQ.out
                rw [hrX]
                have hee : ((false : Bool) == (false : Bool)) = true := by simp
                clear hrX hr hb hiff p0 p1 p2 p3 p4 p5 p6 p7 p8 p9 HF HLA HKA
                go_wp2
                go_ret
                exact ⟨rfl, HB9.out⟩)
            · have e0 : decide (0 ≤ a) = true := decide_eq_true (by omega)
              have HQ := Lib.hid hq
              clear hq
              go_wp2_with fail
              all_goals first | (exfalso; omega) | skip
              all_goals (
                refine (right11 (limF true k ⟨8, 0, [(code, a), (2, 0)]⟩) _ wc (HF.out) (HT.out.below HLA.out.below)).mono ?_
                rintro e w9 ⟨r, rfl, hr, hb⟩
                have hiff := hr.trans ((lim_iff true k hP _).trans (lim2 true k hP code a))
                have HB9 : Hid (Below w.heap.size w w9) := Lib.hid (HLA.out.below.trans (hb.mono HLA.out.below.size))
                have hrX : r = decide (a < 2) := (show r = OK by rw [HOK.out, Bool.eq_iff_iff]; exact hiff).trans HQ.out
                rw [hrX]
                have hee : ((decide (a < 2) : Bool) == (decide (a < 2) : Bool)) = true := by simp
                clear hrX hr hb hiff p0 p1 p2 p3 p4 p5 p6 p7 p8 p9 HF HLA HKA
                go_wp2
                go_ret
                exact ⟨rfl, HB9.out⟩)
            · have e0 : decide (0 ≤ a) = false := decide_eq_false (by omega)
              have HQ := Lib.hid hq
              clear hq
              go_wp2_with fail
              all_goals first | (exfalso; omega) | skip
              all_goals (
                refine (right11 (limF true k ⟨8, 0, [(code, a), (2, 0)]⟩) _ wc (HF.out) (HT.out.below HLA.out.below)).mono ?_
                rintro e w9 ⟨r, rfl, hr, hb⟩
                have hiff := hr.trans ((lim_iff true k hP _).trans (lim2 true k hP code a))
                have HB9 : Hid (Below w.heap.size w w9) := Lib.hid (HLA.out.below.trans (hb.mono HLA.out.below.size))
                have hrX : r = false := (show r = OK by rw [HOK.out, Bool.eq_iff_iff]; exact hiff).trans HQ.out
                rw [hrX]
                have hee : ((false : Bool) == (false : Bool)) = true := by simp
                clear hrX hr hb hiff p0 p1 p2 p3 p4 p5 p6 p7 p8 p9 HF HLA HKA
                go_wp2
                go_ret
                exact ⟨rfl, HB9.out⟩)
            · have e0 : decide (0 ≤ a) = true := decide_eq_true (by omega)
              have HQ := Lib.hid hq
              clear hq
              go_wp2_with fail
              all_goals first | (exfalso; omega) | skip
              all_goals (
                refine (right11 (limF true k ⟨8, 0, [(code, a), (2, 0)]⟩) _ wc (HF.out) (HT.out.below HLA.out.below)).mono ?_
                rintro e w9 ⟨r, rfl, hr, hb⟩
                have hiff := hr.trans ((lim_iff true k hP _).trans (lim2 true k hP code a))
                have HB9 : Hid (Below w.heap.size w w9) := Lib.hid (HLA.out.below.trans (hb.mono HLA.out.below.size))
                have hrX : r = decide (a < 2) := (show r = OK by rw [HOK.out, Bool.eq_iff_iff]; exact hiff).trans HQ.out
                rw [hrX]
                have hee : ((decide (a < 2) : Bool) == (decide (a < 2) : Bool)) = true := by simp
                clear hrX hr hb hiff p0 p1 p2 p3 p4 p5 p6 p7 p8 p9 HF HLA HKA
                go_wp2
                go_ret
                exact ⟨rfl, HB9.out⟩)
            · have e0 : decide (0 ≤ a) = false := decide_eq_false (by omega)
              have HQ := Lib.hid hq
              clear hq
              go_wp2_with fail
              all_goals first | (exfalso; omega) | skip
              all_goals (
                refine (right11 (limF true k ⟨8, 0, [(code, a), (2, 0)]⟩) _ wc (HF.out) (HT.out.below HLA.out.below)).mono ?_
                rintro e w9 ⟨r, rfl, hr, hb⟩
                have hiff := hr.trans ((lim_iff true k hP _).trans (lim2 true k hP code a))
                have HB9 : Hid (Below w.heap.size w w9) := Lib.hid (HLA.out.below.trans (hb.mono HLA.out.below.size))
                have hrX : r = false := (show r = OK by rw [HOK.out, Bool.eq_iff_iff]; exact hiff).trans HQ.out
                rw [hrX]
                have hee : ((false : Bool) == (false : Bool)) = true := by simp
                clear hrX hr hb hiff p0 p1 p2 p3 p4 p5 p6 p7 p8 p9 HF HLA HKA
                go_wp2
                go_ret
                exact ⟨rfl, HB9.out⟩)
            · have m1 : (PP == 108) = false := by simpa using n1
              have m2 : (PP == 106) = false := by simpa using n2
              have m3 : (PP == 98) = false := by simpa using n3
              clear n1 n2 n3
              have HQ := Lib.hid hq
              clear hq
              go_wp2_with fail
              all_goals first | (exfalso; omega) | skip
              all_goals (
                refine (right11 (limF true k ⟨8, 0, [(code, a), (2, 0)]⟩) _ wc (HF.out) (HT.out.below HLA.out.below)).mono ?_
                rintro e w9 ⟨r, rfl, hr, hb⟩
                have hiff := hr.trans ((lim_iff true k hP _).trans (lim2 true k hP code a))
                have HB9 : Hid (Below w.heap.size w w9) := Lib.hid (HLA.out.below.trans (hb.mono HLA.out.below.size))
                have hrX : r = QQ := (show r = OK by rw [HOK.out, Bool.eq_iff_iff]; exact hiff).trans HQ.out
                rw [hrX]
                have hee : ((QQ : Bool) == (QQ : Bool)) = true := by simp
                clear hrX hr hb hiff p0 p1 p2 p3 p4 p5 p6 p7 p8 p9 HF HLA HKA
                go_wp2
                go_ret
                exact ⟨rfl, HB9.out⟩)
      | false =>
        have HG : Hid (givenN (limS false k) = k + 1) := Lib.hid (by simp [givenN, limS])
        obtain ⟨B, HBB⟩ : ∃ b, Hid (b = wr.heap.size) := ⟨_, Lib.hid rfl⟩
        obtain ⟨W4, HW4⟩ : ∃ W, Hid (W = (((wr.alloc (.cells #[.string ⟨#[109]⟩, .bool false, .slice va k vc, .string ⟨#[105, 110, 116]⟩, .bool false] 63)).alloc (.cells #[.int .i64 2, .int .i64 0] 66)).alloc (.cells #[.int .i64 (L : Int), .int .i64 (S : Int), .slice (some ⟨wr.heap.size + 1, 0, none⟩) 1 1] 69)).alloc (.cells #[.string ⟨#[65]⟩, .string ⟨#[]⟩, .slice none 0 0, .slice (some ⟨wr.heap.size, 0, none⟩) 1 1, .slice none 0 0, .slice none 0 0, .slice none 0 0, .slice none 0 0, .slice none 0 0, .slice (some ⟨wr.heap.size + 1 + 1, 0, none⟩) 1 1] 35)) := ⟨_, Lib.hid rfl⟩
        have HL4 : Hid (LmW w B (B + 1) (lmM false va k vc) [.int .i64 2, .int .i64 0] [.int .i64 (L : Int), .int .i64 (S : Int), .slice (some ⟨B + 1, 0, none⟩) 1 1] (lmC B) W4) := Lib.hid (by
          rw [HW4.out, HBB.out]
          have b1 := below1 wr (.cells #[.string ⟨#[109]⟩, .bool false, .slice va k vc, .string ⟨#[105, 110, 116]⟩, .bool false] 63)
          have b2 := below1 (wr.alloc (.cells #[.string ⟨#[109]⟩, .bool false, .slice va k vc, .string ⟨#[105, 110, 116]⟩, .bool false] 63)) (.cells #[.int .i64 2, .int .i64 0] 66)
          have b3 := below1 ((wr.alloc (.cells #[.string ⟨#[109]⟩, .bool false, .slice va k vc, .string ⟨#[105, 110, 116]⟩, .bool false] 63)).alloc (.cells #[.int .i64 2, .int .i64 0] 66)) (.cells #[.int .i64 (L : Int), .int .i64 (S : Int), .slice (some ⟨wr.heap.size + 1, 0, none⟩) 1 1] 69)
          have b4 := below1 (((wr.alloc (.cells #[.string ⟨#[109]⟩, .bool false, .slice va k vc, .string ⟨#[105, 110, 116]⟩, .bool false] 63)).alloc (.cells #[.int .i64 2, .int .i64 0] 66)).alloc (.cells #[.int .i64 (L : Int), .int .i64 (S : Int), .slice (some ⟨wr.heap.size + 1, 0, none⟩) 1 1] 69)) (.cells (lmC wr.heap.size).toArray 35)
          have e1 := (((Blk.new wr (lmM false va k vc) 63).below b2).below b3).below b4
          have e2 := ((Blk.new (wr.alloc (.cells (lmM false va k vc).toArray 63)) [.int .i64 2, .int .i64 0] 66).below b3).below b4
          have e3 := (Blk.new ((wr.alloc (.cells (lmM false va k vc).toArray 63)).alloc (.cells #[.int .i64 2, .int .i64 0] 66)) [.int .i64 (L : Int), .int .i64 (S : Int), .slice (some ⟨wr.heap.size + 1, 0, none⟩) 1 1] 69).below b4
          have e4 := Blk.new (((wr.alloc (.cells (lmM false va k vc).toArray 63)).alloc (.cells #[.int .i64 2, .int .i64 0] 66)).alloc (.cells #[.int .i64 (L : Int), .int .i64 (S : Int), .slice (some ⟨wr.heap.size + 1, 0, none⟩) 1 1] 69)) (lmC wr.heap.size) 35
          simp only [alsz] at e2 e3 e4
          exact ⟨e1, e2, e3, e4, bl_al' (bl_al' (bl_al' (bl_al' hbr)))⟩)
        have HSL4 : Hid (∀ z, Below wr.heap.size wr z → Sl z 2 TyR (List.replicate k intT) (.slice va k vc)) := Lib.hid (fun z hz => tys_keep (Keeps.of_below hz) HSL.out)
        have HK4 : Hid (Below wr.heap.size wr W4) := Lib.hid (by rw [HW4.out]; exact bl_al' (bl_al' (bl_al' (below1 wr _))))
        go_upto_region 15 with fail
        rw [← HW4.out, ← HBB.out]
        clear HW4 HS q0 q1 q2 q3 q4 HSL
        have M4 := HL4.out
        go_cut [69] from 56 to 69 (fun s69 wc => s69 = .bool false ∧ Hid (LmW w B (B + 1) (lmM false va k vc) [.int .i64 2, .int .i64 0] [.int .i64 (L : Int), .int .i64 (S : Int), .slice (some ⟨B + 1, 0, none⟩) 1 1] (lmC B) wc) ∧ Hid (Below wr.heap.size wr wc))
        case first =>
          have p0 := M4.f.cell 0
          have p1 := M4.f.cell 1
          have p2 := M4.f.cell 2
          have p3 := M4.f.cell 3
          have p4 := M4.f.cell 4
          have p5 := M4.f.cell 5
          have p6 := M4.f.cell 6
          have p7 := M4.f.cell 7
          have p8 := M4.f.cell 8
          have p9 := M4.f.cell 9
          simp only [List.getElem?_cons_succ, List.getElem?_cons_zero] at p0 p1 p2 p3 p4 p5 p6 p7 p8 p9
          have HF := Lib.hid (lm_file (b := ⟨(L : Int), (S : Int), [(2, 0)]⟩) M4 (HSL4.out _ HK4.out) (Sl.one M4.c rfl))
          clear M4
          go_wp2_with fail
          refine (right11 (limF false k ⟨(L : Int), (S : Int), [(2, 0)]⟩) _ W4 HF.out (HT.out.below HL4.out.below)).mono ?_
          rintro e w4 ⟨r, rfl, hr, hb⟩
          have hiff := hr.trans ((lim_iff false k hP _).trans (lim1 false k L S))
          rw [HG.out] at hiff
          have HL5 := Lib.hid (HL4.out.next hb)
          have HK5 : Hid (Below wr.heap.size wr w4) := Lib.hid (HK4.out.trans (hb.mono HK4.out.size))
          clear hr hb p0 p1 p2 p3 p4 p5 p6 p7 p8 p9 HF
          by_cases c1 : k + 1 ≤ L
          · have d1 : decide (((k : Int) + 1) ≤ (L : Int)) = true := decide_eq_true (by omega)
            have d1n : decide (k + 1 ≤ L) = true := decide_eq_true c1
            by_cases c2 : L ≤ 401
            · have d2 : decide ((L : Int) ≤ 401) = true := decide_eq_true (by omega)
              obtain rfl : r = decide ((S : Int) ≤ 1000) := by rw [Bool.eq_iff_iff, hiff, decide_eq_true_eq]; omega
              clear hiff
              go_wp2_with fail
              all_goals first | (exfalso; omega) | (go_meet; exact ⟨by simp, HL5, HK5⟩)
            · have d2 : decide ((L : Int) ≤ 401) = false := decide_eq_false (by omega)
              obtain rfl : r = false := by rw [Bool.eq_false_iff, Ne, hiff]; omega
              clear hiff
              go_wp2_with fail
              all_goals first | (exfalso; omega) | (go_meet; exact ⟨rfl, HL5, HK5⟩)
          · have d1 : decide (((k : Int) + 1) ≤ (L : Int)) = false := decide_eq_false (by omega)
            have d1n : decide (k + 1 ≤ L) = false := decide_eq_false c1
            obtain rfl : r = false := by rw [Bool.eq_false_iff, Ne, hiff]; omega
            clear hiff
            go_wp2_with fail
            all_goals first | (exfalso; omega) | (go_meet; exact ⟨rfl, HL5, HK5⟩)
        case rest =>
          obtain ⟨rfl, HL5, HK5⟩ := hcut
          clear HL4 HK4 M4
          have p9 := HL5.out.f.cell 9
          have b0 := HL5.out.b.cell 0
          have b1 := HL5.out.b.cell 1
          have b2 := HL5.out.b.cell 2
          have f0 := HL5.out.b.frozen 0
          have f1 := HL5.out.b.frozen 1
          have f2 := HL5.out.b.frozen 2
          simp only [List.getElem?_cons_succ, List.getElem?_cons_zero] at p9 b0 b1 b2
          have hlt := HL5.out.b.lt
          have M6 := HL5.out.next (below1 wc (.cells #[.int .i64 code, .int .i64 a, .int .i64 2, .int .i64 0] 66))
          have c0 := M6.b.cell 0
          have c1 := M6.b.cell 1
          have c2 := M6.b.cell 2
          have g0 := M6.b.frozen 0
          have g1 := M6.b.frozen 1
          have g2 := M6.b.frozen 2
          simp only [List.getElem?_cons_succ, List.getElem?_cons_zero] at c0 c1 c2
          clear M6
          obtain ⟨W7, HW7⟩ : ∃ W, Hid (W = (((wc.setCell ⟨B + 1 + 1, 0, none⟩ (.int .i64 8)).setCell ⟨B + 1 + 1, 1, none⟩ (.int .i64 0)).setCell ⟨B + 1 + 1, 2, none⟩ (.slice (some ⟨wc.heap.size, 0, none⟩) 2 2)).alloc (.cells #[.int .i64 code, .int .i64 a, .int .i64 2, .int .i64 0] 66)) := ⟨_, Lib.hid rfl⟩
          have HL7 : Hid (LmW w B wc.heap.size (lmM false va k vc) [.int .i64 code, .int .i64 a, .int .i64 2, .int .i64 0] [.int .i64 8, .int .i64 0, .slice (some ⟨wc.heap.size, 0, none⟩) 2 2] (lmC B) W7) := Lib.hid (by
            rw [HW7.out]
            have hm := ((HL5.out.m.st (p := ⟨B + 1 + 1, 0, none⟩) (by show B ≠ B + 1 + 1; omega) (v := .int .i64 8)).st (p := ⟨B + 1 + 1, 1, none⟩) (by show B ≠ B + 1 + 1; omega) (v := .int .i64 0)).st (p := ⟨B + 1 + 1, 2, none⟩) (by show B ≠ B + 1 + 1; omega) (v := .slice (some ⟨wc.heap.size, 0, none⟩) 2 2)
            have hf := ((HL5.out.f.st (p := ⟨B + 1 + 1, 0, none⟩) (by show B + 1 + 1 + 1 ≠ B + 1 + 1; omega) (v := .int .i64 8)).st (p := ⟨B + 1 + 1, 1, none⟩) (by show B + 1 + 1 + 1 ≠ B + 1 + 1; omega) (v := .int .i64 0)).st (p := ⟨B + 1 + 1, 2, none⟩) (by show B + 1 + 1 + 1 ≠ B + 1 + 1; omega) (v := .slice (some ⟨wc.heap.size, 0, none⟩) 2 2)
            have hb := ((HL5.out.b.set 0 (.int .i64 8)).set 1 (.int .i64 0)).set 2 (.slice (some ⟨wc.heap.size, 0, none⟩) 2 2)
            have hw : Below w.heap.size w (((wc.setCell ⟨B + 1 + 1, 0, none⟩ (.int .i64 8)).setCell ⟨B + 1 + 1, 1, none⟩ (.int .i64 0)).setCell ⟨B + 1 + 1, 2, none⟩ (.slice (some ⟨wc.heap.size, 0, none⟩) 2 2)) := ((HL5.out.below.setCell (by show w.heap.size ≤ B + 1 + 1; rw [HBB.out]; have := hbr.size; omega) _).setCell (by show w.heap.size ≤ B + 1 + 1; rw [HBB.out]; have := hbr.size; omega) _).setCell (by show w.heap.size ≤ B + 1 + 1; rw [HBB.out]; have := hbr.size; omega) _
            have h0 := below1 (((wc.setCell ⟨B + 1 + 1, 0, none⟩ (.int .i64 8)).setCell ⟨B + 1 + 1, 1, none⟩ (.int .i64 0)).setCell ⟨B + 1 + 1, 2, none⟩ (.slice (some ⟨wc.heap.size, 0, none⟩) 2 2)) (.cells #[.int .i64 code, .int .i64 a, .int .i64 2, .int .i64 0] 66)
            refine ⟨hm.below h0, ?_, hb.below h0, hf.below h0, bl_al' hw⟩
            have := Blk.new (((wc.setCell ⟨B + 1 + 1, 0, none⟩ (.int .i64 8)).setCell ⟨B + 1 + 1, 1, none⟩ (.int .i64 0)).setCell ⟨B + 1 + 1, 2, none⟩ (.slice (some ⟨wc.heap.size, 0, none⟩) 2 2)) [.int .i64 code, .int .i64 a, .int .i64 2, .int .i64 0] 66
            simpa [World.setCell] using this)
          have HK7 : Hid (Below wr.heap.size wr W7) := Lib.hid (by
            rw [HW7.out]
            exact bl_al' (((HK5.out.setCell (by show wr.heap.size ≤ B + 1 + 1; rw [HBB.out]; omega) _).setCell (by show wr.heap.size ≤ B + 1 + 1; rw [HBB.out]; omega) _).setCell (by show wr.heap.size ≤ B + 1 + 1; rw [HBB.out]; omega) _))
          go_upto_region 18 with fail
          rw [← HW7.out]
          clear HW7 HL5 HK5 p9 b0 b1 b2 f0 f1 f2 c0 c1 c2 g0 g1 g2 hlt
          generalize wc.heap.size = D at *
          have p9 := HL7.out.f.cell 9
          have b2 := HL7.out.b.cell 2
          have d0 := HL7.out.c.cell 0
          have d1 := HL7.out.c.cell 1
          simp only [List.getElem?_cons_succ, List.getElem?_cons_zero] at p9 b2 d0 d1
          obtain ⟨W8, HW8⟩ : ∃ W, Hid (W = W7.alloc (.cells #[.int .i64 code, .int .i64 a] 66)) := ⟨_, Lib.hid rfl⟩
          have HX8 : Hid (Blk W8 W7.heap.size [.int .i64 code, .int .i64 a] 66) := Lib.hid (by rw [HW8.out]; exact Blk.new W7 [.int .i64 code, .int .i64 a] 66)
          have HL8 : Hid (LmW w B D (lmM false va k vc) [.int .i64 code, .int .i64 a, .int .i64 2, .int .i64 0] [.int .i64 8, .int .i64 0, .slice (some ⟨D, 0, none⟩) 2 2] (lmC B) W8) := Lib.hid (by rw [HW8.out]; exact HL7.out.next (below1 _ _))
          have HK8 : Hid (Below wr.heap.size wr W8) := Lib.hid (by rw [HW8.out]; exact bl_al' HK7.out)
          go_upto_region 19 with fail
          rw [← HW8.out]
          clear HW8 HL7 HK7 p9 b2 d0 d1
          have x0 := HX8.out.cell 0
          simp only [List.getElem?_cons_zero] at x0
          have HO8 := Lib.hid (pool10 code W8 (HT.out.below HL8.out.below))
          have HL9 := HL8
          have HK9 := HK8
          have HQC := Lib.hid (limQ_cases code a)
          have HQC2 := Lib.hid (lim_cases2 code a)
          obtain ⟨OK, HOK⟩ : ∃ b, Hid (b = limOk code a) := ⟨_, Lib.hid rfl⟩
          obtain ⟨QQ, HQQ⟩ : ∃ b, Hid (b = limQ code a) := ⟨_, Lib.hid rfl⟩
          go_cut [18] from 86 to 98 (fun s18 wc => s18 = .bool QQ ∧ wc = W8)
          case first =>
            have hc := HQC.out
            rw [← HQQ.out] at hc
            clear HQQ HQC HQC2 HOK
            generalize poolN (kd code) = PP at *
            rcases hc with ⟨hk, rfl⟩ | ⟨hk, rfl, rfl⟩ | ⟨hk, m0, rfl⟩
            · have HK := Lib.hid (known_out code hk W8)
              clear hk
              go_wp2_with (first
                | (go_at_call 23; (with_reducible refine (HK.out).mono ?_); rintro e w' ⟨rfl, rfl⟩)
                | (go_at_call 24; (with_reducible refine (HO8.out).mono ?_); rintro e w' ⟨rfl, rfl⟩))
              all_goals first | (exfalso; omega) | (go_meet; exact ⟨rfl, rfl⟩)
            · have HK := Lib.hid (known8 code W8)
              rw [show (decide (1 ≤ code) && decide (code ≤ 32)) = true by simp [hk.1, hk.2]] at HK
              clear hk
              go_wp2_with (first
                | (go_at_call 23; (with_reducible refine (HK.out).mono ?_); rintro e w' ⟨rfl, rfl⟩)
                | (go_at_call 24; (with_reducible refine (HO8.out).mono ?_); rintro e w' ⟨rfl, rfl⟩))
              all_goals first | (exfalso; omega) | (go_meet; exact ⟨by first | rfl | simp_all, rfl⟩)
            · have HK := Lib.hid (known8 code W8)
              rw [show (decide (1 ≤ code) && decide (code ≤ 32)) = true by simp [hk.1, hk.2]] at HK
              clear hk
              go_wp2_with (first
                | (go_at_call 23; (with_reducible refine (HK.out).mono ?_); rintro e w' ⟨rfl, rfl⟩)
                | (go_at_call 24; (with_reducible refine (HO8.out).mono ?_); rintro e w' ⟨rfl, rfl⟩))
              all_goals first | (exfalso; omega) | (go_meet; exact ⟨rfl, rfl⟩)
          case rest =>
            obtain ⟨rfl, rfl⟩ := hcut
            go_wp2_with fail
            refine HO8.out.mono ?_
            rintro e w' ⟨rfl, rfl⟩
            have HLA := HL9
            have HKA := HK9
            clear HL8 HK8 HL9 HK9 HO8 x0 HX8 HQC
            have hc := HQC2.out
            rw [← HQQ.out, ← HOK.out] at hc
            clear HQQ HQC2
            have p0 := HLA.out.f.cell 0
            have p1 := HLA.out.f.cell 1
            have p2 := HLA.out.f.cell 2
            have p3 := HLA.out.f.cell 3
            have p4 := HLA.out.f.cell 4
            have p5 := HLA.out.f.cell 5
            have p6 := HLA.out.f.cell 6
            have p7 := HLA.out.f.cell 7
            have p8 := HLA.out.f.cell 8
            have p9 := HLA.out.f.cell 9
            simp only [List.getElem?_cons_succ, List.getElem?_cons_zero] at p0 p1 p2 p3 p4 p5 p6 p7 p8 p9
            have HF := Lib.hid (lm_file (b := ⟨8, 0, [(code, a), (2, 0)]⟩) HLA.out (HSL4.out _ HKA.out) (Sl.two HLA.out.c))
            generalize hPP : poolN (kd code) = PP at *
            clear hPP
            rcases hc with ⟨rfl, hq⟩ | ⟨rfl, ⟨h0, hq⟩ | ⟨h0, hq⟩⟩ | ⟨rfl | rfl, ⟨h0, hq⟩ | ⟨h0, hq⟩⟩ | ⟨⟨n1, n2, n3⟩, hq⟩
            · skip
              have HQ := Lib.hid hq
              clear hq
              go_wp2_with fail
              all_goals first | (exfalso; omega) | skip
              all_goals (
                refine (right11 (limF false k ⟨8, 0, [(code, a), (2, 0)]⟩) _ wc (HF.out) (HT.out.below HLA.out.below)).mono ?_
                rintro e w9 ⟨r, rfl, hr, hb⟩
                have hiff := hr.trans ((lim_iff false k hP _).trans (lim2 false k hP code a))
                have HB9 : Hid (Below w.heap.size w w9) := Lib.hid (HLA.out.below.trans (hb.mono HLA.out.below.size))
                have hrX : r = QQ := (show r = OK by rw [HOK.out, Bool.eq_iff_iff]; exact hiff).trans HQ.out
                rw [hrX]
                have hee : ((QQ : Bool) == (QQ : Bool)) = true := by simp
                clear hrX hr hb hiff p0 p1 p2 p3 p4 p5 p6 p7 p8 p9 HF HLA HKA
                go_wp2
                go_ret
                exact ⟨rfl, HB9.out⟩)
            · have e0 : decide (0 ≤ a) = true := decide_eq_true (by omega)
              have HQ := Lib.hid hq
              clear hq
              go_wp2_with fail
              all_goals first | (exfalso; omega) | skip
              all_goals (
                refine (right11 (limF false k ⟨8, 0, [(code, a), (2, 0)]⟩) _ wc (HF.out) (HT.out.below HLA.out.below)).mono ?_
                rintro e w9 ⟨r, rfl, hr, hb⟩
                have hiff := hr.trans ((lim_iff false k hP _).trans (lim2 false k hP code a))
                have HB9 : Hid (Below w.heap.size w w9) := Lib.hid (HLA.out.below.trans (hb.mono HLA.out.below.size))
                have hrX : r = decide (a < 8) := (show r = OK by rw [HOK.out, Bool.eq_iff_iff]; exact hiff).trans HQ.out
                rw [hrX]
                have hee : ((decide (a < 8) : Bool) == (decide (a < 8) : Bool)) = true := by simp
                clear hrX hr hb hiff p0 p1 p2 p3 p4 p5 p6 p7 p8 p9 HF HLA HKA
                go_wp2
                go_ret
                exact ⟨rfl, HB9.out⟩)
            · have e0 : decide (0 ≤ a) = false := decide_eq_false (by omega)
              have HQ := Lib.hid hq
              clear hq
              go_wp2_with fail
              all_goals first | (exfalso; omega) | skip
              all_goals (
                refine (right11 (limF false k ⟨8, 0, [(code, a), (2, 0)]⟩) _ wc (HF.out) (HT.out.below HLA.out.below)).mono ?_
                rintro e w9 ⟨r, rfl, hr, hb⟩
                have hiff := hr.trans ((lim_iff false k hP _).trans (lim2 false k hP code a))
                have HB9 : Hid (Below w.heap.size w w9) := Lib.hid (HLA.out.below.trans (hb.mono HLA.out.below.size))
                have hrX : r = false := (show r = OK by rw [HOK.out, Bool.eq_iff_iff]; exact hiff).trans HQ.out
                rw [hrX]
                have hee : ((false : Bool) == (false : Bool)) = true := by simp
                clear hrX hr hb hiff p0 p1 p2 p3 p4 p5 p6 p7 p8 p9 HF HLA HKA
                go_wp2
                go_ret
                exact ⟨rfl, HB9.out⟩)
            · have e0 : decide (0 ≤ a) = true := decide_eq_true (by omega)
              have HQ := Lib.hid hq
              clear hq
              go_wp2_with fail
              all_goals first | (exfalso; omega) | skip
              all_goals (
                refine (right11 (limF false k ⟨8, 0, [(code, a), (2, 0)]⟩) _ wc (HF.out) (HT.out.below HLA.out.below)).mono ?_
                rintro e w9 ⟨r, rfl, hr, hb⟩
                have hiff := hr.trans ((lim_iff false k hP _).trans (lim2 false k hP code a))
                have HB9 : Hid (Below w.heap.size w w9) := Lib.hid (HLA.out.below.trans (hb.mono HLA.out.below.size))
                have hrX : r = decide (a < 2) := (show r = OK by rw [HOK.out, Bool.eq_iff_iff]; exact hiff).trans HQ.out
                rw [hrX]
                have hee : ((decide (a < 2) : Bool) == (decide (a < 2) : Bool)) = true := by simp
                clear hrX hr hb hiff p0 p1 p2 p3 p4 p5 p6 p7 p8 p9 HF HLA HKA
                go_wp2
                go_ret
                exact ⟨rfl, HB9.out⟩)
            · have e0 : decide (0 ≤ a) = false := decide_eq_false (by omega)
              have HQ := Lib.hid hq
              clear hq
              go_wp2_with fail
              all_goals first | (exfalso; omega) | skip
              all_goals (
                refine (right11 (limF false k ⟨8, 0, [(code, a), (2, 0)]⟩) _ wc (HF.out) (HT.out.below HLA.out.below)).mono ?_
                rintro e w9 ⟨r, rfl, hr, hb⟩
                have hiff := hr.trans ((lim_iff false k hP _).trans (lim2 false k hP code a))
                have HB9 : Hid (Below w.heap.size w w9) := Lib.hid (HLA.out.below.trans (hb.mono HLA.out.below.size))
                have hrX : r = false := (show r = OK by rw [HOK.out, Bool.eq_iff_iff]; exact hiff).trans HQ.out
                rw [hrX]
                have hee : ((false : Bool) == (false : Bool)) = true := by simp
                clear hrX hr hb hiff p0 p1 p2 p3 p4 p5 p6 p7 p8 p9 HF HLA HKA
                go_wp2
                go_ret
                exact ⟨rfl, HB9.out⟩)
            · have e0 : decide (0 ≤ a) = true := decide_eq_true (by omega)
              have HQ := Lib.hid hq
              clear hq
              go_wp2_with fail
              all_goals first | (exfalso; omega) | skip
              all_goals (
                refine (right11 (limF false k ⟨8, 0, [(code, a), (2, 0)]⟩) _ wc (HF.out) (HT.out.below HLA.out.below)).mono ?_
                rintro e w9 ⟨r, rfl, hr, hb⟩
                have hiff := hr.trans ((lim_iff false k hP _).trans (lim2 false k hP code a))
                have HB9 : Hid (Below w.heap.size w w9) := Lib.hid (HLA.out.below.trans (hb.mono HLA.out.below.size))
                have hrX : r = decide (a < 2) := (show r = OK by rw [HOK.out, Bool.eq_iff_iff]; exact hiff).trans HQ.out
                rw [hrX]
                have hee : ((decide (a < 2) : Bool) == (decide (a < 2) : Bool)) = true := by simp
                clear hrX hr hb hiff p0 p1 p2 p3 p4 p5 p6 p7 p8 p9 HF HLA HKA
                go_wp2
                go_ret
                exact ⟨rfl, HB9.out⟩)
            · have e0 : decide (0 ≤ a) = false := decide_eq_false (by omega)
              have HQ := Lib.hid hq
              clear hq
              go_wp2_with fail
              all_goals first | (exfalso; omega) | skip
              all_goals (
                refine (right11 (limF false k ⟨8, 0, [(code, a), (2, 0)]⟩) _ wc (HF.out) (HT.out.below HLA.out.below)).mono ?_
                rintro e w9 ⟨r, rfl, hr, hb⟩
                have hiff := hr.trans ((lim_iff false k hP _).trans (lim2 false k hP code a))
                have HB9 : Hid (Below w.heap.size w w9) := Lib.hid (HLA.out.below.trans (hb.mono HLA.out.below.size))
                have hrX : r = false := (show r = OK by rw [HOK.out, Bool.eq_iff_iff]; exact hiff).trans HQ.out
                rw [hrX]
                have hee : ((false : Bool) == (false : Bool)) = true := by simp
                clear hrX hr hb hiff p0 p1 p2 p3 p4 p5 p6 p7 p8 p9 HF HLA HKA
                go_wp2
                go_ret
                exact ⟨rfl, HB9.out⟩)
            · have m1 : (PP == 108) = false := by simpa using n1
              have m2 : (PP == 106) = false := by simpa using n2
              have m3 : (PP == 98) = false := by simpa using n3
              clear n1 n2 n3
              have HQ := Lib.hid hq
              clear hq
              go_wp2_with fail
              all_goals first | (exfalso; omega) | skip
              all_goals (
                refine (right11 (limF false k ⟨8, 0, [(code, a), (2, 0)]⟩) _ wc (HF.out) (HT.out.below HLA.out.below)).mono ?_
                rintro e w9 ⟨r, rfl, hr, hb⟩
                have hiff := hr.trans ((lim_iff false k hP _).trans (lim2 false k hP code a))
                have HB9 : Hid (Below w.heap.size w w9) := Lib.hid (HLA.out.below.trans (hb.mono HLA.out.below.size))
                have hrX : r = QQ := (show r = OK by rw [HOK.out, Bool.eq_iff_iff]; exact hiff).trans HQ.out
                rw [hrX]
                have hee : ((QQ : Bool) == (QQ : Bool)) = true := by simp
                clear hrX hr hb hiff p0 p1 p2 p3 p4 p5 p6 p7 p8 p9 HF HLA HKA
                go_wp2
                go_ret
                exact ⟨rfl, HB9.out⟩)
end Go.Proofs.YtomlbfkkhhhfkaaDoor.Fc
