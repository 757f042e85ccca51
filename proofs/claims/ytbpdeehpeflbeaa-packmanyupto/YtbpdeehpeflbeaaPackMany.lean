/-
  PackMany holds where what comes in is of bulk at most 1048576: for all lists of ints, texts, bools and int64s: several laid at once are as one laid behind the other; a nil Writer has laid nothing. The condition is the statement's own bound.
-/
import Derived.Test.YtbpdeehpeflbeaaRows
import Derived.Test.YtbpdeehpeflbeaaOpen
import Derived.Test.YtbpdeehpeflbeaaManyWalk
import Derived.WalkKit
import Derived.ProofKit
import Derived.OpenShut
import Derived.ShutString
import Derived.ChangeOld
import Derived.Below
import Derived.JoinedCond
namespace Go.Proofs.Ytbpdeehpeflbeaa.packMany
open Go.ChangeShapes Go.WideShapes Go.ChangeAt Go.RowKit
open Go.ChangeMaps (open_string shut_string)
set_option linter.unusedVariables false

theorem own : ownKnob Try.prog.godebug = none := by kernel_rfl
theorem laidOut : laidOutB Try.prog = true := by kernel_rfl

theorem part_le {H : Type} {d : DataW H} {l : List (DataW H)} (h : d ∈ l) : Rows.uptoBulk d ≤ Rows.uptoBulkAll l := by
  induction l with
  | nil => cases h
  | cons x r ih =>
    simp only [Rows.uptoBulkAll]
    cases List.mem_cons.1 h with
    | inl e => subst e; omega
    | inr e => have := ih e; omega

theorem texts_le {H : Type} (ts : List (List UInt8)) (h : ∀ t ∈ ts, t.length < 9223372036854775808) :
    (textAll ts).length ≤ 9 * ts.length + Rows.uptoBulkAll (ts.map fun s => DataW.lit (H := H) (.string s)) := by
  induction ts with
  | nil => simp [textAll]
  | cons t ts ih =>
    have h1 := enc_len9 t.length (h t (by simp))
    have h2 := ih (fun t ht => h t (by simp [ht]))
    simp only [textAll, List.flatMap_cons, List.length_append, List.length_cons, List.map_cons, Rows.uptoBulkAll, Rows.uptoBulk, textB] at *
    omega

set_option maxHeartbeats 800000 in
set_option maxRecDepth 100000 in
theorem many_1 (A B C D : Option Addr) (a b c d ca cb cc cd : Nat) (w : World) (h : 20 < a) :
    Calls Try.prog 4 #[.slice A a ca, .slice B b cb, .slice C c cc, .slice D d cd] w fun e w' => e = .returned (.bool true) ∧ Below w.heap.size w w' := by
  go_enter Try.func4, Try.ntmps4
  go_wp2_with fail
  refine (head_any w).mono ?_
  rintro e w1 ⟨rfl, hb1⟩
  go_wp2
  go_ret
  exact ⟨rfl, hb1⟩
set_option maxHeartbeats 800000 in
set_option maxRecDepth 100000 in
theorem many_2 (A B C D : Option Addr) (a b c d ca cb cc cd : Nat) (w : World) (h1 : decide (20 < (a : Int)) = false) (h : 20 < b) :
    Calls Try.prog 4 #[.slice A a ca, .slice B b cb, .slice C c cc, .slice D d cd] w fun e w' => e = .returned (.bool true) ∧ Below w.heap.size w w' := by
  go_enter Try.func4, Try.ntmps4
  go_wp2_with fail
  refine (head_any w).mono ?_
  rintro e w1 ⟨rfl, hb1⟩
  go_wp2
  go_ret
  exact ⟨rfl, hb1⟩
set_option maxHeartbeats 800000 in
set_option maxRecDepth 100000 in
theorem many_3 (A B C D : Option Addr) (a b c d ca cb cc cd : Nat) (w : World) (h1 : decide (20 < (a : Int)) = false) (h2 : decide (20 < (b : Int)) = false) (h : 20 < c) :
    Calls Try.prog 4 #[.slice A a ca, .slice B b cb, .slice C c cc, .slice D d cd] w fun e w' => e = .returned (.bool true) ∧ Below w.heap.size w w' := by
  go_enter Try.func4, Try.ntmps4
  go_wp2_with fail
  refine (head_any w).mono ?_
  rintro e w1 ⟨rfl, hb1⟩
  go_wp2
  go_ret
  exact ⟨rfl, hb1⟩
set_option maxHeartbeats 800000 in
set_option maxRecDepth 100000 in
theorem many_4 (A B C D : Option Addr) (a b c d ca cb cc cd : Nat) (w : World) (h1 : decide (20 < (a : Int)) = false) (h2 : decide (20 < (b : Int)) = false) (h3 : decide (20 < (c : Int)) = false) (h : 20 < d) :
    Calls Try.prog 4 #[.slice A a ca, .slice B b cb, .slice C c cc, .slice D d cd] w fun e w' => e = .returned (.bool true) ∧ Below w.heap.size w w' := by
  go_enter Try.func4, Try.ntmps4
  go_wp2_with fail
  refine (head_any w).mono ?_
  rintro e w1 ⟨rfl, hb1⟩
  go_wp2
  go_ret
  exact ⟨rfl, hb1⟩

theorem walk (zs : List Int) (ts : List (List UInt8)) (fs : List Bool) (is : List Int) (A B C D : Option Addr) (ca cb cc cd : Nat) (w : World)
    (hA : Arg w A (ints zs)) (hB : Arg w B (Ytbpdeehpeflbeaa.strs ts)) (hC : Arg w C (bools fs)) (hD : Arg w D (ints is))
    (hz : ∀ z ∈ zs, -9223372036854775808 ≤ z ∧ z ≤ 9223372036854775807) (hi : ∀ z ∈ is, -9223372036854775808 ≤ z ∧ z ≤ 9223372036854775807)
    (hT : ts.length ≤ 20 → (textAll ts).length ≤ 2000000) :
    Calls Try.prog 4 #[.slice A zs.length ca, .slice B ts.length cb, .slice C fs.length cc, .slice D is.length cd] w fun e w' => e = .returned (.bool true) ∧ Below w.heap.size w w' := by
  by_cases h1 : 20 < zs.length
  · exact many_1 A B C D _ _ _ _ ca cb cc cd w h1
  · have d1 : decide (20 < (zs.length : Int)) = false := decide_eq_false (by omega)
    by_cases h2 : 20 < ts.length
    · exact many_2 A B C D _ _ _ _ ca cb cc cd w d1 h2
    · have d2 : decide (20 < (ts.length : Int)) = false := decide_eq_false (by omega)
      by_cases h3 : 20 < fs.length
      · exact many_3 A B C D _ _ _ _ ca cb cc cd w d1 d2 h3
      · have d3 : decide (20 < (fs.length : Int)) = false := decide_eq_false (by omega)
        by_cases h4 : 20 < is.length
        · exact many_4 A B C D _ _ _ _ ca cb cc cd w d1 d2 d3 h4
        · exact many_main zs ts fs is A B C D ca cb cc cd w hA hB hC hD hz hi (by omega) (by omega) (by omega) (by omega) (hT (by omega))

theorem contract (H : Type) (enc : TypeId × Value → H) (W : World) (base : Nat) (args : Array Value) (ds gs : List (DataW H)) (before : List MemPlace)
    (hval : ∀ (j : Nat) t v, Try.f4.params[j]? = some t → args[j]? = some v → Value.okWide Try.prog W .any base t v)
    (hW : DataW.Whole enc Try.prog Try.f4.params.toList Rows.packManySpec.vars false W args.toList ds gs before) (hk : Rows.uptoSmall H (ds ++ gs) = true) :
    Calls Try.prog 4 args W fun e W' => ∃ v, e = .returned v ∧ Rows.packManySpec.post enc Try.prog Try.f4 false true false false W args v W' := by
  have hW' := hW
  obtain ⟨p, q, hA0, hV, rfl, hfz, hnd⟩ := hW
  have hA : DataW.TrodAll enc Try.prog W 0 (fun _ => true) true Try.f4.params.toList args.toList ds p := hA0
  rw [Try.params4] at hA hval
  obtain ⟨v0, vs0, d0, ds0, p0, q0, hargs, rfl, rfl, h0, r0⟩ := trodAll_cons hA
  obtain ⟨v1, vs1, d1, ds1, p1, q1, rfl, rfl, rfl, h1, r1⟩ := trodAll_cons r0
  obtain ⟨v2, vs2, d2, ds2, p2, q2, rfl, rfl, rfl, h2, r2⟩ := trodAll_cons r1
  obtain ⟨v3, vs3, d3, ds3, p3, q3, rfl, rfl, rfl, h3, r3⟩ := trodAll_cons r2
  obtain ⟨rfl, rfl, rfl⟩ := trodAll_nil r3
  obtain rfl : args = #[v0, v1, v2, v3] := by cases args; simp_all
  obtain ⟨rfl, rfl⟩ := trodVars_none hV
  obtain ⟨a0, len0, cap0, rfl⟩ := okWide_slice Try.underlying42 (hval 0 42 v0 rfl rfl)
  obtain ⟨a1, len1, cap1, rfl⟩ := okWide_slice Try.underlying43 (hval 1 43 v1 rfl rfl)
  obtain ⟨a2, len2, cap2, rfl⟩ := okWide_slice Try.underlying44 (hval 2 44 v2 rfl rfl)
  obtain ⟨a3, len3, cap3, rfl⟩ := okWide_slice Try.underlying45 (hval 3 45 v3 rfl rfl)
  have k0 := h0
  have k1 := h1
  have k2 := h2
  have k3 := h3
  have lt0 : ∀ x ∈ p0, x.block < W.heap.size := by obtain ⟨m, hm⟩ := k0; exact DataW.trod_lt m _ _ _ hm
  have lt1 : ∀ x ∈ p1, x.block < W.heap.size := by obtain ⟨m, hm⟩ := k1; exact DataW.trod_lt m _ _ _ hm
  have lt2 : ∀ x ∈ p2, x.block < W.heap.size := by obtain ⟨m, hm⟩ := k2; exact DataW.trod_lt m _ _ _ hm
  have lt3 : ∀ x ∈ p3, x.block < W.heap.size := by obtain ⟨m, hm⟩ := k3; exact DataW.trod_lt m _ _ _ hm
  obtain ⟨fuel0, hf0⟩ := h0
  obtain ⟨fuel1, hf1⟩ := h1
  obtain ⟨fuel2, hf2⟩ := h2
  obtain ⟨fuel3, hf3⟩ := h3
  obtain ⟨z0, rfl, w0, c0⟩ := arg_ints Try.underlying42 Try.underlying3 (by kernel_rfl) hf0
  obtain ⟨z1, rfl, w1, c1, c1', c1''⟩ := arg_strs Try.underlying43 Try.underlying9 (by kernel_rfl) hf1
  obtain ⟨z2, rfl, w2, c2⟩ := arg_bools Try.underlying44 Try.underlying4 (by kernel_rfl) hf2
  obtain ⟨z3, rfl, w3, c3⟩ := arg_ints Try.underlying45 Try.underlying2 (by kernel_rfl) hf3
  clear hA0
  have hb : Rows.uptoBulkAll ([d0, d1, d2, d3] ++ []) ≤ 1048576 := of_decide_eq_true hk
  have hT : z1.length ≤ 20 → (textAll z1).length ≤ 2000000 := by
    intro h20
    have ht := texts_le (H := H) z1 (fun t ht => by have := c1 t ht; unfold maxLen at this; omega)
    rcases c1'' with h0 | ⟨r, ps, hx⟩
    · have : z1 = [] := List.eq_nil_of_length_eq_zero h0
      subst this
      simp [textAll]
    · simp only [Prod.mk.injEq] at hx
      have hp := part_le (d := d1) (l := [d0, d1, d2, d3] ++ []) (by simp)
      rw [hx.1] at hp
      simp only [Rows.uptoBulk] at hp
      rw [hx.1] at hb
      omega
  refine (walk z0 z1 z2 z3 a0 a1 a2 a3 cap0 cap1 cap2 cap3 W w0 w1 w2 w3 c0.1 c3.1 hT).mono fun e W' ⟨he, bel⟩ => ?_
  subst he
  exact ⟨_, rfl, _, _, _, [], _, [], hW', trodAll_mk1 (shut_bool Try.underlying4 _), (trodAll_cons_mk (Below.trod laidOut (by kernel_rfl) (of_decide_eq_true (by kernel_rfl)) k0 bel lt0) (trodAll_cons_mk (Below.trod laidOut (by kernel_rfl) (of_decide_eq_true (by kernel_rfl)) k1 bel lt1) (trodAll_cons_mk (Below.trod laidOut (by kernel_rfl) (of_decide_eq_true (by kernel_rfl)) k2 bel lt2) (trodAll_cons_mk (Below.trod laidOut (by kernel_rfl) (of_decide_eq_true (by kernel_rfl)) k3 bel lt3) trodAll_mk0)))), rfl, bel.frame _, fun h => by cases h⟩

set_option maxRecDepth 100000 in
theorem lifted (os : Os) (started : os.Started) (H : Type) (enc : TypeId × Value → H) (F : Stop.Interp) :
    ReturnsInHanded {} Try.checked os 4 .any ((Rows.OpenSpec.upto Rows.packManySpec).pre6 enc Try.prog Try.f4 Rows.packManyUptoRow.domain false) (((Rows.OpenSpec.upto Rows.packManySpec).at F).post enc Try.prog Try.f4 false true false false) := by
  refine returnsInHanded_of_cond (C := Try.checked) (s := Rows.OpenSpec.upto Rows.packManySpec) (k := Rows.uptoSmall) rfl own started (by kernel_rfl) Try.func4
    (OpenSpec.witness (enc := enc) (C := Try.checked) (s := Rows.OpenSpec.upto Rows.packManySpec) (k := Rows.uptoSmall) rfl false ⟨#[], #[.slice none 0 0, .slice none 0 0, .slice none 0 0, .slice none 0 0], []⟩ 8 (by kernel_rfl) (by kernel_rfl) (by kernel_rfl)
      (x := ([.nil, .nil, .nil, .nil], [], [])) (by kernel_rfl) rfl (by kernel_rfl)) ?_
  intro W base args ds gs before hval hW _ hk _
  exact contract H enc W base args ds gs before hval hW hk

theorem proved : Rows.PackManyUptoSaid :=
  OpenClaim.holds_of_cond 4 Try.f4 rfl rfl rfl rfl rfl rfl rfl ⟨rfl, rfl, rfl, rfl, rfl⟩ rfl rfl rfl rfl rfl (by kernel_rfl) Try.func4 (by kernel_rfl)
    (of_decide_eq_true (by kernel_rfl)) (by unfold Func.isWrapper; first | (rw [if_pos (by decide +kernel)]; kernel_rfl) | (rw [if_neg (by decide +kernel)]; exact ⟨rfl, rfl⟩))
    (fun os started H enc _ F => lifted os started H enc F)
#print axioms proved
end Go.Proofs.Ytbpdeehpeflbeaa.packMany
