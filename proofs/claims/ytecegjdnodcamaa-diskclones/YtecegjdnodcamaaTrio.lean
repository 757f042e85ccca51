/-
  A disk, its clone and a model side by side.
-/
import Derived.Test.YtecegjdnodcamaaClone
namespace Go.Proofs.Ytecegjdnodcamaa
open Go.RowKit Go.Maps Go.Sort

/-- a disk, another disk and a model; nothing is shared -/
def Trio (n : Nat) (ex : Nat → Prop) (w : World) (bd bc bm : Nat) (Sd Sc Sm : DS) : Prop :=
  ∃ fd, DAt w bd fd Sd ∧ (∀ k, fd k → n ≤ k ∧ k < w.heap.size ∧ ¬ ex k) ∧ Pair n (fun k => ex k ∨ fd k) w bc bm Sc Sm

section
variable {n bd bc bm : Nat} {ex : Nat → Prop} {w w' : World} {Sd Sc Sm : DS}
theorem Trio.own (h : Trio n ex w bd bc bm Sd Sc Sm) : Own n ex w bd Sd := by
  obtain ⟨fd, h1, h2, h3⟩ := h
  exact ⟨fd, h1, h2⟩
theorem Trio.pair (h : Trio n ex w bd bc bm Sd Sc Sm) : Pair n ex w bc bm Sc Sm := by
  obtain ⟨fd, h1, h2, h3⟩ := h
  exact h3.less (fun k e => .inl (.inl e))
theorem Trio.keep {fq : Nat → Prop} (h : Trio n ex w bd bc bm Sd Sc Sm) (hm : Mods fq w w') (hn : ∀ k, n ≤ k → ¬ ex k → k < w.heap.size → ¬ fq k) : Trio n ex w' bd bc bm Sd Sc Sm := by
  obtain ⟨fd, h1, h2, h3⟩ := h
  exact ⟨fd, h1.keep hm (fun k hk => hn k (h2 k hk).1 (h2 k hk).2.2 (h2 k hk).2.1), fun k hk => ⟨(h2 k hk).1, Nat.lt_of_lt_of_le (h2 k hk).2.1 hm.size, (h2 k hk).2.2⟩, h3.keep hm (fun k a b c => hn k a (fun e => b (.inl e)) c)⟩
theorem Trio.below (h : Trio n ex w bd bc bm Sd Sc Sm) (hb : Below w.heap.size w w') : Trio n ex w' bd bc bm Sd Sc Sm := h.keep (fq := fun _ => False) (Mods.of_below hb) (fun _ _ _ _ => id)
theorem Trio.drew (h : Trio n ex w bd bc bm Sd Sc Sm) : Trio n ex w.drew bd bc bm Sd Sc Sm := h.keep (fq := fun _ => False) (Mods.refl _ w).drew (fun _ _ _ _ => id)
theorem Trio.bar (h : Trio n ex w bd bc bm Sd Sc Sm) (o : Obj) : Trio n (fun k => k = w.heap.size) (w.alloc o) bd bc bm Sd Sc Sm := by
  obtain ⟨fd, h1, h2, h3⟩ := h
  have hm : Mods (fun _ => False) w (w.alloc o) := (Mods.refl _ w).alloc o
  refine ⟨fd, h1.keep hm (fun _ _ => id), fun k hk => ⟨(h2 k hk).1, ?_, ?_⟩, (h3.bar' o).less ?_⟩
  · have := (h2 k hk).2.1; simp; omega
  · have := (h2 k hk).2.1; omega
  · rintro k (e | e)
    · exact .inl (.inr e)
    · exact .inl (.inl (.inr e))
theorem Trio.unbar (h : Trio n ex w bd bc bm Sd Sc Sm) : Trio n (fun _ => False) w bd bc bm Sd Sc Sm := by
  obtain ⟨fd, h1, h2, h3⟩ := h
  refine ⟨fd, h1, fun k hk => ⟨(h2 k hk).1, (h2 k hk).2.1, id⟩, h3.less ?_⟩
  rintro k (e | e)
  · exact e.elim
  · exact .inl (.inr e)
theorem Pair.lt_ex {n bd bm : Nat} {ex : Nat → Prop} {w : World} {S S' : DS} (h : Pair n ex w bd bm S S') : S.ok := by
  obtain ⟨fd, fm, h1, _⟩ := h
  exact h1.ok

/-- Play on the first disk -/
theorem trio_play_d (h : Trio n ex w bd bc bm Sd Sc Sm) (hn : n ≤ w.heap.size) (hex : ∀ k, ex k → k < w.heap.size) (a : ActD) (hs : a.small) (h3 : Sd.wt + 100 ≤ 1099511627776) (h4 : Sd.cnt + 1 ≤ 500000) :
    Calls Try.prog 15 #[.pointer (some ⟨bd, 0, none⟩), .agg #[.int .i64 a.K, .int .i64 a.N, .string a.name, .string a.to_, .string a.text]] w fun e w' => e = .returned (.int .i64 ((doS Sd a).1 : Int)) ∧ Trio n ex w' bd bc bm (doS Sd a).2 Sc Sm ∧ Mods (May n ex) w w' := by
  obtain ⟨fd, g1, g2, fc, fm, p1, p2, p3, p4, p5⟩ := h
  have ho : Own n (fun k => ex k ∨ fc k ∨ fm k) w bd Sd := ⟨fd, g1, fun k hk => ⟨(g2 k hk).1, (g2 k hk).2.1, by
    rintro (e | e | e)
    · exact (g2 k hk).2.2 e
    · exact (p3 k e).2.2 (.inr hk)
    · exact (p4 k e).2.2 (.inr hk)⟩⟩
  refine (play_any w n bd (fun k => ex k ∨ fc k ∨ fm k) Sd ho hn (by
    rintro k (e | e | e)
    · exact hex k e
    · exact (p3 k e).2.1
    · exact (p4 k e).2.1) a hs h3 h4).mono ?_
  rintro e w' ⟨he, ⟨fd', q1, q2⟩, q3⟩
  refine ⟨he, ⟨fd', q1, fun k hk => ⟨(q2 k hk).1, (q2 k hk).2.1, fun e => (q2 k hk).2.2 (.inl e)⟩, fc, fm, p1.keep q3 (fun k hk e => e.2 (.inr (.inl hk))), p2.keep q3 (fun k hk e => e.2 (.inr (.inr hk))), ?_, ?_, p5⟩, q3.weak (fun i _ e => ⟨e.1, fun e' => e.2 (.inl e')⟩)⟩
  · intro k hk
    refine ⟨(p3 k hk).1, Nat.lt_of_lt_of_le (p3 k hk).2.1 q3.size, ?_⟩
    rintro (e | e)
    · exact (p3 k hk).2.2 (.inl e)
    · exact (q2 k e).2.2 (.inr (.inl hk))
  · intro k hk
    refine ⟨(p4 k hk).1, Nat.lt_of_lt_of_le (p4 k hk).2.1 q3.size, ?_⟩
    rintro (e | e)
    · exact (p4 k hk).2.2 (.inl e)
    · exact (q2 k e).2.2 (.inr (.inr hk))
/-- Play on the clone -/
theorem trio_play_c (h : Trio n ex w bd bc bm Sd Sc Sm) (hn : n ≤ w.heap.size) (hex : ∀ k, ex k → k < w.heap.size) (a : ActD) (hs : a.small) (h3 : Sc.wt + 100 ≤ 1099511627776) (h4 : Sc.cnt + 1 ≤ 500000) :
    Calls Try.prog 15 #[.pointer (some ⟨bc, 0, none⟩), .agg #[.int .i64 a.K, .int .i64 a.N, .string a.name, .string a.to_, .string a.text]] w fun e w' => e = .returned (.int .i64 ((doS Sc a).1 : Int)) ∧ Trio n ex w' bd bc bm Sd (doS Sc a).2 Sm ∧ Mods (May n ex) w w' := by
  obtain ⟨fd, g1, g2, hp⟩ := h
  refine (pair_play' hp hn (fun k e => e.elim (hex k) (fun e => (g2 k e).2.1)) a hs h3 h4).mono ?_
  rintro e w' ⟨he, q1, q2⟩
  exact ⟨he, ⟨fd, g1.keep q2 (fun k hk e => e.2 (.inr hk)), fun k hk => ⟨(g2 k hk).1, Nat.lt_of_lt_of_le (g2 k hk).2.1 q2.size, (g2 k hk).2.2⟩, q1⟩, q2.weak (fun i _ e => ⟨e.1, fun e' => e.2 (.inl e')⟩)⟩
/-- Do on the model -/
theorem trio_do (h : Trio n ex w bd bc bm Sd Sc Sm) (hn : n ≤ w.heap.size) (hex : ∀ k, ex k → k < w.heap.size) (a : ActD) (hs : a.small) (h3 : Sm.wt + 100 ≤ 1099511627776) (h4 : Sm.cnt + 1 ≤ 500000) :
    Calls Try.prog 16 #[.pointer (some ⟨bm, 0, none⟩), .agg #[.int .i64 a.K, .int .i64 a.N, .string a.name, .string a.to_, .string a.text]] w fun e w' => e = .returned (.int .i64 ((doS Sm a).1 : Int)) ∧ Trio n ex w' bd bc bm Sd Sc (doS Sm a).2 ∧ Mods (May n ex) w w' := by
  obtain ⟨fd, g1, g2, hp⟩ := h
  refine (pair_do' hp hn (fun k e => e.elim (hex k) (fun e => (g2 k e).2.1)) a hs h3 h4).mono ?_
  rintro e w' ⟨he, q1, q2⟩
  exact ⟨he, ⟨fd, g1.keep q2 (fun k hk e => e.2 (.inr hk)), fun k hk => ⟨(g2 k hk).1, Nat.lt_of_lt_of_le (g2 k hk).2.1 q2.size, (g2 k hk).2.2⟩, q1⟩, q2.weak (fun i _ e => ⟨e.1, fun e' => e.2 (.inl e')⟩)⟩
end

/-- behind Clone -/
theorem trio_clone {n bd bm : Nat} {w w' : World} {S : DS} (h : Pair n (fun _ => False) w bd bm S S) (hn : n ≤ w.heap.size) (hd : DAt w' w.heap.size (fun k => w.heap.size ≤ k ∧ k < w'.heap.size) S) (hb : Below w.heap.size w w') : Trio n (fun _ => False) w' bd w.heap.size bm S S S := by
  obtain ⟨fd, fm, h1, h2, h3, h4, h5⟩ := h
  have hs := hb.size
  refine ⟨fd, h1.below hb, fun k hk => ⟨(h3 k hk).1, by have := (h3 k hk).2.1; omega, id⟩, _, fm, hd, h2.below hb, ?_, ?_, ?_⟩
  · rintro k ⟨e1, e2⟩
    refine ⟨by omega, e2, ?_⟩
    rintro (e | e)
    · exact e
    · have := (h3 k e).2.1; omega
  · intro k hk
    refine ⟨(h4 k hk).1, by have := (h4 k hk).2.1; omega, ?_⟩
    rintro (e | e)
    · exact e
    · exact h5 k e hk
  · rintro k ⟨e1, e2⟩ e
    have := (h4 k e).2.1
    omega

/-- what a list of acts makes of a disk -/
def runS (S : DS) (l : List ActD) : DS := l.foldl (fun S a => (doS S a).2) S
theorem runS_take (S : DS) (l : List ActD) (k : Nat) (h : k < l.length) : runS S (l.take (k + 1)) = (doS (runS S (l.take k)) l[k]).2 := by
  unfold runS
  rw [List.take_succ_eq_append_getElem h, List.foldl_append]
  rfl

end Go.Proofs.Ytecegjdnodcamaa
