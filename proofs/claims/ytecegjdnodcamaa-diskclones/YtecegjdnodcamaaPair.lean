/-
  A disk and a model side by side.
-/
import Derived.Test.YtecegjdnodcamaaLive0
import Derived.Test.YtecegjdnodcamaaLive1
import Derived.Test.YtecegjdnodcamaaLive2
import Derived.Test.YtecegjdnodcamaaLive3
import Derived.Test.YtecegjdnodcamaaLive4
import Derived.Sort.Walk0
namespace Go.Proofs.Ytecegjdnodcamaa
open Go.RowKit Go.Maps Go.Sort

theorem mpost_of {w w' : World} {bm bs : Nat} {sv : Value} {S' : DS} {l : List ActD} (h : MV w' bm bs sv S' l) (hm : Mods (· = bm) w w') : MPost w bm bs sv S' w' :=
  ⟨⟨bs, sv, l, h, fun _ hk => .inl hk⟩, hm.weak (fun _ _ e => .inl e)⟩

theorem do_mv (w : World) (bm bs : Nat) (sv : Value) (S : DS) (l : List ActD) (h : MV w bm bs sv S l) (a : ActD) (hs : a.small) (h1 : S.wt + 100 ≤ 1099511627776) (h2 : S.cnt + 1 ≤ 500000) :
    Calls Try.prog 16 #[.pointer (some ⟨bm, 0, none⟩), actV a] w fun e w' => e = .returned (.int .i64 ((doS S a).1 : Int)) ∧ MPost w bm bs sv (doS S a).2 w' := by
  by_cases h5 : a.kind = 5
  · have e : doS S a = (0, { S with falls := true, left := a.N.toNat }) := by unfold doS; rw [h5]; rfl
    rw [e]
    exact (do_fall w bm bs sv S l h a hs h5).mono fun e w' ⟨he, hM, hm⟩ => ⟨he, mpost_of hM hm⟩
  · cases ht : (turnS S).1
    · rw [doS_4 S a h5 ht]
      exact (do_down w bm bs sv S l h a h5 ht).mono fun e w' ⟨he, hM, hm⟩ => ⟨he, mpost_of hM hm⟩
    · rcases a.kinds with hk | hk | hk | hk | hk | hk
      · exact do_live0 w bm bs sv S l h a hs hk ht h1 h2
      · exact do_live1 w bm bs sv S l h a hs hk ht h1 h2
      · exact do_live2 w bm bs sv S l h a hs hk ht h1 h2
      · exact do_live3 w bm bs sv S l h a hs hk ht h1 h2
      · exact do_live4 w bm bs sv S l h a hs hk ht h1 h2
      · exact absurd hk h5

theorem do_any (w : World) (bm : Nat) (fp : Nat → Prop) (S : DS) (h : MAt w bm fp S) (a : ActD) (hs : a.small) (h1 : S.wt + 100 ≤ 1099511627776) (h2 : S.cnt + 1 ≤ 500000) :
    Calls Try.prog 16 #[.pointer (some ⟨bm, 0, none⟩), actV a] w fun e w' => e = .returned (.int .i64 ((doS S a).1 : Int)) ∧ MAt w' bm (ext fp w w') (doS S a).2 ∧ Mods fp w w' := by
  obtain ⟨bs, sv, l, h, hf⟩ := h
  refine (do_mv w bm bs sv S l h a hs h1 h2).mono ?_
  rintro e w' ⟨he, ⟨bs', sv', l', hM, hk⟩, hm⟩
  refine ⟨he, ⟨bs', sv', l', hM, fun k hk' => ?_⟩, hm.weak (fun i _ e => hf i e)⟩
  rcases hk k hk' with e | e
  · exact .inl (hf k e)
  · exact .inr ⟨e, hM.foot_lt k hk'⟩

/-- a disk and a model whose blocks lie from n on, aren't of ex, and aren't shared -/
def Pair (n : Nat) (ex : Nat → Prop) (w : World) (bd bm : Nat) (S S' : DS) : Prop :=
  ∃ fd fm, DAt w bd fd S ∧ MAt w bm fm S' ∧ (∀ k, fd k → n ≤ k ∧ k < w.heap.size ∧ ¬ ex k) ∧ (∀ k, fm k → n ≤ k ∧ k < w.heap.size ∧ ¬ ex k) ∧ ∀ k, fd k → ¬ fm k

section
variable {n bd bm : Nat} {ex : Nat → Prop} {w w' : World} {S S' : DS}
theorem Pair.own (h : Pair n ex w bd bm S S') : Own n ex w bd S := by
  obtain ⟨fd, fm, h1, h2, h3, h4, h5⟩ := h
  exact ⟨fd, h1, h3⟩
theorem Pair.mat (h : Pair n ex w bd bm S S') : ∃ fm, MAt w bm fm S' := by
  obtain ⟨fd, fm, h1, h2, h3, h4, h5⟩ := h
  exact ⟨fm, h2⟩
theorem Pair.keep {fq : Nat → Prop} (h : Pair n ex w bd bm S S') (hm : Mods fq w w') (hn : ∀ k, n ≤ k → ¬ ex k → k < w.heap.size → ¬ fq k) : Pair n ex w' bd bm S S' := by
  obtain ⟨fd, fm, h1, h2, h3, h4, h5⟩ := h
  exact ⟨fd, fm, h1.keep hm (fun k hk => hn k (h3 k hk).1 (h3 k hk).2.2 (h3 k hk).2.1), h2.keep hm (fun k hk => hn k (h4 k hk).1 (h4 k hk).2.2 (h4 k hk).2.1), fun k hk => ⟨(h3 k hk).1, Nat.lt_of_lt_of_le (h3 k hk).2.1 hm.size, (h3 k hk).2.2⟩, fun k hk => ⟨(h4 k hk).1, Nat.lt_of_lt_of_le (h4 k hk).2.1 hm.size, (h4 k hk).2.2⟩, h5⟩
theorem Pair.below (h : Pair n ex w bd bm S S') (hb : Below w.heap.size w w') : Pair n ex w' bd bm S S' := h.keep (fq := fun _ => False) (Mods.of_below hb) (fun _ _ _ _ => id)
theorem Pair.alloc (h : Pair n ex w bd bm S S') (o : Obj) : Pair n ex (w.alloc o) bd bm S S' := h.keep (fq := fun _ => False) ((Mods.refl _ w).alloc o) (fun _ _ _ _ => id)

theorem pair_play (h : Pair n ex w bd bm S S') (hn : n ≤ w.heap.size) (hex : ∀ k, ex k → k < w.heap.size) (a : ActD) (hs : a.small) (h3 : S.wt + 100 ≤ 1099511627776) (h4 : S.cnt + 1 ≤ 500000) :
    Calls Try.prog 15 #[.pointer (some ⟨bd, 0, none⟩), actV a] w fun e w' => e = .returned (.int .i64 ((doS S a).1 : Int)) ∧ Pair n ex w' bd bm (doS S a).2 S' ∧ Mods (May n ex) w w' := by
  obtain ⟨fd, fm, g1, g2, g3, g4, g5⟩ := h
  have ho : Own n (fun k => ex k ∨ fm k) w bd S := ⟨fd, g1, fun k hk => ⟨(g3 k hk).1, (g3 k hk).2.1, fun e => e.elim (g3 k hk).2.2 (g5 k hk)⟩⟩
  refine (play_any w n bd (fun k => ex k ∨ fm k) S ho hn (fun k e => e.elim (hex k) (fun e => (g4 k e).2.1)) a hs h3 h4).mono ?_
  rintro e w' ⟨he, ⟨fd', q1, q2⟩, q3⟩
  refine ⟨he, ⟨fd', fm, q1, g2.keep q3 (fun k hk e => e.2 (.inr hk)), fun k hk => ⟨(q2 k hk).1, (q2 k hk).2.1, fun e => (q2 k hk).2.2 (.inl e)⟩, fun k hk => ⟨(g4 k hk).1, Nat.lt_of_lt_of_le (g4 k hk).2.1 q3.size, (g4 k hk).2.2⟩, fun k hk e => (q2 k hk).2.2 (.inr e)⟩, q3.weak (fun i _ e => ⟨e.1, fun e' => e.2 (.inl e')⟩)⟩

theorem pair_do (h : Pair n ex w bd bm S S') (hn : n ≤ w.heap.size) (hex : ∀ k, ex k → k < w.heap.size) (a : ActD) (hs : a.small) (h3 : S'.wt + 100 ≤ 1099511627776) (h4 : S'.cnt + 1 ≤ 500000) :
    Calls Try.prog 16 #[.pointer (some ⟨bm, 0, none⟩), actV a] w fun e w' => e = .returned (.int .i64 ((doS S' a).1 : Int)) ∧ Pair n ex w' bd bm S (doS S' a).2 ∧ Mods (May n ex) w w' := by
  obtain ⟨fd, fm, g1, g2, g3, g4, g5⟩ := h
  refine (do_any w bm fm S' g2 a hs h3 h4).mono ?_
  rintro e w' ⟨he, q1, q2⟩
  refine ⟨he, ⟨fd, ext fm w w', g1.keep q2 g5, q1, fun k hk => ⟨(g3 k hk).1, Nat.lt_of_lt_of_le (g3 k hk).2.1 q2.size, (g3 k hk).2.2⟩, ?_, ?_⟩, q2.weak (fun i _ e => ⟨(g4 i e).1, (g4 i e).2.2⟩)⟩
  · rintro k (e | ⟨e1, e2⟩)
    · exact ⟨(g4 k e).1, Nat.lt_of_lt_of_le (g4 k e).2.1 q2.size, (g4 k e).2.2⟩
    · exact ⟨Nat.le_trans hn e1, e2, fun e => by have := hex k e; omega⟩
  · rintro k hk (e | ⟨e1, e2⟩)
    · exact g5 k hk e
    · have := (g3 k hk).2.1; omega
end

theorem doS_bounds (S : DS) (hok : S.ok) (a : ActD) (hs : a.small) : (doS S a).2.wt ≤ S.wt + 100 ∧ (doS S a).2.cnt ≤ S.cnt + 1 := by
  have t1 := turnS_wt S
  have t2 := turnS_cnt S
  have q1 := hs.name
  have q2 := hs.to_
  have q3 := hs.text
  have hadd : ∀ c : Chg, c.with_.size ≤ 100 → (addS (turnS S).2 c).wt ≤ S.wt + 100 ∧ (addS (turnS S).2 c).cnt ≤ S.cnt + 1 := by
    intro c hc
    constructor
    · show tot (turnS S).2.safe + wt ((turnS S).2.ch ++ [c]) ≤ _
      rw [wt_snoc]
      unfold DS.wt at t1
      unfold DS.wt
      omega
    · show Maps.size (turnS S).2.safe + ((turnS S).2.ch ++ [c]).length ≤ _
      unfold DS.cnt at t2
      unfold DS.cnt
      simp only [List.length_append, List.length_singleton]
      omega
  have hsame : (turnS S).2.wt ≤ S.wt + 100 ∧ (turnS S).2.cnt ≤ S.cnt + 1 := ⟨by omega, by omega⟩
  unfold doS wrS rnS rmS syS
  split
  · split
    · exact hsame
    · split
      · exact hsame
      · split
        · exact hsame
        · exact hadd _ q3
  · split
    · split
      · exact hsame
      · split
        · exact hsame
        · split
          · exact hsame
          · exact hadd _ q3
    · split
      · split
        · exact hsame
        · split
          · exact hsame
          · split
            · exact hsame
            · exact hadd _ q2
      · split
        · split
          · exact hsame
          · split
            · exact hsame
            · exact hadd _ (by simp)
        · split
          · split
            · exact hsame
            · have hok1 := hok.turn
              have e1 := tot_apps hok1.good (turnS S).2.ch
              have e2 := size_apps hok1.good (turnS S).2.ch
              constructor
              · show tot (turnS S).2.now + 0 ≤ _
                unfold DS.now
                unfold DS.wt at t1
                unfold DS.wt
                omega
              · show Maps.size (turnS S).2.now + 0 ≤ _
                unfold DS.now
                unfold DS.cnt at t2
                unfold DS.cnt
                omega
          · exact ⟨by show S.wt ≤ _; omega, by show S.cnt ≤ _; omega⟩

/-! ### names -/
theorem strKeys_nodup {D : Dt} (h : Good D) : (strKeys D).Nodup := by
  obtain ⟨es, rfl, hp, hq⟩ := h
  show (es.map fun p => strOf p.1).Nodup
  refine List.pairwise_map.2 (hp.imp_of_mem fun {p q} hp' hq' hne e => hne ?_)
  obtain ⟨⟨a, ha⟩, _⟩ := hq p hp'
  obtain ⟨⟨b, hb⟩, _⟩ := hq q hq'
  rw [ha, hb] at e ⊢
  exact congrArg Lit.string e
theorem strKeys_mem {D : Dt} (h : Good D) {x : List UInt8} (hx : x ∈ strKeys D) : hasF D (T x) = true := by
  obtain ⟨es, rfl, hp, hq⟩ := h
  obtain ⟨p, hp', rfl⟩ := List.mem_map.1 hx
  obtain ⟨⟨a, ha⟩, _⟩ := hq p hp'
  show Maps.has (.map es) (ky (T (strOf p.1))) = true
  rw [has_eq]
  refine List.any_eq_true.2 ⟨p, hp', ?_⟩
  rw [ha]
  have : ky (T (strOf (ky a))) = ky a := rfl
  rw [this]
  exact WideAt.sameKey_self (ky_key a)
theorem sk_has {D : Dt} (h : Good D) (i : Nat) (hi : i < (sk D).length) : hasF D (T (sk D)[i]) = true :=
  strKeys_mem h ((List.mergeSort_perm (strKeys D) _).mem_iff.1 (List.getElem_mem hi))
theorem sk_less {D : Dt} (h : Good D) (i : Nat) (hi : i + 1 < (sk D).length) : Op.bytesLess (sk D)[i] (sk D)[i + 1] = true := by
  have tr : ∀ a b c : List UInt8, leB a b = true → leB b c = true → leB a c = true := fun a b c h1 h2 => by simp only [leB, decide_eq_true_eq] at *; exact List.le_trans h1 h2
  have to : ∀ a b : List UInt8, (leB a b || leB b a) = true := fun a b => by simp only [leB, Bool.or_eq_true, decide_eq_true_eq]; exact List.le_total a b
  have h1 := List.pairwise_iff_getElem.1 (List.pairwise_mergeSort tr to (strKeys D)) i (i + 1) (by show i < (sk D).length; omega) hi (by omega)
  have h2 : (sk D).Nodup := (List.mergeSort_perm (strKeys D) _).nodup_iff.2 (strKeys_nodup h)
  have h3 := List.pairwise_iff_getElem.1 h2 i (i + 1) (by omega) hi (by omega)
  rw [bytesLess_eq]
  have h1' : (sk D)[i] ≤ (sk D)[i + 1] := of_decide_eq_true h1
  exact decide_eq_true (by
    rcases List.le_iff_lt_or_eq.1 h1' with h | h
    · exact h
    · exact absurd h h3)

end Go.Proofs.Ytecegjdnodcamaa
