/-
  Bodies whose code lies in memory of its own.
-/
import Derived.Test.YtomlbfkkhhhfkaaDoorCsReads7
namespace Go.Proofs.YtomlbfkkhhhfkaaDoor.Fc
open Go.RowKit
set_option linter.unusedVariables false

abbrev BpP := Bd × (Option Addr × Nat × Nat)
def encQ (x : BpP) : List Value := [.int .i64 x.1.lo, .int .i64 x.1.st, .slice x.2.1 x.2.2.1 x.2.2.2]
def GbR (x : BpP) (cs : List Value) : Prop := cs = encQ x
/-- bodies whose code lies in memory of their own -/
def PbR (B : Nat) (w : World) (ps : List BpP) : Prop := ∀ p ∈ ps, Sl w 2 InR p.1.co (.slice p.2.1 p.2.2.1 p.2.2.2) ∧ Own B w 66 p.2.1
theorem PbR.keep {B : Nat} {w w' : World} {ps : List BpP} (h : PbR B w ps) (hk : ∀ b cur, B ≤ b → w.heap[b]? = some (.cells cur 66 (0, 0)) → w'.heap[b]? = w.heap[b]?) : PbR B w' ps := by
  intro p hp
  obtain ⟨hs, ho⟩ := h p hp
  refine ⟨?_, fun ad ha => ?_⟩
  · obtain ⟨hn, hl, hc, hkk⟩ := hs.at
    refine ⟨p.2.1, p.2.2.2, by rw [hn], by omega, hc, fun i x hi => ?_⟩
    obtain ⟨b, o, cs, ea, hcell, hr⟩ := hkk i x hi
    obtain ⟨b', e1, h1, cur, h2⟩ := ho _ ea
    cases e1
    refine ⟨b, 0, cs, ea, fun j v hv => ?_, hr⟩
    rw [World.cell?_of_block (w := w) (hk b cur h1 h2)]
    exact hcell j v hv
  · obtain ⟨b, e1, h1, cur, h2⟩ := ho ad ha
    exact ⟨b, e1, h1, cur, (hk b cur h1 h2).trans h2⟩
theorem PbR.mods {B q : Nat} {w w' : World} {ps : List BpP} (h : PbR B w ps) (hm : Mods (· = q) w w') (hq : q < B ∨ ∀ cur, w.heap[q]? ≠ some (.cells cur 66 (0, 0))) : PbR B w' ps :=
  h.keep (fun b cur hb hc => hm.block b (lt_of_block hc) (fun e => by
    rcases hq with hq | hq
    · omega
    · exact hq cur (by rw [← e]; exact hc)))
theorem PbR.snoc {B : Nat} {w : World} {ps : List BpP} (h : PbR B w ps) {p : BpP} (hs : Sl w 2 InR p.1.co (.slice p.2.1 p.2.2.1 p.2.2.2)) (ho : Own B w 66 p.2.1) : PbR B w (ps ++ [p]) := by
  intro x hx
  simp only [List.mem_append, List.mem_singleton] at hx
  rcases hx with hx | rfl
  · exact h x hx
  · exact ⟨hs, ho⟩
theorem PbR.grown {B base n size : Nat} {v : Value} {x y : World} {xs : List Value} {o : Obj} {ps : List BpP} (h : PbR B x ps) (hrow : x.ownsRow base 69 size v n xs) (hg : (x.alloc o).grownBy y v.ownBlock) : PbR B y ps :=
  h.keep (fun b cur hb hc => by
    have hlt := lt_of_block hc
    rw [hg.block b (by simp; omega) (fun e => by
      rcases hrow.2 with ⟨h0, _⟩ | ⟨g, cap, cur', h0, _, h2, _⟩
      · rw [h0] at e; simp [Value.ownBlock] at e
      · rw [h0] at e
        simp [Value.ownBlock] at e
        subst e
        rw [hc] at h2
        cases h2), Below.heap_alloc _ _ _ hlt])
theorem bds_of {B : Nat} {w : World} {ps : List BpP} {a : Option Addr} {n c : Nat} (h : PbR B w ps) (hs : Sl w 3 GbR ps (.slice a n c)) : Sl w 3 (BdR w) (ps.map Prod.fst) (.slice a n c) := by
  obtain ⟨hn, hl, hc, hk⟩ := hs.at
  refine ⟨a, c, by simp [hn], by simp; omega, hc, fun i x hi => ?_⟩
  rw [List.getElem?_map, Option.map_eq_some_iff] at hi
  obtain ⟨p, hp, rfl⟩ := hi
  obtain ⟨b, o, cs, ea, hcell, rfl⟩ := hk i p hp
  exact ⟨b, o, _, ea, hcell, p.2.1, p.2.2.1, p.2.2.2, rfl, (h p (List.mem_of_getElem? hp)).1⟩

theorem PbR.mono {B B' : Nat} {w : World} {ps : List BpP} (h : PbR B w ps) (hb : B' ≤ B) : PbR B' w ps := fun p hp => ⟨(h p hp).1, own_mono (h p hp).2 hb⟩
/-- a slice in memory of its own, where that memory's blocks are as they were -/
theorem Sl.kept {α : Type} {B m n c : Nat} {w w' : World} {R : α → List Value → Prop} {xs : List α} {a : Option Addr} {e : TypeId} (h : Sl w m R xs (.slice a n c)) (ho : Own B w e a)
    (hk : ∀ b cur, B ≤ b → w.heap[b]? = some (.cells cur e (0, 0)) → w'.heap[b]? = w.heap[b]?) : Sl w' m R xs (.slice a n c) ∧ Own B w' e a := by
  refine ⟨?_, fun ad ha => ?_⟩
  · obtain ⟨hn, hl, hc, hkk⟩ := h.at
    refine ⟨a, c, by rw [hn], by omega, hc, fun i x hi => ?_⟩
    obtain ⟨b, o, cs, ea, hcell, hr⟩ := hkk i x hi
    obtain ⟨b', e1, h1, cur, h2⟩ := ho _ ea
    cases e1
    refine ⟨b, 0, cs, ea, fun j v hv => ?_, hr⟩
    rw [World.cell?_of_block (w := w) (hk b cur h1 h2)]
    exact hcell j v hv
  · obtain ⟨b, e1, h1, cur, h2⟩ := ho ad ha
    exact ⟨b, e1, h1, cur, (hk b cur h1 h2).trans h2⟩
theorem PoO.keep {B : Nat} {w w' : World} {p : Po} {ps : List MpP} {a1 a2 a3 a4 a5 : Option Addr} {n1 c1 n2 c2 n3 c3 n4 c4 n5 c5 : Nat} (h : PoO B w p ps a1 n1 c1 a2 n2 c2 a3 n3 c3 a4 n4 c4 a5 n5 c5)
    (hk : ∀ b cur (e : TypeId), e ≠ 69 → e ≠ 120 → e ≠ 35 → B ≤ b → w.heap[b]? = some (.cells cur e (0, 0)) → w'.heap[b]? = w.heap[b]?) : PoO B w' p ps a1 n1 c1 a2 n2 c2 a3 n3 c3 a4 n4 c4 a5 n5 c5 := by
  have k1 := h.nu.kept h.o1 (fun b cur => hk b cur 2 (by decide) (by decide) (by decide))
  have k2 := h.cl.kept h.o2 (fun b cur => hk b cur 9 (by decide) (by decide) (by decide))
  have k3 := h.ty.kept h.o3 (fun b cur => hk b cur 60 (by decide) (by decide) (by decide))
  have k4 := h.fd.kept h.o4 (fun b cur => hk b cur 77 (by decide) (by decide) (by decide))
  have k5 := h.gm.kept h.o5 (fun b cur => hk b cur 79 (by decide) (by decide) (by decide))
  exact ⟨k1.1, k2.1, k3.1, k4.1, k5.1, h.mt, h.pm.keep (fun b cur => hk b cur 60 (by decide) (by decide) (by decide)), k1.2, k2.2, k3.2, k4.2, k5.2⟩
end Go.Proofs.YtomlbfkkhhhfkaaDoor.Fc
