/-
  The states of HierAll's loops.
-/
import Derived.Test.YtgnkkoeklipmiaaAllMore
import Derived.Test.YtgnkkoeklipmiaaChecksW
import Derived.Test.YtgnkkoeklipmiaaFace
namespace Go.Proofs.Ytgnkkoeklipmiaa
open Go.RowKit
set_option linter.unusedVariables false

/-- ahead of name i -/
def N3 (W : World) (tb fm : Nat) (L : List Fc) (cn : Nat) (la : List ByteArray) (v : Value) (sm gm : Nat) (i : Nat) (wr : World) : Prop :=
  ∃ B sv c k1 k2 ns sg, HInv B tb fm L W (cn + i) la v sm gm wr sv c k1 k2 ns sg ∧ k1 ≤ 12 * i ∧ k2 ≤ 12 * i ∧ SeenP L la i [] 0 ns ∧ SigP L la i [] 0 sg
/-- ahead of field j of that name's face -/
def F4 (W : World) (tb fm : Nat) (L : List Fc) (cn : Nat) (la : List ByteArray) (v : Value) (sm gm : Nat) (i : Nat) (f : Fc) (j : Nat) (wr : World) : Prop :=
  ∃ B sv c k1 k2 ns sg, HInv B tb fm L W (cn + (i + 1)) la v sm gm wr sv c k1 k2 ns sg ∧ k1 ≤ 12 * i + j ∧ k2 ≤ 12 * i ∧ SeenP L la i f.fs j ns ∧ SigP L la i [] 0 sg ∧ RiseTo (f.fs.map (·.name)) j
/-- ahead of method q of that name's face -/
def M5 (W : World) (tb fm : Nat) (L : List Fc) (cn : Nat) (la : List ByteArray) (v : Value) (sm gm : Nat) (i : Nat) (f : Fc) (q : Nat) (wr : World) : Prop :=
  ∃ B sv c k1 k2 ns sg, HInv B tb fm L W (cn + (i + 1)) la v sm gm wr sv c k1 k2 ns sg ∧ k1 ≤ 12 * (i + 1) ∧ k2 ≤ 12 * i + q ∧ SeenP L la (i + 1) [] 0 ns ∧ SigP L la i f.ms q sg ∧ RiseTo (f.ms.map (·.name)) q
section
variable {W : World} {tb fm : Nat} {L : List Fc} {cn : Nat} {la : List ByteArray} {v : Value} {sm gm : Nat} {i : Nat} {wr : World} {f : Fc} {j q : Nat}
theorem N3.start {w : World} {s : ByteArray} (hT : TS W tb fm L cn w) (hS : Sl w 1 StrR la v) : N3 W tb fm L cn la v w.heap.size (w.heap.size + 1) 0 ((w.alloc (.map #[] 0)).alloc (.map #[] 0)) := by
  obtain ⟨B, sv, c, h1, h2, h3, h4, h5⟩ := hT
  have hb := below2 w (.map #[] 0) (.map #[] 0)
  have hfm := h1.faces.lt
  refine ⟨B, sv, c, 0, 0, [], fun _ => none, ⟨h1.below hb, h2, Nat.le_trans h3 hb.size, by omega, h5.trans (hb.mono (Nat.le_trans h2 h3)), strs_keep (Keeps.of_below hb) hS, fun e => ?_, fun e => ?_, by omega, by omega, by omega, by omega, by omega, ⟨_, (MAt.made w).keep (fp := fun _ => False) (Mods.of_below (below1 _ _)) id, fun t => by simp⟩, ⟨_, ?_, fun t => rfl⟩⟩, by omega, by omega, fun t ht => by simp at ht, sigP0 _ _ _⟩
  · have := h1.sv_lt _ e; omega
  · have := h1.sv_lt _ e; omega
  · have := MAt.made (w.alloc (.map #[] 0))
    simpa using this
theorem N3.bel (h : N3 W tb fm L cn la v sm gm i wr) : Below W.heap.size W wr := by
  obtain ⟨B, sv, c, k1, k2, ns, sg, h, _⟩ := h
  exact h.bel
theorem N3.names (h : N3 W tb fm L cn la v sm gm i wr) : Sl wr 1 StrR la v := by
  obtain ⟨B, sv, c, k1, k2, ns, sg, h, _⟩ := h
  exact h.names
theorem N3.end {cn' : Nat} (h : N3 W tb fm L cn la v sm gm i wr) (hc : cn + i ≤ cn') : TS W tb fm L cn' wr := by
  obtain ⟨B, sv, c, k1, k2, ns, sg, h, _⟩ := h
  exact ⟨B, sv, c, h.tab, h.blo, h.bhi, Nat.le_trans h.cnt hc, h.bel⟩
theorem N3.call (h : N3 W tb fm L cn la v sm gm i wr) {b : ByteArray} (hb : b.size ≤ maxLen) (hc : cn + i < 500000) :
    Calls Try.prog 15 #[.pointer (some ⟨tb, 0, none⟩), .string b] wr fun e w' => ∃ cs, e = .returned (.tuple #[.agg cs.toArray, .bool (fnd L b).isSome]) ∧ FcR w' (fc L b) cs ∧ F4 W tb fm L cn la v sm gm i (fc L b) 0 w' ∧ Small (fc L b) := by
  obtain ⟨B, sv, c, k1, k2, ns, sg, h, a1, a2, a3, a4⟩ := h
  refine (face15 B tb fm L b hb wr sv c h.bhi h.tab (by have := h.cnt; omega)).mono ?_
  rintro e w' ⟨cs, sv', c', rfl, hF, hT, hst, hc'⟩
  exact ⟨cs, rfl, hF, ⟨B, sv', c', k1, k2, ns, sg, h.looked hT hst hc', a1, a2, fun t ht => by simpa using a3 t ht, a4, rise0 _⟩, hT.small b⟩
theorem F4.below {w1 : World} (h : F4 W tb fm L cn la v sm gm i f j wr) (hb : Below wr.heap.size wr w1) : F4 W tb fm L cn la v sm gm i f j w1 := by
  obtain ⟨B, sv, c, k1, k2, ns, sg, h, r⟩ := h
  exact ⟨B, sv, c, k1, k2, ns, sg, h.below hb, r⟩
theorem M5.below {w1 : World} (h : M5 W tb fm L cn la v sm gm i f j wr) (hb : Below wr.heap.size wr w1) : M5 W tb fm L cn la v sm gm i f j w1 := by
  obtain ⟨B, sv, c, k1, k2, ns, sg, h, r⟩ := h
  exact ⟨B, sv, c, k1, k2, ns, sg, h.below hb, r⟩
theorem F4.bel (h : F4 W tb fm L cn la v sm gm i f j wr) : Below W.heap.size W wr := by
  obtain ⟨B, sv, c, k1, k2, ns, sg, h, _⟩ := h
  exact h.bel
theorem M5.bel (h : M5 W tb fm L cn la v sm gm i f j wr) : Below W.heap.size W wr := by
  obtain ⟨B, sv, c, k1, k2, ns, sg, h, _⟩ := h
  exact h.bel
theorem F4.step (h : F4 W tb fm L cn la v sm gm i f j wr) (H : ∀ x ∈ L, chk L x.name = 0) {s : ByteArray} (hw : (ab L s).2 = true) (hla : la = (ab L s).1) {b : ByteArray} (hb : la[i]? = some b) (hf : f = fc L b) {u : Vr} (hu : f.fs[j]? = some u) (hy : j = 0 ∨ ∃ y, (f.fs.map (·.name))[j - 1]? = some y ∧ bl y u.name = true) (hs : u.name.size ≤ maxLen) (hi : 12 * i + j < 100000) :
    (Instr.lookup 66 (.map (some sm)) (.string u.name) false).run Try.prog wr = .ok (.bool false) wr ∧ ∃ w', (Instr.mapUpdate 66 (.map (some sm)) (.string u.name) (.bool true)).run Try.prog wr = .ok () w' ∧ F4 W tb fm L cn la v sm gm i f (j + 1) w' ∧ Mods (· = sm) wr w' ∧ Keeps wr w' := by
  obtain ⟨B, sv, c, k1, k2, ns, sg, h, a1, a2, a3, a4, a5⟩ := h
  have a6 := a5.step (z := u.name) (by simp [hu]) hy
  have hno : u.name ∉ ns := by
    subst hla; subst hf
    exact a3.no H hw hb hu a6
  obtain ⟨w', e1, e2, e3, e4⟩ := h.mark hs (by omega)
  exact ⟨h.has hs hno, w', e1, ⟨B, sv, c, _, k2, _, sg, e2, by omega, a2, a3.step hu, a4, a6⟩, e3, e4⟩
theorem F4.next (h : F4 W tb fm L cn la v sm gm i f j wr) {b : ByteArray} (hb : la[i]? = some b) (hf : f = fc L b) (hj : f.fs.length ≤ j) (hj2 : j ≤ 12) : M5 W tb fm L cn la v sm gm i f 0 wr := by
  obtain ⟨B, sv, c, k1, k2, ns, sg, h, a1, a2, a3, a4, a5⟩ := h
  subst hf
  exact ⟨B, sv, c, k1, k2, ns, sg, h, by omega, a2, a3.next hj hb, fun t => by simpa using a4 t, rise0 _⟩
theorem M5.next (h : M5 W tb fm L cn la v sm gm i f q wr) {b : ByteArray} (hb : la[i]? = some b) (hf : f = fc L b) (hj : f.ms.length ≤ q) (hj2 : q ≤ 12) : N3 W tb fm L cn la v sm gm (i + 1) wr := by
  obtain ⟨B, sv, c, k1, k2, ns, sg, h, a1, a2, a3, a4, a5⟩ := h
  subst hf
  exact ⟨B, sv, c, k1, k2, ns, sg, h, a1, by omega, a3, a4.next hj hb⟩
theorem M5.look (h : M5 W tb fm L cn la v sm gm i f q wr) (H : ∀ x ∈ L, chk L x.name = 0) {s : ByteArray} (hw : (ab L s).2 = true) (hla : la = (ab L s).1) {b : ByteArray} (hb : la[i]? = some b) (hf : f = fc L b) {m : Sg} (hm : f.ms[q]? = some m) (hy : q = 0 ∨ ∃ y, (f.ms.map (·.name))[q - 1]? = some y ∧ bl y m.name = true) (hs : m.name.size ≤ maxLen) :
    ∃ (o : Sg) (is : Bool) (a : Option Addr) (n c : Nat), (Instr.lookup 67 (.map (some gm)) (.string m.name) true).run Try.prog wr = .ok (.tuple #[.agg #[.string o.name, .bool o.st, .slice a n c, .string o.rn, .bool o.ra], .bool is]) wr ∧ Sl wr 2 TyR o.ps (.slice a n c) ∧ (is = true → m.st = false → o = m) := by
  obtain ⟨B, sv, c, k1, k2, ns, sg, h, a1, a2, a3, a4, a5⟩ := h
  have a6 := a5.step (z := m.name) (by simp [hm]) hy
  obtain ⟨a, n, c', e1, e2⟩ := h.sig hs
  refine ⟨_, _, a, n, c', e1, e2, fun hi hst => ?_⟩
  cases ho : sg m.name with
  | none => rw [ho] at hi; cases hi
  | some o =>
    subst hla; subst hf
    exact a4.same H hw hb hm a6 hst ho
theorem M5.stat (h : M5 W tb fm L cn la v sm gm i f q wr) {m : Sg} (hm : f.ms[q]? = some m) (hy : q = 0 ∨ ∃ y, (f.ms.map (·.name))[q - 1]? = some y ∧ bl y m.name = true) (hst : m.st = true) : M5 W tb fm L cn la v sm gm i f (q + 1) wr := by
  obtain ⟨B, sv, c, k1, k2, ns, sg, h, a1, a2, a3, a4, a5⟩ := h
  exact ⟨B, sv, c, k1, k2, ns, sg, h, a1, by omega, a3, a4.static hm hst, a5.step (z := m.name) (by simp [hm]) hy⟩
theorem M5.put (h : M5 W tb fm L cn la v sm gm i f q wr) {m : Sg} (hm : f.ms[q]? = some m) (hy : q = 0 ∨ ∃ y, (f.ms.map (·.name))[q - 1]? = some y ∧ bl y m.name = true) (hst : m.st = false) (hs : m.name.size ≤ maxLen) (hi : 12 * i + q < 100000) {a : Option Addr} {n c' : Nat} (hS : Sl wr 2 TyR m.ps (.slice a n c')) :
    ∃ w', (Instr.mapUpdate 67 (.map (some gm)) (.string m.name) (.agg #[.string m.name, .bool m.st, .slice a n c', .string m.rn, .bool m.ra])).run Try.prog wr = .ok () w' ∧ M5 W tb fm L cn la v sm gm i f (q + 1) w' ∧ Mods (· = gm) wr w' ∧ Keeps wr w' := by
  obtain ⟨B, sv, c, k1, k2, ns, sg, h, a1, a2, a3, a4, a5⟩ := h
  obtain ⟨w', e1, e2, e3, e4⟩ := h.put hs (by omega) hS
  exact ⟨w', e1, ⟨B, sv, c, k1, _, ns, _, e2, a1, by omega, a3, a4.own hm hst, a5.step (z := m.name) (by simp [hm]) hy⟩, e3, e4⟩
end
/-- how long the names on a way up are -/
theorem up_name {L : List Fc} (hsm : ∀ x ∈ L, Small x) {s : ByteArray} (hw : (ab L s).2 = true) {la : List ByteArray} (hla : la = (ab L s).1) {p : Nat} {b : ByteArray} (hb : la[p]? = some b) : b.size ≤ maxLen := by
  subst hla
  obtain ⟨_, hf⟩ := ab_drop hw hb
  cases h : fnd L b with
  | none => exact absurd h hf
  | some x =>
    obtain ⟨h1, rfl⟩ := fnd_some h
    have := (hsm x h1).name
    unfold maxLen; omega
end Go.Proofs.Ytgnkkoeklipmiaa
