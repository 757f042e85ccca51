/-
  Statements, members and classes in memory.
-/
import Derived.Test.YtojkagfbdpjckaaDoorFew
namespace Go.Proofs.YtojkagfbdpjckaaDoor
open Go.RowKit

/-- A statement. -/
inductive St where
  | mk (does ln co : Int) (name tn : ByteArray) (ta : Bool) (e : List Tree) (th el : List St)
/-- A field, or a parameter. -/
structure Vr where
  name : ByteArray
  tn : ByteArray
  ta : Bool
/-- A method. -/
structure Mt where
  ln : Int
  co : Int
  name : ByteArray
  static : Bool
  params : List Vr
  rn : ByteArray
  ra : Bool
  body : List St

/-- A slice's value is that of these data, each in n cells. -/
def Sl {α : Type} (W : World) (n : Nat) (R : α → List Value → Prop) (xs : List α) (v : Value) : Prop :=
  ∃ a cap, v = .slice a xs.length cap ∧ xs.length ≤ cap ∧ cap ≤ maxLen ∧ ∀ i x, xs[i]? = some x → ∃ b o cs, a = some ⟨b, o, none⟩ ∧ (∀ j v, cs[j]? = some v → W.cell? ⟨b, o + i * n + j, none⟩ = some v) ∧ R x cs
def ExR (W : World) (t : Tree) (cs : List Value) : Prop := ∃ kk, cs = exprC t kk ∧ Ex W t kk
def stC (does ln co : Int) (name tn : ByteArray) (ta : Bool) (ev tv lv : Value) : List Value := [.int .i64 does, .int .i64 ln, .int .i64 co, .string name, .string tn, .bool ta, ev, tv, lv]
def StR (W : World) : Nat → St → List Value → Prop
  | 0, _, _ => False
  | d + 1, .mk does ln co name tn ta e th el, cs => ∃ ev tv lv, cs = stC does ln co name tn ta ev tv lv ∧ Sl W 11 (ExR W) e ev ∧ Sl W 9 (StR W d) th tv ∧ Sl W 9 (StR W d) el lv
def VrR (v : Vr) (cs : List Value) : Prop := cs = [.string v.name, .string v.tn, .bool v.ta]
def mtC (m : Mt) (pv bv : Value) : List Value := [.int .i64 m.ln, .int .i64 m.co, .string m.name, .bool m.static, pv, .string m.rn, .bool m.ra, bv]
def MtR (W : World) (m : Mt) (cs : List Value) : Prop := ∃ pv bv, cs = mtC m pv bv ∧ Sl W 3 VrR m.params pv ∧ ∃ d, Sl W 9 (StR W d) m.body bv

theorem Sl.mono {α : Type} {W w : World} {n : Nat} {R R' : α → List Value → Prop} {xs : List α} {v : Value} (h : Sl W n R xs v) (hw : Below W.heap.size W w) (hR : ∀ x cs, R x cs → R' x cs) : Sl w n R' xs v := by
  obtain ⟨a, cap, e, hl, hc, hk⟩ := h
  refine ⟨a, cap, e, hl, hc, fun i t hi => ?_⟩
  obtain ⟨b, o, cs, ea, hcell, hq⟩ := hk i t hi
  exact ⟨b, o, cs, ea, fun j v hv => (hw.cell (World.block_lt_of_cell? _ _ (hcell j v hv))).trans (hcell j v hv), hR _ _ hq⟩
theorem ExR.below {W w : World} {t : Tree} {cs : List Value} (hw : Below W.heap.size W w) (h : ExR W t cs) : ExR w t cs := h.elim fun kk hk => ⟨kk, hk.1, hk.2.below hw⟩
theorem StR.below {W w : World} (hw : Below W.heap.size W w) : ∀ {d : Nat} {s : St} {cs : List Value}, StR W d s cs → StR w d s cs
  | 0, _, _, h => h.elim
  | d + 1, .mk _ _ _ _ _ _ _ _ _, _, h => by
    obtain ⟨ev, tv, lv, e, h1, h2, h3⟩ := h
    exact ⟨ev, tv, lv, e, h1.mono hw (fun _ _ h => h.below hw), h2.mono hw (fun _ _ h => StR.below (d := d) hw h), h3.mono hw (fun _ _ h => StR.below (d := d) hw h)⟩
theorem MtR.below {W w : World} {m : Mt} {cs : List Value} (hw : Below W.heap.size W w) (h : MtR W m cs) : MtR w m cs := by
  obtain ⟨pv, bv, e, h1, d, h2⟩ := h
  exact ⟨pv, bv, e, h1.mono hw (fun _ _ h => h), d, h2.mono hw (fun _ _ h => h.below hw)⟩
theorem Sl.nil {α : Type} (W : World) (n : Nat) (R : α → List Value → Prop) : Sl W n R [] (.slice none 0 0) := ⟨none, 0, rfl, Nat.le_refl _, Nat.zero_le _, fun i t h => by simp at h⟩
theorem Sl.form {α : Type} {W : World} {n : Nat} {R : α → List Value → Prop} {xs : List α} {v : Value} (h : Sl W n R xs v) : ∃ a cap, v = .slice a xs.length cap := h.elim fun a h => h.elim fun cap h => ⟨a, cap, h.1⟩
theorem Sl.at {α : Type} {W : World} {n : Nat} {R : α → List Value → Prop} {xs : List α} {a : Option Addr} {m cap : Nat} (h : Sl W n R xs (.slice a m cap)) : m = xs.length ∧ m ≤ cap ∧ cap ≤ maxLen ∧ ∀ i x, xs[i]? = some x → ∃ b o cs, a = some ⟨b, o, none⟩ ∧ (∀ j v, cs[j]? = some v → W.cell? ⟨b, o + i * n + j, none⟩ = some v) ∧ R x cs := by
  obtain ⟨a', cap', e, hl, hc, hk⟩ := h
  cases e
  exact ⟨rfl, hl, hc, hk⟩
/-- A slice of expressions, as elsewhere. -/
theorem Sl.kids {W : World} {es : List Tree} {v : Value} (h : Sl W 11 (ExR W) es v) : Kids W (fun t kk => Ex W t kk) es v := by
  obtain ⟨a, cap, e, hl, hc, hk⟩ := h
  refine ⟨a, cap, e, hl, hc, fun i t hi => ?_⟩
  obtain ⟨b, o, cs, ea, hcell, kk, rfl, hx⟩ := hk i t hi
  exact ⟨b, o, kk, ea, hcell, hx.slice, hx.1, hx⟩
theorem StR.open {W : World} {d : Nat} {s : St} {cs : List Value} (h : StR W d s cs) : ∃ d' does ln co name tn ta e th el a1 n1 c1 a2 n2 c2 a3 n3 c3, s = .mk does ln co name tn ta e th el ∧ d = d' + 1 ∧ cs = stC does ln co name tn ta (.slice a1 n1 c1) (.slice a2 n2 c2) (.slice a3 n3 c3) ∧ Sl W 11 (ExR W) e (.slice a1 n1 c1) ∧ Sl W 9 (StR W d') th (.slice a2 n2 c2) ∧ Sl W 9 (StR W d') el (.slice a3 n3 c3) := by
  cases d with
  | zero => exact h.elim
  | succ d =>
    obtain ⟨does, ln, co, name, tn, ta, e, th, el⟩ := s
    obtain ⟨ev, tv, lv, rfl, h1, h2, h3⟩ := h
    obtain ⟨a1, c1, rfl⟩ := h1.form
    obtain ⟨a2, c2, rfl⟩ := h2.form
    obtain ⟨a3, c3, rfl⟩ := h3.form
    exact ⟨d, does, ln, co, name, tn, ta, e, th, el, a1, _, c1, a2, _, c2, a3, _, c3, rfl, rfl, rfl, h1, h2, h3⟩
end Go.Proofs.YtojkagfbdpjckaaDoor
