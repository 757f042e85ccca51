/-
  A class's methods, held against a copy of them of which the first one was turned.
-/
import Derived.Test.YtojkagfbdpjckaaDoorApp2
namespace Go.Proofs.YtojkagfbdpjckaaDoor
open Go.RowKit

theorem refl37 {w2 x0 : World} (hBx : Below w2.heap.size w2 x0) {x : Mt} {cs : List Value} (h : MtR w2 x cs) (w : World) (hw : Below x0.heap.size x0 w) : Calls Tryd.prog 37 #[.agg cs.toArray, .agg cs.toArray] w fun e w' => e = .returned (.bool true) ∧ Below w.heap.size w w' := by
  obtain ⟨pv, bv, rfl, hp, d, hb⟩ := h.below hBx
  obtain ⟨pa, pc, rfl⟩ := hp.form
  obtain ⟨ba, bc, rfl⟩ := hb.form
  exact m37_body x0 x.params x.ln x.co x.ln x.co x.name x.static pa _ pc x.rn x.ra ba _ bc ba _ bc true hp (sameS_any x0 d _ _ hb) w hw

/-- The first row, and the others. -/
def firstOr (c0 : List Value) (C : Nat → List Value) (i : Nat) : List Value := if i = 0 then c0 else C i
theorem meths {w2 x0 : World} {ms : List Mt} {a2 : Option Addr} {n2 c2 g cap : Nat} {C : Nat → List Value} (hC : ∀ i, i < n2 → (∃ x, ms[i]? = some x ∧ MtR w2 x (C i)) ∧ ∃ b o, a2 = some ⟨b, o, none⟩ ∧ ∀ j v, (C i)[j]? = some v → w2.cell? ⟨b, o + i * 8 + j, none⟩ = some v)
    (hBx : Below w2.heap.size w2 x0) (hpos : 0 < n2) (h1 : n2 ≤ c2) (h2 : n2 ≤ cap) (h3 : c2 ≤ maxLen) (h4 : cap ≤ maxLen) (mln mco : Int) (mname : ByteArray) (mst : Bool) (pa : Option Addr) (pn pc : Nat) (mrn : ByteArray) (mra : Bool) (ba : Option Addr) (bn bc : Nat)
    (hG : ∀ i, i < n2 → Rw x0 g (i * 8) (firstOr [.int .i64 mln, .int .i64 mco, .string mname, .bool mst, .slice pa pn pc, .string mrn, .bool mra, .slice ba bn bc] C i)) (r : Bool)
    (h0 : ∀ w, Below x0.heap.size x0 w → Calls Tryd.prog 37 #[.agg (C 0).toArray, .agg #[.int .i64 mln, .int .i64 mco, .string mname, .bool mst, .slice pa pn pc, .string mrn, .bool mra, .slice ba bn bc]] w fun e w' => e = .returned (.bool r) ∧ Below w.heap.size w w')
    (h0' : ∀ w, Below x0.heap.size x0 w → Calls Tryd.prog 37 #[.agg #[.int .i64 mln, .int .i64 mco, .string mname, .bool mst, .slice pa pn pc, .string mrn, .bool mra, .slice ba bn bc], .agg (C 0).toArray] w fun e w' => e = .returned (.bool r) ∧ Below w.heap.size w w') :
    (∀ w, Below x0.heap.size x0 w → Calls Tryd.prog 36 #[.slice a2 n2 c2, .slice (some ⟨g, 0, none⟩) n2 cap, .func (.func 37) #[] #[]] w fun e w' => e = .returned (.bool r) ∧ Below w.heap.size w w') ∧
    (∀ w, Below x0.heap.size x0 w → Calls Tryd.prog 36 #[.slice (some ⟨g, 0, none⟩) n2 cap, .slice a2 n2 c2, .func (.func 37) #[] #[]] w fun e w' => e = .returned (.bool r) ∧ Below w.heap.size w w') := by
  have form : ∀ i, i < n2 → ∃ ln co name st pa pn pc rn ra ba bn bc, C i = [.int .i64 ln, .int .i64 co, .string name, .bool st, .slice pa pn pc, .string rn, .bool ra, .slice ba bn bc] := by
    intro i hi
    obtain ⟨⟨x, _, pv, bv, e, hp, d, hb⟩, _⟩ := hC i hi
    obtain ⟨pa, pc, rfl⟩ := hp.form
    obtain ⟨ba, bc, rfl⟩ := hb.form
    exact ⟨_, _, _, _, _, _, _, _, _, _, _, _, e⟩
  have two : Two x0 n2 (.slice a2 n2 c2) (.slice (some ⟨g, 0, none⟩) n2 cap) C (firstOr [.int .i64 mln, .int .i64 mco, .string mname, .bool mst, .slice pa pn pc, .string mrn, .bool mra, .slice ba bn bc] C) := by
    refine ⟨⟨_, _, _, _, rfl, rfl, h1, h2, h3, h4, fun i hi => ⟨?_, ?_⟩⟩, fun i hi => ?_⟩
    · obtain ⟨_, b, o, ea, hc⟩ := hC i hi
      exact ⟨b, o, ea, fun j v hv => (hBx.cell (World.block_lt_of_cell? _ _ (hc j v hv))).trans (hc j v hv)⟩
    · exact ⟨g, 0, rfl, fun j v hv => by have := hG i hi j v hv; rwa [Nat.zero_add]⟩
    · obtain ⟨ln, co, name, st, pa', pn', pc', rn, ra, ba', bn', bc', e⟩ := form i hi
      by_cases h : i = 0
      · exact ⟨ln, co, name, st, pa', pn', pc', rn, ra, ba', bn', bc', mln, mco, mname, mst, pa, pn, pc, mrn, mra, ba, bn, bc, e, by unfold firstOr; rw [if_pos h]⟩
      · exact ⟨ln, co, name, st, pa', pn', pc', rn, ra, ba', bn', bc', ln, co, name, st, pa', pn', pc', rn, ra, ba', bn', bc', e, by unfold firstOr; rw [if_neg h]; exact e⟩
  have hr : r = (List.range n2).all (fun i => if i = 0 then r else true) := by
    cases r with
    | true => simp
    | false => exact (List.all_eq_false.2 ⟨0, List.mem_range.2 hpos, by simp⟩).symm
  refine ⟨eq36 x0 n2 _ _ _ _ two (fun i => if i = 0 then r else true) (fun i hi w hw => ?_) r hr, eq36 x0 n2 _ _ _ _ two.swap (fun i => if i = 0 then r else true) (fun i hi w hw => ?_) r hr⟩
  · by_cases h : i = 0
    · subst h; exact h0 w hw
    · simp only [firstOr, if_neg h]
      obtain ⟨⟨x, _, hx⟩, _⟩ := hC i hi
      exact refl37 hBx hx w hw
  · by_cases h : i = 0
    · subst h; exact h0' w hw
    · simp only [firstOr, if_neg h]
      obtain ⟨⟨x, _, hx⟩, _⟩ := hC i hi
      exact refl37 hBx hx w hw
end Go.Proofs.YtojkagfbdpjckaaDoor
