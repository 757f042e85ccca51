/-
  Maps beside a table; names that rise; what was seen so far.
-/
import Derived.Test.YtgnkkoeklipmiaaAllPlain
namespace Go.Proofs.Ytgnkkoeklipmiaa
open Go.RowKit
set_option linter.unusedVariables false

abbrev bl (a b : ByteArray) : Bool := Op.bytesLess a.toList b.toList
theorem geqS (a b : ByteArray) (w : World) : (binOp .geq 9 (.string a) (.string b)).run Try.prog w = .ok (.bool (!bl a b)) w := rfl
theorem less_irrefl : ∀ (a : List UInt8), Op.bytesLess a a = false
  | [] => rfl
  | x :: l => by simp [Op.bytesLess, less_irrefl l, UInt8.lt_irrefl]
theorem less_trans : ∀ {a b c : List UInt8}, Op.bytesLess a b = true → Op.bytesLess b c = true → Op.bytesLess a c = true
  | _, [], _, h, _ => by cases ‹List UInt8› <;> simp [Op.bytesLess] at h
  | _, _ :: _, [], _, h => by simp [Op.bytesLess] at h
  | [], _ :: _, _ :: _, _, _ => rfl
  | x :: a, y :: b, z :: c, h1, h2 => by
    simp only [Op.bytesLess, Bool.or_eq_true, decide_eq_true_eq, Bool.and_eq_true, beq_iff_eq] at h1 h2 ⊢
    rcases h1 with h1 | ⟨rfl, h1⟩
    · rcases h2 with h2 | ⟨rfl, h2⟩
      · exact .inl (UInt8.lt_trans h1 h2)
      · exact .inl h1
    · rcases h2 with h2 | ⟨rfl, h2⟩
      · exact .inl h2
      · exact .inr ⟨rfl, less_trans h1 h2⟩
theorem bl_ne {a b : ByteArray} (h : bl a b = true) : a ≠ b := fun e => by
  subst e
  rw [show bl a a = false from less_irrefl _] at h
  cases h

theorem MAt.look1 {w : World} {b n : Nat} {f : ByteArray → Option Value} (h : MAt w b n f) {t e : TypeId} (ht : Try.prog.underlying t = some (.map 9 e)) {z : Value} (hz : (zeroValue e).run Try.prog w = .ok z w) {s : ByteArray} (hs : s.size ≤ maxLen) :
    (Instr.lookup t (.map (some b)) (.string s) false).run Try.prog w = .ok ((f s).getD z) w := by
  obtain ⟨D, h, hf⟩ := h
  obtain ⟨v, ps, hrun, hv⟩ := h.lookup law ht hz (show heldE z = some (.held z, []) from rfl) (key9 hs)
  rw [hrun, hf s]
  unfold gt
  cases hh : Maps.has D (ky s) with
  | true =>
    rw [at_indep hh _ (.held (.bool false))] at hv
    cases hd : D.atKey (ky s) (.held (.bool false)) with
    | held u => rw [hd] at hv; simp [heldE] at hv; simp [unH, hv.1]
    | _ => rw [hd] at hv; simp [heldE] at hv
  | false =>
    rw [at_none hh] at hv
    simp [heldE] at hv
    simp [hv]
theorem zero4 (w : World) : (zeroValue 4).run Try.prog w = .ok (.bool false) w := by kernel_rfl
theorem zero50 (w : World) : (zeroValue 50).run Try.prog w = .ok (.agg #[.string ⟨#[]⟩, .bool false, .slice none 0 0, .string ⟨#[]⟩, .bool false]) w := by kernel_rfl
theorem Tb.apart {B : Nat} {w w' : World} {tb fm q : Nat} {sv : Value} {c : Nat} {L : List Fc} (h : Tb B w tb fm sv c L) (hm : Mods (· = q) w w') (hk : Keeps w w') (h1 : q ≠ tb) (h2 : q ≠ fm) (h3 : sv ≠ .map (some q)) : Tb B w' tb fm sv c L := by
  refine ⟨h.blk.keep hm (fun e => h1 e.symm), h.faces.keep hm (fun e => h2 e.symm) hk, ?_, h.lo, h.los, h.sm⟩
  rcases h.seen with e | ⟨m, S, e, hS, hne⟩
  · exact .inl e
  · exact .inr ⟨m, S, e, hS.keep hm (fun e' => h3 (by rw [e, e'])), hne⟩

/-- a method in a map -/
def GEnt (w : World) : Option Sg → Option Value → Prop
  | none, v => v = none
  | some o, v => ∃ a n c, v = some (.agg #[.string o.name, .bool o.st, .slice a n c, .string o.rn, .bool o.ra]) ∧ Sl w 2 TyR o.ps (.slice a n c)
theorem GEnt.keep {w w' : World} (hk : Keeps w w') {o : Option Sg} {v : Option Value} (h : GEnt w o v) : GEnt w' o v := by
  cases o with
  | none => exact h
  | some x => obtain ⟨a, n, c, e, h⟩ := h; exact ⟨a, n, c, e, tys_keep hk h⟩
/-- a table, names, and two maps of one's own -/
structure HInv (B tb fm : Nat) (L : List Fc) (W : World) (cn : Nat) (la : List ByteArray) (v : Value) (sm gm : Nat) (wr : World) (sv : Value) (c k1 k2 : Nat) (ns : List ByteArray) (sg : ByteArray → Option Sg) : Prop where
  tab : Tb B wr tb fm sv c L
  blo : W.heap.size ≤ B
  bhi : B ≤ wr.heap.size
  cnt : c ≤ cn
  bel : Below W.heap.size W wr
  names : Sl wr 1 StrR la v
  e1 : sv ≠ .map (some sm)
  e2 : sv ≠ .map (some gm)
  e3 : sm ≠ gm
  e4 : sm ≠ fm
  e5 : gm ≠ fm
  l1 : W.heap.size ≤ sm
  l2 : W.heap.size ≤ gm
  seen : ∃ F, MAt wr sm k1 F ∧ ∀ t, F t = if t ∈ ns then some (.bool true) else none
  sigs : ∃ G, MAt wr gm k2 G ∧ ∀ t, GEnt wr (sg t) (G t)
section
variable {B tb fm : Nat} {L : List Fc} {W : World} {cn : Nat} {la : List ByteArray} {v : Value} {sm gm : Nat} {wr : World} {sv : Value} {c k1 k2 : Nat} {ns : List ByteArray} {sg : ByteArray → Option Sg}
theorem HInv.below {w1 : World} (h : HInv B tb fm L W cn la v sm gm wr sv c k1 k2 ns sg) (hb : Below wr.heap.size wr w1) : HInv B tb fm L W cn la v sm gm w1 sv c k1 k2 ns sg := by
  obtain ⟨F, f1, f2⟩ := h.seen
  obtain ⟨G, g1, g2⟩ := h.sigs
  exact ⟨h.tab.below hb, h.blo, Nat.le_trans h.bhi hb.size, h.cnt, h.bel.trans (hb.mono (Nat.le_trans h.blo h.bhi)), strs_keep (Keeps.of_below hb) h.names, h.e1, h.e2, h.e3, h.e4, h.e5, h.l1, h.l2, ⟨F, f1.keep (fp := fun _ => False) (Mods.of_below hb) id, f2⟩, ⟨G, g1.keep (fp := fun _ => False) (Mods.of_below hb) id, fun t => (g2 t).keep (Keeps.of_below hb)⟩⟩
theorem HInv.looked {w1 : World} {sv2 : Value} {c2 : Nat} (h : HInv B tb fm L W cn la v sm gm wr sv c k1 k2 ns sg) (hT2 : Tb B w1 tb fm sv2 c2 L) (hs2 : Stp tb wr sv w1 sv2) (hc2 : c2 ≤ c + 1) : HInv B tb fm L W (cn + 1) la v sm gm w1 sv2 c2 k1 k2 ns sg := by
  obtain ⟨F, f1, f2⟩ := h.seen
  obtain ⟨G, g1, g2⟩ := h.sigs
  have new : ∀ q, q < wr.heap.size → sv ≠ .map (some q) → sv2 ≠ .map (some q) := fun q hq hne => by
    rcases hs2.new with e | ⟨j, e, hj⟩
    · rw [e]; exact hne
    · rw [e]; intro e; injection e with e; injection e with e; omega
  have tbm : ∀ q n f, MAt wr q n f → q ≠ tb := fun q n f hM e => by
    subst e
    exact hM.no_cell (h.tab.blk.cell 0)
  refine ⟨hT2, h.blo, Nat.le_trans h.bhi hs2.mods.size, by have := h.cnt; omega, h.bel.trans ((hs2.below h.tab h.bhi).mono h.blo), strs_keep hs2.keeps h.names, new _ f1.lt h.e1, new _ g1.lt h.e2, h.e3, h.e4, h.e5, h.l1, h.l2, ⟨F, f1.keep hs2.mods (fun e => ?_), f2⟩, ⟨G, g1.keep hs2.mods (fun e => ?_), fun t => (g2 t).keep hs2.keeps⟩⟩
  · rcases e with e | e
    · exact tbm _ _ _ f1 e
    · exact h.e1 e
  · rcases e with e | e
    · exact tbm _ _ _ g1 e
    · exact h.e2 e
theorem HInv.has (h : HInv B tb fm L W cn la v sm gm wr sv c k1 k2 ns sg) {t : ByteArray} (ht : t.size ≤ maxLen) (hn : t ∉ ns) : (Instr.lookup 66 (.map (some sm)) (.string t) false).run Try.prog wr = .ok (.bool false) wr := by
  obtain ⟨F, f1, f2⟩ := h.seen
  rw [f1.look1 Try.underlying66 (zero4 wr) ht, f2 t, if_neg hn]
  rfl
theorem HInv.mark (h : HInv B tb fm L W cn la v sm gm wr sv c k1 k2 ns sg) {t : ByteArray} (ht : t.size ≤ maxLen) (hk : k1 < 100000) : ∃ w', (Instr.mapUpdate 66 (.map (some sm)) (.string t) (.bool true)).run Try.prog wr = .ok () w' ∧ HInv B tb fm L W cn la v sm gm w' sv c (k1 + 1) k2 (t :: ns) sg ∧ Mods (· = sm) wr w' ∧ Keeps wr w' := by
  obtain ⟨F, f1, f2⟩ := h.seen
  obtain ⟨G, g1, g2⟩ := h.sigs
  obtain ⟨w', hrun, h3, hm⟩ := f1.store Try.underlying66 (by unfold maxLen; omega) ht (.bool true)
  have hke := keeps_map f1 hm
  have htb : sm ≠ tb := fun e => by
    subst e
    exact f1.no_cell (h.tab.blk.cell 0)
  refine ⟨w', hrun, ⟨h.tab.apart hm hke htb h.e4 h.e1, h.blo, Nat.le_trans h.bhi hm.size, h.cnt, h.bel.trans (hm.below (fun k e => by have := h.l1; omega) (Nat.le_trans h.blo h.bhi)), strs_keep hke h.names, h.e1, h.e2, h.e3, h.e4, h.e5, h.l1, h.l2, ⟨_, h3, fun u => ?_⟩, ⟨G, g1.keep hm (fun e => h.e3 e.symm), fun t => (g2 t).keep hke⟩⟩, hm, hke⟩
  unfold upd
  rw [f2 u]
  by_cases e : u = t
  · simp [e]
  · by_cases e' : u ∈ ns <;> simp [e, e']
theorem HInv.sig (h : HInv B tb fm L W cn la v sm gm wr sv c k1 k2 ns sg) {t : ByteArray} (ht : t.size ≤ maxLen) : ∃ a n c', (Instr.lookup 67 (.map (some gm)) (.string t) true).run Try.prog wr = .ok (.tuple #[.agg #[.string ((sg t).getD zS).name, .bool ((sg t).getD zS).st, .slice a n c', .string ((sg t).getD zS).rn, .bool ((sg t).getD zS).ra], .bool (sg t).isSome]) wr ∧ Sl wr 2 TyR ((sg t).getD zS).ps (.slice a n c') := by
  obtain ⟨G, g1, g2⟩ := h.sigs
  have hr := g1.look Try.underlying67 (zero50 wr) ht
  have h3 := g2 t
  cases hs : sg t with
  | none =>
    rw [hs] at h3
    rw [show G t = none from h3] at hr
    exact ⟨none, 0, 0, hr, Sl.nil _ _ _⟩
  | some o =>
    rw [hs] at h3
    obtain ⟨a, n, c', e, hS⟩ := h3
    rw [e] at hr
    exact ⟨a, n, c', hr, hS⟩
theorem HInv.put (h : HInv B tb fm L W cn la v sm gm wr sv c k1 k2 ns sg) {m : Sg} {a : Option Addr} {n c' : Nat} (ht : m.name.size ≤ maxLen) (hk : k2 < 100000) (hS : Sl wr 2 TyR m.ps (.slice a n c')) : ∃ w', (Instr.mapUpdate 67 (.map (some gm)) (.string m.name) (.agg #[.string m.name, .bool m.st, .slice a n c', .string m.rn, .bool m.ra])).run Try.prog wr = .ok () w' ∧ HInv B tb fm L W cn la v sm gm w' sv c k1 (k2 + 1) ns (fun t => if t = m.name then some m else sg t) ∧ Mods (· = gm) wr w' ∧ Keeps wr w' := by
  obtain ⟨F, f1, f2⟩ := h.seen
  obtain ⟨G, g1, g2⟩ := h.sigs
  obtain ⟨w', hrun, h3, hm⟩ := g1.store Try.underlying67 (by unfold maxLen; omega) ht (.agg #[.string m.name, .bool m.st, .slice a n c', .string m.rn, .bool m.ra])
  have hke := keeps_map g1 hm
  have htb : gm ≠ tb := fun e => by
    subst e
    exact g1.no_cell (h.tab.blk.cell 0)
  refine ⟨w', hrun, ⟨h.tab.apart hm hke htb h.e5 h.e2, h.blo, Nat.le_trans h.bhi hm.size, h.cnt, h.bel.trans (hm.below (fun k e => by have := h.l2; omega) (Nat.le_trans h.blo h.bhi)), strs_keep hke h.names, h.e1, h.e2, h.e3, h.e4, h.e5, h.l1, h.l2, ⟨F, f1.keep hm (fun e => h.e3 e), f2⟩, ⟨_, h3, fun u => ?_⟩⟩, hm, hke⟩
  unfold upd
  by_cases e : u = m.name
  · rw [if_pos e, if_pos e]
    exact ⟨a, n, c', rfl, tys_keep hke hS⟩
  · rw [if_neg e, if_neg e]
    exact (g2 u).keep hke
end
end Go.Proofs.Ytgnkkoeklipmiaa
