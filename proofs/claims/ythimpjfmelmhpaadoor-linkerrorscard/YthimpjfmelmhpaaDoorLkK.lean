/-
  The statement's own 'check': what it holds, plainly and between two calls.
-/
import Derived.Test.YthimpjfmelmhpaaDoorLkJ
namespace Go.Proofs.YthimpjfmelmhpaaDoor.Fc
open Go.RowKit
set_option linter.unusedVariables false
set_option linter.unusedSimpArgs false

/-- cells of one's own -/
structure Bx (q : Nat) (cs : List Value) (z : World) : Prop where
  box : ∀ j v, cs[j]? = some v → z.cell? ⟨q, j, none⟩ = some v
  pl : ∀ v ∈ cs, Pl v
theorem Bx.keep {q : Nat} {cs : List Value} {z z' : World} (h : Bx q cs z) (hk : Keeps z z') : Bx q cs z' := ⟨fun j v hv => hk _ _ (h.box j v hv) (h.pl v (List.mem_of_getElem? hv)), h.pl⟩
theorem Bx.new {w : World} {cs : List Value} {t : TypeId} (h : ∀ v ∈ cs, Pl v) : Bx w.heap.size cs (w.alloc (.cells cs.toArray t)) := ⟨fun j v hv => by rw [(Blk.new w cs t).cell]; exact hv, h⟩
theorem Bx.bel {q : Nat} {cs : List Value} {z z' : World} (h : Bx q cs z) (hb : Below z.heap.size z z') : Bx q cs z' := h.keep (Keeps.of_below hb)
theorem Bx.lt {q : Nat} {cs : List Value} {z : World} (h : Bx q cs z) {v : Value} (hv : cs[0]? = some v) : q < z.heap.size := World.block_lt_of_cell? _ _ (h.box 0 v hv)
/-- a call over a table, between two calls -/
theorem TS.call {W w : World} {tb fm k j f : Nat} {L : List Fc} {args : Array Value} {r : Value} (h : TS W tb fm L k w) (hk : k < 50000000000)
    (hc : ∀ B sv c, B ≤ w.heap.size → Tb B w tb fm sv c L → c < 60000000000 → Calls Tryd.prog f args w (TPost B tb fm L w sv c j r)) :
    Calls Tryd.prog f args w fun e w' => e = .returned r ∧ TS W tb fm L (k + j) w' ∧ Keeps w w' ∧ w.heap.size ≤ w'.heap.size := by
  obtain ⟨B, sv, c, h1, h2, h3, h4, h5⟩ := h
  refine (hc B sv c h3 h1 (by omega)).mono ?_
  rintro e w' ⟨sv', c', rfl, hT, hs, hc'⟩
  have := TS.next h1 h2 h3 h4 h5 hT hs hc'
  exact ⟨rfl, this.1, this.2, hs.mods.size⟩
theorem TS.face {W w : World} {tb fm k : Nat} {L : List Fc} (h : TS W tb fm L k w) (hk : k < 50000000000) (s : ByteArray) (hs : s.size ≤ maxLen) :
    Calls Tryd.prog 28 #[.pointer (some ⟨tb, 0, none⟩), .string s] w fun e w' => ∃ u1 u2 u3 v1 v2 v3, e = .returned (.tuple #[.agg #[.string ((fnd L s).getD zF).name, .string ((fnd L s).getD zF).sup, .slice u1 u2 u3, .slice v1 v2 v3], .bool (fnd L s).isSome]) ∧ TS W tb fm L (k + 1) w' ∧ Keeps w w' ∧ w.heap.size ≤ w'.heap.size := by
  obtain ⟨B, sv, c, h1, h2, h3, h4, h5⟩ := h
  refine (face15 B tb fm L s hs w sv c h3 h1 (by omega)).mono ?_
  rintro e w' ⟨cs, sv', c', rfl, hf, hT, hs, hc'⟩
  have := TS.next h1 h2 h3 h4 h5 hT hs hc'
  obtain ⟨u1, u2, u3, v1, v2, v3, rfl, _⟩ := hf
  exact ⟨u1, u2, u3, v1, v2, v3, rfl, this.1, this.2, hs.mods.size⟩
theorem TS.le {W w : World} {tb fm k j : Nat} {L : List Fc} (h : TS W tb fm L k w) (hj : k ≤ j) : TS W tb fm L j w := by
  obtain ⟨B, sv, c, h1, h2, h3, h4, h5⟩ := h
  exact ⟨B, sv, c, h1, h2, h3, by omega, h5⟩
/-! ### plainly -/
def okB (L : List Fc) (f : Fl) : Bool := f.ty.all (fun t => knB L t.n) && f.cl.all (fun c => (fnd L c).isSome) && f.fd.all (okFd L) && f.mt.all (fun x => (fdL L x).isSome)
noncomputable def fitT (L : List Fc) (f : Fl) : Int := if chk L f.fc.name ≠ 0 then chk L f.fc.name else if okB L f then 0 else 30
noncomputable def fitsT (L : List Fc) : List Fl → Int
  | [] => 0
  | f :: r => if fitT L f ≠ 0 then fitT L f else fitsT L r
noncomputable def ckE (fs : List Fl) : Int := if gat [] fs ≠ 0 then gat [] fs else fitsT (faces fs) fs
theorem kn_class {L : List Fc} {c : ByteArray} (h : classB c = true) : knB L c = (fnd L c).isSome := by
  unfold classB at h
  rw [Bool.and_eq_true] at h
  have h1 : intB c = false := by
    cases hi : intB c with
    | false => rfl
    | true => rw [int_great hi] at h; simp at h
  have h2 : boolB c = false := by
    cases hi : boolB c with
    | false => rfl
    | true => rw [bool_great hi] at h; simp at h
  unfold knB
  rw [h1, h2, h.1, h.2]
  simp
theorem any_not {α : Type} (l : List α) (p q : α → Bool) (h : ∀ x ∈ l, p x = !q x) : l.any p = !(l.all q) := by
  induction l with
  | nil => rfl
  | cons x r ih =>
    rw [List.any_cons, List.all_cons, h x (by simp), ih (fun y hy => h y (by simp [hy]))]
    cases q x <;> simp
theorem lack_ok {fs : List Fl} (h : Once fs) {f : Fl} (hf : RightF f) : lackB fs f = !okB (faces fs) f := by
  unfold lackB okB
  rw [any_not f.cl (fun c => !knB (faces fs) c) (fun c => (fnd (faces fs) c).isSome) (fun c hc => by rw [kn_class (hf.po.2.1.2 c hc).name]),
    any_not f.fd (fun x => !okFd (faces fs) x) (okFd (faces fs)) (fun _ _ => rfl),
    any_not f.mt (fun x => (fdM fs x).isNone) (fun x => (fdL (faces fs) x).isSome) (fun x _ => by rw [fdM_eq h]; cases fdL (faces fs) x <;> rfl)]
  cases f.ty.all (fun t => knB (faces fs) t.n) <;> cases f.cl.all (fun c => (fnd (faces fs) c).isSome) <;> cases f.fd.all (okFd (faces fs)) <;> simp
theorem fit_eq {fs : List Fl} (h : Once fs) {f : Fl} (hf : RightF f) : fitE fs f = fitT (faces fs) f := by
  unfold fitE fitT
  rw [lack_ok h hf]
  cases okB (faces fs) f <;> simp
theorem fits_eq {fs : List Fl} (h : Once fs) : ∀ (l : List Fl), (∀ f ∈ l, RightF f) → fitsE fs l = fitsT (faces fs) l
  | [], _ => rfl
  | f :: r, hl => by
    rw [fitsE, fitsT, fit_eq h (hl f (by simp)), fits_eq h r (fun g hg => hl g (by simp [hg]))]
/-- both ways of asking tell the same fault -/
theorem lk_ck (fs : List Fl) : lkE fs = ckE fs := by
  unfold lkE ckE
  by_cases h : gat [] fs = 0
  · have h2 := gat_ok h
    rw [if_neg (by simpa using h), if_neg (by simpa using h), fits_eq h2.2 fs (fun f hf => (h2.1 f hf).1)]
  · rw [if_pos h, if_pos h]
/-! ### faces in a row -/
structure CSt (w : World) (C : Nat → List Value) (k : Nat) (v : Value) (wr : World) : Prop where
  row : wr.ownsRow w.heap.size 35 4 v k (flat C k)
  bel : Below w.heap.size w wr
section
variable {w : World} {C : Nat → List Value} {k : Nat} {v : Value} {wr w' : World}
theorem CSt.below (h : CSt w C k v wr) (hb : Below wr.heap.size wr w') : CSt w C k v w' := ⟨row_keep (fp := fun _ => False) h.row (Mods.of_below hb) (fun _ _ _ h => h), h.bel.trans (hb.mono h.bel.size)⟩
theorem CSt.app (h : CSt w C k v wr) (hl : (C k).length = 4) (h1 : ∀ u ∈ C k, u.oneCell' = true) (hk : k ≤ 1000) :
    ∃ v' w', (Builtin.append_ #[80, 80] 80 #[v, .slice (some ⟨wr.heap.size, 0, none⟩) 1 1]).run Tryd.prog (wr.alloc (.cells (C k).toArray 35)) = .ok v' w' ∧ CSt w C (k + 1) v' w' ∧ wr.heap.size ≤ w'.heap.size := by
  have h2 := h.below (below1 wr (.cells (C k).toArray 35))
  obtain ⟨v', w', hr, ho, hm⟩ := app_fc hl h1 h.row hk h.bel.size
  refine ⟨v', w', hr, ⟨?_, h2.bel.trans (hm.below (fun k e => e.1) h2.bel.size)⟩, Nat.le_trans (by simp) hm.size⟩
  rw [flat_next]
  exact ho
end
theorem cst_zero (w : World) (C : Nat → List Value) : CSt w C 0 (.slice (some ⟨w.heap.size, 0, none⟩) 0 0) (w.alloc (.cells #[] 35)) :=
  ⟨⟨by simp [flat], .inr ⟨w.heap.size, 0, #[], rfl, Nat.le_refl _, (MapKept.heap_alloc w _).1, Nat.le_refl _, Nat.zero_le _, by simp, by simp [flat]⟩⟩, below1 w _⟩
end Go.Proofs.YthimpjfmelmhpaaDoor.Fc
