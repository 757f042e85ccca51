/-
  Files that fit together, plainly: which file is of a name; which fault is told.
-/
import Derived.Test.YthimpjfmelmhpaaDoorCsRight
namespace Go.Proofs.YthimpjfmelmhpaaDoor.Fc
open Go.RowKit
set_option linter.unusedVariables false

def faces (fs : List Fl) : List Fc := fs.map (·.fc)
def zFl : Fl := ⟨zF, [], [], [], [], [], []⟩
/-- at which place the first file of a name stands -/
def plc : List Fl → ByteArray → Option Nat
  | [], _ => none
  | f :: r, s => if f.fc.name = s then some 0 else (plc r s).map (· + 1)
/-- the first file of a name -/
def flAt : List Fl → ByteArray → Option Fl
  | [], _ => none
  | f :: r, s => if f.fc.name = s then some f else flAt r s
theorem plc_at : ∀ {fs : List Fl} {s : ByteArray} {k : Nat}, plc fs s = some k → ∃ f, fs[k]? = some f ∧ flAt fs s = some f
  | [], s, k, h => by simp [plc] at h
  | f :: r, s, k, h => by
    by_cases e : f.fc.name = s
    · rw [plc, if_pos e] at h
      cases h
      exact ⟨f, rfl, by rw [flAt, if_pos e]⟩
    · rw [plc, if_neg e] at h
      obtain ⟨j, hj, rfl⟩ := Option.map_eq_some_iff.1 h
      obtain ⟨g, h1, h2⟩ := plc_at hj
      exact ⟨g, by simpa using h1, by rw [flAt, if_neg e, h2]⟩
theorem plc_none : ∀ {fs : List Fl} {s : ByteArray}, plc fs s = none → flAt fs s = none
  | [], s, h => rfl
  | f :: r, s, h => by
    by_cases e : f.fc.name = s
    · rw [plc, if_pos e] at h; cases h
    · rw [plc, if_neg e] at h
      rw [flAt, if_neg e]
      exact plc_none (by simpa using h)
theorem plc_some_iff {fs : List Fl} {s : ByteArray} : (plc fs s).isSome = (flAt fs s).isSome := by
  cases h : plc fs s with
  | none => rw [plc_none h]; rfl
  | some k => obtain ⟨f, _, h2⟩ := plc_at h; rw [h2]; rfl
theorem plc_snoc : ∀ (l : List Fl) (x : Fl) (s : ByteArray), plc (l ++ [x]) s = match plc l s with
    | some k => some k
    | none => if x.fc.name = s then some l.length else none
  | [], x, s => by simp [plc]
  | f :: r, x, s => by
    rw [List.cons_append, plc, plc]
    by_cases e : f.fc.name = s
    · rw [if_pos e, if_pos e]
    · rw [if_neg e, if_neg e, plc_snoc r x s]
      cases h : plc r s with
      | some k => rfl
      | none =>
        by_cases e2 : x.fc.name = s
        · simp [e2]
        · simp [e2]
theorem flAt_mem : ∀ {fs : List Fl} {s : ByteArray} {f : Fl}, flAt fs s = some f → f ∈ fs ∧ f.fc.name = s
  | [], s, f, h => by cases h
  | g :: r, s, f, h => by
    by_cases e : g.fc.name = s
    · rw [flAt, if_pos e] at h; cases h; exact ⟨by simp, e⟩
    · rw [flAt, if_neg e] at h
      have := flAt_mem h
      exact ⟨by simp [this.1], this.2⟩
theorem flAt_none : ∀ {fs : List Fl} {s : ByteArray}, flAt fs s = none → ∀ f ∈ fs, f.fc.name ≠ s
  | [], s, h, f, hf => by cases hf
  | g :: r, s, h, f, hf => by
    by_cases e : g.fc.name = s
    · rw [flAt, if_pos e] at h; cases h
    · rw [flAt, if_neg e] at h
      rcases List.mem_cons.1 hf with rfl | hf
      · exact e
      · exact flAt_none h f hf
/-- each name once -/
def Once (fs : List Fl) : Prop := (fs.map (fun f => f.fc.name)).Nodup
theorem once_eq : ∀ {fs : List Fl}, Once fs → ∀ {f g : Fl}, f ∈ fs → g ∈ fs → f.fc.name = g.fc.name → f = g
  | [], _, f, g, hf, _, _ => by cases hf
  | x :: r, h, f, g, hf, hg, e => by
    unfold Once at h
    rw [List.map_cons, List.nodup_cons] at h
    rcases List.mem_cons.1 hf with e1 | h1
    · rcases List.mem_cons.1 hg with e2 | h2
      · rw [e1, e2]
      · exact absurd (List.mem_map.2 ⟨g, h2, by rw [← e, e1]⟩) h.1
    · rcases List.mem_cons.1 hg with e2 | h2
      · exact absurd (List.mem_map.2 ⟨f, h1, by rw [e, e2]⟩) h.1
      · exact once_eq h.2 h1 h2 e
theorem fnd_none_all {L : List Fc} {s : ByteArray} (h : fnd L s = none) : ∀ x ∈ L, x.name ≠ s := by
  intro x hx
  unfold fnd at h
  have := List.find?_eq_none.1 h x (by simpa using hx)
  simpa using this
theorem fnd_flAt {fs : List Fl} (h : Once fs) (s : ByteArray) : fnd (faces fs) s = (flAt fs s).map (·.fc) := by
  cases h1 : flAt fs s with
  | none =>
    cases h2 : fnd (faces fs) s with
    | none => rfl
    | some x =>
      obtain ⟨hx, hn⟩ := fnd_some h2
      obtain ⟨f, hf, rfl⟩ := List.mem_map.1 hx
      exact absurd hn (flAt_none h1 f hf)
  | some f =>
    obtain ⟨hf, hn⟩ := flAt_mem h1
    cases h2 : fnd (faces fs) s with
    | none => exact absurd hn (fnd_none_all h2 f.fc (List.mem_map.2 ⟨f, hf, rfl⟩))
    | some x =>
      obtain ⟨hx, hm⟩ := fnd_some h2
      obtain ⟨g, hg, rfl⟩ := List.mem_map.1 hx
      obtain rfl := once_eq h hf hg (hn.trans hm.symm)
      rfl
/-- whose a method is, by the files -/
def fdF (fs : List Fl) (x : Mt) (c : ByteArray) : Bool := decide (mthF ((flAt fs c).getD zFl).fc.ms x.1.name = some x.1)
def fdM (fs : List Fl) (x : Mt) : Option ByteArray := (ab (faces fs) x.2).1.find? (fdF fs x)
/-- the same, by the faces of a table -/
def fdT (L : List Fc) (x : Mt) (c : ByteArray) : Bool := decide (mthF ((fnd L c).getD zF).ms x.1.name = some x.1)
def fdL (L : List Fc) (x : Mt) : Option ByteArray := (ab L x.2).1.find? (fdT L x)
theorem fdM_eq {fs : List Fl} (h : Once fs) (x : Mt) : fdM fs x = fdL (faces fs) x := by
  unfold fdM fdL
  congr 1
  funext c
  unfold fdF fdT
  rw [fnd_flAt h]
  cases flAt fs c <;> rfl
def okFd (L : List Fc) (x : Fd) : Bool := decide ((fldOf L (ab L x.2).1 x.1.name).map (·.2) = some ⟨x.1.tn, x.1.ta⟩)
/-- what a pool names that isn't there -/
def lackB (fs : List Fl) (f : Fl) : Bool := f.cl.any (fun c => !knB (faces fs) c) || !(f.ty.all (fun t => knB (faces fs) t.n)) || f.fd.any (fun x => !okFd (faces fs) x) || f.mt.any (fun x => (fdM fs x).isNone)
noncomputable def fitE (fs : List Fl) (f : Fl) : Int := if chk (faces fs) f.fc.name ≠ 0 then chk (faces fs) f.fc.name else if lackB fs f then 30 else 0
noncomputable def fitsE (fs : List Fl) : List Fl → Int
  | [] => 0
  | f :: r => if fitE fs f ≠ 0 then fitE fs f else fitsE fs r
open Classical in
/-- the first fault that a file has by itself, or by its name -/
noncomputable def gat : List ByteArray → List Fl → Int
  | _, [] => 0
  | ns, f :: r => if ¬ RightF f then 2 else if f.fc.name ∈ ns then 6 else gat (ns ++ [f.fc.name]) r
noncomputable def lkE (fs : List Fl) : Int := if gat [] fs ≠ 0 then gat [] fs else fitsE fs fs
theorem gat_ok : ∀ {ns : List ByteArray} {l : List Fl}, gat ns l = 0 → (∀ f ∈ l, RightF f ∧ f.fc.name ∉ ns) ∧ Once l
  | ns, [], _ => ⟨fun f hf => (by cases hf), List.nodup_nil⟩
  | ns, f :: r, h => by
    rw [gat] at h
    by_cases h1 : RightF f
    · by_cases h2 : f.fc.name ∈ ns
      · simp [h1, h2] at h
      · simp only [h1, h2, not_true, if_false] at h
        obtain ⟨h3, h4⟩ := gat_ok h
        refine ⟨fun g hg => ?_, ?_⟩
        · rcases List.mem_cons.1 hg with rfl | hg
          · exact ⟨h1, h2⟩
          · have := h3 g hg
            exact ⟨this.1, fun e => this.2 (by simp [e])⟩
        · unfold Once at h4 ⊢
          rw [List.map_cons, List.nodup_cons]
          refine ⟨fun e => ?_, h4⟩
          obtain ⟨g, hg, he⟩ := List.mem_map.1 e
          exact (h3 g hg).2 (by simp [he])
    · simp [h1] at h
end Go.Proofs.YthimpjfmelmhpaaDoor.Fc
