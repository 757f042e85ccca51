/-
  Where all classes may stand: what that says of two on one way up.
-/
import Derived.Test.YtgnkkoeklipmiaaChain
namespace Go.Proofs.Ytgnkkoeklipmiaa
open Go.RowKit
set_option linter.unusedVariables false

theorem brk_ne (L : List Fc) (s : ByteArray) : brk L s ≠ 0 := by unfold brk; split <;> decide
theorem chkF_zero {L : List Fc} {up : List ByteArray} : ∀ {fs : List Vr}, chkF L up fs = 0 → ∀ v ∈ fs, fldOf L up v.name = none
  | [], _, v, hv => by simp at hv
  | u :: r, h, v, hv => by
    unfold chkF at h
    split at h
    · cases h
    · split at h
      · cases h
      · rename_i hs
        rcases List.mem_cons.1 hv with rfl | hv
        · simpa using hs
        · exact chkF_zero h v hv
theorem chkM_zero {L : List Fc} {up : List ByteArray} : ∀ {ms : List Sg}, chkM L up ms = 0 → ∀ m ∈ ms, ovr L up m = false
  | [], _, v, hv => by simp at hv
  | u :: r, h, v, hv => by
    unfold chkM at h
    split at h
    · cases h
    · split at h
      · cases h
      · rename_i hs
        rcases List.mem_cons.1 hv with rfl | hv
        · simpa using hs
        · exact chkM_zero h v hv
/-- a class that may stand where it does -/
theorem chk_zero {L : List Fc} {s : ByteArray} (h : chk L s = 0) : (ab L s).2 = true ∧ ∃ f l, fnd L s = some f ∧ (ab L s).1 = s :: l ∧ (∀ v ∈ f.fs, fldOf L l v.name = none) ∧ ∀ m ∈ f.ms, ovr L l m = false := by
  unfold chk at h
  cases hl : (ab L s).1 with
  | nil => rw [hl] at h; cases h
  | cons x l =>
    cases hw : (ab L s).2 with
    | false => rw [hl, hw] at h; exact absurd h (brk_ne _ _)
    | true =>
      obtain ⟨rfl, hs, f, hf, hab⟩ := ab_tail hw hl
      rw [hl, hw, hf] at h
      refine ⟨rfl, f, l, hf, rfl, ?_⟩
      by_cases ha : Adj (f.fs.map (·.name)) ∨ Adj (f.ms.map (·.name))
      · rw [show (some f).getD zF = f from rfl, chkG_adj ha] at h
        cases h
      · rw [show (some f).getD zF = f from rfl, chkG_rest ha] at h
        by_cases h0 : chkF L l f.fs = 0
        · rw [if_neg (by simpa using h0)] at h
          exact ⟨chkF_zero h0, chkM_zero h⟩
        · rw [if_pos h0] at h
          exact absurd h h0
/-- from one on the way up, the way up is the rest -/
theorem ab_drop {L : List Fc} {s : ByteArray} (hw : (ab L s).2 = true) {j : Nat} {a : ByteArray} (ha : (ab L s).1[j]? = some a) : (ab L a).1 = a :: (ab L s).1.drop (j + 1) ∧ fnd L a ≠ none := by
  have hc := ab_ch hw
  obtain ⟨hn, ht⟩ := upF_nodup (L := L) (n := L.length + 1) (acc := []) (s := s) (by simp) (by simp)
  have hn' : (ab L s).1.Nodup := hn
  have ht' : ∀ t ∈ (ab L s).1, fnd L t ≠ none := ht
  have hd := drop_at ha
  have e : (ab L s).1 = (ab L s).1.take j ++ a :: (ab L s).1.drop (j + 1) := by rw [← hd, List.take_append_drop]
  rw [e] at hc
  have h2 := hc.suffix
  refine ⟨?_, ht' a (List.mem_of_getElem? ha)⟩
  have hn2 : (a :: (ab L s).1.drop (j + 1)).Nodup := by
    rw [← hd]
    exact hn'.sublist (List.drop_sublist _ _)
  have ht2 : ∀ t ∈ a :: (ab L s).1.drop (j + 1), fnd L t ≠ none := fun t h => ht' t (by
    rw [← hd] at h
    exact List.mem_of_mem_drop h)
  have hle := acc_le hn2 ht2
  unfold ab
  unfold ab at h2 hn2 hle
  rw [ch_up h2 (by simpa using hn2) (by omega)]
  simp
/-- where all may stand: no field of one is one of another one above it -/
theorem two_fields {L : List Fc} (H : ∀ x ∈ L, chk L x.name = 0) {s : ByteArray} (hw : (ab L s).2 = true) {i j : Nat} {a b : ByteArray} (hij : j < i) (ha : (ab L s).1[j]? = some a) (hb : (ab L s).1[i]? = some b)
    {v : Vr} (hv : v ∈ ((fnd L a).getD zF).fs) {u : Vr} (hu : u ∈ ((fnd L b).getD zF).fs) : u.name ≠ v.name := by
  obtain ⟨hd, hf⟩ := ab_drop hw ha
  cases hfa : fnd L a with
  | none => exact absurd hfa hf
  | some f =>
    obtain ⟨hfL, hfn⟩ := fnd_some hfa
    have h0 := H f hfL
    rw [hfn] at h0
    obtain ⟨_, f', l, hf', hl, h1, _⟩ := chk_zero h0
    rw [hfa] at hf' hv
    cases hf'
    rw [hd] at hl
    injection hl with _ hl
    have h2 := h1 v hv
    rw [← hl] at h2
    have h3 := List.findSome?_eq_none_iff.1 h2 b (by
      rw [List.mem_iff_getElem?]
      exact ⟨i - (j + 1), by rw [List.getElem?_drop, show j + 1 + (i - (j + 1)) = i by omega]; exact hb⟩)
    unfold fOne fldF at h3
    simp at h3
    exact h3 u hu
/-- where all may stand: a method that isn't static is the next one's above of that name -/
theorem two_methods {L : List Fc} (H : ∀ x ∈ L, chk L x.name = 0) {s : ByteArray} (hw : (ab L s).2 = true) {i j : Nat} {a b : ByteArray} (hij : j < i) (ha : (ab L s).1[j]? = some a) (hb : (ab L s).1[i]? = some b)
    {o : Sg} (ho : o ∈ ((fnd L a).getD zF).ms) (hos : o.st = false) {m : Sg} (hm : mthF ((fnd L b).getD zF).ms o.name = some m) (hms : m.st = false) (hbt : ∀ k c, j < k → k < i → (ab L s).1[k]? = some c → mOne L o.name false c = none) : o = m := by
  obtain ⟨hd, hf⟩ := ab_drop hw ha
  cases hfa : fnd L a with
  | none => exact absurd hfa hf
  | some f =>
    obtain ⟨hfL, hfn⟩ := fnd_some hfa
    have h0 := H f hfL
    rw [hfn] at h0
    obtain ⟨_, f', l, hf', hl, _, h1⟩ := chk_zero h0
    rw [hfa] at hf' ho
    cases hf'
    rw [hd] at hl
    injection hl with _ hl
    have h2 := h1 o ho
    have h3 : mthOf L l o.name false = some (b, m) := by
      rw [← hl]
      refine some_at' (k := i - (j + 1)) (x := b) ?_ ?_ ?_
      · rw [List.getElem?_drop, show j + 1 + (i - (j + 1)) = i by omega]; exact hb
      · intro z hz
        obtain ⟨k, hk⟩ := List.mem_iff_getElem?.1 hz
        rw [List.getElem?_take] at hk
        split at hk
        · rename_i hlt
          rw [List.getElem?_drop] at hk
          exact hbt (j + 1 + k) z (by omega) (by omega) hk
        · cases hk
      · unfold mOne
        rw [hm]
        simp [hms]
    unfold ovr at h2
    rw [h3, hos] at h2
    simp at h2
    exact h2.symm
end Go.Proofs.Ytgnkkoeklipmiaa
