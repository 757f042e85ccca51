/-
  An archive's bytes, and its classes: plain facts.
-/
import Derived.Test.YtomlbfkkhhhfkaaDoorCsUnp
namespace Go.Proofs.YtomlbfkkhhhfkaaDoor.Fc
set_option linter.unusedVariables false

theorem done0 {st : Pk.St} (h : Pk.rDone st = 0) : st = ⟨[], false⟩ := by
  unfold Pk.rDone at h
  split at h
  · rename_i hc
    obtain ⟨s, b⟩ := st
    simp only at hc
    rw [hc.1, hc.2]
  · cases h
theorem un_rd (s : List UInt8) : unT s = rdMany (rdT s.length) 200 ⟨s, false⟩ := rfl
theorem cod_un (L : Nat) : Cod (rdMany (rdT L) 200) (manyB Pk.textB) (fun xs => (xs.length < 9223372036854775808 ∧ (xs.length : Int) ≤ max 200 0) ∧ ∀ x ∈ xs, (x.length < 9223372036854775808 ∧ (x.length : Int) ≤ max (L : Int) 0)) :=
  (cod_text (L : Int)).many (fun t => textB_pos t) 200
theorem arcB_eq (xs : List Fl) : arcB xs = manyB Pk.textB (xs.map flB) := by
  unfold arcB manyB Pk.encI
  rw [List.length_map, List.flatMap_map, Int.toNat_natCast]
  rfl
theorem dec_map {ts : List (List UInt8)} (h : ∀ t ∈ ts, DecOk t) : (ts.map decF).map flB = ts := by
  induction ts with
  | nil => rfl
  | cons t ts ih =>
    simp only [List.map_cons]
    rw [ih (fun y hy => h y (by simp [hy]))]
    have := (h t (by simp)).2
    rw [show flB (decF t) = t from this]
/-- what is unpacked is archived again as it was -/
theorem un_sound {s : List UInt8} (h : UnOk s) : arcB ((unT s).1.map decF) = s ∧ (unT s).1.length ≤ 200 := by
  obtain ⟨h1, h2⟩ := h
  have hd := done0 h2
  rw [un_rd] at hd
  have hs := (cod_un s.length).sound s (by rw [hd])
  rw [hd, List.append_nil, ← un_rd] at hs
  refine ⟨?_, by have := hs.2.1.2; omega⟩
  rw [arcB_eq, dec_map h1]
  exact hs.1.symm
theorem dec_of {f : Fl} (h : RightF f) (hn : ∀ z ∈ f.nu, OkI z) : DecOk (flB f) ∧ decF (flB f) = f := by
  have hb := fl_back h hn []
  rw [List.append_nil] at hb
  have he : decF (flB f) = f := by unfold decF; rw [hb]
  refine ⟨⟨?_, ?_⟩, he⟩
  · rw [show (rdFl ⟨flB f, false⟩).1 = decF (flB f) from rfl, he]; exact h
  · rw [show (rdFl ⟨flB f, false⟩).1 = decF (flB f) from rfl, he]
theorem mem_flat {α : Type} (e : α → List UInt8) {xs : List α} {x : α} (h : x ∈ xs) : (e x).length ≤ (xs.flatMap e).length := by
  induction xs with
  | nil => cases h
  | cons y ys ih =>
    simp only [List.flatMap_cons, List.length_append]
    rcases List.mem_cons.1 h with rfl | h
    · omega
    · have := ih h; omega
theorem un_read {xs : List Fl} (hr : ∀ f ∈ xs, RightF f ∧ ∀ z ∈ f.nu, OkI z) (hl : xs.length ≤ 200) (L : Nat) (hL : (arcB xs).length ≤ L) (r : List UInt8) : rdMany (rdT L) 200 ⟨arcB xs ++ r, false⟩ = (xs.map flB, ⟨r, false⟩) := by
  rw [arcB_eq]
  refine (cod_un L).back _ _ ⟨⟨by rw [List.length_map]; omega, by rw [List.length_map]; omega⟩, fun t ht => ?_⟩
  have h1 := mem_flat Pk.textB ht
  obtain ⟨f, hf, rfl⟩ := List.mem_map.1 ht
  have h2 := fl_le (hr f hf).1 (hr f hf).2
  rw [arcB_eq] at hL
  unfold manyB at hL
  rw [List.length_append] at hL
  have h3 : (flB f).length ≤ (Pk.textB (flB f)).length := by unfold Pk.textB; rw [List.length_append]; omega
  exact ⟨by omega, by omega⟩
theorem un_back {xs : List Fl} (hr : ∀ f ∈ xs, RightF f ∧ ∀ z ∈ f.nu, OkI z) (hl : xs.length ≤ 200) : UnOk (arcB xs) ∧ (unT (arcB xs)).1.map decF = xs := by
  have h := un_read hr hl (arcB xs).length (Nat.le_refl _) []
  rw [List.append_nil, ← un_rd] at h
  refine ⟨⟨?_, ?_⟩, ?_⟩
  · rw [h]
    intro t ht
    obtain ⟨f, hf, rfl⟩ := List.mem_map.1 ht
    exact (dec_of (hr f hf).1 (hr f hf).2).1
  · rw [h]; rfl
  · rw [h, List.map_map]
    have : ∀ ys : List Fl, (∀ f ∈ ys, RightF f ∧ ∀ z ∈ f.nu, OkI z) → ys.map (decF ∘ flB) = ys := by
      intro ys
      induction ys with
      | nil => intro _; rfl
      | cons y ys ih => intro hy; simp only [List.map_cons, Function.comp]; rw [(dec_of (hy y (by simp)).1 (hy y (by simp)).2).2]; congr 1; exact ih (fun f hf => hy f (by simp [hf]))
    exact this xs hr
theorem decs_ok (ts : List (List UInt8)) : ∀ f ∈ ts.map decF, ∀ z ∈ f.nu, OkI z := by
  intro f hf
  obtain ⟨t, _, rfl⟩ := List.mem_map.1 hf
  exact rdfl_ok _
theorem decs_right {s : List UInt8} (h : UnOk s) : ∀ f ∈ (unT s).1.map decF, RightF f := by
  intro f hf
  obtain ⟨t, ht, rfl⟩ := List.mem_map.1 hf
  exact (h.1 t ht).1
theorem arcB_len {xs : List Fl} (hr : ∀ f ∈ xs, RightF f ∧ ∀ z ∈ f.nu, OkI z) (hl : xs.length ≤ 200) : (arcB xs).length ≤ 140737488355328 := by
  have h1 := arcs_le xs hr
  have h2 := Pk.encI_len (xs.length : Int) (by omega)
  unfold arcB
  rw [List.length_append]
  have h3 : xs.length * 50000000009 ≤ 200 * 50000000009 := Nat.mul_le_mul_right _ hl
  omega
end Go.Proofs.YtomlbfkkhhhfkaaDoor.Fc
