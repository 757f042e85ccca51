/-
  Digits and back. Plain facts.
-/
import Derived.Test.YtbpdeehpeflbeaaDoorParse
namespace Go.Proofs.YtbpdeehpeflbeaaDoor

theorem at_some (l : List Nat) (i : Nat) (h : i < l.length) : l[i]? = some (l.getD i 0) := by rw [List.getD_eq_getElem?_getD, List.getElem?_eq_getElem h, Option.getD_some]
theorem getD_of {l : List Nat} {i c : Nat} (h : l[i]? = some c) : l.getD i 0 = c := by rw [List.getD_eq_getElem?_getD, h, Option.getD_some]
def vv (bs : List Nat) (j : Nat) : Nat := (val (bs.getD j 0)).getD 0
theorem vv_lt (bs : List Nat) (j : Nat) : vv bs j < 16 := by
  unfold vv
  cases h : val (bs.getD j 0) with
  | none => simp
  | some v => exact val_lt h
theorem or16 (a b : Nat) (hb : b < 16) : a * 16 ||| b = a * 16 + b := by
  have h := Nat.two_pow_add_eq_or_of_lt (i := 4) (b := b) (by omega) a
  rw [show 2 ^ 4 * a = a * 16 by omega] at h
  exact h.symm
theorem pdig_at (bs : List Nat) (k : Nat) (hk : k ≤ 64) : ∀ i, i < 32 → (pdig bs k).getD i 0 = if 2 * i + 1 < k then vv bs (2 * i) * 16 + vv bs (2 * i + 1) else if 2 * i < k then vv bs (2 * i) else 0 := by
  induction k with
  | zero =>
    intro i hi
    show (List.replicate 32 0).getD i 0 = _
    rw [if_neg (by omega), if_neg (by omega), List.getD_eq_getElem?_getD, List.getElem?_replicate, if_pos hi, Option.getD_some]
  | succ k ih =>
    intro i hi
    have h0 := ih (by omega) i hi
    have hl := pdig_length bs k
    rw [pdig, pstep, List.getD_eq_getElem?_getD, List.getElem?_set]
    have hvk : (val (bs.getD k 0)).getD 0 = vv bs k := rfl
    rw [hvk]
    have h1 := vv_lt bs k
    by_cases hik : k / 2 = i
    · rw [if_pos hik, if_pos (by rw [hl]; omega), Option.getD_some, hik, h0]
      by_cases hodd : k % 2 = 0
      · have e : k = 2 * i := by omega
        rw [if_neg (by omega), if_neg (by omega), if_neg (by omega), if_pos (by omega), e]
        simp
      · have e : k = 2 * i + 1 := by omega
        have h2 := vv_lt bs (2 * i)
        rw [if_neg (by omega), if_pos (by omega), if_pos (by omega), Nat.mod_eq_of_lt (by omega), e]
        rw [e] at h1
        exact or16 _ _ h1
    · rw [if_neg hik, ← List.getD_eq_getElem?_getD, h0]
      have c1 : (2 * i + 1 < k + 1) = (2 * i + 1 < k) := by apply propext; omega
      have c2 : (2 * i < k + 1) = (2 * i < k) := by apply propext; omega
      simp only [c1, c2]
theorem hexOf_at (D : List Nat) : ∀ i, i < D.length → (hexOf D)[2 * i]? = some (HX.getD (D.getD i 0 / 16) 0) ∧ (hexOf D)[2 * i + 1]? = some (HX.getD (D.getD i 0 % 16) 0) := by
  induction D with
  | nil => intro i hi; simp at hi
  | cons a D ih =>
    intro i hi
    have e : hexOf (a :: D) = HX.getD (a / 16) 0 :: HX.getD (a % 16) 0 :: hexOf D := by unfold hexOf; rw [List.flatMap_cons]; rfl
    rw [e]
    cases i with
    | zero => exact ⟨rfl, rfl⟩
    | succ i =>
      have h := ih i (by simpa using hi)
      refine ⟨?_, ?_⟩
      · rw [show 2 * (i + 1) = 2 * i + 1 + 1 by omega]
        simpa using h.1
      · rw [show 2 * (i + 1) + 1 = 2 * i + 1 + 1 + 1 by omega]
        simpa using h.2
theorem val_at {c v : Nat} (h : val c = some v) : HX.getD v 0 = c := by
  unfold val at h
  split at h
  · simp at h
    rename_i hcc
    have : ∀ i : Fin 10, HX.getD i.val 0 = 48 + i.val := by decide
    have h2 := this ⟨v, by omega⟩
    simp only at h2
    rw [h2]; omega
  · split at h
    · simp at h
      rename_i hcc
      have : ∀ i : Fin 6, HX.getD (10 + i.val) 0 = 97 + i.val := by decide
      have h2 := this ⟨v - 10, by omega⟩
      simp only at h2
      rw [show 10 + (v - 10) = v by omega] at h2
      rw [h2]; omega
    · simp at h
/-- what is read of digits has these digits -/
theorem hex_parse (bs : List Nat) (hl : bs.length = 64) (hv : ∀ c ∈ bs, (val c).isSome = true) : hexOf (pdig bs 64) = bs := by
  have hd := pdig_length bs 64
  have hh : (hexOf (pdig bs 64)).length = 64 := by rw [hexOf_length, hd]
  have hvv : ∀ j, j < 64 → HX.getD (vv bs j) 0 = bs.getD j 0 := by
    intro j hj
    have hm : bs.getD j 0 ∈ bs := by
      rw [List.getD_eq_getElem?_getD, List.getElem?_eq_getElem (by omega)]
      exact List.getElem_mem _
    obtain ⟨u, hu⟩ := Option.isSome_iff_exists.1 (hv _ hm)
    unfold vv
    rw [hu]
    exact val_at hu
  apply List.ext_getElem?
  intro j
  by_cases hj : j < 64
  · have hat := hexOf_at (pdig bs 64) (j / 2) (by rw [hd]; omega)
    have hp := pdig_at bs 64 (Nat.le_refl _) (j / 2) (by omega)
    rw [if_pos (by omega)] at hp
    have h1 := vv_lt bs (2 * (j / 2))
    have h2 := vv_lt bs (2 * (j / 2) + 1)
    rw [hp] at hat
    rw [show (vv bs (2 * (j / 2)) * 16 + vv bs (2 * (j / 2) + 1)) / 16 = vv bs (2 * (j / 2)) by omega, show (vv bs (2 * (j / 2)) * 16 + vv bs (2 * (j / 2) + 1)) % 16 = vv bs (2 * (j / 2) + 1) by omega, hvv _ (by omega), hvv _ (by omega)] at hat
    rw [at_some bs j (by omega)]
    by_cases he : j % 2 = 0
    · have e : 2 * (j / 2) = j := by omega
      rw [e] at hat
      exact hat.1
    · have e : 2 * (j / 2) + 1 = j := by omega
      rw [e] at hat
      exact hat.2
  · rw [List.getElem?_eq_none (by omega), List.getElem?_eq_none (by omega)]
/-- digits of a digest are read back -/
theorem parse_hex (D : List Nat) (hl : D.length = 32) (hD : ∀ x ∈ D, x < 256) : parseOf (hexOf D) = (D, true) := by
  have hh : (hexOf D).length = 64 := by rw [hexOf_length, hl]
  have hval : ∀ i, i < 32 → val ((hexOf D).getD (2 * i) 0) = some (D.getD i 0 / 16) ∧ val ((hexOf D).getD (2 * i + 1) 0) = some (D.getD i 0 % 16) := by
    intro i hi
    have h := hexOf_at D i (by omega)
    have hb := bytes_getD D hD i
    rw [getD_of h.1, getD_of h.2]
    exact ⟨val_HX ⟨D.getD i 0 / 16, by omega⟩, val_HX ⟨D.getD i 0 % 16, by omega⟩⟩
  have hall : ∀ c ∈ hexOf D, (val c).isSome = true := by
    intro c hc
    obtain ⟨j, hj, rfl⟩ := List.mem_iff_getElem.1 hc
    have h := hval (j / 2) (by omega)
    have e : (hexOf D)[j] = (hexOf D).getD j 0 := by rw [List.getD_eq_getElem?_getD, List.getElem?_eq_getElem hj, Option.getD_some]
    rw [e]
    by_cases he : j % 2 = 0
    · rw [show 2 * (j / 2) = j by omega] at h; rw [h.1]; rfl
    · rw [show 2 * (j / 2) + 1 = j by omega] at h; rw [h.2]; rfl
  have hd := pdig_length (hexOf D) 64
  have hp : pdig (hexOf D) 64 = D := by
    apply List.ext_getElem?
    intro i
    by_cases hi : i < 32
    · have h1 := pdig_at (hexOf D) 64 (Nat.le_refl _) i hi
      generalize pdig (hexOf D) 64 = P at *
      rw [if_pos (by omega)] at h1
      have h2 := hval i hi
      unfold vv at h1
      rw [h2.1, h2.2] at h1
      rw [at_some _ i (by rw [hd]; exact hi), at_some D i (by omega), h1, Option.getD_some, Option.getD_some]
      congr 1
      omega
    · rw [List.getElem?_eq_none (by rw [hd]; omega), List.getElem?_eq_none (by omega)]
  unfold parseOf
  rw [if_pos ⟨hh, hall⟩, hp]

end Go.Proofs.YtbpdeehpeflbeaaDoor
