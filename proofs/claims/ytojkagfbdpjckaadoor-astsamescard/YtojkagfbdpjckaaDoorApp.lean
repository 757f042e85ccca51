/-
  Copies of slices of structs.
-/
import Derived.Test.YtojkagfbdpjckaaDoorSameC
import Derived.Test.YtojkagfbdpjckaaDoorFewC
import Derived.Deep.AppendSrc
import Derived.Deep.Slices
import Derived.OwnWalk
namespace Go.Proofs.YtojkagfbdpjckaaDoor
open Go.RowKit

theorem i64_and7 (n : Int) : bits .and .i64 n 7 = n % 8 := by
  have h1 : (BitVec.ofInt 64 7).toNat = 2 ^ 3 - 1 := by decide
  have key : (BitVec.ofInt 64 n &&& BitVec.ofInt 64 7).toNat = (n % ((2 ^ 64 : Nat) : Int)).toNat % 2 ^ 3 := by
    rw [BitVec.toNat_and, BitVec.toNat_ofInt, h1, Nat.and_two_pow_sub_one_eq_mod]
  show IntKind.i64.wrap ((BitVec.ofInt 64 n &&& BitVec.ofInt 64 7).toNat : Nat) = n % 8
  rw [key, IntKind.wrap_i64]
  omega

/-- Rows of cells, one behind the other. -/
def flat (C : Nat → List Value) (m : Nat) : List Value := (List.range m).flatMap C
theorem flat_length {C : Nat → List Value} {n : Nat} : ∀ (m : Nat), (∀ i, i < m → (C i).length = n) → (flat C m).length = m * n
  | 0, _ => by simp [flat]
  | m + 1, h => by
    have h1 := flat_length m (fun i hi => h i (by omega))
    unfold flat at h1 ⊢
    rw [List.range_succ, List.flatMap_append, List.length_append, h1]
    simp [h m (by omega), Nat.succ_mul]
theorem flat_at {C : Nat → List Value} {n : Nat} : ∀ (m : Nat), (∀ i, i < m → (C i).length = n) → ∀ i j, i < m → j < n → (flat C m)[i * n + j]? = (C i)[j]?
  | 0, _, i, j, hi, _ => by omega
  | m + 1, h, i, j, hi, hj => by
    have hl := flat_length m (fun i hi => h i (by omega))
    have e : flat C (m + 1) = flat C m ++ C m := by unfold flat; rw [List.range_succ, List.flatMap_append]; simp
    rw [e]
    by_cases him : i < m
    · have hlt : i * n + j < (flat C m).length := by
        rw [hl]
        have := Nat.mul_le_mul_right n (show i + 1 ≤ m by omega)
        rw [Nat.succ_mul] at this
        omega
      rw [List.getElem?_append_left hlt]
      exact flat_at m (fun i hi => h i (by omega)) i j him hj
    · obtain rfl : i = m := by omega
      rw [List.getElem?_append_right (by omega), hl, Nat.add_sub_cancel_left]
theorem flat_mem {C : Nat → List Value} {m : Nat} {v : Value} (h : v ∈ flat C m) : ∃ i, i < m ∧ v ∈ C i := by
  obtain ⟨i, hi, hv⟩ := List.mem_flatMap.1 h
  exact ⟨i, List.mem_range.1 hi, hv⟩
theorem flat_cells {C : Nat → List Value} {n m : Nat} {w : World} {b o : Nat} (hn : 0 < n) (hl : ∀ i, i < m → (C i).length = n) (hc : ∀ i, i < m → ∀ j v, (C i)[j]? = some v → w.cell? ⟨b, o + i * n + j, none⟩ = some v) : ∀ k v, (flat C m)[k]? = some v → w.cell? ((⟨b, o, none⟩ : Addr).add k) = some v := by
  intro k v hv
  have hk : k < m * n := by rw [← flat_length m hl]; exact (List.getElem?_eq_some_iff.1 hv).1
  have hi : k / n < m := Nat.div_lt_of_lt_mul (by rw [Nat.mul_comm]; exact hk)
  have e : k / n * n + k % n = k := by rw [Nat.mul_comm]; exact Nat.div_add_mod k n
  rw [← e, flat_at m hl _ _ hi (Nat.mod_lt _ hn)] at hv
  have h2 := hc _ hi _ _ hv
  rw [Go.WideShapes.add_plain, show o + k = o + k / n * n + k % n by omega]
  exact h2

theorem Sl.rows {α : Type} {W : World} {n : Nat} {R : α → List Value → Prop} {xs : List α} {a : Option Addr} {m c : Nat} (h : Sl W n R xs (.slice a m c)) : ∃ C : Nat → List Value, ∀ i, i < m → (∃ x, xs[i]? = some x ∧ R x (C i)) ∧ ∃ b o, a = some ⟨b, o, none⟩ ∧ ∀ j v, (C i)[j]? = some v → W.cell? ⟨b, o + i * n + j, none⟩ = some v := by
  obtain ⟨hm, _, _, hk⟩ := h.at
  have each : ∀ i, i < m → ∃ cs : List Value, (∃ x, xs[i]? = some x ∧ R x cs) ∧ ∃ b o, a = some ⟨b, o, none⟩ ∧ ∀ j v, cs[j]? = some v → W.cell? ⟨b, o + i * n + j, none⟩ = some v := by
    intro i hi
    have hx : xs[i]? = some xs[i] := List.getElem?_eq_getElem (by omega)
    obtain ⟨b, o, cs, ea, hc, hr⟩ := hk i _ hx
    exact ⟨cs, ⟨_, hx, hr⟩, b, o, ea, hc⟩
  obtain ⟨f, hf⟩ := Deep.choose_lt each
  exact ⟨f, hf⟩
theorem info43 : ∃ i, Tryd.prog.info? 43 = some i ∧ (i.size, i.bytes, i.zero.map (fun z => z.cells.size)) = (8, 112, some 8) := Option.map_eq_some_iff.1 (show (Tryd.prog.info? 43).map (fun i => (i.size, i.bytes, i.zero.map (fun z => z.cells.size))) = some (8, 112, some 8) by kernel_rfl)
theorem info45 : ∃ i, Tryd.prog.info? 45 = some i ∧ (i.size, i.bytes, i.zero.map (fun z => z.cells.size)) = (3, 40, some 3) := Option.map_eq_some_iff.1 (show (Tryd.prog.info? 45).map (fun i => (i.size, i.bytes, i.zero.map (fun z => z.cells.size))) = some (3, 40, some 3) by kernel_rfl)
theorem info48 : ∃ i, Tryd.prog.info? 48 = some i ∧ (i.size, i.bytes, i.zero.map (fun z => z.cells.size)) = (9, 136, some 9) := Option.map_eq_some_iff.1 (show (Tryd.prog.info? 48).map (fun i => (i.size, i.bytes, i.zero.map (fun z => z.cells.size))) = some (9, 136, some 9) by kernel_rfl)

/-- append of a whole slice to a row that one owns. -/
theorem app_run {t e : TypeId} {i : TypeInfo} {size bytes : Nat} (ht : Tryd.prog.underlying t = some (.slice e)) (hi : Tryd.prog.info? e = some i) (hii : (i.size, i.bytes, i.zero.map (fun z => z.cells.size)) = (size, bytes, some size)) (hsz : 0 < size)
    {w : World} {base : Nat} {v : Value} {n : Nat} {xs : List Value} (hown : w.ownsRow base e size v n xs) (hv : v ≠ .slice none 0 0) {a : Option Addr} {m c : Nat} {C : Nat → List Value} (hl : ∀ i, i < m → (C i).length = size) (h1 : ∀ i, i < m → ∀ u ∈ C i, u.oneCell' = true)
    (hc : ∀ i, i < m → ∃ b o, a = some ⟨b, o, none⟩ ∧ ∀ j v, (C i)[j]? = some v → w.cell? ⟨b, o + i * size + j, none⟩ = some v) (hm0 : a = none → m = 0)
    (h63 : n + m ≤ maxLen) (hbytes : (n + m) * bytes ≤ 140737488355328) (hbase : base ≤ w.heap.size) :
    ∃ v' w', (Builtin.append_ #[t, t] t #[v, .slice a m c]).run Tryd.prog w = .ok v' w' ∧ w'.ownsRow base e size v' (n + m) (xs ++ flat C m) ∧ w.grownBy w' v.ownBlock ∧ v' ≠ .slice none 0 0 := by
  simp only [Prod.mk.injEq, Option.map_eq_some_iff] at hii
  obtain ⟨e1, e2, z, ez, e3⟩ := hii
  cases a with
  | none =>
    obtain rfl := hm0 rfl
    rcases hown.2 with ⟨h, _⟩ | ⟨g, cap, cur, rfl, hb, hg, hn, hcm, hcs, htk⟩
    · exact absurd h hv
    · have hr := run_append_room_src (P := Tryd.prog) w t t t e i ht hi g 0 n cap (.slice none 0 c) 0 [] (Src.ofNil w ht c) (by omega) (by simp) (by simp)
      refine ⟨.slice (some ⟨g, 0, none⟩) n cap, w, ?_, ?_, ⟨rfl, rfl, rfl, Nat.le_refl _, fun _ _ _ => rfl⟩, by simp⟩
      · simpa [World.setCells] using hr
      · simpa [flat] using hown
  | some ad =>
    have hnews : ∀ j u, (flat C m)[j]? = some u → w.cell? (ad.add j) = some u := by
      intro j u hu
      have hpos : 0 < m := by
        rcases Nat.eq_zero_or_pos m with h | h
        · subst h; simp [flat] at hu
        · exact h
      obtain ⟨b, o, ea, _⟩ := hc 0 hpos
      cases ea
      exact flat_cells hsz hl (fun i hi j v hv => by
        obtain ⟨b', o', ea', h'⟩ := hc i hi
        cases ea'
        exact h' j v hv) j u hu
    obtain ⟨v', w', hr, h2, h3, h4⟩ := run_append_own (P := Tryd.prog) w base t t e i z size bytes ht hi ez e1 e2 e3 hsz v n xs hown ad m c (flat C m) (flat_length m hl) hnews (fun u hu => by
      obtain ⟨i, hi, hu'⟩ := flat_mem hu
      exact h1 i hi u hu') h63 hbytes hbase
    exact ⟨v', w', hr, h2, h3, fun h => hv (h4.1 h).1⟩
end Go.Proofs.YtojkagfbdpjckaaDoor
