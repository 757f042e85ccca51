/-
  Two members side by side of one name; why classes don't go on.
-/
import Derived.Test.YthimpjfmelmhpaaDoorFcFldOf
import Derived.Test.YthimpjfmelmhpaaDoorFcKnown
import Derived.Test.YthimpjfmelmhpaaDoorFcSame
namespace Go.Proofs.YthimpjfmelmhpaaDoor.Fc
open Go.RowKit
set_option linter.unusedVariables false

/-- two side by side are the same -/
def Adj (ns : List ByteArray) : Prop := ∃ i s, 0 < i ∧ ns[i]? = some s ∧ ns[i - 1]? = some s
theorem adj_no {ns : List ByteArray} (h : ∀ i, 0 < i → i < ns.length → ns[i]? ≠ ns[i - 1]?) : ¬ Adj ns := by
  rintro ⟨i, s, h0, h1, h2⟩
  exact h i h0 (List.getElem?_eq_some_iff.1 h1).1 (by rw [h1, h2])

/-- yes just where it is so -/
def IffP (P : Prop) (w : World) (e : Ending) (w' : World) : Prop := ∃ r, e = .returned (.bool r) ∧ (r = true ↔ P) ∧ Below w.heap.size w w'
theorem IffP.no {P : Prop} {w : World} {e : Ending} {w' : World} (he : e = .returned (.bool false)) (h : ¬ P) (hb : Below w.heap.size w w') : IffP P w e w' := ⟨false, he, by simp [h], hb⟩
theorem IffP.yes {P : Prop} {w : World} {e : Ending} {w' : World} (he : e = .returned (.bool true)) (h : P) (hb : Below w.heap.size w w') : IffP P w e w' := ⟨true, he, by simp [h], hb⟩
set_option maxHeartbeats 4000000 in
set_option maxRecDepth 100000 in
theorem twice46 (x : Fc) (a1 : Option Addr) (n1 c1 : Nat) (a2 : Option Addr) (n2 c2 : Nat) (w : World) (h1 : Sl w 3 VrR x.fs (.slice a1 n1 c1)) (h2 : Sl w 5 (SgR w) x.ms (.slice a2 n2 c2)) :
    Calls Tryd.prog 45 #[.agg #[.string x.name, .string x.sup, .slice a1 n1 c1, .slice a2 n2 c2]] w (IffP (Adj (x.fs.map (·.name)) ∨ Adj (x.ms.map (·.name))) w) := by
  obtain ⟨e1, l1, k1, hk1⟩ := h1.at
  obtain ⟨e2, l2, k2, hk2⟩ := h2.at
  unfold maxLen at k1 k2
  have E1 := Lib.hid e1
  have E2 := Lib.hid e2
  have HK1 := Lib.hid hk1
  have HK2 := Lib.hid hk2
  clear e1 e2 hk1 hk2 h1 h2
  go_enter Tryd.func45, Tryd.ntmps45
  go_wp2
  go_loopw [3] (fun i wr => ∃ k : Nat, 1 ≤ k ∧ (k ≤ n1 ∨ k = 1) ∧ i = .int .i64 k ∧ Hid (∀ i, 0 < i → i < k → (x.fs.map (·.name))[i]? ≠ (x.fs.map (·.name))[i - 1]?) ∧ Hid (Blk wr w.heap.size [.string x.name, .string x.sup, .slice a1 n1 c1, .slice a2 n2 c2] 35) ∧ Below w.heap.size w wr) (fun i _ => n1 - (intOf i).toNat)
  case atStart => exact ⟨1, Nat.le_refl _, .inr rfl, rfl, Lib.hid (fun i h0 h1 => by omega), Lib.hid (Blk.new w _ _), below1 w _⟩
  case round =>
    obtain ⟨k, hk0, hk1, rfl, HA, HB, hbr⟩ := hrel
    have b2 : wr.cell? ⟨w.heap.size, 2, none⟩ = some (.slice a1 n1 c1) := HB.out.cell 2
    have hlb := HB.out.lt
    by_cases hlt : k < n1
    · obtain ⟨u, hu⟩ : ∃ v, x.fs[k]? = some v := ⟨_, List.getElem?_eq_getElem (by have := E1.out; omega)⟩
      obtain ⟨v, hv⟩ : ∃ v, x.fs[k - 1]? = some v := ⟨_, List.getElem?_eq_getElem (by have := E1.out; omega)⟩
      obtain ⟨g, o, cs, rfl, hcell, rfl⟩ := HK1.out k u hu
      obtain ⟨g', o', cs, ea, hcell', rfl⟩ := HK1.out (k - 1) v hv
      cases ea
      have c0 : wr.cell? ⟨g, o + k * 3, none⟩ = some (.string u.name) := (hbr.cell (World.block_lt_of_cell? _ _ (hcell 0 _ rfl))).trans (hcell 0 _ rfl)
      have d0 : wr.cell? ⟨g, o + (k - 1) * 3, none⟩ = some (.string v.name) := (hbr.cell (World.block_lt_of_cell? _ _ (hcell' 0 _ rfl))).trans (hcell' 0 _ rfl)
      have hki : (k : Int) - 1 = ((k - 1 : Nat) : Int) := by omega
      have hsub : IntKind.i64.wrap ((k : Int) - 1) = ((k - 1 : Nat) : Int) := by rw [IntKind.wrap_i64]; omega
      have HU := Lib.hid hu
      have HV := Lib.hid hv
      clear hcell hcell' hu hv
      by_cases e : u.name = v.name
      · have he := teq e
        have HE : Hid (Adj (x.fs.map (·.name))) := Lib.hid ⟨k, u.name, by omega, by simp [HU.out], by simp [HV.out, e]⟩
        clear e
        go_wp2
        go_quiet (fail)
        go_wp2
        go_ret
        exact IffP.yes rfl (by simp [HE.out]) ⟨hbr.os, hbr.tape, hbr.output, hbr.size, hbr.block⟩
      · have he := tne e
        have HA2 : Hid (∀ i, 0 < i → i < k + 1 → (x.fs.map (·.name))[i]? ≠ (x.fs.map (·.name))[i - 1]?) := Lib.hid (fun i h0 h1 => by
          by_cases hik : i = k
          · subst hik
            simp [HU.out, HV.out, e]
          · exact HA.out i h0 (by omega))
        clear e
        go_wp2
        go_quiet (fail)
        go_wp2
        go_roundw
        case rel => exact ⟨k + 1, by omega, by omega, by go_num, HA2, HB, ⟨hbr.os, hbr.tape, hbr.output, hbr.size, hbr.block⟩⟩
        case measure => simp [intOf]; omega
    · have HN1 : Hid (¬ Adj (x.fs.map (·.name))) := Lib.hid (adj_no (fun i h0 h1 => HA.out i h0 (by have := E1.out; simp at h1; omega)))
      obtain ⟨wq, hwq⟩ : ∃ wq, wq = wr := ⟨_, rfl⟩
      subst hwq
      have hbq := hbr
      have HBq := HB
      clear HA HB hbr
      go_wp2
      go_loopw [4] (fun i wr => ∃ k : Nat, 1 ≤ k ∧ (k ≤ n2 ∨ k = 1) ∧ i = .int .i64 k ∧ Hid (∀ i, 0 < i → i < k → (x.ms.map (·.name))[i]? ≠ (x.ms.map (·.name))[i - 1]?) ∧ Hid (Blk wr w.heap.size [.string x.name, .string x.sup, .slice a1 n1 c1, .slice a2 n2 c2] 35) ∧ Below w.heap.size w wr) (fun i _ => n2 - (intOf i).toNat)
      case atStart => exact ⟨1, Nat.le_refl _, .inr rfl, rfl, Lib.hid (fun i h0 h1 => by omega), HBq, hbq⟩
      case round =>
        obtain ⟨k, hk0, hk1, rfl, HA, HB, hbr⟩ := hrel
        have b3 : wr.cell? ⟨w.heap.size, 3, none⟩ = some (.slice a2 n2 c2) := HB.out.cell 3
        have hlb := HB.out.lt
        clear HBq hbq
        by_cases hlt : k < n2
        · obtain ⟨u, hu⟩ : ∃ v, x.ms[k]? = some v := ⟨_, List.getElem?_eq_getElem (by have := E2.out; omega)⟩
          obtain ⟨v, hv⟩ : ∃ v, x.ms[k - 1]? = some v := ⟨_, List.getElem?_eq_getElem (by have := E2.out; omega)⟩
          obtain ⟨g, o, cs, rfl, hcell, _, _, _, rfl, _⟩ := HK2.out k u hu
          obtain ⟨g', o', cs, ea, hcell', _, _, _, rfl, _⟩ := HK2.out (k - 1) v hv
          cases ea
          have c0 : wr.cell? ⟨g, o + k * 5, none⟩ = some (.string u.name) := (hbr.cell (World.block_lt_of_cell? _ _ (hcell 0 _ rfl))).trans (hcell 0 _ rfl)
          have d0 : wr.cell? ⟨g, o + (k - 1) * 5, none⟩ = some (.string v.name) := (hbr.cell (World.block_lt_of_cell? _ _ (hcell' 0 _ rfl))).trans (hcell' 0 _ rfl)
          have hki : (k : Int) - 1 = ((k - 1 : Nat) : Int) := by omega
          have HU := Lib.hid hu
          have HV := Lib.hid hv
          clear hcell hcell' hu hv
          by_cases e : u.name = v.name
          · have he := teq e
            have HE : Hid (Adj (x.ms.map (·.name))) := Lib.hid ⟨k, u.name, by omega, by simp [HU.out], by simp [HV.out, e]⟩
            clear e
            go_wp2
            go_quiet (fail)
            go_wp2
            go_ret
            exact IffP.yes rfl (by simp [HE.out]) ⟨hbr.os, hbr.tape, hbr.output, hbr.size, hbr.block⟩
          · have he := tne e
            have HA2 : Hid (∀ i, 0 < i → i < k + 1 → (x.ms.map (·.name))[i]? ≠ (x.ms.map (·.name))[i - 1]?) := Lib.hid (fun i h0 h1 => by
              by_cases hik : i = k
              · subst hik
                simp [HU.out, HV.out, e]
              · exact HA.out i h0 (by omega))
            clear e
            go_wp2
            go_quiet (fail)
            go_wp2
            go_roundw
            case rel => exact ⟨k + 1, by omega, by omega, by go_num, HA2, HB, ⟨hbr.os, hbr.tape, hbr.output, hbr.size, hbr.block⟩⟩
            case measure => simp [intOf]; omega
        · have HN2 : Hid (¬ Adj (x.ms.map (·.name))) := Lib.hid (adj_no (fun i h0 h1 => HA.out i h0 (by have := E2.out; simp at h1; omega)))
          go_wp2
          go_ret
          exact IffP.no rfl (by simp [HN1.out, HN2.out]) hbr
end Go.Proofs.YthimpjfmelmhpaaDoor.Fc
