/-
  The statements' own way up is the table's.
-/
import Derived.Test.YtgnkkoeklipmiaaFind
namespace Go.Proofs.Ytgnkkoeklipmiaa
open Go.RowKit
set_option linter.unusedVariables false

structure UpI (w wr : World) (acc : List ByteArray) (v : Value) : Prop where
  row : wr.ownsRow w.heap.size 9 1 v acc.length (strV acc)
  bel : Below w.heap.size w wr
theorem UpI.below {w wr w1 : World} {acc : List ByteArray} {v : Value} (h : UpI w wr acc v) (hb : Below wr.heap.size wr w1) : UpI w w1 acc v :=
  ⟨row_keep (fp := fun _ => False) h.row (Mods.of_below hb) (fun _ _ _ => id), h.bel.trans (hb.mono h.bel.size)⟩
theorem UpI.add {w wr : World} {acc : List ByteArray} {v : Value} (h : UpI w wr acc v) (hl : acc.length ≤ 1000) (t : ByteArray) :
    ∃ v' w', (Builtin.append_ #[27, 27] 27 #[v, .slice (some ⟨wr.heap.size, 0, none⟩) 1 1]).run Try.prog (wr.alloc (.cells #[.string t] 9)) = .ok v' w' ∧ UpI w w' (acc ++ [t]) v' ∧ ∀ b cs, Blk wr b cs 35 → Blk w' b cs 35 := by
  obtain ⟨v', w', hr, hrow, hm⟩ := app_str h.row hl h.bel.size t
  refine ⟨v', w', hr, ⟨hrow, (h.bel.trans ((below1 wr _).mono h.bel.size)).trans (hm.below (fun k e => e.1) (by have := h.bel.size; simp; omega))⟩, fun b cs hb => ?_⟩
  have hb3 := hb.below (below1 wr (.cells #[.string t] 9))
  exact hb3.keep hm (fun e => by
    obtain ⟨_, cur, hc⟩ := e
    have h5 : (wr.alloc (.cells #[.string t] 9)).heap[b]? = some (.cells cs.toArray 35 (0, 0)) := hb3
    rw [hc] at h5
    injection h5 with h5
    injection h5 with _ h5
    cases h5)
def UpPost (L : List Fc) (s : ByteArray) (w : World) (e : Ending) (w' : World) : Prop :=
  ∃ a c, e = .returned (.tuple #[.slice a (ab L s).1.length c, .bool (ab L s).2]) ∧ Sl w' 1 StrR (ab L s).1 (.slice a (ab L s).1.length c) ∧ Below w.heap.size w w'
theorem UpI.done {L : List Fc} {s : ByteArray} {w wr : World} {acc : List ByteArray} {a : Option Addr} {n c : Nat} {r : Bool} (h : UpI w wr acc (.slice a n c)) (he : ab L s = (acc, r)) : UpPost L s w (.returned (.tuple #[.slice a n c, .bool r])) wr := by
  have h1 := row_strs h.row
  obtain ⟨hn, _⟩ := h1.at
  subst hn
  exact ⟨a, c, by rw [he], by rw [he]; exact h1, h.bel⟩

set_option maxHeartbeats 4000000 in
set_option maxRecDepth 100000 in
theorem up12 (L : List Fc) (hL : L.length ≤ 8) (s : ByteArray) (a : Option Addr) (n c : Nat) (w : World) (h : Sl w 4 (FcR w) L (.slice a n c)) :
    Calls Try.prog 12 #[.slice a n c, .string s] w (UpPost L s w) := by
  have HH := Lib.hid h
  clear h
  have H0 : Hid (UpI w (w.alloc (.cells #[] 9)) [] (.slice (some ⟨w.heap.size, 0, none⟩) 0 0)) := Lib.hid ⟨World.ownsRow_made w #[] 0 (Nat.le_refl _) (Nat.zero_le _) (by simp), below1 w _⟩
  go_enter Try.func12, Try.ntmps12
  go_wp2
  go_loopw [1, 6, 7] (fun n v i wr => ∃ (nm : ByteArray) (acc : List ByteArray), n = .string nm ∧ i = .int .i64 acc.length ∧ (∃ a c, v = .slice a acc.length c ∧ acc.length ≤ c ∧ c ≤ 9223372036854775807) ∧ Hid (UInv L s acc nm) ∧ Hid (UpI w wr acc v)) (fun _ v _ _ => L.length + 1 - lenV v)
  case atStart => exact ⟨s, [], rfl, rfl, ⟨_, _, rfl, Nat.le_refl _, by omega⟩, Lib.hid (UInv.start L s), H0⟩
  case round =>
    obtain ⟨nm, acc, rfl, rfl, ⟨va, vc, rfl, hvl, hvc⟩, HU, HI⟩ := hrel
    have hle := HU.out.le
    by_cases hne : nm = eE
    · have he := tempty hne
      have HE := Lib.hid (HU.out.fin hne)
      clear H0 hne
      go_wp2
      refine bodyPost_ret (v := .tuple #[.slice va acc.length vc, .bool true]) (by simp [results, Try.results12, go_sem]) rfl ?_
      exact HI.out.done HE.out
    · have he := tfull hne
      have HF := Lib.hid (find16 L nm a n c wr (fcs_keep (Keeps.of_below HI.out.bel) HH.out))
      clear H0
      go_wp2_with fail
      refine HF.out.mono ?_
      rintro e w1 ⟨cs, rfl, hF, hb1⟩
      obtain ⟨x1, x2, x3, y1, y2, y3, rfl, _, _⟩ := hF
      have HI1 := Lib.hid (HI.out.below hb1)
      obtain ⟨fn, hfn⟩ : ∃ n, n = ((fnd L nm).getD zF).name := ⟨_, rfl⟩
      obtain ⟨fsu, hfs⟩ : ∃ n, n = ((fnd L nm).getD zF).sup := ⟨_, rfl⟩
      rw [← hfn, ← hfs]
      have HFS := Lib.hid hfs
      clear hfn hfs HF HI hb1
      obtain ⟨w2, HW2⟩ : ∃ x, Hid (x = w1.alloc (.cells #[.string fn, .string fsu, .slice x1 x2 x3, .slice y1 y2 y3] 35)) := ⟨_, Lib.hid rfl⟩
      have HI2 : Hid (UpI w w2 acc (.slice va acc.length vc)) := Lib.hid (by rw [HW2.out]; exact HI1.out.below (below1 _ _))
      have HB2 : Hid (Blk w2 w1.heap.size [.string fn, .string fsu, .slice x1 x2 x3, .slice y1 y2 y3] 35) := Lib.hid (by rw [HW2.out]; exact Blk.new _ _ _)
      have HS2 := Lib.hid (row_strs HI2.out.row)
      have HK2 := Lib.hid HS2.out.at.2.2.2
      generalize hr0 : (fnd L nm).isSome = r0 at *
      have HR0 := Lib.hid hr0
      clear hr0 HI1
      go_wp2
      rw [← HW2.out]
      clear HW2
      obtain ⟨wq, hwq⟩ : ∃ wq, wq = wr := ⟨_, rfl⟩
      subst hwq
      go_loopw [28, 9] (fun i b wr => ∃ k : Nat, k ≤ acc.length ∧ i = .int .i64 k ∧ b = .bool (r0 && decide (nm ∉ acc.take k)) ∧ wr = w2) (fun i _ _ => acc.length - (intOf i).toNat)
      case atStart => exact ⟨0, Nat.zero_le _, rfl, by simp, rfl⟩
      case round =>
        obtain ⟨k, hk1, rfl, rfl, rfl⟩ := hrel
        by_cases hlt : k < acc.length
        · obtain ⟨g, o, cs, rfl, hcell, rfl⟩ := HK2.out k acc[k] (List.getElem?_eq_getElem hlt)
          have c0 : wr.cell? ⟨g, o + k, none⟩ = some (.string acc[k]) := by have := hcell 0 _ rfl; simpa using this
          have HT : Hid (acc.take (k + 1) = acc.take k ++ [acc[k]]) := Lib.hid (List.take_succ_eq_append_getElem hlt)
          clear hcell
          generalize acc[k] = x at *
          cases hb : (r0 && decide (nm ∉ acc.take k)) with
          | false =>
            have HN : Hid ((r0 && decide (nm ∉ acc.take (k + 1))) = false) := Lib.hid (by
              rw [HT.out]
              cases r0 with
              | false => rfl
              | true =>
                have hm : nm ∈ acc.take k := by simpa using hb
                simp [hm])
            clear hb
            go_wp2
            go_roundw
            case rel => exact ⟨k + 1, by omega, by go_num, by rw [HN.out], trivial⟩
            case measure => simp [intOf]; omega
          | true =>
            by_cases e : x = nm
            · have he := teq e
              have HN : Hid ((r0 && decide (nm ∉ acc.take (k + 1))) = false) := Lib.hid (by rw [HT.out]; simp [e])
              clear hb e
              go_wp2
              go_roundw
              case rel => exact ⟨k + 1, by omega, by go_num, by rw [HN.out], trivial⟩
              case measure => simp [intOf]; omega
            · have he := tne e
              have HN : Hid ((r0 && decide (nm ∉ acc.take (k + 1))) = true) := Lib.hid (by
                rw [HT.out]
                simp at hb ⊢
                exact ⟨hb.1, hb.2, fun h => e h.symm⟩)
              clear hb e
              go_wp2
              go_roundw
              case rel => exact ⟨k + 1, by omega, by go_num, by rw [HN.out], trivial⟩
              case measure => simp [intOf]; omega
        · obtain rfl : k = acc.length := by omega
          rw [List.take_of_length_le (Nat.le_refl _)]
          cases hb : (r0 && decide (nm ∉ acc)) with
          | false =>
            have HE : Hid (ab L s = (acc, false)) := Lib.hid (HU.out.no hne (by
              cases hf : fnd L nm with
              | none => exact .inl rfl
              | some x =>
                have := HR0.out
                rw [hf] at this
                simp at this
                rw [this] at hb
                simp at hb
                exact .inr hb))
            clear hb
            go_wp2
            refine bodyPost_ret (v := .tuple #[.slice va acc.length vc, .bool false]) (by simp [results, Try.results12, go_sem]) rfl ?_
            exact HI2.out.done HE.out
          | true =>
            have h12 : r0 = true ∧ nm ∉ acc := by simpa using hb
            obtain ⟨x, hx⟩ : ∃ x, fnd L nm = some x := by
              cases hf : fnd L nm with
              | none =>
                have := HR0.out
                rw [hf] at this
                simp at this
                rw [this] at h12
                exact absurd h12.1 (by simp)
              | some x => exact ⟨x, rfl⟩
            have HU2 := Lib.hid (HU.out.step hne hx h12.2)
            have hsx : x.sup = fsu := by have := HFS.out; rw [hx] at this; exact this.symm
            rw [hsx] at HU2
            obtain ⟨v', w4, hap, hI4, hbox⟩ := HI2.out.add (by omega) nm
            have hB4 := hbox _ _ HB2.out
            have p1 : w4.cell? ⟨w1.heap.size, 1, none⟩ = some (.string fsu) := hB4.cell 1
            have hl4 := hB4.lt
            have hv4 : ∃ a c, v' = .slice a (acc ++ [nm]).length c ∧ (acc ++ [nm]).length ≤ c ∧ c ≤ 9223372036854775807 := by
              rcases hI4.row.2 with ⟨e, e'⟩ | ⟨g, cap, cur, e, _, _, e2, e3, _⟩
              · simp at e'
              · exact ⟨_, _, e, e2, by unfold maxLen at e3; omega⟩
            obtain ⟨a', c', rfl, hv1, hv2⟩ := hv4
            have HI4 := Lib.hid hI4
            have hlen : (acc ++ [nm]).length = acc.length + 1 := by simp
            have HLN := Lib.hid hlen
            have HV1 := Lib.hid hv1
            clear hb h12 hx hsx hI4 hbox hB4 hlen HFS hv1
            go_wp2_with (at_builtin; refine wpList_append_run rfl _ _ 27 rfl rfl rfl rfl hap ?_)
            go_wp2
            go_roundw
            case rel => exact ⟨fsu, acc ++ [nm], rfl, by rw [HLN.out]; go_num, ⟨_, _, by rw [HLN.out], HV1.out, hv2⟩, HU2, by have := HI4.out; rw [HLN.out] at this; exact Lib.hid this⟩
            case measure => have := HLN.out; simp [lenV] at this ⊢; omega
end Go.Proofs.Ytgnkkoeklipmiaa
