/-
  The Writer's Num and String.
-/
import Derived.Test.YtomlbfkkhhhfkaaDoorPkLay
namespace Go.Proofs.YtomlbfkkhhhfkaaDoor.Pk
open Go.RowKit

theorem Kp.cell {base bw : Nat} {w w' : World} (h : Kp base bw w w') {p : Addr} (h1 : p.block < base) (h2 : p.block ≠ bw) : w'.cell? p = w.cell? p := World.cell?_of_block (w := w) (h.block p.block h1 h2)

theorem add_block (a : Addr) (n : Nat) : (a.add n).block = a.block := by unfold Addr.add; split <;> rfl

/-- a slice that holds these values, one cell each, in a block below base, or in one that is no row of bytes, that isn't bw -/
def Vals (base bw : Nat) (w : World) (A : Option Addr) (xs : List Value) : Prop :=
  xs = [] ∨ ∃ ad : Addr, A = some ad ∧ (ad.block < base ∨ ad.block < w.heap.size ∧ NB w ad.block) ∧ ad.block ≠ bw ∧ ∀ i (h : i < xs.length), w.cell? (ad.add i) = some xs[i]

theorem Vals.keep {base bw : Nat} {w w' : World} {A : Option Addr} {xs : List Value} (h : Vals base bw w A xs) (hk : Kp base bw w w') : Vals base bw w' A xs := by
  rcases h with h | ⟨ad, h1, h2, h3, h4⟩
  · exact .inl h
  · rcases h2 with h2 | ⟨h2, h5⟩
    · exact .inr ⟨ad, h1, .inl h2, h3, fun i hi => by rw [hk.cell (by rw [add_block]; exact h2) (by rw [add_block]; exact h3)]; exact h4 i hi⟩
    · have e := hk.other _ h2 h3 h5
      exact .inr ⟨ad, h1, .inr ⟨Nat.lt_of_lt_of_le h2 hk.size, h5.of e⟩, h3, fun i hi => by rw [World.cell?_of_block (w := w) (by rw [add_block]; exact e)]; exact h4 i hi⟩

def ints (zs : List Int) : List Value := zs.map (Value.int .i64)
def encAll (zs : List Int) : List UInt8 := zs.flatMap encI
theorem encAll_snoc (zs : List Int) (k : Nat) (h : k < zs.length) : encAll (zs.take (k + 1)) = encAll (zs.take k) ++ encI zs[k] := by
  unfold encAll; rw [List.take_succ_eq_append_getElem h, List.flatMap_append, List.flatMap_singleton]
theorem encAll_len (zs : List Int) (h : ∀ z ∈ zs, z ≤ 9223372036854775807) : (encAll zs).length ≤ 9 * zs.length := by
  induction zs with
  | nil => simp [encAll]
  | cons z zs ih =>
    have h1 := encI_len z (h z (by simp))
    have h2 := ih (fun z hz => h z (by simp [hz]))
    simp only [encAll, List.flatMap_cons, List.length_append, List.length_cons] at *
    omega

set_option maxHeartbeats 800000 in
set_option maxRecDepth 100000 in
theorem num_any (base bw : Nat) (zs : List Int) (hz : ∀ z ∈ zs, -9223372036854775808 ≤ z ∧ z ≤ 9223372036854775807) (A : Option Addr) (c : Nat) (bs : List UInt8) (w : World) (hw : WAt base bw w bs) (hlt : bw < base) (hb : base ≤ w.heap.size)
    (hA : Vals base bw w A (ints zs)) (hlen : bs.length + 9 * zs.length ≤ 140737488355328) :
    Calls Tryd.prog 19 #[.pointer (some ⟨bw, 0, none⟩), .slice A zs.length c] w fun e w' => e = .returned (.pointer (some ⟨bw, 0, none⟩)) ∧ WAt base bw w' (bs ++ encAll zs) ∧ Kp base bw w w' := by
  go_enter Tryd.func19, Tryd.ntmps19
  go_wp2
  go_loopw [9] (fun s wr => ∃ k : Nat, s = .int .i64 k ∧ k ≤ zs.length ∧ WAt base bw wr (bs ++ encAll (zs.take k)) ∧ Kp base bw w wr) (fun s _ => zs.length - (intOf s).toNat)
  case atStart => exact ⟨0, rfl, by omega, by simpa [encAll] using hw, Kp.refl _ _ _⟩
  case round =>
    obtain ⟨k, rfl, hk, hw1, hk1⟩ := hrel
    by_cases hkl : k < zs.length
    · obtain ⟨ad, rfl, hc⟩ : ∃ ad, A = some ad ∧ wr.cell? (ad.add k) = some (.int .i64 zs[k]) := by
        rcases hA.keep hk1 with h | ⟨ad, h1, h2, h3, h4⟩
        · simp [ints] at h; subst h; simp at hkl
        · exact ⟨ad, h1, by have := h4 k (by simpa [ints] using hkl); simpa [ints] using this⟩
      have HL : Hid ((bs ++ encAll (zs.take k)).length + 9 ≤ 140737488355328) := by
        have h1 := encAll_len (zs.take k) (fun z h => (hz z (List.mem_of_mem_take h)).2)
        have h2 := List.length_take_le k zs
        show _ ≤ _
        simp only [List.length_append]
        omega
      have HZ := hz zs[k] (List.getElem_mem hkl)
      have HS := Lib.hid (encAll_snoc zs k hkl)
      clear hA
      go_wp2_with (go_at_call 46; refine (lay_int base bw zs[k] HZ.1 HZ.2 _ wr hw1 hlt (Nat.le_trans hb hk1.size) HL.out).mono ?_; rintro e w2 ⟨rfl, hw2, hk2⟩)
      go_roundw
      case rel => exact ⟨k + 1, by go_num, by omega, by rw [HS.out, ← List.append_assoc]; exact hw2, hk1.trans hk2⟩
      case measure => simp [intOf]; omega
    · go_wp2
      go_ret
      refine ⟨rfl, ?_, hk1⟩
      rw [List.take_of_length_le (by omega)] at hw1
      exact hw1

set_option maxRecDepth 100000 in
theorem run_string (w : World) (base : Nat) (v : Value) (bs : List UInt8) (h : Row base w v bs) : (convert 52 9 v).run Tryd.prog w = .ok (.string ⟨bs.toArray⟩) w := by
  rcases h.2 with ⟨rfl, h0⟩ | ⟨g, cap, cur, rfl, hg, hh, hn, hm, hs, ht⟩
  · have : bs = [] := List.eq_nil_of_length_eq_zero h0
    subst this
    exact run_convert_bytes_nil w 52 5 Tryd.underlying52 Tryd.underlying5 0 0 9 Tryd.underlying9
  · have := run_convert_bytes_arg (P := Tryd.prog) w 52 5 Tryd.underlying52 Tryd.underlying5 g 0 bs.length cap (bs.map fun c => (c.toNat : Int)) (by simp) (by
      intro i hi
      have := World.ownsRow.cellAt (j := i) h (by omega)
      rw [Nat.zero_add, this]
      simp [hi, B8]) 9 Tryd.underlying9
    rw [this]
    congr 2
    unfold strOfNums
    simp [Function.comp_def]

set_option maxHeartbeats 800000 in
theorem string_any (base bw : Nat) (bs : List UInt8) (w : World) (hw : WAt base bw w bs) :
    Calls Tryd.prog 21 #[.pointer (some ⟨bw, 0, none⟩)] w fun e w' => e = .returned (.string ⟨bs.toArray⟩) ∧ w = w' := by
  obtain ⟨v, hv, hrow⟩ := hw
  have hc := cell_of_one hv
  have hr := run_string w base v bs hrow
  clear hv hrow
  go_enter Tryd.func21, Tryd.ntmps21
  go_wp2
  go_ret
  exact ⟨rfl, rfl⟩

end Go.Proofs.YtomlbfkkhhhfkaaDoor.Pk
