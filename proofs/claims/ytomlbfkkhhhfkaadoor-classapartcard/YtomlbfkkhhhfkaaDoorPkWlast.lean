/-
  The Writer's Flag, Int; pack's Read; the statements' head.
-/
import Derived.Test.YtomlbfkkhhhfkaaDoorPkWmore
namespace Go.Proofs.YtomlbfkkhhhfkaaDoor.Pk
open Go.RowKit

def flagB (b : Bool) : UInt8 := if b then 1 else 0
def bools (fs : List Bool) : List Value := fs.map Value.bool
theorem take_map_snoc {α β : Type} (f : α → β) (fs : List α) (k : Nat) (h : k < fs.length) : (fs.take (k + 1)).map f = (fs.take k).map f ++ [f fs[k]] := by
  rw [List.take_succ_eq_append_getElem h, List.map_append]; rfl

set_option maxHeartbeats 800000 in
set_option maxRecDepth 100000 in
theorem flag_any (base bw : Nat) (fs : List Bool) (A : Option Addr) (c : Nat) (bs : List UInt8) (w : World) (hw : WAt base bw w bs) (hlt : bw < base) (hb : base ≤ w.heap.size)
    (hA : Vals base bw w A (bools fs)) (hlen : bs.length + fs.length + 9 ≤ 140737488355328) :
    Calls Tryd.prog 40 #[.pointer (some ⟨bw, 0, none⟩), .slice A fs.length c] w fun e w' => e = .returned (.pointer (some ⟨bw, 0, none⟩)) ∧ WAt base bw w' (bs ++ fs.map flagB) ∧ Kp base bw w w' := by
  go_enter Tryd.func40, Tryd.ntmps40
  go_wp2
  go_loopw [9] (fun s wr => ∃ k : Nat, s = .int .i64 k ∧ k ≤ fs.length ∧ WAt base bw wr (bs ++ (fs.take k).map flagB) ∧ Kp base bw w wr) (fun s _ => fs.length - (intOf s).toNat)
  case atStart => exact ⟨0, rfl, by omega, by simpa using hw, Kp.refl _ _ _⟩
  case round =>
    obtain ⟨k, rfl, hk, hw1, hk1⟩ := hrel
    by_cases hkl : k < fs.length
    · obtain ⟨f, HT⟩ : ∃ f, Hid (f = fs[k]) := ⟨fs[k], Lib.hid rfl⟩
      obtain ⟨ad, rfl, hc⟩ : ∃ ad, A = some ad ∧ wr.cell? (ad.add k) = some (.bool f) := by
        rcases hA.keep hk1 with h | ⟨ad, h1, h2, h3, h4⟩
        · simp [bools] at h; subst h; simp at hkl
        · exact ⟨ad, h1, by have := h4 k (by simpa [bools] using hkl); rw [HT.out]; simpa [bools] using this⟩
      have HS := Lib.hid (take_map_snoc flagB fs k hkl)
      have HL : Hid ((bs ++ (fs.take k).map flagB).length + 9 ≤ 140737488355328) := by
        show _ ≤ _
        simp only [List.length_append, List.length_map, List.length_take]
        omega
      have HB : Hid (base ≤ wr.heap.size) := Nat.le_trans hb hk1.size
      clear hA
      cases f
      · go_wp2_with fail
        refine (lay_int base bw _ (by omega) (by omega) _ wr hw1 hlt HB.out HL.out).mono ?_
        rintro e w2 ⟨rfl, hw2, hk2⟩
        go_wp2
        go_roundw
        case rel => exact ⟨k + 1, by go_num, by omega, by rw [HS.out, ← HT.out, ← List.append_assoc]; exact hw2, hk1.trans hk2⟩
        case measure => simp [intOf]; omega
      · go_wp2_with fail
        refine (lay_int base bw _ (by omega) (by omega) _ wr hw1 hlt HB.out HL.out).mono ?_
        rintro e w2 ⟨rfl, hw2, hk2⟩
        go_wp2
        go_roundw
        case rel => exact ⟨k + 1, by go_num, by omega, by rw [HS.out, ← HT.out, ← List.append_assoc]; exact hw2, hk1.trans hk2⟩
        case measure => simp [intOf]; omega
    · go_wp2
      go_ret
      refine ⟨rfl, ?_, hk1⟩
      rw [List.take_of_length_le (by omega)] at hw1
      exact hw1

/-- a number with a sign as bytes -/
def intB (n : Int) : List UInt8 := enc (zig n / 4294967296) ++ enc (zig n % 4294967296)
def intAll (zs : List Int) : List UInt8 := zs.flatMap intB
theorem intB_len (n : Int) (h1 : -9223372036854775808 ≤ n) (h2 : n ≤ 9223372036854775807) : (intB n).length ≤ 18 := by
  have := zig_lt n h1 h2
  have a := enc_len9 (zig n / 4294967296) (by omega)
  have b := enc_len9 (zig n % 4294967296) (by omega)
  unfold intB
  rw [List.length_append]
  omega
theorem intAll_snoc (zs : List Int) (k : Nat) (h : k < zs.length) : intAll (zs.take (k + 1)) = intAll (zs.take k) ++ intB zs[k] := by
  unfold intAll; rw [List.take_succ_eq_append_getElem h, List.flatMap_append, List.flatMap_singleton]
theorem intAll_len (zs : List Int) (h : ∀ z ∈ zs, -9223372036854775808 ≤ z ∧ z ≤ 9223372036854775807) : (intAll zs).length ≤ 18 * zs.length := by
  induction zs with
  | nil => simp [intAll]
  | cons z zs ih =>
    have h1 := intB_len z (h z (by simp)).1 (h z (by simp)).2
    have h2 := ih (fun z hz => h z (by simp [hz]))
    simp only [intAll, List.flatMap_cons, List.length_append, List.length_cons] at *
    omega
theorem and32 (u : Nat) (h : u < 18446744073709551616) : bits .and .u64 (u : Int) 4294967295 = ((u % 4294967296 : Nat) : Int) := by
  have h1 := u64_and_nat u 4294967295 h (by omega)
  rw [nat_mask32] at h1
  exact h1

set_option maxHeartbeats 800000 in
set_option maxRecDepth 100000 in
theorem wint_any (base bw : Nat) (zs : List Int) (hz : ∀ z ∈ zs, -9223372036854775808 ≤ z ∧ z ≤ 9223372036854775807) (A : Option Addr) (c : Nat) (bs : List UInt8) (w : World) (hw : WAt base bw w bs) (hlt : bw < base) (hb : base ≤ w.heap.size)
    (hA : Vals base bw w A (ints zs)) (hlen : bs.length + 18 * zs.length ≤ 140737488355328) :
    Calls Tryd.prog 38 #[.pointer (some ⟨bw, 0, none⟩), .slice A zs.length c] w fun e w' => e = .returned (.pointer (some ⟨bw, 0, none⟩)) ∧ WAt base bw w' (bs ++ intAll zs) ∧ Kp base bw w w' := by
  go_enter Tryd.func38, Tryd.ntmps38
  go_wp2
  go_loopw [10] (fun s wr => ∃ k : Nat, s = .int .i64 k ∧ k ≤ zs.length ∧ WAt base bw wr (bs ++ intAll (zs.take k)) ∧ Kp base bw w wr) (fun s _ => zs.length - (intOf s).toNat)
  case atStart => exact ⟨0, rfl, by omega, by simpa [intAll] using hw, Kp.refl _ _ _⟩
  case round =>
    obtain ⟨k, rfl, hk, hw1, hk1⟩ := hrel
    by_cases hkl : k < zs.length
    · have HZ := hz zs[k] (List.getElem_mem hkl)
      obtain ⟨z, HT⟩ : ∃ z, Hid (z = zs[k]) := ⟨zs[k], Lib.hid rfl⟩
      rw [← HT.out] at HZ
      obtain ⟨ad, rfl, hc⟩ : ∃ ad, A = some ad ∧ wr.cell? (ad.add k) = some (.int .i64 z) := by
        rcases hA.keep hk1 with h | ⟨ad, h1, h2, h3, h4⟩
        · simp [ints] at h; subst h; simp at hkl
        · exact ⟨ad, h1, by have := h4 k (by simpa [ints] using hkl); rw [HT.out]; simpa [ints] using this⟩
      have HS := Lib.hid (intAll_snoc zs k hkl)
      have HL : Hid ((bs ++ intAll (zs.take k)).length + 18 ≤ 140737488355328) := by
        have h1 := intAll_len (zs.take k) (fun z h => hz z (List.mem_of_mem_take h))
        have h2 : (zs.take k).length = k := by rw [List.length_take]; omega
        show _ ≤ _
        simp only [List.length_append]
        omega
      have HB : Hid (base ≤ wr.heap.size) := Nat.le_trans hb hk1.size
      clear hA
      obtain ⟨u, hu, HU⟩ : ∃ u, u < 18446744073709551616 ∧ Hid (u = zig z) := ⟨zig z, zig_lt z HZ.1 HZ.2, Lib.hid rfl⟩
      have HA := Lib.hid (and32 u hu)
      go_wp2_with fail
      refine (unsigned_any z HZ.1 HZ.2 wr).mono ?_
      rintro e w' ⟨rfl, rfl⟩
      rw [← HU.out]
      go_wp2_with fail
      refine (lay_int base bw _ (by omega) (by omega) _ wr hw1 hlt HB.out (by have := HL.out; omega)).mono ?_
      rintro e w2 ⟨rfl, hw2, hk2⟩
      have HB2 : Hid (base ≤ w2.heap.size) := Nat.le_trans HB.out hk2.size
      have HE1 : Hid (encI ((u : Int) / 4294967296) = enc (u / 4294967296)) := by show _ = _; unfold encI; congr 1
      have HE2 : Hid (encI ((u % 4294967296 : Nat) : Int) = enc (u % 4294967296)) := by show _ = _; unfold encI; congr 1
      go_wp2_with fail
      rw [HA.out, wrap64_nat _ (by omega)]
      refine (lay_int base bw _ (by omega) (by omega) _ w2 hw2 hlt HB2.out (by have h1 := HL.out; have h2 := enc_len9 (u / 4294967296) (by omega); rw [HE1.out, List.length_append]; omega)).mono ?_
      rintro e w3 ⟨rfl, hw3, hk3⟩
      go_wp2
      go_roundw
      case rel =>
        refine ⟨k + 1, by go_num, by omega, ?_, hk1.trans (hk2.trans hk3)⟩
        rw [HE1.out, HE2.out] at hw3
        rw [HS.out, ← HT.out]
        unfold intB
        rw [← HU.out, ← List.append_assoc, ← List.append_assoc]
        exact hw3
      case measure => simp [intOf]; omega
    · go_wp2
      go_ret
      refine ⟨rfl, ?_, hk1⟩
      rw [List.take_of_length_le (by omega)] at hw1
      exact hw1

theorem read_any (s : List UInt8) (w : World) :
    Calls Tryd.prog 37 #[.string ⟨s.toArray⟩] w fun e w' => e = .returned (.pointer (some ⟨w.heap.size, 0, none⟩)) ∧ w' = w.alloc (.cells #[.string ⟨s.toArray⟩, .bool false] 120) := by
  go_enter Tryd.func37, Tryd.ntmps37
  go_wp2
  go_ret
  exact ⟨rfl, rfl⟩

theorem RAt.new (w : World) (s : List UInt8) : RAt w.heap.size (w.alloc (.cells #[.string ⟨s.toArray⟩, .bool false] 120)) ⟨s, false⟩ := heap_alloc_new w _
theorem WAt.new (base : Nat) (w : World) : WAt base w.heap.size (w.alloc (.cells #[.slice none 0 0] 54)) [] := ⟨_, heap_alloc_new w _, World.ownsRow_nil _ _ _ _⟩
theorem WAt.alloc {base bw : Nat} {w : World} {bs : List UInt8} (h : WAt base bw w bs) (o : Obj) : WAt base bw (w.alloc o) bs := by
  obtain ⟨v, hv, hr⟩ := h
  exact ⟨v, (Below.heap_alloc w o bw (lt_of_block hv)).trans hv, World.ownsRow.alloc hr o⟩
theorem RAt.alloc {br : Nat} {w : World} {st : St} (h : RAt br w st) (o : Obj) : RAt br (w.alloc o) st := (Below.heap_alloc w o br (lt_of_block h)).trans h
theorem RAt.keep {br base bw : Nat} {w w' : World} {st : St} (h : RAt br w st) (hk : Kp base bw w w') (h1 : br < base) (h2 : br ≠ bw) : RAt br w' st := (hk.block br h1 h2).trans h
theorem RAt.on {br bw : Nat} {w w' : World} {st : St} (h : RAt br w st) (hk : On bw w w') (h2 : br ≠ bw) : RAt br w' st := (hk.block br h2).trans h
theorem Kp.below {base bw B : Nat} {w w' : World} (h : Kp base bw w w') (h1 : B ≤ base) (h2 : B ≤ bw) : Below B w w' := ⟨h.os, h.tape, h.output, h.size, fun k hk => h.block k (by omega) (by omega)⟩

theorem vals_new {base bw b : Nat} {w : World} {v : Value} {t : TypeId} (hb : w.heap.size = b) (h1 : t ≠ 5) (h2 : b ≠ bw) : Vals base bw (w.alloc (.cells #[v] t)) (some ⟨b, 0, none⟩) [v] :=
  .inr ⟨_, rfl, .inr ⟨by simp; omega, fun cs f e => by
    subst hb
    have := heap_alloc_new w (.cells #[v] t)
    simp only at e
    rw [this] at e
    simp at e
    exact h1 e.2.1⟩, h2, fun i hi => by
    subst hb
    simp at hi
    subst hi
    simp [Addr.add]⟩
theorem vals_one {base bw b : Nat} {w : World} {v : Value} {t : TypeId} (hb : w.heap.size = b) (h1 : b < base) (h2 : b ≠ bw) : Vals base bw (w.alloc (.cells #[v] t)) (some ⟨b, 0, none⟩) [v] :=
  .inr ⟨_, rfl, .inl h1, h2, fun i hi => by
    subst hb
    simp at hi
    subst hi
    simp [Addr.add]⟩

end Go.Proofs.YtomlbfkkhhhfkaaDoor.Pk
