/-
  How many there are of a kind: the statement's own function.
-/
import Derived.Test.YtkdgneinjkongaaDoorText
namespace Go.Proofs.YtkdgneinjkongaaDoor
open Go.RowKit

theorem add_block (a : Addr) (i : Nat) : (a.add i).block = a.block := by unfold Addr.add; split <;> rfl
/-- a slice that came in: it holds these values, one cell each -/
def Arg (w : World) (A : Option Addr) (xs : List Value) : Prop :=
  xs = [] ∨ ∃ ad : Addr, A = some ad ∧ ad.block < w.heap.size ∧ ∀ i (h : i < xs.length), w.cell? (ad.add i) = some xs[i]
theorem Arg.below {w w' : World} {A : Option Addr} {xs : List Value} (h : Arg w A xs) (hb : Below w.heap.size w w') : Arg w' A xs := by
  rcases h with h | ⟨ad, e, hlt, hc⟩
  · exact .inl h
  · exact .inr ⟨ad, e, Nat.lt_of_lt_of_le hlt hb.size, fun i hi => (hb.cell (by rw [add_block]; exact hlt)).trans (hc i hi)⟩
theorem Arg.get {w : World} {A : Option Addr} {xs : List Value} (h : Arg w A xs) (i : Nat) (hi : i < xs.length) : ∃ ad, A = some ad ∧ w.cell? (ad.add i) = some xs[i] := by
  rcases h with h | ⟨ad, e, _, hc⟩
  · subst h; simp at hi
  · exact ⟨ad, e, hc i hi⟩
def ints (zs : List Int) : List Value := zs.map (Value.int .i64)

def kindsL : Bs := [110, 108, 102, 99, 116, 109, 106, 98]
/-- how many there are of p -/
def ofM : Bs → List Int → Int → Int
  | k :: ks, m :: ms, p => if ((k.toNat : Nat) : Int) = p then m else ofM ks ms p
  | _, _, _ => 0
theorem ofM_drop {ks : Bs} {ms : List Int} {p : Int} {i : Nat} (h1 : i < ks.length) (h2 : i < ms.length) : ofM (ks.drop i) (ms.drop i) p = if ((ks[i].toNat : Nat) : Int) = p then ms[i] else ofM (ks.drop (i + 1)) (ms.drop (i + 1)) p := by
  rw [List.drop_eq_getElem_cons h1, List.drop_eq_getElem_cons h2, ofM]
theorem ofM_end {ks : Bs} {ms : List Int} {p : Int} {i : Nat} (h : ks.length ≤ i ∨ ms.length ≤ i) : ofM (ks.drop i) (ms.drop i) p = 0 := by
  rcases h with h | h
  · rw [List.drop_eq_nil_of_le h]; simp [ofM]
  · rw [List.drop_eq_nil_of_le h]; cases ks.drop i <;> simp [ofM]

set_option maxHeartbeats 1000000 in
theorem clos15 (p : Int) (ms : List Int) (a : Option Addr) (cap : Nat) (A B : Nat) (w : World) (hA : w.cell? ⟨A, 0, none⟩ = some (S8 kindsL)) (hB : w.cell? ⟨B, 0, none⟩ = some (.slice a ms.length cap)) (hM : Arg w a (ints ms)) :
    Calls Tryd.prog 15 #[.int .i32 p, .pointer (some ⟨A, 0, none⟩), .pointer (some ⟨B, 0, none⟩)] w fun e w' => e = .returned (.int .i64 (ofM kindsL ms p)) ∧ w = w' := by
  obtain ⟨KS, hKS⟩ : ∃ K, K = str kindsL := ⟨_, rfl⟩
  unfold S8 at hA
  rw [← hKS] at hA
  have HBy : Hid (∀ i (h : i < KS.size) (h' : i < kindsL.length), (KS[i]'h).toNat = kindsL[i].toNat) := Lib.hid (by subst hKS; intro i h h'; rfl)
  have hsz : KS.size = 8 := by rw [hKS]; rfl
  have HM := Lib.hid hM
  obtain ⟨n, HN⟩ : ∃ n, Hid (n = ms.length) := ⟨_, Lib.hid rfl⟩
  rw [← HN.out] at hB
  clear hKS hM
  go_enter Tryd.func15, Tryd.ntmps15
  go_wp2
  go_loop [5] (fun i => ∃ k : Nat, i = .int .i64 k ∧ k ≤ n ∧ k ≤ 8 ∧ Hid (ofM kindsL ms p = ofM (kindsL.drop k) (ms.drop k) p)) (fun i => 8 - (intOf i).toNat)
  case atStart => exact ⟨0, rfl, by omega, by omega, Lib.hid rfl⟩
  case round =>
    obtain ⟨k, rfl, hk1, hk2, HO⟩ := hrel
    by_cases hl8 : k < 8
    · by_cases hln : k < n
      · have hi : k < KS.size := by omega
        have hi' : k < kindsL.length := hl8
        have hb := HBy.out k hi hi'
        have h3 : k < ms.length := by rw [← HN.out]; exact hln
        have hcut := HO.out.trans (ofM_drop (p := p) hi' h3)
        obtain ⟨ad, rfl, hc⟩ := HM.out.get k (by simpa [ints] using h3)
        simp only [ints, List.getElem_map] at hc
        obtain ⟨kb, hkb⟩ : ∃ b : Nat, kindsL[k].toNat = b := ⟨_, rfl⟩
        have hkl : kb < 256 := by rw [← hkb]; exact UInt8.toNat_lt _
        rw [hkb] at hb hcut
        generalize ms[k] = M at *
        by_cases hq : (kb : Int) = p
        · rw [if_pos hq] at hcut
          subst hq
          have HC := Lib.hid hcut
          clear hcut hkb HO
          go_wp2
          go_ret
          exact ⟨by rw [HC.out]; rfl, rfl⟩
        · rw [if_neg hq] at hcut
          have HC := Lib.hid hcut
          have hqb : ((kb : Int) == p) = false := by simpa using hq
          clear hcut hkb HO hq hc
          go_wp2
          go_round
          case rel => exact ⟨k + 1, by go_num, by omega, by omega, HC⟩
          case measure => simp [intOf]; omega
      · have HC : Hid (ofM kindsL ms p = 0) := Lib.hid (HO.out.trans (ofM_end (.inr (by have := HN.out; omega))))
        go_wp2
        go_ret
        exact ⟨by rw [HC.out]; rfl, rfl⟩
    · have HC : Hid (ofM kindsL ms p = 0) := Lib.hid (HO.out.trans (ofM_end (.inl (by show 8 ≤ k; omega))))
      go_wp2
      go_ret
      exact ⟨by rw [HC.out]; rfl, rfl⟩
end Go.Proofs.YtkdgneinjkongaaDoor
