/-
  Whether a class is below another one; which is common to two.
-/
import Derived.Test.YtgnkkoeklipmiaaAbove
namespace Go.Proofs.Ytgnkkoeklipmiaa
open Go.RowKit
set_option linter.unusedVariables false

set_option maxHeartbeats 1000000 in
theorem index52 (l : List ByteArray) (a : Option Addr) (n c : Nat) (s : ByteArray) (w : World) (h : Sl w 1 StrR l (.slice a n c)) :
    Calls Try.prog 52 #[.slice a n c, .string s] w fun e w' => ∃ k : Int, e = .returned (.int .i64 k) ∧ w' = w ∧ ((s ∈ l ∧ 0 ≤ k) ∨ (s ∉ l ∧ k = -1)) := by
  obtain ⟨hn, hl, hc, hk⟩ := h.at
  unfold maxLen at hc
  have HK := Lib.hid hk
  have HN := Lib.hid hn
  clear h hk hn
  go_enter Try.func52, Try.ntmps52
  go_wp2
  go_loopw [8] (fun i wr => ∃ k : Nat, k ≤ n ∧ i = .int .i64 k ∧ Hid (s ∉ l.take k) ∧ wr = w) (fun i _ => n - (intOf i).toNat)
  case atStart => exact ⟨0, Nat.zero_le _, rfl, Lib.hid (by simp), rfl⟩
  case round =>
    obtain ⟨k, hk1, rfl, HA, rfl⟩ := hrel
    by_cases hlt : k < n
    · have hxl : k < l.length := by have := HN.out; omega
      obtain ⟨g, o, cs, rfl, hcell, rfl⟩ := HK.out k l[k] (List.getElem?_eq_getElem hxl)
      have c0 : wr.cell? ⟨g, o + k, none⟩ = some (.string l[k]) := by have := hcell 0 _ rfl; simpa using this
      have HT : Hid (l.take (k + 1) = l.take k ++ [l[k]]) := Lib.hid (List.take_succ_eq_append_getElem hxl)
      have HM : Hid (l[k] ∈ l) := Lib.hid (List.getElem_mem hxl)
      clear hcell
      generalize l[k] = x at *
      by_cases e : s = x
      · have he := teq e
        have HE := Lib.hid e
        clear e
        go_wp2
        go_ret
        exact ⟨_, rfl, rfl, .inl ⟨by rw [HE.out]; exact HM.out, by omega⟩⟩
      · have he := tne e
        have HA2 : Hid (s ∉ l.take (k + 1)) := Lib.hid (by rw [HT.out, List.mem_append]; intro h; rcases h with h | h; exact HA.out h; simp at h; exact e h)
        clear e
        go_wp2
        go_roundw
        case rel => exact ⟨k + 1, by omega, by go_num, HA2, trivial⟩
        case measure => simp [intOf]; omega
    · have HA2 : Hid (s ∉ l) := Lib.hid (by have := HA.out; rwa [List.take_of_length_le (by have := HN.out; omega)] at this)
      go_wp2
      go_ret
      exact ⟨_, rfl, rfl, .inr ⟨HA2.out, rfl⟩⟩
set_option maxHeartbeats 1000000 in
theorem contains34 (l : List ByteArray) (v : Value) (s : ByteArray) (w : World) (h : Sl w 1 StrR l v) :
    Calls Try.prog 34 #[v, .string s] w fun e w' => e = .returned (.bool (decide (s ∈ l))) ∧ w' = w := by
  obtain ⟨a, c, rfl⟩ := h.form
  have HH := Lib.hid h
  clear h
  go_enter Try.func34, Try.ntmps34
  go_wp2_with fail
  refine (index52 l a _ c s w HH.out).mono ?_
  rintro e w1 ⟨k, rfl, rfl, ⟨hm, hk⟩ | ⟨hm, rfl⟩⟩
  · have HM := Lib.hid hm
    clear hm
    go_wp2
    go_ret
    exact ⟨by simp [HM.out], rfl⟩
  · have HM := Lib.hid hm
    clear hm
    go_wp2
    go_ret
    exact ⟨by simp [HM.out], rfl⟩

/-- an answer of a table: some value, and what has turned -/
def TPost (B tb fm : Nat) (L : List Fc) (w : World) (sv : Value) (c k : Nat) (r : Value) (e : Ending) (w' : World) : Prop :=
  ∃ sv' c', e = .returned r ∧ Tb B w' tb fm sv' c' L ∧ Stp tb w sv w' sv' ∧ c' ≤ c + k

def bel (L : List Fc) (s t : ByteArray) : Bool := decide (t ∈ (ab L s).1)
set_option maxHeartbeats 1000000 in
theorem below17 (B tb fm : Nat) (L : List Fc) (hL : L.length ≤ 100) (s t : ByteArray) (hs : s.size ≤ maxLen) (w : World) (sv : Value) (c : Nat) (hB : B ≤ w.heap.size) (hT : Tb B w tb fm sv c L) (hc : c < 900000) :
    Calls Try.prog 17 #[.pointer (some ⟨tb, 0, none⟩), .string s, .string t] w (TPost B tb fm L w sv c 101 (.bool (bel L s t))) := by
  have HA := Lib.hid (above13 B tb fm L hL s hs w sv c hB hT hc)
  clear hT
  go_enter Try.func17, Try.ntmps17
  go_wp2_with fail
  refine HA.out.mono ?_
  rintro e w1 ⟨v, sv1, c1, rfl, hS, hT1, hs1, hc1⟩
  obtain ⟨a, cp, rfl⟩ := hS.form
  have HT1 := Lib.hid hT1
  have HS1 := Lib.hid hs1
  have HS := Lib.hid hS
  clear hT1 hs1 hS HA
  go_wp2_with fail
  refine (contains34 _ _ t w1 HS.out).mono ?_
  rintro e w2 ⟨rfl, rfl⟩
  go_wp2
  go_ret
  exact ⟨sv1, c1, rfl, HT1.out, HS1.out, by omega⟩
end Go.Proofs.Ytgnkkoeklipmiaa
