/-
  Has an expression few parts?
-/
import Derived.Test.YtojkagfbdpjckaaDoorFewPlain
import Derived.Test.YtojkagfbdpjckaaDoorHead
namespace Go.Proofs.YtojkagfbdpjckaaDoor
open Go.RowKit

theorem Ex.oks {W : World} {t : Tree} {kk : Value} (h : Ex W t kk) : oks t := oks_mk h.1 (h.2.elim fun _ hd => kin_oks hd)

def FewOK (W : World) (t : Tree) (kk : Value) : Prop := ∀ (n : Nat) (w : World), n ≤ 11 → Below W.heap.size W w → Calls Tryd.prog 9 #[exprV t kk, .int .i64 n] w fun e w' => e = .returned (.bool (few t n)) ∧ Below w.heap.size w w'

set_option maxHeartbeats 1000000 in
theorem few_deep (kind ln co num : Int) (name tn : ByteArray) (ta : Bool) (kids : List Tree) (fn : ByteArray) (fa : Bool) (ow : ByteArray) (ka : Option Addr) (kn kc : Nat) (n : Nat) (hkn : kn = kids.length) (hbad : 10 < n ∨ 5 < kn ∨ 40 < name.size ∨ 40 < tn.size) (hn : n ≤ 11) (w : World) :
    Calls Tryd.prog 9 #[exprV (.mk kind ln co num name tn ta kids fn fa ow) (.slice ka kn kc), .int .i64 n] w fun e w' => e = .returned (.bool (few (.mk kind ln co num name tn ta kids fn fa ow) n)) ∧ Below w.heap.size w w' := by
  have hf : few (.mk kind ln co num name tn ta kids fn fa ow) n = false := by
    rw [few_mk, ← hkn]
    rcases hbad with h | h | h | h
    · rw [decide_eq_false (by omega : ¬ n ≤ 10)]; simp
    · rw [decide_eq_false (by omega : ¬ kn ≤ 5)]; simp
    · rw [decide_eq_false (by omega : ¬ name.size ≤ 40)]; simp
    · rw [decide_eq_false (by omega : ¬ tn.size ≤ 40)]; simp
  rw [hf]
  clear hf hkn
  unfold exprV exprC
  by_cases h1 : 10 < n
  · go_enter Tryd.func9, Tryd.ntmps9
    go_wp2
    go_ret
    exact ⟨rfl, below1 w _⟩
  · by_cases h2 : 5 < kn
    · go_enter Tryd.func9, Tryd.ntmps9
      go_wp2
      go_ret
      exact ⟨rfl, below1 w _⟩
    · by_cases h3 : 40 < name.size
      · go_enter Tryd.func9, Tryd.ntmps9
        go_wp2
        go_ret
        exact ⟨rfl, below1 w _⟩
      · have h4 : 40 < tn.size := by omega
        go_enter Tryd.func9, Tryd.ntmps9
        go_wp2
        go_ret
        exact ⟨rfl, below1 w _⟩

set_option maxHeartbeats 1000000 in
theorem few_q (W : World) (Q : Tree → Value → Prop) (hQ : ∀ t kk, t.ok → Q t kk → FewOK W t kk) (t : Tree) (kk : Value) (hk : Kids W Q t.kids kk) : FewOK W t kk := by
  intro n w hn hw
  obtain ⟨ka, kc, rfl, _⟩ := id hk
  obtain ⟨kind, ln, co, num, name, tn, ta, kids, fn, fa, ow⟩ := t
  have hk' : Kids W Q kids (.slice ka kids.length kc) := hk
  show Calls Tryd.prog 9 #[exprV (.mk kind ln co num name tn ta kids fn fa ow) (.slice ka kids.length kc), .int .i64 n] w _
  clear hk
  obtain ⟨_, hl, hc, hkk⟩ := hk'.at
  have HKN : Hid (kids.length = kids.length) := Lib.hid rfl
  by_cases h1 : 10 < n
  · exact few_deep kind ln co num name tn ta kids fn fa ow ka _ kc n rfl (.inl h1) hn w
  by_cases h2 : 5 < kids.length
  · exact few_deep kind ln co num name tn ta kids fn fa ow ka _ kc n rfl (.inr (.inl h2)) hn w
  by_cases h3 : 40 < name.size
  · exact few_deep kind ln co num name tn ta kids fn fa ow ka _ kc n rfl (.inr (.inr (.inl h3))) hn w
  by_cases h4 : 40 < tn.size
  · exact few_deep kind ln co num name tn ta kids fn fa ow ka _ kc n rfl (.inr (.inr (.inr h4))) hn w
  have hf : few (.mk kind ln co num name tn ta kids fn fa ow) n = kids.all (fun t => few t (n + 1)) := by
    rw [few_mk, decide_eq_true (by omega : n ≤ 10), decide_eq_true (by omega : kids.length ≤ 5), decide_eq_true (by omega : name.size ≤ 40), decide_eq_true (by omega : tn.size ≤ 40)]
    rfl
  rw [hf]
  have HK := Lib.hid hkk
  clear hf hkk hk' HKN hn
  unfold maxLen at hc
  have hB := hw.size
  unfold exprV exprC
  go_enter Tryd.func9, Tryd.ntmps9
  go_wp2
  go_loopw [31] (fun i wr => ∃ k : Nat, k ≤ kids.length ∧ i = .int .i64 k ∧ (kids.take k).all (fun t => few t (n + 1)) = true ∧ Below w.heap.size w wr) (fun i _ => kids.length - (intOf i).toNat)
  case atStart => exact ⟨0, Nat.zero_le _, rfl, by simp, below1 w _⟩
  case round =>
    obtain ⟨k, hk1, rfl, hall, hbr⟩ := hrel
    have hwr : Below W.heap.size W wr := hw.trans (hbr.mono hB)
    have hsr := hbr.size
    have HA := Lib.hid hall
    clear hall
    by_cases hlt2 : k < kids.length
    · obtain ⟨g, o, kk, rfl, hcell, ⟨ka2, kn2, kc2, rfl⟩, hok, hq⟩ := HK.out k kids[k] (List.getElem?_eq_getElem hlt2)
      have hlay := hQ _ _ hok hq
      have hc2 := hcell.below hwr
      have HT : Hid ((kids.take (k + 1)).all (fun t => few t (n + 1)) = few kids[k] (n + 1)) := Lib.hid (by rw [List.take_succ_eq_append_getElem hlt2, List.all_append, HA.out]; simp)
      have HF : Hid (few kids[k] (n + 1) = false → kids.all (fun t => few t (n + 1)) = false) := Lib.hid (fun h => List.all_eq_false.2 ⟨kids[k], List.getElem_mem hlt2, by simp [h]⟩)
      clear hcell hq hok
      generalize kids[k] = t at *
      obtain ⟨kind', ln', co', num', name', tn', ta', kids', fn', fa', ow'⟩ := t
      have c0 : wr.cell? ⟨g, o + k * 11, none⟩ = some (.int .i64 kind') := hc2 0 _ rfl
      have hb : g < wr.heap.size := World.block_lt_of_cell? _ _ c0
      have c1 := hc2 1 _ rfl
      have c2 := hc2 2 _ rfl
      have c3 := hc2 3 _ rfl
      have c4 := hc2 4 _ rfl
      have c5 := hc2 5 _ rfl
      have c6 := hc2 6 _ rfl
      have c7 := hc2 7 _ rfl
      have c8 := hc2 8 _ rfl
      have c9 := hc2 9 _ rfl
      have c10 := hc2 10 _ rfl
      clear hc2
      go_wp2_with fail
      have hcall := hlay (n + 1) (wr.alloc (.cells (exprC (.mk kind' ln' co' num' name' tn' ta' kids' fn' fa' ow') (.slice ka2 kn2 kc2)).toArray 29)) (by omega) (hwr.trans ((below1 wr _).mono (by omega)))
      refine hcall.mono ?_
      rintro e w3 ⟨rfl, hb3⟩
      clear hcall hlay
      have hb3' : Below wr.heap.size wr w3 := (below1 wr _).trans (hb3.mono (by simp))
      clear hb3
      cases hfew : few (.mk kind' ln' co' num' name' tn' ta' kids' fn' fa' ow') (n + 1) with
      | true =>
        rw [hfew] at HT
        go_wp2
        go_roundw
        case rel => exact ⟨k + 1, by omega, by go_num, HT.out, hbr.trans (hb3'.mono hsr)⟩
        case measure => simp [intOf]; omega
      | false =>
        have HF2 := Lib.hid (HF.out hfew)
        go_wp2
        go_ret
        refine ⟨?_, hbr.trans (hb3'.mono hsr)⟩
        rw [HF2.out]; rfl
    · have HE : Hid (kids.all (fun t => few t (n + 1)) = true) := Lib.hid (by have := HA.out; rwa [List.take_of_length_le (by omega)] at this)
      go_wp2
      go_ret
      refine ⟨?_, hbr⟩
      rw [HE.out]; rfl

theorem few_kin (W : World) : ∀ (d : Nat) (t : Tree) (kk : Value), Kin W d t.kids kk → FewOK W t kk
  | 0, t, kk, hk => few_q W _ (fun _ _ _ h => h.elim) t kk hk
  | d + 1, t, kk, hk => few_q W _ (fun t kk _ h => few_kin W d t kk h) t kk hk
theorem few9 (t : Tree) (kk : Value) (w : World) (hx : Ex w t kk) : Calls Tryd.prog 9 #[exprV t kk, .int .i64 0] w fun e w' => e = .returned (.bool (few t 0)) ∧ Below w.heap.size w w' := by
  obtain ⟨_, d, hk⟩ := hx
  exact few_kin w d t kk hk 0 w (by omega) (Below.refl _ _)
end Go.Proofs.YtojkagfbdpjckaaDoor
