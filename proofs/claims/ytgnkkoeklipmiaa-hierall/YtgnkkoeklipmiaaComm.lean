/-
  Which class is common to two.
-/
import Derived.Test.YtgnkkoeklipmiaaCommon
namespace Go.Proofs.Ytgnkkoeklipmiaa
open Go.RowKit
set_option linter.unusedVariables false

def com (L : List Fc) (a b : ByteArray) : ByteArray := ((ab L a).1.find? (fun t => decide (t ∈ (ab L b).1))).getD eE

/-- Common, under way. -/
structure CoInv (B tb fm : Nat) (L : List Fc) (w : World) (sv0 : Value) (wr : World) (sv : Value) (c m0 : Nat) (la lb : List ByteArray) (va vb : Value) (k : Nat) : Prop where
  tab : Tb B wr tb fm sv c L
  stp : Stp tb w sv0 wr sv
  ne : sv ≠ .map (some m0)
  lo : w.heap.size ≤ m0
  one : Sl wr 1 StrR la va
  two : Sl wr 1 StrR lb vb
  both : ∃ f, MAt wr m0 k f ∧ ∀ t, f t = if t ∈ lb.take k then some (.agg #[]) else none
section
variable {B tb fm : Nat} {L : List Fc} {w : World} {sv0 : Value} {c0 : Nat} {wr : World} {sv : Value} {c m0 : Nat} {la lb : List ByteArray} {va vb : Value} {k : Nat}
theorem CoInv.below {w1 : World} (h : CoInv B tb fm L w sv0 wr sv c m0 la lb va vb k) (hb : Below wr.heap.size wr w1) : CoInv B tb fm L w sv0 w1 sv c m0 la lb va vb k := by
  obtain ⟨f, h1, h2⟩ := h.both
  exact ⟨h.tab.below hb, h.stp.post hb, h.ne, h.lo, strs_keep (Keeps.of_below hb) h.one, strs_keep (Keeps.of_below hb) h.two, ⟨f, h1.keep (fp := fun _ => False) (Mods.of_below hb) id, h2⟩⟩
theorem CoInv.put {t : ByteArray} (h0 : Tb B w tb fm sv0 c0 L) (h : CoInv B tb fm L w sv0 wr sv c m0 la lb va vb k) (ht : t.size ≤ maxLen) (hk : k ≤ 1000) (hx : lb[k]? = some t) :
    ∃ w3, (Instr.mapUpdate 72 (.map (some m0)) (.string t) (.agg #[])).run Try.prog wr = .ok () w3 ∧ CoInv B tb fm L w sv0 w3 sv c m0 la lb va vb (k + 1) := by
  obtain ⟨f, h1, h2⟩ := h.both
  have hlo := h.lo
  obtain ⟨w3, hrun, h3, hm⟩ := h1.store Try.underlying72 (by unfold maxLen; omega) ht (.agg #[])
  have hke := keeps_map h1 hm
  refine ⟨w3, hrun, h0.own h.tab h.stp hm (fun k e => by omega) (fun j e e' => h.ne (by rw [e, e'])), h.stp.own hm (fun k e => by omega), h.ne, h.lo, strs_keep hke h.one, strs_keep hke h.two, ⟨_, h3, fun u => ?_⟩⟩
  unfold upd
  rw [h2 u]
  have hkl : k < lb.length := (List.getElem?_eq_some_iff.1 hx).1
  rw [List.take_succ_eq_append_getElem hkl]
  rw [show lb[k] = t from (List.getElem?_eq_some_iff.1 hx).2]
  generalize lb.take k = tk
  by_cases e : u = t
  · simp [e]
  · by_cases e' : u ∈ tk <;> simp [e, e']
theorem CoInv.has {t : ByteArray} (h : CoInv B tb fm L w sv0 wr sv c m0 la lb va vb k) (ht : t.size ≤ maxLen) (hk : lb.length ≤ k) : (Instr.lookup 72 (.map (some m0)) (.string t) true).run Try.prog wr = .ok (.tuple #[.agg #[], .bool (decide (t ∈ lb))]) wr := by
  obtain ⟨f, h1, h2⟩ := h.both
  have := h1.look Try.underlying72 (zero76 wr) ht
  rw [this, h2 t, List.take_of_length_le hk]
  by_cases e : t ∈ lb <;> simp [e]
end
/-- names on the way up are not too long -/
theorem upF_small {L : List Fc} (hsm : ∀ x ∈ L, Small x) : ∀ {n : Nat} {acc : List ByteArray} {s : ByteArray}, (∀ t ∈ acc, t.size ≤ 60) → s.size ≤ maxLen → ∀ t ∈ (upF L n acc s).1, t.size ≤ 60
  | 0, acc, s, ha, hs, t, ht => ha t ht
  | n + 1, acc, s, ha, hs, t, ht => by
    by_cases h : s = eE
    · subst h
      rw [upF_end] at ht
      exact ha t ht
    · cases hf : fnd L s with
      | none => rw [upF_none h hf] at ht; exact ha t ht
      | some x =>
        by_cases hm : s ∈ acc
        · rw [upF_twice h hm] at ht; exact ha t ht
        · rw [upF_step h hf hm] at ht
          obtain ⟨h1, h2⟩ := fnd_some hf
          have h3 := hsm x h1
          refine upF_small hsm (fun t ht => ?_) (by have := h3.sup; unfold maxLen; omega) t ht
          rw [List.mem_append] at ht
          rcases ht with ht | ht
          · exact ha t ht
          · simp at ht; subst ht; rw [← h2]; exact h3.name
theorem ab_small {L : List Fc} (hsm : ∀ x ∈ L, Small x) {s : ByteArray} (hs : s.size ≤ maxLen) : ∀ t ∈ (ab L s).1, t.size ≤ 60 := upF_small hsm (by simp) hs
theorem upF_len {L : List Fc} : ∀ {n : Nat} {acc : List ByteArray} {s : ByteArray}, (upF L n acc s).1.length ≤ acc.length + n
  | 0, acc, s => by simp [upF]
  | n + 1, acc, s => by
    by_cases h : s = eE
    · subst h
      rw [upF_end]; simp
    · cases hf : fnd L s with
      | none => rw [upF_none h hf]; simp
      | some x =>
        by_cases hm : s ∈ acc
        · rw [upF_twice h hm]; simp
        · rw [upF_step h hf hm]
          have := upF_len (L := L) (n := n) (acc := acc ++ [s]) (s := x.sup)
          simp at this
          omega
theorem ab_len (L : List Fc) (s : ByteArray) : (ab L s).1.length ≤ L.length + 1 := by have := upF_len (L := L) (n := L.length + 1) (acc := []) (s := s); simp only [List.length_nil, Nat.zero_add] at this; exact this

set_option maxHeartbeats 4000000 in
set_option maxRecDepth 100000 in
theorem common18 (B tb fm : Nat) (L : List Fc) (hL : L.length ≤ 100) (s t : ByteArray) (hs : s.size ≤ maxLen) (ht : t.size ≤ maxLen) (w : World) (sv : Value) (c : Nat) (hB : B ≤ w.heap.size) (hT : Tb B w tb fm sv c L) (hc : c < 800000) :
    Calls Try.prog 18 #[.pointer (some ⟨tb, 0, none⟩), .string s, .string t] w (TPost B tb fm L w sv c 202 (.string (com L s t))) := by
  have hmm := @run_makeMap Try.prog
  have HA := Lib.hid (above13 B tb fm L hL s hs w sv c hB hT (by omega))
  have HTW := Lib.hid hT
  clear hT
  go_enter Try.func18, Try.ntmps18
  go_wp2_with fail
  refine HA.out.mono ?_
  rintro e w1 ⟨v, sv1, c1, rfl, hS, hT1, hs1, hc1⟩
  obtain ⟨a, cp, rfl⟩ := hS.form
  have hl1 := ab_len L s
  have HN1 := Lib.hid (ab_small hT1.sm hs)
  have HC : Hid (com L s t = ((ab L s).1.find? (fun u => decide (u ∈ (ab L t).1))).getD eE) := Lib.hid rfl
  generalize (ab L s).1 = la at *
  generalize com L s t = r at *
  cases he : ((la.length : Int) == 0) with
  | true =>
    have h0 : la = [] := by simpa using he
    have HE : Hid (r = eE) := Lib.hid (by rw [HC.out, h0]; rfl)
    have HT1 := Lib.hid hT1
    have HS1 := Lib.hid hs1
    clear hT1 hs1 hS HA HC h0
    go_wp2
    go_ret
    exact ⟨sv1, c1, by rw [HE.out]; rfl, HT1.out, HS1.out, by omega⟩
  | false =>
    have HA2 := Lib.hid (above13 B tb fm L hL t ht w1 sv1 c1 (Nat.le_trans hB hs1.mods.size) hT1 (by omega))
    have HT1 := Lib.hid hT1
    have HS1 := Lib.hid hs1
    have HSl := Lib.hid hS
    have hsz1 := hs1.mods.size
    clear hT1 hs1 hS HA
    go_wp2_with fail
    refine HA2.out.mono ?_
    rintro e w2 ⟨v, sv2, c2, rfl, hS2, hT2, hs2, hc2⟩
    obtain ⟨a2, cp2, rfl⟩ := hS2.form
    have hl2 := ab_len L t
    have HN2 := Lib.hid (ab_small hT2.sm ht)
    generalize (ab L t).1 = lb at *
    have hsz2 := hs2.mods.size
    have HI0 : Hid (CoInv B tb fm L w sv (w2.alloc (.map #[] 0)) sv2 c2 w2.heap.size la lb (.slice a la.length cp) (.slice a2 lb.length cp2) 0) := Lib.hid ⟨hT2.below (below1 _ _), (HS1.out.trans hs2).post (below1 _ _), fun e => by
      rcases hT2.seen with e' | ⟨m, S, e', hS, _⟩
      · rw [e] at e'; cases e'
      · rw [e] at e'
        have := hS.lt
        injection e' with e'
        injection e' with e'
        omega, by omega, strs_keep (hs2.keeps.trans (Keeps.of_below (below1 _ _))) HSl.out, strs_keep (Keeps.of_below (below1 _ _)) hS2, ⟨_, MAt.made w2, fun t => by simp⟩⟩
    have hcc : c2 ≤ c + 202 := by omega
    obtain ⟨_, hlb, hcb, hkb⟩ := hS2.at
    obtain ⟨_, hla, hca, hka⟩ := HSl.out.at
    unfold maxLen at hcb hca
    clear hT2 hs2 hS2 HA2 HT1 HS1 HSl hkb hka
    go_wp2
    go_loopw [36] (fun i wr => ∃ k : Nat, k ≤ lb.length ∧ i = .int .i64 k ∧ Hid (CoInv B tb fm L w sv wr sv2 c2 w2.heap.size la lb (.slice a la.length cp) (.slice a2 lb.length cp2) k)) (fun i _ => lb.length - (intOf i).toNat)
    case atStart => exact ⟨0, Nat.zero_le _, rfl, HI0⟩
    case round =>
      obtain ⟨k, hk1, rfl, HI⟩ := hrel
      clear HI0
      by_cases hlt : k < lb.length
      · obtain ⟨_, _, _, hkk⟩ := HI.out.two.at
        have hxk : lb[k]? = some lb[k] := List.getElem?_eq_getElem hlt
        have hsm : lb[k].size ≤ maxLen := by have := HN2.out _ (List.getElem_mem hlt); unfold maxLen; omega
        obtain ⟨g, o, cs, rfl, hcell, rfl⟩ := hkk k _ hxk
        have c0 : wr.cell? ⟨g, o + k, none⟩ = some (.string lb[k]) := by have := hcell 0 _ rfl; simpa using this
        obtain ⟨w3, hrun, hI3⟩ := HI.out.put HTW.out hsm (by omega) hxk
        have HI3 := Lib.hid hI3
        clear hcell hkk hI3 hxk
        generalize lb[k] = x at *
        go_wp2
        go_roundw
        case rel => exact ⟨k + 1, by omega, by go_num, HI3⟩
        case measure => simp [intOf]; omega
      · have HI2 : Hid (CoInv B tb fm L w sv wr sv2 c2 w2.heap.size la lb (.slice a la.length cp) (.slice a2 lb.length cp2) k) := HI
        obtain rfl : k = lb.length := by omega
        clear HI
        obtain ⟨wq, hwq⟩ : ∃ wq, wq = wr := ⟨_, rfl⟩
        subst hwq
        go_wp2
        go_loopw [46] (fun i wr => ∃ j : Nat, j ≤ la.length ∧ i = .int .i64 j ∧ Hid (∀ u ∈ la.take j, u ∉ lb) ∧ Hid (CoInv B tb fm L w sv wr sv2 c2 w2.heap.size la lb (.slice a la.length cp) (.slice a2 lb.length cp2) lb.length)) (fun i _ => la.length - (intOf i).toNat)
        case atStart => exact ⟨0, Nat.zero_le _, rfl, Lib.hid (by simp), HI2⟩
        case round =>
          obtain ⟨j, hj1, rfl, HA, HI⟩ := hrel
          clear HI2
          by_cases hlt : j < la.length
          · obtain ⟨_, _, _, hkk⟩ := HI.out.one.at
            have hxk : la[j]? = some la[j] := List.getElem?_eq_getElem hlt
            have hsm : la[j].size ≤ maxLen := by have := HN1.out _ (List.getElem_mem hlt); unfold maxLen; omega
            obtain ⟨g, o, cs, rfl, hcell, rfl⟩ := hkk j _ hxk
            have c0 : wr.cell? ⟨g, o + j, none⟩ = some (.string la[j]) := by have := hcell 0 _ rfl; simpa using this
            have hlk0 := HI.out.has hsm (Nat.le_refl _)
            have HT : Hid (la.take (j + 1) = la.take j ++ [la[j]]) := Lib.hid (List.take_succ_eq_append_getElem hlt)
            have HF : Hid (la[j] ∈ lb → r = la[j]) := Lib.hid (fun hin => by
              rw [HC.out]
              have : la.find? (fun u => decide (u ∈ lb)) = some la[j] := by
                rw [List.find?_eq_some_iff_append]
                refine ⟨by simpa using hin, la.take j, la.drop (j + 1), ?_, fun u hu => by simpa using HA.out u hu⟩
                rw [← List.drop_eq_getElem_cons hlt, List.take_append_drop]
              rw [this]
              rfl)
            clear hcell hkk hxk
            generalize la[j] = x at *
            by_cases hin : x ∈ lb
            · have hlk : (Instr.lookup 72 (.map (some w2.heap.size)) (.string x) true).run Try.prog wr = .ok (.tuple #[.agg #[], .bool true]) wr := by rw [hlk0]; simp [hin]
              have HE := Lib.hid (HF.out hin)
              clear hlk0 hin HF
              go_wp2
              go_ret
              exact ⟨sv2, c2, by rw [HE.out]; rfl, HI.out.tab.below (below1 _ _), HI.out.stp.post (below1 _ _), hcc⟩
            · have hlk : (Instr.lookup 72 (.map (some w2.heap.size)) (.string x) true).run Try.prog wr = .ok (.tuple #[.agg #[], .bool false]) wr := by rw [hlk0]; simp [hin]
              have HA2 : Hid (∀ u ∈ la.take (j + 1), u ∉ lb) := Lib.hid (fun u hu => by
                rw [HT.out, List.mem_append] at hu
                rcases hu with hu | hu
                · exact HA.out u hu
                · simp at hu; subst hu; exact hin)
              clear hlk0 hin HF
              go_wp2
              go_roundw
              case rel => exact ⟨j + 1, by omega, by go_num, HA2, Lib.hid (HI.out.below (below1 _ _))⟩
              case measure => simp [intOf]; omega
          · have HE : Hid (r = eE) := Lib.hid (by
              rw [HC.out]
              have : la.find? (fun u => decide (u ∈ lb)) = none := by
                rw [List.find?_eq_none]
                intro u hu
                have := HA.out u (by rw [List.take_of_length_le (by omega)]; exact hu)
                simpa using this
              rw [this]
              rfl)
            go_wp2
            go_ret
            exact ⟨sv2, c2, by rw [HE.out]; rfl, HI.out.tab, HI.out.stp, hcc⟩
end Go.Proofs.Ytgnkkoeklipmiaa
