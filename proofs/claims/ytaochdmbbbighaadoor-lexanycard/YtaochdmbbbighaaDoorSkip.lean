/-
  A reader in memory; how it goes to where the next token has to begin.
-/
import Derived.Test.YtaochdmbbbighaaDoorFirst
import Derived.Deep.QuietTactic
import Derived.BigQuiet
import Derived.RegionTactic
import Derived.BigRegion
import Derived.Deep.RegionHeld3
import Derived.Deep.RegionWith
namespace Go.Proofs.YtaochdmbbbighaaDoor
open Go.RowKit

/-- of what was there nothing has turned but blocks of fp; new ones may be there -/
structure Mods (fp : Nat → Prop) (w w' : World) : Prop where
  os : w'.os = w.os
  tape : w'.tape = w.tape
  output : w'.output = w.output
  size : w.heap.size ≤ w'.heap.size
  block : ∀ k, k < w.heap.size → ¬ fp k → w'.heap[k]? = w.heap[k]?

theorem Mods.refl (fp : Nat → Prop) (w : World) : Mods fp w w := ⟨rfl, rfl, rfl, Nat.le_refl _, fun _ _ _ => rfl⟩
theorem Mods.trans {fp : Nat → Prop} {x y z : World} (h : Mods fp x y) (k : Mods fp y z) : Mods fp x z :=
  ⟨k.os.trans h.os, k.tape.trans h.tape, k.output.trans h.output, Nat.le_trans h.size k.size, fun i hi hn => (k.block i (Nat.lt_of_lt_of_le hi h.size) hn).trans (h.block i hi hn)⟩
theorem Mods.of_below {fp : Nat → Prop} {x y : World} (h : Below x.heap.size x y) : Mods fp x y := ⟨h.os, h.tape, h.output, h.size, fun k hk _ => h.block k hk⟩
theorem Mods.below {fp : Nat → Prop} {B : Nat} {x y : World} (h : Mods fp x y) (h1 : ∀ k, fp k → B ≤ k) (h2 : B ≤ x.heap.size) : Below B x y :=
  ⟨h.os, h.tape, h.output, h.size, fun k hk => h.block k (by omega) (fun e => by have := h1 k e; omega)⟩
theorem Mods.drew {fp : Nat → Prop} {x y : World} (h : Mods fp x y) : Mods fp x y.drew := ⟨h.os, h.tape, h.output, h.size, h.block⟩
theorem Mods.drewN {fp : Nat → Prop} {x y : World} (h : Mods fp x y) (n : Nat) : Mods fp x (y.drewN n) := ⟨h.os, h.tape, h.output, h.size, h.block⟩
theorem Mods.setCell {fp : Nat → Prop} {x y : World} (h : Mods fp x y) {p : Addr} (hp : fp p.block ∨ x.heap.size ≤ p.block) (u : Value) : Mods fp x (y.setCell p u) :=
  ⟨h.os, h.tape, h.output, by simpa [World.setCell] using h.size, fun k h1 h2 => (Below.heap_setCell _ _ _ _ (fun e => by subst e; rcases hp with hp | hp; exact h2 hp; omega)).trans (h.block k h1 h2)⟩
theorem Mods.alloc {fp : Nat → Prop} {x y : World} (h : Mods fp x y) (o : Obj) : Mods fp x (y.alloc o) :=
  ⟨h.os, h.tape, h.output, Nat.le_trans h.size (by simp), fun k h1 h2 => (Below.heap_alloc _ _ _ (Nat.lt_of_lt_of_le h1 h.size)).trans (h.block k h1 h2)⟩

/-- the reader in block b is at this place of the text -/
def RAt (w : World) (b : Nat) (s : ByteArray) (o : Nat) : Prop :=
  w.heap[b]? = some (.cells #[.string s, .int .i64 (o : Int), .int .i64 (lineOf (s.data.toList.take o) : Int), .int .i64 (fromOf (s.data.toList.take o) : Int)] 50 (0, 0))
/-- a block of four cells -/
def R4 (w : World) (b : Nat) (x0 x1 x2 x3 : Value) : Prop := w.heap[b]? = some (.cells #[x0, x1, x2, x3] 50 (0, 0))
section
variable {w : World} {b : Nat} {x0 x1 x2 x3 : Value}
theorem R4.c0 (h : R4 w b x0 x1 x2 x3) : w.cell? ⟨b, 0, none⟩ = some x0 := by unfold R4 at h; simp [World.cell?, h]
theorem R4.c1 (h : R4 w b x0 x1 x2 x3) : w.cell? ⟨b, 1, none⟩ = some x1 := by unfold R4 at h; simp [World.cell?, h]
theorem R4.c2 (h : R4 w b x0 x1 x2 x3) : w.cell? ⟨b, 2, none⟩ = some x2 := by unfold R4 at h; simp [World.cell?, h]
theorem R4.c3 (h : R4 w b x0 x1 x2 x3) : w.cell? ⟨b, 3, none⟩ = some x3 := by unfold R4 at h; simp [World.cell?, h]
theorem R4.fz (h : R4 w b x0 x1 x2 x3) (i : Nat) : w.frozen? ⟨b, i, none⟩ = false := by unfold R4 at h; simp [World.frozen?, h]
theorem R4.set1 (h : R4 w b x0 x1 x2 x3) (u : Value) : R4 (w.setCell ⟨b, 1, none⟩ u) b x0 u x2 x3 := by unfold R4 at h ⊢; simp [World.setCell, Array.getElem?_modify, h]
theorem R4.set2 (h : R4 w b x0 x1 x2 x3) (u : Value) : R4 (w.setCell ⟨b, 2, none⟩ u) b x0 x1 u x3 := by unfold R4 at h ⊢; simp [World.setCell, Array.getElem?_modify, h]
theorem R4.set3 (h : R4 w b x0 x1 x2 x3) (u : Value) : R4 (w.setCell ⟨b, 3, none⟩ u) b x0 x1 x2 u := by unfold R4 at h ⊢; simp [World.setCell, Array.getElem?_modify, h]
theorem R4.drewN (h : R4 w b x0 x1 x2 x3) (n : Nat) : R4 (w.drewN n) b x0 x1 x2 x3 := h
theorem R4.keep {w' : World} {fp : Nat → Prop} (h : R4 w b x0 x1 x2 x3) (m : Mods fp w w') (hn : ¬ fp b) : R4 w' b x0 x1 x2 x3 := by
  unfold R4 at h ⊢
  rw [m.block b (by by_cases e : b < w.heap.size; exact e; rw [Array.getElem?_eq_none (by omega)] at h; cases h) hn, h]
end

theorem drop_str (s : ByteArray) (o : Nat) : s.extract o s.size = str (s.data.toList.drop o) := by
  apply ByteArray.ext
  rw [ByteArray.data_extract]
  apply Array.ext'
  simp only [str, Array.toList_extract, List.extract_eq_take_drop]
  rw [List.take_of_length_le (by simp)]

theorem RAt.step {w : World} {b : Nat} {s : ByteArray} {k : Nat} (h : k < s.size) (hc : (s[k] == 10) = false)
    (hr : R4 w b (.string s) (.int .i64 ((k : Int) + 1)) (.int .i64 (lineOf (s.data.toList.take k) : Int)) (.int .i64 (fromOf (s.data.toList.take k) : Int))) : RAt w b s (k + 1) := by
  have e : s.data.toList.take (k + 1) = s.data.toList.take k ++ [s[k]] := by rw [List.take_succ_eq_append_getElem (by simpa using h)]; rfl
  have e1 := lineOf_snoc (s.data.toList.take k) s[k]
  have e2 := fromOf_snoc (s.data.toList.take k) s[k]
  rw [hc] at e1 e2
  unfold RAt
  rw [e, e1, e2]
  exact hr
theorem RAt.line {w : World} {b : Nat} {s : ByteArray} {k : Nat} (h : k < s.size) (hc : (s[k] == 10) = true)
    (hr : R4 w b (.string s) (.int .i64 ((k : Int) + 1)) (.int .i64 ((lineOf (s.data.toList.take k) : Int) + 1)) (.int .i64 ((k : Int) + 1))) : RAt w b s (k + 1) := by
  have e : s.data.toList.take (k + 1) = s.data.toList.take k ++ [s[k]] := by rw [List.take_succ_eq_append_getElem (by simpa using h)]; rfl
  have e1 := lineOf_snoc (s.data.toList.take k) s[k]
  have e2 := fromOf_snoc (s.data.toList.take k) s[k]
  have e3 : (s.data.toList.take k).length = k := by rw [List.length_take]; simp; omega
  rw [hc] at e1 e2
  unfold RAt
  rw [e, e1, e2, e3]
  exact hr
theorem RAt.rem {w : World} {b : Nat} {s : ByteArray} {k : Nat}
    (hr : R4 w b (.string s) (.int .i64 ((k : Int) + (remN (s.data.toList.drop k) : Int))) (.int .i64 (lineOf (s.data.toList.take k) : Int)) (.int .i64 (fromOf (s.data.toList.take k) : Int))) : RAt w b s (k + remN (s.data.toList.drop k)) := by
  have e : s.data.toList.take (k + remN (s.data.toList.drop k)) = s.data.toList.take k ++ (s.data.toList.drop k).take (remN (s.data.toList.drop k)) := by rw [List.take_add]
  have e1 := lineOf_none (s.data.toList.take k) _ (rem_no (s.data.toList.drop k))
  have e2 := fromOf_none (s.data.toList.take k) _ (rem_no (s.data.toList.drop k))
  unfold RAt
  rw [e, e1, e2]
  exact hr
theorem eq_nat (c d : UInt8) : ((c.toNat : Int) == (d.toNat : Int)) = (c == d) := by
  rw [Bool.eq_iff_iff]; simp; exact ⟨fun h => by have : c.toNat = d.toNat := by omega
                                                 exact UInt8.toNat_inj.1 this, fun h => by rw [h]⟩

set_option maxHeartbeats 1000000 in
set_option maxRecDepth 100000 in
theorem skip_any (s : ByteArray) (hs : s.size ≤ 65536) (b o : Nat) (ho : o ≤ s.size) (w : World) (hR : RAt w b s o) :
    Calls Tryd.prog 17 #[.pointer (some ⟨b, 0, none⟩)] w fun e w' => e = .returned (.tuple #[]) ∧ RAt w' b s (o + skipN false (s.data.toList.drop o)) ∧ Mods (· = b) w w' := by
  go_enter Tryd.func17, Tryd.ntmps17
  go_wp2
  go_loopw [2] (fun _ wr => ∃ k : Nat, k ≤ s.size ∧ RAt wr b s k ∧ Mods (· = b) w wr ∧ k + skipN false (s.data.toList.drop k) = o + skipN false (s.data.toList.drop o)) (fun _ wr => s.size - (intOf ((wr.cell? ⟨b, 1, none⟩).getD undef)).toNat)
  case atStart => exact ⟨o, ho, hR, Mods.refl _ _, rfl⟩
  case round =>
    obtain ⟨k, hk, hRk, hM, hn⟩ := hrel
    have HN := Lib.hid hn
    have h4 : R4 wr b _ _ _ _ := hRk
    have c0 := h4.c0
    have c1 := h4.c1
    have H4 := Lib.hid h4
    have HRk := Lib.hid hRk
    clear hn h4 hRk hR
    by_cases hlt : k < s.size
    · go_wp2
      go_quiet (fail)
      go_wp2
      go_quiet (fail)
      generalize hT : s.extract k s.size = T
      have hT2 : T.data.toList = s.data.toList.drop k := by rw [← hT, drop_str, str_list]
      have HT := Lib.hid hT2
      have hT0 : 0 < T.size := by
        have : T.data.toList.length = s.data.toList.length - k := by rw [hT2, List.length_drop]
        simp at this
        omega
      have HC : Hid (T[0] = s[k]) := Lib.hid (by
        have h1 := drop_bytes T 0 hT0
        rw [List.drop_zero, hT2, drop_bytes s k hlt] at h1
        exact (List.cons.inj h1).1.symm)
      clear hT hT2
      generalize hwp : World.drewN wr _ = wp
      generalize hwq : World.drewN wp _ = wq
      have h4 : R4 wq b (.string s) (.int .i64 (k : Int)) (.int .i64 (lineOf (s.data.toList.take k) : Int)) (.int .i64 (fromOf (s.data.toList.take k) : Int)) := by rw [← hwq, ← hwp]; exact H4.out
      have hM2 : Mods (· = b) w wq := by rw [← hwq, ← hwp]; exact (hM.drewN _).drewN _
      have hl2 : (lineOf (s.data.toList.take k) : Int) ≤ 65537 := by
        have h1 := List.count_le_length (a := (10 : UInt8)) (l := s.data.toList.take k)
        have h2 := List.length_take_le k s.data.toList
        unfold lineOf
        omega
      have HC1 := Lib.hid c1
      clear hwq hwp c0 c1 hM
      have c1 := h4.c1
      have c2 := h4.c2
      have c3 := h4.c3
      have f1 := h4.fz 1
      have f2 := h4.fz 2
      have f3 := h4.fz 3
      have H4q := Lib.hid h4
      have HD := Lib.hid (drop_bytes s k hlt)
      clear h4
      by_cases h10 : (T[0] == 10) = true
      · have hb : ((T[0].toNat : Int) == 10) = true := (eq_nat T[0] 10).trans h10
        have hs10 : (s[k] == 10) = true := by rw [← HC.out]; exact h10
        have HS := Lib.hid hs10
        clear h10 hs10
        go_wp2
        go_roundw
        case rel =>
          refine ⟨k + 1, by omega, RAt.line hlt HS.out (((H4q.out.set1 _).set2 _).set3 _), ((hM2.setCell (.inl rfl) _).setCell (.inl rfl) _).setCell (.inl rfl) _, ?_⟩
          rw [← HN.out, HD.out, skipN, if_pos (by unfold blank; rw [HS.out]; rfl)]
          omega
        case measure =>
          rw [(((H4q.out.set1 _).set2 _).set3 _).c1, HC1.out]
          simp [intOf]
          omega
      · have hs10 : (s[k] == 10) = false := by rw [← HC.out]; exact Bool.eq_false_iff.2 h10
        have hb : ((T[0].toNat : Int) == 10) = false := (eq_nat T[0] 10).trans (Bool.eq_false_iff.2 h10)
        have HS := Lib.hid hs10
        clear h10 hs10
        have e32 : ((T[0].toNat : Int) == 32) = (s[k] == 32) := by rw [← HC.out]; exact eq_nat T[0] 32
        have e9 : ((T[0].toNat : Int) == 9) = (s[k] == 9) := by rw [← HC.out]; exact eq_nat T[0] 9
        have e13 : ((T[0].toNat : Int) == 13) = (s[k] == 13) := by rw [← HC.out]; exact eq_nat T[0] 13
        by_cases h32 : (s[k] == 32) = true
        · have b32 := e32.trans h32
          have HB : Hid (blank s[k] = true) := Lib.hid (by unfold blank; rw [h32]; simp)
          clear e32 e9 e13 h32
          go_wp2
          go_roundw
          case rel =>
            refine ⟨k + 1, by omega, RAt.step hlt HS.out (H4q.out.set1 _), hM2.setCell (.inl rfl) _, ?_⟩
            rw [← HN.out, HD.out, skipN, if_pos (HB.out)]
            omega
          case measure =>
            rw [(H4q.out.set1 _).c1, HC1.out]
            simp [intOf]
            omega
        have h32' := Bool.eq_false_iff.2 h32
        have b32 := e32.trans h32'
        clear e32 h32
        by_cases h9 : (s[k] == 9) = true
        · have b9 := e9.trans h9
          have HB : Hid (blank s[k] = true) := Lib.hid (by unfold blank; rw [h9]; simp)
          clear e9 e13 h9 h32'
          go_wp2
          go_roundw
          case rel =>
            refine ⟨k + 1, by omega, RAt.step hlt HS.out (H4q.out.set1 _), hM2.setCell (.inl rfl) _, ?_⟩
            rw [← HN.out, HD.out, skipN, if_pos (HB.out)]
            omega
          case measure =>
            rw [(H4q.out.set1 _).c1, HC1.out]
            simp [intOf]
            omega
        have h9' := Bool.eq_false_iff.2 h9
        have b9 := e9.trans h9'
        clear e9 h9
        by_cases h13 : (s[k] == 13) = true
        · have b13 := e13.trans h13
          have HB : Hid (blank s[k] = true) := Lib.hid (by unfold blank; rw [h13]; simp)
          clear e13 h13 h32' h9'
          go_wp2
          go_roundw
          case rel =>
            refine ⟨k + 1, by omega, RAt.step hlt HS.out (H4q.out.set1 _), hM2.setCell (.inl rfl) _, ?_⟩
            rw [← HN.out, HD.out, skipN, if_pos (HB.out)]
            omega
          case measure =>
            rw [(H4q.out.set1 _).c1, HC1.out]
            simp [intOf]
            omega
        have h13' := Bool.eq_false_iff.2 h13
        have b13 := e13.trans h13'
        have HB : Hid (blank s[k] = false) := Lib.hid (by unfold blank; rw [HS.out, h32', h9', h13']; rfl)
        clear e13 h13 h13' h9' h32'
        by_cases hsl : ([47, 47] : Bs).isPrefixOf T.data.toList = true
        · go_wp2_with (go_at_call 24; refine (prefix_any _ _ _).mono ?_; rintro e w' ⟨rfl, rfl⟩)
          have HR : Hid (skipN false (s.data.toList.drop k) = remN (s.data.toList.drop k) + skipN false ((s.data.toList.drop k).drop (remN (s.data.toList.drop k)))) := Lib.hid (by
            rw [HT.out] at hsl
            rcases List.isPrefixOf_iff_prefix.1 hsl with ⟨t, ht⟩
            rw [← ht]
            exact skipN_slash t)
          have hrl : remN T.data.toList ≤ s.size - k := by
            have h1 := remN_le T.data.toList
            rw [HT.out] at h1 ⊢
            simpa using h1
          have hr0 : 0 < remN T.data.toList := by
            rcases List.isPrefixOf_iff_prefix.1 hsl with ⟨t, ht⟩
            rw [← ht]
            simp [remN]
          have HW : Hid (IntKind.i64.wrap ((k : Int) + (remN T.data.toList : Int)) = (k : Int) + (remN (s.data.toList.drop k) : Int)) := Lib.hid (by
            rw [← HT.out]
            exact IntWalk.i64_in _ (by omega))
          have HRL : Hid (remN (s.data.toList.drop k) ≤ s.size - k) := Lib.hid (by rw [← HT.out]; exact hrl)
          have HR0 : Hid (0 < remN (s.data.toList.drop k)) := Lib.hid (by rw [← HT.out]; exact hr0)
          clear hsl
          go_region_with (go_at_call 25; refine (remark_any _ _).mono ?_; rintro e w' ⟨rfl, rfl⟩)
          all_goals
            go_wp2
            go_roundw
            case rel =>
              rw [HW.out]
              have h1 := HRL.out
              refine ⟨k + remN (s.data.toList.drop k), by omega, RAt.rem (b := b) (w := (wq.setCell ⟨b, 1, none⟩ (.int .i64 ((k : Int) + (remN (s.data.toList.drop k) : Int)))).drew) (H4q.out.set1 _), (hM2.setCell (.inl rfl) _).drew, ?_⟩
              rw [← HN.out, HR.out, List.drop_drop]
              omega
            case measure =>
              rw [HW.out]
              have h1 := HRL.out
              have h0 := HR0.out
              have h2 : (wq.setCell ⟨b, 1, none⟩ (.int .i64 ((k : Int) + (remN (s.data.toList.drop k) : Int)))).drew.cell? ⟨b, 1, none⟩ = some (.int .i64 ((k : Int) + (remN (s.data.toList.drop k) : Int))) := (H4q.out.set1 _).c1
              rw [h2, HC1.out]
              simp [intOf]
              omega
        · have hsl' := Bool.eq_false_iff.2 hsl
          clear hsl
          go_wp2_with (go_at_call 24; refine (prefix_any _ _ _).mono ?_; rintro e w' ⟨rfl, rfl⟩)
          refine bodyPost_ret (v := .tuple #[]) (by simp [results, Tryd.results17, go_sem]) rfl ⟨rfl, ?_, hM2⟩
          have e : o + skipN false (s.data.toList.drop o) = k := by
            rw [HT.out, HD.out] at hsl'
            rw [← HN.out, HD.out, skipN, if_neg (by rw [HB.out]; decide), if_neg (by
              intro h
              rw [Bool.and_eq_true, beq_iff_eq, beq_iff_eq] at h
              obtain ⟨h1, h2⟩ := h
              rcases hr : s.data.toList.drop (k + 1) with _ | ⟨y, t⟩
              · rw [hr] at h2; cases h2
              · rw [hr] at h2 hsl'
                cases h2
                rw [h1] at hsl'
                simp at hsl'), Nat.add_zero]
          rw [e]
          exact H4q.out
    · go_wp2
      go_quiet (fail)
      go_wp2
      go_end0
      refine ⟨rfl, ?_, hM.drewN _⟩
      have e : o + skipN false (s.data.toList.drop o) = k := by
        rw [← HN.out, List.drop_of_length_le (by simp; omega)]
        simp [skipN]
      rw [e]
      exact HRk.out
end Go.Proofs.YtaochdmbbbighaaDoor
