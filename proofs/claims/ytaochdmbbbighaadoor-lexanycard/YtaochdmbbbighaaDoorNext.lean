/-
  The next token.
-/
import Derived.Test.YtaochdmbbbighaaDoorSkip
import Derived.Test.YtaochdmbbbighaaDoorFacts
import Derived.StillTailTactics
namespace Go.Proofs.YtaochdmbbbighaaDoor
open Go.RowKit

theorem TabS.mods {fp : Nat → Prop} {w w' : World} {b : Nat} {ts : List Bs} (h : TabS w b ts) (m : Mods fp w w') (hn : ¬ fp b) : TabS w' b ts := fun j v hv => by
  have h1 := h j v hv
  rw [← h1]
  have := block_lt_of_cell h1
  exact World.cell?_of_block (w := w) (m.block b this hn)
theorem RAt.mods {fp : Nat → Prop} {w w' : World} {b o : Nat} {s : ByteArray} (h : RAt w b s o) (m : Mods fp w w') (hn : ¬ fp b) : RAt w' b s o := R4.keep (x0 := _) (x1 := _) (x2 := _) (x3 := _) h m hn

theorem new_blk' {w w2 : World} {X : Obj} (hb : Below (w.alloc X).drew.heap.size (w.alloc X).drew w2) : w2.heap[w.heap.size]? = some X := new_blk (X := X) (w := w) ⟨hb.os, hb.tape, hb.output, hb.size, hb.block⟩
theorem Mods.put5 {fp : Nat → Prop} {x y : World} (h : Mods fp x y) {b : Nat} (hb : fp b ∨ x.heap.size ≤ b) (a0 a1 a2 a3 a4 : Value) : Mods fp x (put5 y b a0 a1 a2 a3 a4) :=
  ((((h.setCell (p := ⟨b, 0, none⟩) hb _).setCell (p := ⟨b, 1, none⟩) hb _).setCell (p := ⟨b, 2, none⟩) hb _).setCell (p := ⟨b, 3, none⟩) hb _).setCell (p := ⟨b, 4, none⟩) hb _
theorem blk5 {w : World} {b t : Nat} {x0 x1 x2 x3 x4 : Value} (h : w.heap[b]? = some (.cells #[x0, x1, x2, x3, x4] t (0, 0))) :
    w.cell? ⟨b, 0, none⟩ = some x0 ∧ w.cell? ⟨b, 1, none⟩ = some x1 ∧ w.cell? ⟨b, 2, none⟩ = some x2 ∧ w.cell? ⟨b, 3, none⟩ = some x3 ∧ w.cell? ⟨b, 4, none⟩ = some x4 ∧
    w.frozen? ⟨b, 0, none⟩ = false ∧ w.frozen? ⟨b, 1, none⟩ = false ∧ w.frozen? ⟨b, 2, none⟩ = false ∧ w.frozen? ⟨b, 3, none⟩ = false ∧ w.frozen? ⟨b, 4, none⟩ = false := by
  simp [World.cell?, World.frozen?, h]

/-- what is known once the token is laid in block n5 -/
structure NX (w : World) (s : ByteArray) (b p n0 n1 n2 n5 : Nat) (L C : Int) (R : Tok × Nat) (w4 : World) : Prop where
  rd : R4 w4 b (.string s) (.int .i64 (p : Int)) (.int .i64 (lineOf (s.data.toList.take p) : Int)) (.int .i64 (fromOf (s.data.toList.take p) : Int))
  tok : w4.heap[n5]? = some (.cells #[.int .i64 (R.1.kind : Int), .string (str R.1.text), .int .i64 (R.1.num : Int), .int .i64 0, .int .i64 0] 34 (0, 0))
  at_ : w4.heap[n1]? = some (.cells #[.int .i64 L, .int .i64 C] 26 (0, 0))
  zero : w4.heap[n0]? = some (.cells #[.int .i64 0, .string ⟨#[]⟩, .int .i64 0, .int .i64 0, .int .i64 0] 34 (0, 0))
  mods : Mods (· = b) w w4
  far : n2 ≤ n5
theorem heap_some_lt {w : World} {b : Nat} {X : Obj} (h : w.heap[b]? = some X) : b < w.heap.size := by
  by_cases e : b < w.heap.size
  · exact e
  · rw [Array.getElem?_eq_none (by omega)] at h; cases h

theorem tok_load_drew {w : World} {b : Nat} {x0 x1 x2 x3 x4 : Value} (h : w.heap[b]? = some (.cells #[x0, x1, x2, x3, x4] 34 (0, 0))) : (loadVar 34 ⟨b, 0, none⟩).run Tryd.prog w.drew = .ok (.agg #[x0, x1, x2, x3, x4]) w.drew := tok_load (w := w.drew) h
/-- behind the place was put into the token -/
theorem NX.put {w : World} {s : ByteArray} {b p n0 n1 n2 n5 : Nat} {L C : Int} {R : Tok × Nat} {w4 : World} (h : NX w s b p n0 n1 n2 n5 L C R w4) (hb : n5 ≠ b) (h0 : n5 ≠ n0) (hw : w.heap.size ≤ n5) :
    R4 ((w4.setCell ⟨n5, 3, none⟩ (.int .i64 L)).setCell ⟨n5, 4, none⟩ (.int .i64 C)) b (.string s) (.int .i64 (p : Int)) (.int .i64 (lineOf (s.data.toList.take p) : Int)) (.int .i64 (fromOf (s.data.toList.take p) : Int)) ∧
    ((w4.setCell ⟨n5, 3, none⟩ (.int .i64 L)).setCell ⟨n5, 4, none⟩ (.int .i64 C)).heap[n5]? = some (.cells #[.int .i64 (R.1.kind : Int), .string (str R.1.text), .int .i64 (R.1.num : Int), .int .i64 L, .int .i64 C] 34 (0, 0)) ∧
    ((w4.setCell ⟨n5, 3, none⟩ (.int .i64 L)).setCell ⟨n5, 4, none⟩ (.int .i64 C)).heap[n0]? = some (.cells #[.int .i64 0, .string ⟨#[]⟩, .int .i64 0, .int .i64 0, .int .i64 0] 34 (0, 0)) ∧
    Mods (· = b) w ((w4.setCell ⟨n5, 3, none⟩ (.int .i64 L)).setCell ⟨n5, 4, none⟩ (.int .i64 C)) := by
  have m : Mods (· = n5) w4 ((w4.setCell ⟨n5, 3, none⟩ (.int .i64 L)).setCell ⟨n5, 4, none⟩ (.int .i64 C)) := ((Mods.refl (· = n5) w4).setCell (p := ⟨n5, 3, none⟩) (.inl rfl) _).setCell (p := ⟨n5, 4, none⟩) (.inl rfl) _
  refine ⟨h.rd.keep m (fun e => hb e.symm), ?_, ?_, (h.mods.setCell (.inr hw) _).setCell (.inr hw) _⟩
  · simp [World.setCell, Array.getElem?_modify, h.tok]
  · rw [m.block n0 (heap_some_lt h.zero) (fun e => h0 e.symm)]; exact h.zero
theorem RAt.far {w : World} {b p : Nat} {s : ByteArray} {t : Bs} (hf : Fits (s.data.toList.drop p) t)
    (hr : R4 w b (.string s) (.int .i64 ((p : Int) + (t.length : Int))) (.int .i64 (lineOf (s.data.toList.take p) : Int)) (.int .i64 (fromOf (s.data.toList.take p) : Int))) : RAt w b s (p + t.length) := by
  have e : s.data.toList.take (p + t.length) = s.data.toList.take p ++ t := by rw [List.take_add, hf.1]
  unfold RAt
  rw [e, lineOf_none _ _ hf.2, fromOf_none _ _ hf.2]
  exact hr

set_option maxHeartbeats 1000000 in
set_option maxRecDepth 100000 in
theorem next_any (s : ByteArray) (hs : s.size ≤ 65536) (b o : Nat) (ho : o ≤ s.size) (w : World) (hR : RAt w b s o) (hb2 : 2 < b) (h1 : TabS w 1 marksL) (h2 : TabS w 2 wordsL)
    (p : Nat) (hp : p = o + skipN false (s.data.toList.drop o)) (R : Tok × Nat) (hf : first (s.data.toList.drop p) = R) :
    Calls Tryd.prog 14 #[.pointer (some ⟨b, 0, none⟩)] w fun e w' => e = .returned (.tuple #[tokV R.1 (posL s.data.toList p) (posC s.data.toList p), .int .i64 (R.2 : Int)]) ∧ RAt w' b s (p + R.1.text.length) ∧ Mods (· = b) w w' := by
  have hpl : p ≤ s.size := by
    have := skipN_le false (s.data.toList.drop o)
    simp at this
    omega
  have HP := Lib.hid hp
  have HF := Lib.hid hf
  clear hp hf
  have hblt : b < w.heap.size := by
    by_cases e : b < w.heap.size
    · exact e
    · unfold RAt at hR; rw [Array.getElem?_eq_none (by omega)] at hR; cases hR
  have HA : Hid (Mods (· = b) w (w.alloc (.cells #[.int .i64 0, .string ⟨#[]⟩, .int .i64 0, .int .i64 0, .int .i64 0] 34))) := Lib.hid ((Mods.refl _ w).alloc _)
  have HRA : Hid (RAt (w.alloc (.cells #[.int .i64 0, .string ⟨#[]⟩, .int .i64 0, .int .i64 0, .int .i64 0] 34)) b s o) := Lib.hid (hR.mods (fp := fun _ => False) ((Mods.refl _ w).alloc _) id)
  go_enter Tryd.func14, Tryd.ntmps14
  go_wp2_with fail
  refine (skip_any s hs b o ho _ HRA.out).mono ?_
  rintro e w1 ⟨rfl, hR1, hM1⟩
  rw [← HP.out] at hR1
  have h4 : R4 w1 b _ _ _ _ := hR1
  have c0 := h4.c0
  have c1 := h4.c1
  have c2 := h4.c2
  have c3 := h4.c3
  have H4 := Lib.hid h4
  clear h4
  have hsz1 : w.heap.size < w1.heap.size := by have := hM1.size; simp at this; omega
  have hbl1 : b < w1.heap.size := by omega
  have hfl : (fromOf (s.data.toList.take p) : Int) ≤ (p : Int) := by
    have e1 := fromOf_le (s.data.toList.take p)
    have e2 := List.length_take_le p s.data.toList
    omega
  have hp64 : (p : Int) ≤ 65536 := by omega
  have hM1' : Mods (· = b) w w1 := HA.out.trans hM1
  have HM1 := Lib.hid hM1'
  have HT1 := Lib.hid (h1.mods hM1' (by omega))
  have HT2 := Lib.hid (h2.mods hM1' (by omega))
  have HN0 : Hid (w1.heap[w.heap.size]? = some (.cells #[.int .i64 0, .string ⟨#[]⟩, .int .i64 0, .int .i64 0, .int .i64 0] 34 (0, 0))) := Lib.hid (by
    rw [hM1.block w.heap.size (by simp) (by omega)]
    show (w.heap.push _)[w.heap.size]? = _
    simp)
  have HX : Hid (first (s.extract p s.size).data.toList = R) := Lib.hid (by rw [drop_str, str_list]; exact HF.out)
  have HXS : Hid ((s.extract p s.size).size ≤ maxLen) := Lib.hid (by
    rw [drop_str, str_size]
    unfold maxLen
    simp
    omega)
  clear h1 h2 hM1 hM1' hR HRA HA
  go_wp2_with fail
  go_region
  go_wp2_with fail
  obtain ⟨C, hC⟩ : ∃ C : Int, C = (p : Int) - (fromOf (s.data.toList.take p) : Int) + 1 := ⟨_, rfl⟩
  rw [← hC]
  have HC := Lib.hid hC
  clear hC
  obtain ⟨L, hL⟩ : ∃ L : Int, L = (lineOf (s.data.toList.take p) : Int) := ⟨_, rfl⟩
  rw [← hL]
  have HL := Lib.hid hL
  clear hL c2 c3
  have m2 : Mods (fun _ => False) w1 (w1.alloc (.cells #[.int .i64 L, .int .i64 C] 26)).drew := ((Mods.refl _ w1).alloc _).drew
  have n2 : (w1.alloc (.cells #[.int .i64 L, .int .i64 C] 26)).drew.heap[w1.heap.size]? = some (.cells #[.int .i64 L, .int .i64 C] 26 (0, 0)) := by
    show (w1.heap.push _)[w1.heap.size]? = _
    simp
  generalize (w1.alloc (.cells #[.int .i64 L, .int .i64 C] 26)).drew = w2 at m2 n2 ⊢
  have H42 := Lib.hid (H4.out.keep m2 id)
  have HT12 := Lib.hid (HT1.out.mods m2 id)
  have HT22 := Lib.hid (HT2.out.mods m2 id)
  have HN1 := Lib.hid n2
  have HN02 : Hid (w2.heap[w.heap.size]? = some (.cells #[.int .i64 0, .string ⟨#[]⟩, .int .i64 0, .int .i64 0, .int .i64 0] 34 (0, 0))) := Lib.hid (by rw [m2.block _ hsz1 id]; exact HN0.out)
  have HM2 : Hid (Mods (· = b) w w2) := Lib.hid (HM1.out.trans ⟨m2.os, m2.tape, m2.output, m2.size, fun k hk _ => m2.block k hk id⟩)
  have hsz2 : w1.heap.size < w2.heap.size := by
    by_cases e : w1.heap.size < w2.heap.size
    · exact e
    · rw [Array.getElem?_eq_none (by omega)] at n2; cases n2
  have hbl2 : b < w2.heap.size := by omega
  have HT1d : Hid (TabS w2.drew 1 marksL) := Lib.hid (HT12.out.mods (fp := fun _ => False) (Mods.refl _ w2).drew id)
  have HT2d : Hid (TabS w2.drew 2 wordsL) := Lib.hid (HT22.out.mods (fp := fun _ => False) (Mods.refl _ w2).drew id)
  have HT1a : Hid (TabS (w2.alloc (.cells #[.int .i64 0, .string ⟨#[]⟩, .int .i64 0, .int .i64 0, .int .i64 0] 34)).drew 1 marksL) := Lib.hid (HT12.out.mods (fp := fun _ => False) ((Mods.refl _ w2).alloc _).drew id)
  have HT2a : Hid (TabS (w2.alloc (.cells #[.int .i64 0, .string ⟨#[]⟩, .int .i64 0, .int .i64 0, .int .i64 0] 34)).drew 2 wordsL) := Lib.hid (HT22.out.mods (fp := fun _ => False) ((Mods.refl _ w2).alloc _).drew id)
  clear n2 m2 c0 c1
  have c0 := H42.out.c0
  have c1 := H42.out.c1
  have HK : Hid (∀ w3, Mods (fun _ => False) w2 w3 → w3.cell? ⟨b, 0, none⟩ = some (.string s) ∧ w3.cell? ⟨b, 1, none⟩ = some (.int .i64 (p : Int))) := Lib.hid (fun w3 m => ⟨(H42.out.keep m id).c0, (H42.out.keep m id).c1⟩)
  go_region_held3 (fun w' => w'.cell? ⟨b, 0, none⟩ = some (.string s) ∧ w'.cell? ⟨b, 1, none⟩ = some (.int .i64 (p : Int)))
    (first | go_keep | with_reducible exact HK.out _ hm3 | with_reducible exact HK.out _ (hm3.alloc _) | exact HK.out _ (hm3.put5 (.inr (Nat.le_refl _)) _ _ _ _ _))
    (first
      | ((with_reducible refine (first_any _ HXS.out _ HT1d.out HT2d.out).mono ?_); rintro e w3 ⟨rfl, hb3⟩; rw [HX.out]; have hm3 : Mods (fun _ => False) w2 w3 := (Mods.refl _ w2).drew.trans (.of_below hb3))
      | ((with_reducible refine (first_any _ HXS.out _ HT1a.out HT2a.out).mono ?_); rintro e w3 ⟨rfl, hb3⟩; rw [HX.out]; have hm3 : Mods (fun _ => False) w2 w3 := ((Mods.refl _ w2).alloc _).drew.trans (.of_below hb3); have q3 := new_blk' hb3; have HQ3 := Lib.hid q3; obtain ⟨k0, k1, k2, k3, k4, g0, g1, g2, g3, g4⟩ := blk5 q3; clear q3))
  · have nx : NX w s b p w.heap.size w1.heap.size w2.heap.size w3.heap.size L C R (w3.alloc (.cells #[.int .i64 (R.1.kind : Int), .string (str R.1.text), .int .i64 (R.1.num : Int), .int .i64 0, .int .i64 0] 34)) := by
      have m : Mods (fun _ => False) w2 (w3.alloc (.cells #[.int .i64 (R.1.kind : Int), .string (str R.1.text), .int .i64 (R.1.num : Int), .int .i64 0, .int .i64 0] 34)) := hm3.alloc _
      exact ⟨H42.out.keep m id, by (show (w3.heap.push _)[w3.heap.size]? = _); simp, by rw [m.block _ hsz2 id]; exact HN1.out, by rw [m.block _ (by omega) id]; exact HN02.out, HM2.out.trans ⟨m.os, m.tape, m.output, m.size, fun k hk _ => m.block k hk id⟩, hm3.size⟩
    generalize hn5 : w3.heap.size = n5 at nx ⊢
    generalize (w3.alloc (.cells #[.int .i64 (R.1.kind : Int), .string (str R.1.text), .int .i64 (R.1.num : Int), .int .i64 0, .int .i64 0] 34)) = w4 at nx ⊢
    clear hn5
    have hlt5 := heap_some_lt nx.tok
    have hlt1 := heap_some_lt nx.at_
    have hlt0 := heap_some_lt nx.zero
    have hltb := heap_some_lt nx.rd
    have hfar := nx.far
    have hne5b : ¬ n5 = b := by omega
    have hne51 : ¬ n5 = w1.heap.size := by omega
    have hne50 : ¬ n5 = w.heap.size := by omega
    obtain ⟨k0, k1, k2, k3, k4, g0, g1, g2, g3, g4⟩ := blk5 nx.tok
    have a0 : w4.cell? ⟨w1.heap.size, 0, none⟩ = some (.int .i64 L) := by simp [World.cell?, nx.at_]
    have a1 : w4.cell? ⟨w1.heap.size, 1, none⟩ = some (.int .i64 C) := by simp [World.cell?, nx.at_]
    have hput := nx.put hne5b hne50 (by omega)
    clear nx c0 c1
    go_wp2_with fail
    generalize (w4.setCell ⟨n5, 3, none⟩ (.int .i64 L)).setCell ⟨n5, 4, none⟩ (.int .i64 C) = w5 at hput ⊢
    obtain ⟨r5, t5, z5, m5⟩ := hput
    have HFT := Lib.hid (fits_first (s.data.toList.drop p))
    rw [HF.out] at HFT
    have hts : (str R.1.text).size ≤ s.size - p := by
      have := HFT.out.le
      rw [str_size]
      simpa using this
    generalize hT : str R.1.text = T at t5 hts ⊢
    have HTT := Lib.hid hT
    clear hT
    clear k0 k1 k2 k3 k4 g0 g1 g2 g3 g4 a0 a1 hlt5 hlt1 hlt0 hltb
    have c1 := r5.c1
    have f1 := r5.fz 1
    obtain ⟨k0, k1, k2, k3, k4, g0, g1, g2, g3, g4⟩ := blk5 t5
    have HT5 := Lib.hid t5
    have HZ5 := Lib.hid z5
    have HR5 := Lib.hid r5
    obtain ⟨z0, z1, z2, z3, z4, y0, y1, y2, y3, y4⟩ := blk5 z5
    clear t5 z5 r5
    go_region
    go_wp2
    have HSZ : Hid ((T.size : Int) = (R.1.text.length : Int)) := Lib.hid (by rw [← HTT.out]; rfl)
    have rS := HR5.out.set1 (.int .i64 ((p : Int) + (T.size : Int)))
    have mS : Mods (· = b) w5 (w5.setCell ⟨b, 1, none⟩ (.int .i64 ((p : Int) + (T.size : Int)))) := (Mods.refl (· = b) w5).setCell (p := ⟨b, 1, none⟩) (.inl rfl) _
    have zS : (w5.setCell ⟨b, 1, none⟩ (.int .i64 ((p : Int) + (T.size : Int)))).heap[w.heap.size]? = some (.cells #[.int .i64 0, .string ⟨#[]⟩, .int .i64 0, .int .i64 0, .int .i64 0] 34 (0, 0)) := by
      rw [mS.block _ (heap_some_lt HZ5.out) (by omega)]; exact HZ5.out
    have ld := tok_load_drew (put5_blk zS (.int .i64 (R.1.kind : Int)) (.string T) (.int .i64 (R.1.num : Int)) (.int .i64 L) (.int .i64 C))
    have m6 : Mods (fun k => w.heap.size ≤ k) (w5.setCell ⟨b, 1, none⟩ (.int .i64 ((p : Int) + (T.size : Int)))) ((((((w5.setCell ⟨b, 1, none⟩ (.int .i64 ((p : Int) + (T.size : Int)))).setCell ⟨w.heap.size, 0, none⟩ (.int .i64 (R.1.kind : Int))).setCell ⟨w.heap.size, 1, none⟩ (.string T)).setCell ⟨w.heap.size, 2, none⟩ (.int .i64 (R.1.num : Int))).setCell ⟨w.heap.size, 3, none⟩ (.int .i64 L)).setCell ⟨w.heap.size, 4, none⟩ (.int .i64 C)).drew := (Mods.put5 (Mods.refl _ _) (.inl (Nat.le_refl w.heap.size)) (.int .i64 (R.1.kind : Int)) (.string T) (.int .i64 (R.1.num : Int)) (.int .i64 L) (.int .i64 C)).drew
    have m7 : Mods (· = b) w ((((((w5.setCell ⟨b, 1, none⟩ (.int .i64 ((p : Int) + (T.size : Int)))).setCell ⟨w.heap.size, 0, none⟩ (.int .i64 (R.1.kind : Int))).setCell ⟨w.heap.size, 1, none⟩ (.string T)).setCell ⟨w.heap.size, 2, none⟩ (.int .i64 (R.1.num : Int))).setCell ⟨w.heap.size, 3, none⟩ (.int .i64 L)).setCell ⟨w.heap.size, 4, none⟩ (.int .i64 C)).drew := ((m5.trans mS).put5 (.inr (Nat.le_refl _)) _ _ _ _ _).drew
    generalize ((((((w5.setCell ⟨b, 1, none⟩ (.int .i64 ((p : Int) + (T.size : Int)))).setCell ⟨w.heap.size, 0, none⟩ (.int .i64 (R.1.kind : Int))).setCell ⟨w.heap.size, 1, none⟩ (.string T)).setCell ⟨w.heap.size, 2, none⟩ (.int .i64 (R.1.num : Int))).setCell ⟨w.heap.size, 3, none⟩ (.int .i64 L)).setCell ⟨w.heap.size, 4, none⟩ (.int .i64 C)).drew = w6 at ld m6 m7 ⊢
    refine bodyPost_ret (v := .tuple #[.agg #[.int .i64 (R.1.kind : Int), .string T, .int .i64 (R.1.num : Int), .int .i64 L, .int .i64 C], .int .i64 (R.2 : Int)]) (results_two Tryd.results14 rfl rfl ld) rfl ⟨?_, ?_, m7⟩
    · have h1 : L = (posL s.data.toList p : Int) := HL.out
      have h2 : C = (posC s.data.toList p : Int) := by
        rw [HC.out]
        unfold posC
        omega
      rw [h1, h2, ← HTT.out]
    · have rK := rS.keep m6 (by omega)
      rw [HSZ.out] at rK
      exact RAt.far HFT.out rK
  · have nx : NX w s b p w.heap.size w1.heap.size w2.heap.size w2.heap.size L C R (put5 w3 w2.heap.size (.int .i64 (R.1.kind : Int)) (.string (str R.1.text)) (.int .i64 (R.1.num : Int)) (.int .i64 0) (.int .i64 0)) := by
      have m := hm3.put5 (b := w2.heap.size) (.inr (Nat.le_refl _)) (.int .i64 (R.1.kind : Int)) (.string (str R.1.text)) (.int .i64 (R.1.num : Int)) (.int .i64 0) (.int .i64 0)
      exact ⟨H42.out.keep m id, put5_blk HQ3.out _ _ _ _ _, by rw [m.block _ hsz2 id]; exact HN1.out, by rw [m.block _ (by omega) id]; exact HN02.out, HM2.out.trans ⟨m.os, m.tape, m.output, m.size, fun k hk _ => m.block k hk id⟩, Nat.le_refl _⟩
    clear k0 k1 k2 k3 k4 g0 g1 g2 g3 g4 HQ3
    obtain ⟨n5, hn5⟩ : ∃ n5, n5 = w2.heap.size := ⟨_, rfl⟩
    rw [← hn5] at nx ⊢
    have hn6 : w2.heap.size ≤ n5 := by omega
    clear hn5
    unfold put5 at nx
    generalize ((((w3.setCell ⟨n5, 0, none⟩ (.int .i64 (R.1.kind : Int))).setCell ⟨n5, 1, none⟩ (.string (str R.1.text))).setCell ⟨n5, 2, none⟩ (.int .i64 (R.1.num : Int))).setCell ⟨n5, 3, none⟩ (.int .i64 0)).setCell ⟨n5, 4, none⟩ (.int .i64 0) = w4 at nx ⊢
    have hlt5 := heap_some_lt nx.tok
    have hlt1 := heap_some_lt nx.at_
    have hlt0 := heap_some_lt nx.zero
    have hltb := heap_some_lt nx.rd
    have hne5b : ¬ n5 = b := by omega
    have hne51 : ¬ n5 = w1.heap.size := by omega
    have hne50 : ¬ n5 = w.heap.size := by omega
    obtain ⟨k0, k1, k2, k3, k4, g0, g1, g2, g3, g4⟩ := blk5 nx.tok
    have a0 : w4.cell? ⟨w1.heap.size, 0, none⟩ = some (.int .i64 L) := by simp [World.cell?, nx.at_]
    have a1 : w4.cell? ⟨w1.heap.size, 1, none⟩ = some (.int .i64 C) := by simp [World.cell?, nx.at_]
    have hput := nx.put hne5b hne50 (by omega)
    clear nx c0 c1
    go_wp2_with fail
    generalize (w4.setCell ⟨n5, 3, none⟩ (.int .i64 L)).setCell ⟨n5, 4, none⟩ (.int .i64 C) = w5 at hput ⊢
    obtain ⟨r5, t5, z5, m5⟩ := hput
    have HFT := Lib.hid (fits_first (s.data.toList.drop p))
    rw [HF.out] at HFT
    have hts : (str R.1.text).size ≤ s.size - p := by
      have := HFT.out.le
      rw [str_size]
      simpa using this
    generalize hT : str R.1.text = T at t5 hts ⊢
    have HTT := Lib.hid hT
    clear hT
    clear k0 k1 k2 k3 k4 g0 g1 g2 g3 g4 a0 a1 hlt5 hlt1 hlt0 hltb
    have c1 := r5.c1
    have f1 := r5.fz 1
    obtain ⟨k0, k1, k2, k3, k4, g0, g1, g2, g3, g4⟩ := blk5 t5
    have HT5 := Lib.hid t5
    have HZ5 := Lib.hid z5
    have HR5 := Lib.hid r5
    obtain ⟨z0, z1, z2, z3, z4, y0, y1, y2, y3, y4⟩ := blk5 z5
    clear t5 z5 r5
    go_region
    go_wp2
    have HSZ : Hid ((T.size : Int) = (R.1.text.length : Int)) := Lib.hid (by rw [← HTT.out]; rfl)
    have rS := HR5.out.set1 (.int .i64 ((p : Int) + (T.size : Int)))
    have mS : Mods (· = b) w5 (w5.setCell ⟨b, 1, none⟩ (.int .i64 ((p : Int) + (T.size : Int)))) := (Mods.refl (· = b) w5).setCell (p := ⟨b, 1, none⟩) (.inl rfl) _
    have zS : (w5.setCell ⟨b, 1, none⟩ (.int .i64 ((p : Int) + (T.size : Int)))).heap[w.heap.size]? = some (.cells #[.int .i64 0, .string ⟨#[]⟩, .int .i64 0, .int .i64 0, .int .i64 0] 34 (0, 0)) := by
      rw [mS.block _ (heap_some_lt HZ5.out) (by omega)]; exact HZ5.out
    have ld := tok_load_drew (put5_blk zS (.int .i64 (R.1.kind : Int)) (.string T) (.int .i64 (R.1.num : Int)) (.int .i64 L) (.int .i64 C))
    have m6 : Mods (fun k => w.heap.size ≤ k) (w5.setCell ⟨b, 1, none⟩ (.int .i64 ((p : Int) + (T.size : Int)))) ((((((w5.setCell ⟨b, 1, none⟩ (.int .i64 ((p : Int) + (T.size : Int)))).setCell ⟨w.heap.size, 0, none⟩ (.int .i64 (R.1.kind : Int))).setCell ⟨w.heap.size, 1, none⟩ (.string T)).setCell ⟨w.heap.size, 2, none⟩ (.int .i64 (R.1.num : Int))).setCell ⟨w.heap.size, 3, none⟩ (.int .i64 L)).setCell ⟨w.heap.size, 4, none⟩ (.int .i64 C)).drew := (Mods.put5 (Mods.refl _ _) (.inl (Nat.le_refl w.heap.size)) (.int .i64 (R.1.kind : Int)) (.string T) (.int .i64 (R.1.num : Int)) (.int .i64 L) (.int .i64 C)).drew
    have m7 : Mods (· = b) w ((((((w5.setCell ⟨b, 1, none⟩ (.int .i64 ((p : Int) + (T.size : Int)))).setCell ⟨w.heap.size, 0, none⟩ (.int .i64 (R.1.kind : Int))).setCell ⟨w.heap.size, 1, none⟩ (.string T)).setCell ⟨w.heap.size, 2, none⟩ (.int .i64 (R.1.num : Int))).setCell ⟨w.heap.size, 3, none⟩ (.int .i64 L)).setCell ⟨w.heap.size, 4, none⟩ (.int .i64 C)).drew := ((m5.trans mS).put5 (.inr (Nat.le_refl _)) _ _ _ _ _).drew
    generalize ((((((w5.setCell ⟨b, 1, none⟩ (.int .i64 ((p : Int) + (T.size : Int)))).setCell ⟨w.heap.size, 0, none⟩ (.int .i64 (R.1.kind : Int))).setCell ⟨w.heap.size, 1, none⟩ (.string T)).setCell ⟨w.heap.size, 2, none⟩ (.int .i64 (R.1.num : Int))).setCell ⟨w.heap.size, 3, none⟩ (.int .i64 L)).setCell ⟨w.heap.size, 4, none⟩ (.int .i64 C)).drew = w6 at ld m6 m7 ⊢
    refine bodyPost_ret (v := .tuple #[.agg #[.int .i64 (R.1.kind : Int), .string T, .int .i64 (R.1.num : Int), .int .i64 L, .int .i64 C], .int .i64 (R.2 : Int)]) (results_two Tryd.results14 rfl rfl ld) rfl ⟨?_, ?_, m7⟩
    · have h1 : L = (posL s.data.toList p : Int) := HL.out
      have h2 : C = (posC s.data.toList p : Int) := by
        rw [HC.out]
        unfold posC
        omega
      rw [h1, h2, ← HTT.out]
    · have rK := rS.keep m6 (by omega)
      rw [HSZ.out] at rK
      exact RAt.far HFT.out rK
end Go.Proofs.YtaochdmbbbighaaDoor
