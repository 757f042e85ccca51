/-
  LexAny: the walk, where there are tokens.
-/
import Derived.Test.YtaochdmbbbighaaDoorAnyWalk
import Derived.Deep.RegionWith
import Derived.StillTailTactics
namespace Go.Proofs.YtaochdmbbbighaaDoor
open Go.RowKit

theorem at_bytes (s : ByteArray) (q : Nat) (h : q < s.size) : s.data.toList[q]? = some s[q] := by rw [List.getElem?_eq_getElem (by simpa using h)]; rfl
def I64s (zs : List Nat) : List Value := zs.map fun (z : Nat) => .int .i64 (z : Int)
theorem info3 : (Tryd.prog.info? 3).map (fun i => (i.zero, i.size, i.bytes)) = some (some (.int .i64 0), 1, 8) := by kernel_rfl
theorem one_row (w : World) : (w.alloc (.cells #[.int .i64 0] 3)).ownsRow w.heap.size 3 1 (.slice (some ⟨w.heap.size, 0, none⟩) 1 1) 1 (I64s [0]) :=
  ⟨rfl, .inr ⟨w.heap.size, 1, #[.int .i64 0], rfl, Nat.le_refl _, by (show (w.heap.push _)[w.heap.size]? = _); simp, Nat.le_refl _, by decide, rfl, rfl⟩⟩
theorem one_cell (w : World) (v : Value) : ∀ j u, [v][j]? = some u → (w.alloc (.cells #[v] 3)).cell? ((⟨w.heap.size, 0, none⟩ : Addr).add j) = some u := by
  intro j u hu
  have e : (⟨w.heap.size, 0, none⟩ : Addr).add j = ⟨w.heap.size, j, none⟩ := by unfold Addr.add; split <;> simp_all
  rw [e, cell_of_row (w.alloc (.cells #[v] 3)) w.heap.size j #[v] 3 (0, 0) (by show (w.heap.push _)[w.heap.size]? = _; simp)]
  simpa using hu

set_option maxHeartbeats 8000000 in
set_option maxRecDepth 100000 in
theorem any_good (s : ByteArray) (w : World) (hT : Tabs w) (h : ¬ 600 < s.size) (ts : List (Nat × Tok)) (hL : Lx s.data.toList 0 ts none) : Calls Tryd.prog 3 #[.string s] w fun e w' => e = .returned (.bool true) ∧ Below w.heap.size w w' := by
  obtain ⟨i0, hi, hz0, hz1, hz2⟩ := info_parts info3
  have hpos := hL.pos
  have hlen : ts.length ≤ 601 := by have := hL.len (Nat.zero_le _); simp at this; omega
  have HI := Lib.hid hi
  have HZ := Lib.hid hz0
  have HZ1 := Lib.hid hz1
  have HZ2 := Lib.hid hz2
  have HL := Lib.hid hL
  clear hL hi hz0 hz1 hz2
  go_enter Tryd.func3, Tryd.ntmps3
  go_wp2_with fail
  refine (head_any w hT).mono ?_
  rintro e w1 ⟨rfl, hb1⟩
  go_wp2_with fail
  refine (all_of rfl (by simp; omega) (hT.below hb1) HL.out).mono ?_
  rintro e w2 ⟨hb2, v2, rfl, row2⟩
  obtain ⟨g, cap, rfl, hcap, hat⟩ := row_tat row2 hpos
  have HAT := Lib.hid hat
  clear row2 hat
  go_wp2
  have hbA : Below w.heap.size w (w2.alloc (.cells #[.int .i64 0, .int .i64 0, .int .i64 0] 28)) := (hb1.trans (hb2.mono hb1.size)).alloc (Nat.le_trans hb1.size hb2.size) _
  have HA2 := Lib.hid (HAT.out.keep ((Below.refl w2.heap.size w2).alloc (Nat.le_refl _) (.cells #[.int .i64 0, .int .i64 0, .int .i64 0] 28)))
  have e3 : w2.heap.size + 1 = (w2.alloc (.cells #[.int .i64 0, .int .i64 0, .int .i64 0] 28)).heap.size := by simp
  rw [e3]
  clear e3
  generalize w2.alloc (.cells #[.int .i64 0, .int .i64 0, .int .i64 0] 28) = w3 at hbA HA2 ⊢
  clear hb2 HAT
  go_loopw [5, 6] (fun v i wr => ∃ k : Nat, i = .int .i64 k ∧ k ≤ s.size ∧ wr.ownsRow w3.heap.size 3 1 v (starts (s.data.toList.take k)).length (I64s (starts (s.data.toList.take k))) ∧ Mods (fun j => w3.heap.size ≤ j) w3 wr) (fun _ i _ => s.size - (intOf i).toNat)
  case atStart => exact ⟨0, rfl, by omega, one_row w3, (Mods.refl _ _).alloc _⟩
  case round =>
    obtain ⟨k, rfl, hk, hrow, hm⟩ := hrel
    by_cases hlt : k < s.size
    · have hsn := starts_snoc (s.data.toList.take k) s[k]
      rw [← take_snoc s k hlt] at hsn
      have hsl : (starts (s.data.toList.take k)).length ≤ 601 := by
        rw [starts_len]
        have := line_bound s.data.toList k
        simp at this
        omega
      have HSN := Lib.hid hsn
      have e10 := eq_nat s[k] 10
      have htl : (s.data.toList.take k).length = k := by rw [List.length_take]; simp; omega
      have HTL := Lib.hid htl
      clear htl hsn
      by_cases hc : (s[k] == 10) = true
      · have hb : ((s[k].toNat : Int) == 10) = true := e10.trans hc
        have HCC := Lib.hid hc
        have HROW := Lib.hid (row_keep (fp := fun _ => False) hrow ((Mods.refl _ wr).alloc (.cells #[.int .i64 ((k : Int) + 1)] 3)) (fun _ _ => id))
        have HRB := Lib.hid (row_block hrow)
        have HNEW := Lib.hid (one_cell wr (.int .i64 ((k : Int) + 1)))
        have HM := Lib.hid (hm.alloc (.cells #[.int .i64 ((k : Int) + 1)] 3))
        have HSZ : Hid (w3.heap.size ≤ (wr.alloc (.cells #[.int .i64 ((k : Int) + 1)] 3)).heap.size) := Lib.hid (by have := hm.size; simp; omega)
        have HL1 : Hid ((starts (s.data.toList.take k)).length + 1 ≤ maxLen) := Lib.hid (by unfold maxLen; omega)
        have HL2 : Hid (((starts (s.data.toList.take k)).length + 1) * 8 ≤ 140737488355328) := Lib.hid (by omega)
        clear e10 hc hrow hm
        go_wp2_with (first | (at_builtin; refine wpList_append_lies _ rfl _ _ 31 rfl w3.heap.size 3 i0 _ 1 8 Tryd.underlying31 HI.out HZ.out HZ1.out HZ2.out rfl (by decide) u5 _ _ rfl HROW.out ⟨wr.heap.size, 0, none⟩ 1 1 [.int .i64 ((k : Int) + 1)] rfl rfl HNEW.out (by intro u hu; rw [List.mem_singleton] at hu; subst hu; rfl) (by omega) HL1.out HL2.out HSZ.out _ rfl ?_; intro gg cc w4 hrow4 hgr hat hlt4))
        go_roundw
        case rel =>
          refine ⟨k + 1, by go_num, by omega, ?_, HM.out.trans (weak (Mods.of_grown hgr) (fun i _ e => (HRB.out i e).1))⟩
          rw [HSN.out, HCC.out, if_pos rfl, HTL.out]
          simpa [I64s] using hrow4
        case measure => simp [intOf]; omega
      · have hc' := Bool.eq_false_iff.2 hc
        have hb : ((s[k].toNat : Int) == 10) = false := e10.trans hc'
        have HCC := Lib.hid hc'
        have HROW := Lib.hid hrow
        clear e10 hc hc' hrow
        go_wp2
        go_roundw
        case rel =>
          refine ⟨k + 1, by go_num, by omega, ?_, hm⟩
          rw [HSN.out, HCC.out]
          simpa using HROW.out
        case measure => simp [intOf]; omega
    · obtain rfl : k = s.size := by omega
      rw [List.take_of_length_le (by simp)] at hrow
      obtain ⟨gs, caps, rfl, _, hgs, _, hcs⟩ := row_cells hrow (by rw [starts_len]; unfold lineOf; omega)
      have hsl : (starts s.data.toList).length ≤ 601 := by
        rw [starts_len]
        have := line_bound s.data.toList s.size
        rw [List.take_of_length_le (by simp)] at this
        simp at this
        omega
      have hb35 : Below w3.heap.size w3 wr := hm.below (fun _ e => e) (Nat.le_refl _)
      have TA := Lib.hid (HA2.out.keep hb35)
      have hbW := hbA.trans (hb35.mono hbA.size)
      have HCS : Hid (∀ j (z : Nat), (starts s.data.toList)[j]? = some z → wr.cell? ⟨gs, j, none⟩ = some (.int .i64 (z : Int))) := Lib.hid (fun j z hz => hcs j _ (by unfold I64s; rw [List.getElem?_map, hz]; rfl))
      clear hcs hrow hm hb35 HA2
      obtain ⟨wq, hwq⟩ : ∃ wq, wq = wr := ⟨_, rfl⟩
      subst hwq
      obtain ⟨SN, hSN⟩ : ∃ SN, SN = (starts s.data.toList).length := ⟨_, rfl⟩
      rw [← hSN] at hsl ⊢
      have HSN := Lib.hid hSN
      clear hSN
      go_wp2
      go_loopw [7, 73] (fun v i wr => ∃ k last : Nat, i = .int .i64 k ∧ v = .int .i64 last ∧ k ≤ ts.length ∧ last ≤ s.size ∧ (k < ts.length → Lx s.data.toList last (ts.drop k) none) ∧ Below wq.heap.size wq wr) (fun _ i _ => ts.length - (intOf i).toNat)
      case atStart => exact ⟨0, 0, rfl, rfl, by omega, by omega, fun _ => HL.out, Below.refl _ _⟩
      case round =>
        obtain ⟨k, last, rfl, rfl, hk2, hla, hlx, hbr⟩ := hrel
        by_cases hlt : k < ts.length
        · have hlk := hlx hlt
          have hdr : ts.drop k = ts[k] :: ts.drop (k + 1) := List.drop_eq_getElem_cons hlt
          rw [hdr] at hlk
          rcases hpt : ts[k] with ⟨p, t⟩
          rw [hpt] at hlk
          obtain ⟨f1, f2, f3, f4, f5, f6, f7⟩ := tok_facts hlk (by simpa using hla)
          obtain ⟨a0, a1, a2, a3, a4⟩ := (TA.out.keep hbr).cells k hlt
          have hgw : gs < wr.heap.size := Nat.lt_of_lt_of_le hgs hbr.size
          obtain ⟨s1, s2, s3⟩ := starts_at s.data.toList p
          have hps : p ≤ s.data.toList.length := by omega
          obtain ⟨c1, c2, c3⟩ := place_back s.data.toList p hps
          obtain ⟨ln, hln⟩ : ∃ ln, posL s.data.toList p = ln + 1 := ⟨posL s.data.toList p - 1, by omega⟩
          obtain ⟨cl, hcl⟩ : ∃ cl, posC s.data.toList p = cl + 1 := ⟨posC s.data.toList p - 1, by omega⟩
          rw [hln, Nat.add_sub_cancel] at s1
          have hst := (hbr.cell (p := ⟨gs, ln, none⟩) hgs).trans (HCS.out ln _ s1)
          generalize fromOf (s.data.toList.take p) = F at hst c1 c2
          have hpe : p = F + cl := by omega
          have hw0 := kind_word f2
          rw [hpt] at a0 a1 a2 a3 a4
          dsimp only at a0 a1 a2 a3 a4
          rw [hln] at a3
          rw [hcl] at a4
          have hlnS : ln + 1 ≤ SN := by rw [HSN.out, ← hln]; exact s2
          have hsz0 : s.data.toList.length = s.size := by simp
          rw [hsz0] at f4 hps
          have HF1 := Lib.hid f1
          have HF5 := Lib.hid f5
          have HF6 := Lib.hid f6
          have HF7 := Lib.hid f7
          have HPE := Lib.hid hpe
          have HD := Lib.hid hdr
          obtain ⟨T, hTT⟩ : ∃ T, T = str t.text := ⟨_, rfl⟩
          have hTs : T.size = t.text.length := by rw [hTT]; rfl
          rw [← hTT] at a1
          have hwT : isWd T.data.toList = isWd t.text := by rw [hTT, str_list]
          have hxe : ((s.extract p (p + T.size)).toList != T.toList) = false := by
            rw [bne_eq_false_iff_eq, Lib.toList_data, Lib.toList_data, hTT, str_list, str_size]
            rw [ByteArray.data_extract, Array.toList_extract, List.extract_eq_take_drop, Nat.add_sub_cancel_left]
            exact f5
          have hxf : ((s.extract p (p + T.size)).toList == T.toList) = true := by simpa using hxe
          have hft : p + T.size ≤ s.size := by omega
          have HTT := Lib.hid hTT
          have HTs := Lib.hid hTs
          have HWT := Lib.hid hwT
          have HW0 := Lib.hid hw0
          clear f1 f2 f5 f6 f7 s1 s2 s3 c1 c2 c3 hln hcl hsz0 hTT hTs hwT hw0 hlk hdr hlx hpe
          have e1 : ((ln + 1 : Nat) : Int) = (ln : Int) + 1 := by omega
          have e2 : ((cl + 1 : Nat) : Int) = (cl : Int) + 1 := by omega
          rw [e1] at a3
          rw [e2] at a4
          clear e1 e2
          have hz : wr.heap.size < wr.heap.size + 1 := by omega
          go_wp2
          have hbN : Below wr.heap.size wr (wr.alloc (.cells #[.int .i64 (t.kind : Int), .string T, .int .i64 (t.num : Int), .int .i64 ((ln : Int) + 1), .int .i64 ((cl : Int) + 1)] 34)) := (Below.refl _ _).alloc (Nat.le_refl _) _
          have hn9 : (wr.alloc (.cells #[.int .i64 (t.kind : Int), .string T, .int .i64 (t.num : Int), .int .i64 ((ln : Int) + 1), .int .i64 ((cl : Int) + 1)] 34)).heap[wr.heap.size]? = some (.cells #[.int .i64 (t.kind : Int), .string T, .int .i64 (t.num : Int), .int .i64 ((ln : Int) + 1), .int .i64 ((cl : Int) + 1)] 34 (0, 0)) := by
            show (wr.heap.push _)[wr.heap.size]? = _
            simp
          have hst2 := (hbN.cell (p := ⟨gs, ln, none⟩) hgw).trans hst
          have hbX := hbr.trans (hbN.mono hbr.size)
          generalize wr.alloc (.cells #[.int .i64 (t.kind : Int), .string T, .int .i64 (t.num : Int), .int .i64 ((ln : Int) + 1), .int .i64 ((cl : Int) + 1)] 34) = wA at hbN hn9 hst2 hbX ⊢
          clear hst a0 a1 a2 a3 a4 hz
          generalize wr.heap.size = n9 at hn9 ⊢
          obtain ⟨k0, k1, k2, k3, k4, y0, y1, y2, y3, y4⟩ := blk5 hn9
          have HN9 := Lib.hid hn9
          clear hn9 y0 y1 y2 y3 y4 hbN
          have hF : F ≤ 600 := by have := HPE.out; omega
          have hcl : cl ≤ 600 := by have := HPE.out; omega
          have q0 : (ln : Int) < (SN : Int) := by omega
          have q1 : IntKind.i64.wrap ((ln : Int) + 1 - 1) = (ln : Int) := by rw [IntWalk.i64_in _ (by omega)]; omega
          have q2 : IntKind.i64.wrap ((F : Int) + ((cl : Int) + 1)) = (F : Int) + ((cl : Int) + 1) := IntWalk.i64_in _ (by omega)
          have q3 : IntKind.i64.wrap ((F : Int) + ((cl : Int) + 1) - 1) = (p : Int) := by rw [IntWalk.i64_in _ (by omega), HPE.out]; omega
          go_quiet (fail)
          clear q1 q2 q3 hst2 q0 hF hcl
          have g1 : decide ((p : Int) < (last : Int)) = false := by rw [decide_eq_false_iff_not]; omega
          have g9 : decide (p < last) = false := by rw [decide_eq_false_iff_not]; omega
          have g2 : IntKind.i64.wrap ((p : Int) + (T.size : Int)) = (p : Int) + (T.size : Int) := IntWalk.i64_in _ (by omega)
          have g3 : decide ((s.size : Int) < (p : Int) + (T.size : Int)) = false := by rw [decide_eq_false_iff_not]; omega
          have g4 : ((p : Int) + (T.size : Int)).toNat = p + T.size := by omega
          have g5 : (p : Int) + (T.size : Int) ≤ (s.size : Int) := by omega
          have g6 : 0 ≤ (p : Int) + (T.size : Int) := by omega
          have g7 : (p : Int) ≤ (p : Int) + (T.size : Int) := by omega
          have g8 : IntKind.i64.wrap ((ts.length : Int) - 1) = (ts.length : Int) - 1 := IntWalk.i64_in _ (by omega)
          have hnx : k + 1 < ts.length → Lx s.data.toList (p + T.size) (ts.drop (k + 1)) none := fun hlt2 => by
            by_cases hk0 : t.kind = 0
            · have := congrArg List.length (HF6.out hk0).2.2
              rw [List.length_drop] at this
              simp at this
              omega
            · rw [HTs.out]; exact (HF7.out hk0).2.1
          have HNX := Lib.hid hnx
          clear hnx
          obtain ⟨bb, hbb⟩ : ∃ bb, bb = isWd t.text := ⟨_, rfl⟩
          have HBB : Hid (isWd T.data.toList = bb) := Lib.hid (by rw [hbb]; exact HWT.out)
          have t7 : ((t.kind : Int) == 1) = bb := by rw [hbb]; exact HW0.out
          have h3 : (t.kind = 0 ∧ bb = false) ∨ (t.kind ≠ 0) := by
            by_cases hk0 : t.kind = 0
            · left
              refine ⟨hk0, ?_⟩
              rw [← t7, hk0]
              rfl
            · exact .inr hk0
          clear hbb
          rcases h3 with ⟨hk0, rfl⟩ | hk0
          · obtain ⟨z1, z2, z3⟩ := HF6.out hk0
            have hkl : k + 1 = ts.length := by
              have := congrArg List.length HD.out
              rw [z3, List.length_drop] at this
              simp at this
              omega
            have hp2 : p = s.size := by simpa using z1
            have t1 : ((t.kind : Int) == 0) = true := by rw [hk0]; rfl
            have t2 : ((k : Int) == (ts.length : Int) - 1) = true := by rw [beq_iff_eq]; omega
            have t3 : ((p : Int) != (s.size : Int)) = false := by rw [bne_eq_false_iff_eq, hp2]
            have t4 : ((t.kind : Int) != 0) = false := by rw [hk0]; rfl
            have t5 : ((p : Int) == (s.size : Int)) = true := by rw [beq_iff_eq, hp2]
            have t6 : (p == s.size) = true := by rw [beq_iff_eq, hp2]
            clear z1 z2 z3 hp2 hkl hk0
            go_wp2
            go_quiet (fail)
            clear g1 g2 g3 g4 g5 g6 g7 g8 g9 t2 hxe hxf
            go_wp2
            generalize hwB : World.drewN (World.drewN wA _) _ = wB
            have kB0 : wB.cell? ⟨n9, 0, none⟩ = some (.int .i64 (t.kind : Int)) := by rw [← hwB]; exact k0
            have kB1 : wB.cell? ⟨n9, 1, none⟩ = some (.string T) := by rw [← hwB]; exact k1
            have hbB : Below wq.heap.size wq wB := by rw [← hwB]; exact ⟨hbX.os, hbX.tape, hbX.output, hbX.size, hbX.block⟩
            have hlB : n9 < wB.heap.size := block_lt_of_cell kB0
            clear hwB k0 k1 k2 k3 k4
            refine wp_region_held_drew (S := fun w' => w'.cell? ⟨n9, 0, none⟩ = some (.int .i64 (t.kind : Int)) ∧ w'.cell? ⟨n9, 1, none⟩ = some (.string T)) (by kernel_rfl) ?_ (fun hHeld => ?_)
            · exact ⟨kB0, kB1⟩
            refine wpAnyH_take (i := 0) (v := ?_) rfl (by kernel_rfl) (by kernel_rfl) (by kernel_rfl) (fun _ _ _ h => h) (Or.inl ⟨by rfl, ?_⟩) (by assumption) ?_
            rotate_left
            focus (intro w hSw; (try dsimp only at hSw); go_simp; first | done | with_reducible rfl)
            simp only [Act.put, List.getElem_toArray, List.getElem_cons_zero, List.setIfInBounds_toArray, List.set_cons_zero, List.set_cons_succ]
            refine wpAnyH_take (i := 1) (v := ?_) rfl (by kernel_rfl) (by kernel_rfl) (by kernel_rfl) (fun _ _ _ h => h) (Or.inl ⟨by rfl, ?_⟩) (by assumption) ?_
            rotate_left
            focus (intro w hSw; (try dsimp only at hSw); go_simp; first | done | with_reducible rfl)
            simp only [Act.put, List.getElem_toArray, List.getElem_cons_zero, List.getElem_cons_succ, List.setIfInBounds_toArray, List.set_cons_zero, List.set_cons_succ]
            refine wpAnyH_take (i := 2) (v := ?_) rfl (by kernel_rfl) (by kernel_rfl) (by kernel_rfl) (fun _ _ _ h => h) (Or.inl ⟨by rfl, ?_⟩) (by assumption) ?_
            rotate_left
            focus (intro w hSw; (try dsimp only at hSw); go_simp; first | done | with_reducible rfl)
            simp only [Act.put, List.getElem_toArray, List.getElem_cons_zero, List.getElem_cons_succ, List.setIfInBounds_toArray, List.set_cons_zero, List.set_cons_succ]
            refine wpAnyH_take (i := 3) (v := ?_) rfl (by kernel_rfl) (by kernel_rfl) (by kernel_rfl) (fun _ _ _ h => h) (Or.inl ⟨by rfl, ?_⟩) (by assumption) ?_
            rotate_left
            focus (intro w hSw; (try dsimp only at hSw); go_simp; first | done | with_reducible rfl)
            simp only [Act.put, List.getElem_toArray, List.getElem_cons_zero, List.getElem_cons_succ, List.setIfInBounds_toArray, List.set_cons_zero, List.set_cons_succ]
            refine wpAnyH_take (i := 4) (v := ?_) rfl (by kernel_rfl) (by kernel_rfl) (by kernel_rfl) (fun _ _ _ h => h) (Or.inl ⟨by rfl, ?_⟩) (by assumption) ?_
            rotate_left
            focus (intro w hSw; (try dsimp only at hSw); go_simp; first | done | with_reducible rfl)
            simp only [Act.put, List.getElem_toArray, List.getElem_cons_zero, List.getElem_cons_succ, List.setIfInBounds_toArray, List.set_cons_zero, List.set_cons_succ]
            refine wpAnyH_take (i := 5) (v := ?_) rfl (by kernel_rfl) (by kernel_rfl) (by kernel_rfl) (fun _ _ _ h => h) (Or.inl ⟨by rfl, ?_⟩) (by assumption) ?_
            rotate_left
            focus (intro w hSw; (try dsimp only at hSw); go_simp; first | done | with_reducible rfl)
            simp only [Act.put, List.getElem_toArray, List.getElem_cons_zero, List.getElem_cons_succ, List.setIfInBounds_toArray, List.set_cons_zero, List.set_cons_succ]
            refine wpAnyH_take (i := 6) (v := ?_) rfl (by kernel_rfl) (by kernel_rfl) (by kernel_rfl) (fun _ _ _ h => h) (Or.inl ⟨by rfl, ?_⟩) (by assumption) ?_
            rotate_left
            focus (intro w hSw; (try dsimp only at hSw); go_simp; first | done | with_reducible rfl)
            simp only [Act.put, List.getElem_toArray, List.getElem_cons_zero, List.getElem_cons_succ, List.setIfInBounds_toArray, List.set_cons_zero, List.set_cons_succ]
            refine wpAnyH_take (i := 7) (v := ?_) rfl (by kernel_rfl) (by kernel_rfl) (by kernel_rfl) (fun _ _ _ h => h) (Or.inl ⟨by rfl, ?_⟩) (by assumption) ?_
            rotate_left
            focus (intro w hSw; (try dsimp only at hSw); go_simp; first | done | with_reducible rfl)
            simp only [Act.put, List.getElem_toArray, List.getElem_cons_zero, List.getElem_cons_succ, List.setIfInBounds_toArray, List.set_cons_zero, List.set_cons_succ]
            refine wpAnyH_take (i := 8) (v := ?_) rfl (by kernel_rfl) (by kernel_rfl) (by kernel_rfl) (fun _ _ _ h => h) (Or.inl ⟨by rfl, ?_⟩) (by assumption) ?_
            rotate_left
            focus (intro w hSw; (try dsimp only at hSw); go_simp; first | done | with_reducible rfl)
            simp only [Act.put, List.getElem_toArray, List.getElem_cons_zero, List.getElem_cons_succ, List.setIfInBounds_toArray, List.set_cons_zero, List.set_cons_succ]
            refine wpAnyH_take (i := 9) (v := ?_) rfl (by kernel_rfl) (by kernel_rfl) (by kernel_rfl) (fun _ _ _ h => h) (Or.inl ⟨by rfl, ?_⟩) (by assumption) ?_
            rotate_left
            focus (intro w hSw; (try dsimp only at hSw); go_simp; first | done | with_reducible rfl)
            simp only [Act.put, List.getElem_toArray, List.getElem_cons_zero, List.getElem_cons_succ, List.setIfInBounds_toArray, List.set_cons_zero, List.set_cons_succ]
            refine wpAnyH_take (i := 10) (v := ?_) rfl (by kernel_rfl) (by kernel_rfl) (by kernel_rfl) (fun _ _ _ h => h) (Or.inl ⟨by rfl, ?_⟩) (by assumption) ?_
            rotate_left
            focus (intro w hSw; (try dsimp only at hSw); go_simp; first | done | with_reducible rfl)
            simp only [Act.put, List.getElem_toArray, List.getElem_cons_zero, List.getElem_cons_succ, List.setIfInBounds_toArray, List.set_cons_zero, List.set_cons_succ]
            refine wpAnyH_take (i := 11) (v := ?_) rfl (by kernel_rfl) (by kernel_rfl) (by kernel_rfl) (fun _ _ _ h => h) (Or.inl ⟨by rfl, ?_⟩) (by assumption) ?_
            rotate_left
            focus (intro w hSw; (try dsimp only at hSw); go_simp; first | done | with_reducible rfl)
            simp only [Act.put, List.getElem_toArray, List.getElem_cons_zero, List.getElem_cons_succ, List.setIfInBounds_toArray, List.set_cons_zero, List.set_cons_succ]
            refine wpAnyH_take (i := 12) (v := ?_) rfl (by kernel_rfl) (by kernel_rfl) (by kernel_rfl) (fun _ _ _ h => h) (Or.inl ⟨by rfl, ?_⟩) (by assumption) ?_
            rotate_left
            focus (intro w hSw; (try dsimp only at hSw); go_simp; first | done | with_reducible rfl)
            simp only [Act.put, List.getElem_toArray, List.getElem_cons_zero, List.getElem_cons_succ, List.setIfInBounds_toArray, List.set_cons_zero, List.set_cons_succ]
            refine wpAnyH_take (i := 13) (v := ?_) rfl (by kernel_rfl) (by kernel_rfl) (by kernel_rfl) (fun _ _ _ h => h) (Or.inl ⟨by rfl, ?_⟩) (by assumption) ?_
            rotate_left
            focus (intro w hSw; (try dsimp only at hSw); go_simp; first | done | with_reducible rfl)
            simp only [Act.put, List.getElem_toArray, List.getElem_cons_zero, List.getElem_cons_succ, List.setIfInBounds_toArray, List.set_cons_zero, List.set_cons_succ]
            refine wpAnyH_take (i := 14) (v := ?_) rfl (by kernel_rfl) (by kernel_rfl) (by kernel_rfl) (fun _ _ _ h => h) (Or.inl ⟨by rfl, ?_⟩) (by assumption) ?_
            rotate_left
            focus (intro w hSw; (try dsimp only at hSw); go_simp; first | done | with_reducible rfl)
            simp only [Act.put, List.getElem_toArray, List.getElem_cons_zero, List.getElem_cons_succ, List.setIfInBounds_toArray, List.set_cons_zero, List.set_cons_succ]
            refine wpAnyH_ready (rs := [15]) (by kernel_rfl) (by simp) ?_
            refine AllReadyH.cons (o := _) rfl (fun K hK => ?_) AllReadyH.nil
            go_simp
            with_reducible refine (word_any _ _).mono ?_
            rintro e w7 ⟨rfl, hb7d⟩
            rw [HBB.out]
            have hb7 : Below wB.heap.size wB w7 := ⟨hb7d.os, hb7d.tape, hb7d.output, hb7d.size, hb7d.block⟩
            have kC0 := (hb7.cell (p := ⟨n9, 0, none⟩) hlB).trans kB0
            have kC1 := (hb7.cell (p := ⟨n9, 1, none⟩) hlB).trans kB1
            clear hb7d
            go_simp
            refine hK.out _ _ ⟨kC0, kC1⟩ (fun hHeld => ?_)
            clear hK K
            try simp only [Act.put, List.getElem_toArray, List.getElem_cons_zero, List.getElem_cons_succ, List.setIfInBounds_toArray, List.set_cons_zero, List.set_cons_succ]
            refine wpAnyH_take (i := 16) (v := ?_) rfl (by kernel_rfl) (by kernel_rfl) (by kernel_rfl) (fun _ _ _ h => h) (Or.inl ⟨by rfl, ?_⟩) (by assumption) ?_
            rotate_left
            focus (intro w hSw; (try dsimp only at hSw); go_simp; first | done | with_reducible rfl)
            simp only [Act.put, List.getElem_toArray, List.getElem_cons_zero, List.getElem_cons_succ, List.setIfInBounds_toArray, List.set_cons_zero, List.set_cons_succ]
            refine wpAnyH_take (i := 17) (v := ?_) rfl (by kernel_rfl) (by kernel_rfl) (by kernel_rfl) (fun _ _ _ h => h) (Or.inl ⟨by rfl, ?_⟩) (by assumption) ?_
            rotate_left
            focus (intro w hSw; (try dsimp only at hSw); go_simp; first | done | with_reducible rfl)
            simp only [Act.put, List.getElem_toArray, List.getElem_cons_zero, List.getElem_cons_succ, List.setIfInBounds_toArray, List.set_cons_zero, List.set_cons_succ]
            refine wpAnyH_take (i := 18) (v := ?_) rfl (by kernel_rfl) (by kernel_rfl) (by kernel_rfl) (fun _ _ _ h => h) (Or.inl ⟨by rfl, ?_⟩) (by assumption) ?_
            rotate_left
            focus (intro w hSw; (try dsimp only at hSw); go_simp; first | done | with_reducible rfl)
            simp only [Act.put, List.getElem_toArray, List.getElem_cons_zero, List.getElem_cons_succ, List.setIfInBounds_toArray, List.set_cons_zero, List.set_cons_succ]
            refine wpAnyH_take (i := 19) (v := ?_) rfl (by kernel_rfl) (by kernel_rfl) (by kernel_rfl) (fun _ _ _ h => h) (Or.inl ⟨by rfl, ?_⟩) (by assumption) ?_
            rotate_left
            focus (intro w hSw; (try dsimp only at hSw); go_simp; first | done | with_reducible rfl)
            simp only [Act.put, List.getElem_toArray, List.getElem_cons_zero, List.getElem_cons_succ, List.setIfInBounds_toArray, List.set_cons_zero, List.set_cons_succ]
            refine wpAnyH_take (i := 20) (v := ?_) rfl (by kernel_rfl) (by kernel_rfl) (by kernel_rfl) (fun _ _ _ h => h) (Or.inl ⟨by rfl, ?_⟩) (by assumption) ?_
            rotate_left
            focus (intro w hSw; (try dsimp only at hSw); go_simp; first | done | with_reducible rfl)
            simp only [Act.put, List.getElem_toArray, List.getElem_cons_zero, List.getElem_cons_succ, List.setIfInBounds_toArray, List.set_cons_zero, List.set_cons_succ]
            refine wpAnyH_take (i := 21) (v := ?_) rfl (by kernel_rfl) (by kernel_rfl) (by kernel_rfl) (fun _ _ _ h => h) (Or.inl ⟨by rfl, ?_⟩) (by assumption) ?_
            rotate_left
            focus (intro w hSw; (try dsimp only at hSw); go_simp; first | done | with_reducible rfl)
            simp only [Act.put, List.getElem_toArray, List.getElem_cons_zero, List.getElem_cons_succ, List.setIfInBounds_toArray, List.set_cons_zero, List.set_cons_succ]
            refine wpAnyH_take (i := 22) (v := ?_) rfl (by kernel_rfl) (by kernel_rfl) (by kernel_rfl) (fun _ _ _ h => h) (Or.inl ⟨by rfl, ?_⟩) (by assumption) ?_
            rotate_left
            focus (intro w hSw; (try dsimp only at hSw); go_simp; first | done | with_reducible rfl)
            simp only [Act.put, List.getElem_toArray, List.getElem_cons_zero, List.getElem_cons_succ, List.setIfInBounds_toArray, List.set_cons_zero, List.set_cons_succ]
            refine wpAnyH_take (i := 23) (v := undef) rfl (by kernel_rfl) (by kernel_rfl) (by kernel_rfl) (fun _ _ _ h => h) (Or.inr ⟨by rfl, rfl⟩) (by assumption) ?_
            simp only [Act.put, List.getElem_toArray, List.getElem_cons_zero, List.getElem_cons_succ, List.setIfInBounds_toArray, List.set_cons_zero, List.set_cons_succ]
            refine wpAnyH_take (i := 24) (v := undef) rfl (by kernel_rfl) (by kernel_rfl) (by kernel_rfl) (fun _ _ _ h => h) (Or.inr ⟨by rfl, rfl⟩) (by assumption) ?_
            simp only [Act.put, List.getElem_toArray, List.getElem_cons_zero, List.getElem_cons_succ, List.setIfInBounds_toArray, List.set_cons_zero, List.set_cons_succ]
            refine wpAnyH_take (i := 25) (v := undef) rfl (by kernel_rfl) (by kernel_rfl) (by kernel_rfl) (fun _ _ _ h => h) (Or.inr ⟨by rfl, rfl⟩) (by assumption) ?_
            simp only [Act.put, List.getElem_toArray, List.getElem_cons_zero, List.getElem_cons_succ, List.setIfInBounds_toArray, List.set_cons_zero, List.set_cons_succ]
            refine wpAnyH_take (i := 26) (v := ?_) rfl (by kernel_rfl) (by kernel_rfl) (by kernel_rfl) (fun _ _ _ h => h) (Or.inl ⟨by rfl, ?_⟩) (by assumption) ?_
            rotate_left
            focus (intro w hSw; (try dsimp only at hSw); go_simp; first | done | with_reducible rfl)
            simp only [Act.put, List.getElem_toArray, List.getElem_cons_zero, List.getElem_cons_succ, List.setIfInBounds_toArray, List.set_cons_zero, List.set_cons_succ]
            refine wpAnyH_take (i := 27) (v := ?_) rfl (by kernel_rfl) (by kernel_rfl) (by kernel_rfl) (fun _ _ _ h => h) (Or.inl ⟨by rfl, ?_⟩) (by assumption) ?_
            rotate_left
            focus (intro w hSw; (try dsimp only at hSw); go_simp; first | done | with_reducible rfl)
            simp only [Act.put, List.getElem_toArray, List.getElem_cons_zero, List.getElem_cons_succ, List.setIfInBounds_toArray, List.set_cons_zero, List.set_cons_succ]
            refine wpAnyH_done (by kernel_rfl) ?_ _
            go_wp2
            have hbZ : Below wq.heap.size wq w7 := hbB.trans (hb7.mono hbB.size)
            clear kB0 kB1 hbB hlB hb7 hHeld
            go_loop [11] (fun i => ∃ m : Nat, i = .int .i64 m ∧ last ≤ m ∧ m ≤ p + 1 ∧ (m < p → m + skipN false (s.data.toList.drop m) = p)) (fun i => p + 1 - (intOf i).toNat)
            case atStart => exact ⟨last, rfl, by omega, by omega, fun _ => HF1.out.symm⟩
            case round =>
              obtain ⟨m, rfl, hm1, hm2, hm3⟩ := hrel
              have HM3 := Lib.hid hm3
              clear hm3
              by_cases hmp : m < p
              · have hms : m < s.size := by omega
                obtain ⟨c, r, hd, hcase⟩ := gap_step (HM3.out hmp) hmp
                have hcs : s[m] = c := by
                  have h1 := drop_bytes s m hms
                  rw [hd] at h1
                  exact (List.cons.inj h1).1.symm
                have e47 := eq_nat s[m] 47
                rcases hcase with ⟨hbl, hgo⟩ | ⟨hc47, r', hr', hr1, hr2, hr3⟩
                · have HGO := Lib.hid hgo
                  have hn47 : (s[m] == 47) = false := by
                    rw [hcs, beq_eq_false_iff_ne]
                    rintro rfl
                    revert hbl
                    decide
                  have f47 : ((s[m].toNat : Int) == 47) = false := e47.trans hn47
                  have e10 := eq_nat s[m] 10
                  have e32 := eq_nat s[m] 32
                  have e9 := eq_nat s[m] 9
                  have e13 := eq_nat s[m] 13
                  have hor : s[m] = 10 ∨ s[m] = 32 ∨ s[m] = 9 ∨ s[m] = 13 := by
                    rw [hcs]
                    unfold blank at hbl
                    simpa [or_assoc] using hbl
                  clear hgo hbl hd hn47 e47 hcs
                  rcases hor with h0 | h0 | h0 | h0
                  · have d10 : ((s[m].toNat : Int) == 10) = true := e10.trans (by rw [h0]; rfl)
                    have n10 : ((s[m].toNat : Int) != 10) = false := by rw [bne, d10]; rfl
                    have d32 : ((s[m].toNat : Int) == 32) = false := e32.trans (by rw [h0]; rfl)
                    have n32 : ((s[m].toNat : Int) != 32) = true := by rw [bne, d32]; rfl
                    have d9 : ((s[m].toNat : Int) == 9) = false := e9.trans (by rw [h0]; rfl)
                    have n9 : ((s[m].toNat : Int) != 9) = true := by rw [bne, d9]; rfl
                    have d13 : ((s[m].toNat : Int) == 13) = false := e13.trans (by rw [h0]; rfl)
                    have n13 : ((s[m].toNat : Int) != 13) = true := by rw [bne, d13]; rfl
                    clear h0 e10 e32 e9 e13
                    go_wp2
                    go_round
                    case rel => exact ⟨m + 1, by go_num, by omega, by omega, fun _ => HGO.out⟩
                    case measure => simp [intOf]; omega
                  · have d10 : ((s[m].toNat : Int) == 10) = false := e10.trans (by rw [h0]; rfl)
                    have n10 : ((s[m].toNat : Int) != 10) = true := by rw [bne, d10]; rfl
                    have d32 : ((s[m].toNat : Int) == 32) = true := e32.trans (by rw [h0]; rfl)
                    have n32 : ((s[m].toNat : Int) != 32) = false := by rw [bne, d32]; rfl
                    have d9 : ((s[m].toNat : Int) == 9) = false := e9.trans (by rw [h0]; rfl)
                    have n9 : ((s[m].toNat : Int) != 9) = true := by rw [bne, d9]; rfl
                    have d13 : ((s[m].toNat : Int) == 13) = false := e13.trans (by rw [h0]; rfl)
                    have n13 : ((s[m].toNat : Int) != 13) = true := by rw [bne, d13]; rfl
                    clear h0 e10 e32 e9 e13
                    go_wp2
                    go_round
                    case rel => exact ⟨m + 1, by go_num, by omega, by omega, fun _ => HGO.out⟩
                    case measure => simp [intOf]; omega
                  · have d10 : ((s[m].toNat : Int) == 10) = false := e10.trans (by rw [h0]; rfl)
                    have n10 : ((s[m].toNat : Int) != 10) = true := by rw [bne, d10]; rfl
                    have d32 : ((s[m].toNat : Int) == 32) = false := e32.trans (by rw [h0]; rfl)
                    have n32 : ((s[m].toNat : Int) != 32) = true := by rw [bne, d32]; rfl
                    have d9 : ((s[m].toNat : Int) == 9) = true := e9.trans (by rw [h0]; rfl)
                    have n9 : ((s[m].toNat : Int) != 9) = false := by rw [bne, d9]; rfl
                    have d13 : ((s[m].toNat : Int) == 13) = false := e13.trans (by rw [h0]; rfl)
                    have n13 : ((s[m].toNat : Int) != 13) = true := by rw [bne, d13]; rfl
                    clear h0 e10 e32 e9 e13
                    go_wp2
                    go_round
                    case rel => exact ⟨m + 1, by go_num, by omega, by omega, fun _ => HGO.out⟩
                    case measure => simp [intOf]; omega
                  · have d10 : ((s[m].toNat : Int) == 10) = false := e10.trans (by rw [h0]; rfl)
                    have n10 : ((s[m].toNat : Int) != 10) = true := by rw [bne, d10]; rfl
                    have d32 : ((s[m].toNat : Int) == 32) = false := e32.trans (by rw [h0]; rfl)
                    have n32 : ((s[m].toNat : Int) != 32) = true := by rw [bne, d32]; rfl
                    have d9 : ((s[m].toNat : Int) == 9) = false := e9.trans (by rw [h0]; rfl)
                    have n9 : ((s[m].toNat : Int) != 9) = true := by rw [bne, d9]; rfl
                    have d13 : ((s[m].toNat : Int) == 13) = true := e13.trans (by rw [h0]; rfl)
                    have n13 : ((s[m].toNat : Int) != 13) = false := by rw [bne, d13]; rfl
                    clear h0 e10 e32 e9 e13
                    go_wp2
                    go_round
                    case rel => exact ⟨m + 1, by go_num, by omega, by omega, fun _ => HGO.out⟩
                    case measure => simp [intOf]; omega
                · subst hc47
                  have hr2b : m + remN (s.data.toList.drop m) ≤ s.size := by omega
                  have f47 : ((s[m].toNat : Int) == 47) = true := e47.trans (by rw [hcs]; rfl)
                  have hm1p : m + 1 < p := by omega
                  have hm1s : m + 1 < s.size := by omega
                  have hs2 : s[m + 1] = 47 := by
                    have h1 := drop_bytes s m hms
                    have h2 := drop_bytes s (m + 1) hm1s
                    rw [hd, hr', h2] at h1
                    exact (List.cons.inj (List.cons.inj h1).2).1.symm
                  have g47 : ((s[m + 1].toNat : Int) == 47) = true := (eq_nat s[m + 1] 47).trans (by rw [hs2]; rfl)
                  obtain ⟨R, hR⟩ : ∃ R, R = remN (s.data.toList.drop m) := ⟨_, rfl⟩
                  have HR := Lib.hid hR
                  rw [← hR] at hr1 hr2 hr3 hr2b
                  have HR2 := Lib.hid hr2
                  clear hR hr2 hs2 hd hr' hcs e47
                  go_wp2
                  go_loop [11] (fun i => ∃ q : Nat, i = .int .i64 q ∧ m ≤ q ∧ q ≤ m + R) (fun i => p + 1 - (intOf i).toNat)
                  case atStart => exact ⟨m, rfl, by omega, by omega⟩
                  case round =>
                    obtain ⟨q, rfl, hq1, hq2⟩ := hrel
                    by_cases hqR : q < m + R
                    · have hqs : q < s.size := by omega
                      have hqp : q < p := by omega
                      have hne : (s[q] == 10) = false := by
                        obtain ⟨c, hc1, hc2⟩ := rem_char (l := s.data.toList) (k := m) (j := q - m) (by rw [← HR.out]; omega)
                        rw [show m + (q - m) = q from by omega, at_bytes s q hqs] at hc1
                        rw [beq_eq_false_iff_ne, Option.some.inj hc1]
                        exact hc2
                      have d10 : ((s[q].toNat : Int) == 10) = false := (eq_nat s[q] 10).trans hne
                      have n10 : ((s[q].toNat : Int) != 10) = true := by rw [bne, d10]; rfl
                      clear hne
                      go_wp2
                      go_round
                      case rel => exact ⟨q + 1, by go_num, by omega, by omega⟩
                      case measure => simp [intOf]; omega
                    · have hqe : q = m + R := by omega
                      by_cases hqp : q < p
                      · have hqs : q < s.size := by omega
                        have hte : (s[q] == 10) = true := by
                          have h1 := rem_end (l := s.data.toList) (k := m) (by rw [← HR.out]; simp; omega)
                          rw [← HR.out, ← hqe, at_bytes s q hqs] at h1
                          rw [beq_iff_eq]
                          exact Option.some.inj h1
                        have hnext : (q + 1) + skipN false (s.data.toList.drop (q + 1)) = p := by
                          have h1 := HR2.out
                          rw [← hqe, drop_bytes s q hqs, skipN, if_pos (by unfold blank; rw [hte]; rfl)] at h1
                          omega
                        have HNE := Lib.hid hnext
                        have d10 : ((s[q].toNat : Int) == 10) = true := (eq_nat s[q] 10).trans hte
                        have n10 : ((s[q].toNat : Int) != 10) = false := by rw [bne, d10]; rfl
                        clear hte hqe hnext
                        go_wp2
                        go_round
                        case rel => exact ⟨q + 1, by go_num, by omega, by omega, fun _ => HNE.out⟩
                        case measure => simp [intOf]; omega
                      · clear hqe
                        go_wp2
                        go_round
                        case rel => exact ⟨q + 1, by go_num, by omega, by omega, fun h => by omega⟩
                        case measure => simp [intOf]; omega
              · go_wp2
                go_roundw
                case rel => exact ⟨k + 1, p + T.size, by go_num, by go_num, by omega, by omega, HNX.out, hbZ⟩
                case measure => simp [intOf]; omega
          · obtain ⟨z1, z2, z3⟩ := HF7.out hk0
            have hkl : k + 1 < ts.length := by
              have := congrArg List.length HD.out
              rw [List.length_cons, List.length_drop] at this
              have h0 : 0 < (ts.drop (k + 1)).length := List.length_pos_iff.2 z3
              rw [List.length_drop] at h0
              omega
            have t1 : ((t.kind : Int) == 0) = false := by rw [beq_eq_false_iff_ne]; omega
            have t2 : ((k : Int) == (ts.length : Int) - 1) = false := by rw [beq_eq_false_iff_ne]; omega
            have t4 : ((t.kind : Int) != 0) = true := by rw [bne_iff_ne]; omega
            have t8 : T.toList.isEmpty = false := by rw [Lib.toList_data, HTT.out, str_list]; cases ht : t.text with
              | nil => exact absurd ht z1
              | cons => rfl
            have t9 : ¬ T.toList = [] := by rw [Lib.toList_data, HTT.out, str_list]; exact z1
            have t10 : (bb != bb) = false := by simp
            clear z1 z2 z3 hk0
            go_wp2
            go_quiet (fail)
            clear g1 g2 g3 g4 g5 g6 g7 g8 g9 t2 hxe hxf
            go_wp2
            generalize hwB : World.drewN (World.drewN wA _) _ = wB
            have kB0 : wB.cell? ⟨n9, 0, none⟩ = some (.int .i64 (t.kind : Int)) := by rw [← hwB]; exact k0
            have kB1 : wB.cell? ⟨n9, 1, none⟩ = some (.string T) := by rw [← hwB]; exact k1
            have hbB : Below wq.heap.size wq wB := by rw [← hwB]; exact ⟨hbX.os, hbX.tape, hbX.output, hbX.size, hbX.block⟩
            have hlB : n9 < wB.heap.size := block_lt_of_cell kB0
            clear hwB k0 k1 k2 k3 k4
            refine wp_region_held_drew (S := fun w' => w'.cell? ⟨n9, 0, none⟩ = some (.int .i64 (t.kind : Int)) ∧ w'.cell? ⟨n9, 1, none⟩ = some (.string T)) (by kernel_rfl) ?_ (fun hHeld => ?_)
            · exact ⟨kB0, kB1⟩
            refine wpAnyH_take (i := 0) (v := ?_) rfl (by kernel_rfl) (by kernel_rfl) (by kernel_rfl) (fun _ _ _ h => h) (Or.inl ⟨by rfl, ?_⟩) (by assumption) ?_
            rotate_left
            focus (intro w hSw; (try dsimp only at hSw); go_simp; first | done | with_reducible rfl)
            simp only [Act.put, List.getElem_toArray, List.getElem_cons_zero, List.setIfInBounds_toArray, List.set_cons_zero, List.set_cons_succ]
            refine wpAnyH_take (i := 1) (v := ?_) rfl (by kernel_rfl) (by kernel_rfl) (by kernel_rfl) (fun _ _ _ h => h) (Or.inl ⟨by rfl, ?_⟩) (by assumption) ?_
            rotate_left
            focus (intro w hSw; (try dsimp only at hSw); go_simp; first | done | with_reducible rfl)
            simp only [Act.put, List.getElem_toArray, List.getElem_cons_zero, List.getElem_cons_succ, List.setIfInBounds_toArray, List.set_cons_zero, List.set_cons_succ]
            refine wpAnyH_take (i := 2) (v := ?_) rfl (by kernel_rfl) (by kernel_rfl) (by kernel_rfl) (fun _ _ _ h => h) (Or.inl ⟨by rfl, ?_⟩) (by assumption) ?_
            rotate_left
            focus (intro w hSw; (try dsimp only at hSw); go_simp; first | done | with_reducible rfl)
            simp only [Act.put, List.getElem_toArray, List.getElem_cons_zero, List.getElem_cons_succ, List.setIfInBounds_toArray, List.set_cons_zero, List.set_cons_succ]
            refine wpAnyH_take (i := 3) (v := ?_) rfl (by kernel_rfl) (by kernel_rfl) (by kernel_rfl) (fun _ _ _ h => h) (Or.inl ⟨by rfl, ?_⟩) (by assumption) ?_
            rotate_left
            focus (intro w hSw; (try dsimp only at hSw); go_simp; first | done | with_reducible rfl)
            simp only [Act.put, List.getElem_toArray, List.getElem_cons_zero, List.getElem_cons_succ, List.setIfInBounds_toArray, List.set_cons_zero, List.set_cons_succ]
            refine wpAnyH_take (i := 4) (v := undef) rfl (by kernel_rfl) (by kernel_rfl) (by kernel_rfl) (fun _ _ _ h => h) (Or.inr ⟨by rfl, rfl⟩) (by assumption) ?_
            simp only [Act.put, List.getElem_toArray, List.getElem_cons_zero, List.getElem_cons_succ, List.setIfInBounds_toArray, List.set_cons_zero, List.set_cons_succ]
            refine wpAnyH_take (i := 5) (v := undef) rfl (by kernel_rfl) (by kernel_rfl) (by kernel_rfl) (fun _ _ _ h => h) (Or.inr ⟨by rfl, rfl⟩) (by assumption) ?_
            simp only [Act.put, List.getElem_toArray, List.getElem_cons_zero, List.getElem_cons_succ, List.setIfInBounds_toArray, List.set_cons_zero, List.set_cons_succ]
            refine wpAnyH_take (i := 6) (v := undef) rfl (by kernel_rfl) (by kernel_rfl) (by kernel_rfl) (fun _ _ _ h => h) (Or.inr ⟨by rfl, rfl⟩) (by assumption) ?_
            simp only [Act.put, List.getElem_toArray, List.getElem_cons_zero, List.getElem_cons_succ, List.setIfInBounds_toArray, List.set_cons_zero, List.set_cons_succ]
            refine wpAnyH_take (i := 7) (v := undef) rfl (by kernel_rfl) (by kernel_rfl) (by kernel_rfl) (fun _ _ _ h => h) (Or.inr ⟨by rfl, rfl⟩) (by assumption) ?_
            simp only [Act.put, List.getElem_toArray, List.getElem_cons_zero, List.getElem_cons_succ, List.setIfInBounds_toArray, List.set_cons_zero, List.set_cons_succ]
            refine wpAnyH_take (i := 8) (v := ?_) rfl (by kernel_rfl) (by kernel_rfl) (by kernel_rfl) (fun _ _ _ h => h) (Or.inl ⟨by rfl, ?_⟩) (by assumption) ?_
            rotate_left
            focus (intro w hSw; (try dsimp only at hSw); go_simp; first | done | with_reducible rfl)
            simp only [Act.put, List.getElem_toArray, List.getElem_cons_zero, List.getElem_cons_succ, List.setIfInBounds_toArray, List.set_cons_zero, List.set_cons_succ]
            refine wpAnyH_take (i := 9) (v := ?_) rfl (by kernel_rfl) (by kernel_rfl) (by kernel_rfl) (fun _ _ _ h => h) (Or.inl ⟨by rfl, ?_⟩) (by assumption) ?_
            rotate_left
            focus (intro w hSw; (try dsimp only at hSw); go_simp; first | done | with_reducible rfl)
            simp only [Act.put, List.getElem_toArray, List.getElem_cons_zero, List.getElem_cons_succ, List.setIfInBounds_toArray, List.set_cons_zero, List.set_cons_succ]
            refine wpAnyH_take (i := 10) (v := ?_) rfl (by kernel_rfl) (by kernel_rfl) (by kernel_rfl) (fun _ _ _ h => h) (Or.inl ⟨by rfl, ?_⟩) (by assumption) ?_
            rotate_left
            focus (intro w hSw; (try dsimp only at hSw); go_simp; first | done | with_reducible rfl)
            simp only [Act.put, List.getElem_toArray, List.getElem_cons_zero, List.getElem_cons_succ, List.setIfInBounds_toArray, List.set_cons_zero, List.set_cons_succ]
            refine wpAnyH_take (i := 11) (v := ?_) rfl (by kernel_rfl) (by kernel_rfl) (by kernel_rfl) (fun _ _ _ h => h) (Or.inl ⟨by rfl, ?_⟩) (by assumption) ?_
            rotate_left
            focus (intro w hSw; (try dsimp only at hSw); go_simp; first | done | with_reducible rfl)
            simp only [Act.put, List.getElem_toArray, List.getElem_cons_zero, List.getElem_cons_succ, List.setIfInBounds_toArray, List.set_cons_zero, List.set_cons_succ]
            refine wpAnyH_take (i := 12) (v := ?_) rfl (by kernel_rfl) (by kernel_rfl) (by kernel_rfl) (fun _ _ _ h => h) (Or.inl ⟨by rfl, ?_⟩) (by assumption) ?_
            rotate_left
            focus (intro w hSw; (try dsimp only at hSw); go_simp; first | done | with_reducible rfl)
            simp only [Act.put, List.getElem_toArray, List.getElem_cons_zero, List.getElem_cons_succ, List.setIfInBounds_toArray, List.set_cons_zero, List.set_cons_succ]
            refine wpAnyH_take (i := 13) (v := ?_) rfl (by kernel_rfl) (by kernel_rfl) (by kernel_rfl) (fun _ _ _ h => h) (Or.inl ⟨by rfl, ?_⟩) (by assumption) ?_
            rotate_left
            focus (intro w hSw; (try dsimp only at hSw); go_simp; first | done | with_reducible rfl)
            simp only [Act.put, List.getElem_toArray, List.getElem_cons_zero, List.getElem_cons_succ, List.setIfInBounds_toArray, List.set_cons_zero, List.set_cons_succ]
            refine wpAnyH_take (i := 14) (v := ?_) rfl (by kernel_rfl) (by kernel_rfl) (by kernel_rfl) (fun _ _ _ h => h) (Or.inl ⟨by rfl, ?_⟩) (by assumption) ?_
            rotate_left
            focus (intro w hSw; (try dsimp only at hSw); go_simp; first | done | with_reducible rfl)
            simp only [Act.put, List.getElem_toArray, List.getElem_cons_zero, List.getElem_cons_succ, List.setIfInBounds_toArray, List.set_cons_zero, List.set_cons_succ]
            refine wpAnyH_ready (rs := [15]) (by kernel_rfl) (by simp) ?_
            refine AllReadyH.cons (o := _) rfl (fun K hK => ?_) AllReadyH.nil
            go_simp
            with_reducible refine (word_any _ _).mono ?_
            rintro e w7 ⟨rfl, hb7d⟩
            rw [HBB.out]
            have hb7 : Below wB.heap.size wB w7 := ⟨hb7d.os, hb7d.tape, hb7d.output, hb7d.size, hb7d.block⟩
            have kC0 := (hb7.cell (p := ⟨n9, 0, none⟩) hlB).trans kB0
            have kC1 := (hb7.cell (p := ⟨n9, 1, none⟩) hlB).trans kB1
            clear hb7d
            go_simp
            refine hK.out _ _ ⟨kC0, kC1⟩ (fun hHeld => ?_)
            clear hK K
            try simp only [Act.put, List.getElem_toArray, List.getElem_cons_zero, List.getElem_cons_succ, List.setIfInBounds_toArray, List.set_cons_zero, List.set_cons_succ]
            refine wpAnyH_take (i := 16) (v := ?_) rfl (by kernel_rfl) (by kernel_rfl) (by kernel_rfl) (fun _ _ _ h => h) (Or.inl ⟨by rfl, ?_⟩) (by assumption) ?_
            rotate_left
            focus (intro w hSw; (try dsimp only at hSw); go_simp; first | done | with_reducible rfl)
            simp only [Act.put, List.getElem_toArray, List.getElem_cons_zero, List.getElem_cons_succ, List.setIfInBounds_toArray, List.set_cons_zero, List.set_cons_succ]
            refine wpAnyH_take (i := 17) (v := ?_) rfl (by kernel_rfl) (by kernel_rfl) (by kernel_rfl) (fun _ _ _ h => h) (Or.inl ⟨by rfl, ?_⟩) (by assumption) ?_
            rotate_left
            focus (intro w hSw; (try dsimp only at hSw); go_simp; first | done | with_reducible rfl)
            simp only [Act.put, List.getElem_toArray, List.getElem_cons_zero, List.getElem_cons_succ, List.setIfInBounds_toArray, List.set_cons_zero, List.set_cons_succ]
            refine wpAnyH_take (i := 18) (v := ?_) rfl (by kernel_rfl) (by kernel_rfl) (by kernel_rfl) (fun _ _ _ h => h) (Or.inl ⟨by rfl, ?_⟩) (by assumption) ?_
            rotate_left
            focus (intro w hSw; (try dsimp only at hSw); go_simp; first | done | with_reducible rfl)
            simp only [Act.put, List.getElem_toArray, List.getElem_cons_zero, List.getElem_cons_succ, List.setIfInBounds_toArray, List.set_cons_zero, List.set_cons_succ]
            refine wpAnyH_take (i := 19) (v := ?_) rfl (by kernel_rfl) (by kernel_rfl) (by kernel_rfl) (fun _ _ _ h => h) (Or.inl ⟨by rfl, ?_⟩) (by assumption) ?_
            rotate_left
            focus (intro w hSw; (try dsimp only at hSw); go_simp; first | done | with_reducible rfl)
            simp only [Act.put, List.getElem_toArray, List.getElem_cons_zero, List.getElem_cons_succ, List.setIfInBounds_toArray, List.set_cons_zero, List.set_cons_succ]
            refine wpAnyH_take (i := 20) (v := ?_) rfl (by kernel_rfl) (by kernel_rfl) (by kernel_rfl) (fun _ _ _ h => h) (Or.inl ⟨by rfl, ?_⟩) (by assumption) ?_
            rotate_left
            focus (intro w hSw; (try dsimp only at hSw); go_simp; first | done | with_reducible rfl)
            simp only [Act.put, List.getElem_toArray, List.getElem_cons_zero, List.getElem_cons_succ, List.setIfInBounds_toArray, List.set_cons_zero, List.set_cons_succ]
            refine wpAnyH_take (i := 21) (v := ?_) rfl (by kernel_rfl) (by kernel_rfl) (by kernel_rfl) (fun _ _ _ h => h) (Or.inl ⟨by rfl, ?_⟩) (by assumption) ?_
            rotate_left
            focus (intro w hSw; (try dsimp only at hSw); go_simp; first | done | with_reducible rfl)
            simp only [Act.put, List.getElem_toArray, List.getElem_cons_zero, List.getElem_cons_succ, List.setIfInBounds_toArray, List.set_cons_zero, List.set_cons_succ]
            refine wpAnyH_take (i := 22) (v := ?_) rfl (by kernel_rfl) (by kernel_rfl) (by kernel_rfl) (fun _ _ _ h => h) (Or.inl ⟨by rfl, ?_⟩) (by assumption) ?_
            rotate_left
            focus (intro w hSw; (try dsimp only at hSw); go_simp; first | done | with_reducible rfl)
            simp only [Act.put, List.getElem_toArray, List.getElem_cons_zero, List.getElem_cons_succ, List.setIfInBounds_toArray, List.set_cons_zero, List.set_cons_succ]
            refine wpAnyH_take (i := 23) (v := ?_) rfl (by kernel_rfl) (by kernel_rfl) (by kernel_rfl) (fun _ _ _ h => h) (Or.inl ⟨by rfl, ?_⟩) (by assumption) ?_
            rotate_left
            focus (intro w hSw; (try dsimp only at hSw); go_simp; first | done | with_reducible rfl)
            simp only [Act.put, List.getElem_toArray, List.getElem_cons_zero, List.getElem_cons_succ, List.setIfInBounds_toArray, List.set_cons_zero, List.set_cons_succ]
            refine wpAnyH_take (i := 24) (v := ?_) rfl (by kernel_rfl) (by kernel_rfl) (by kernel_rfl) (fun _ _ _ h => h) (Or.inl ⟨by rfl, ?_⟩) (by assumption) ?_
            rotate_left
            focus (intro w hSw; (try dsimp only at hSw); go_simp; first | done | with_reducible rfl)
            simp only [Act.put, List.getElem_toArray, List.getElem_cons_zero, List.getElem_cons_succ, List.setIfInBounds_toArray, List.set_cons_zero, List.set_cons_succ]
            refine wpAnyH_take (i := 25) (v := ?_) rfl (by kernel_rfl) (by kernel_rfl) (by kernel_rfl) (fun _ _ _ h => h) (Or.inl ⟨by rfl, ?_⟩) (by assumption) ?_
            rotate_left
            focus (intro w hSw; (try dsimp only at hSw); go_simp; first | done | with_reducible rfl)
            simp only [Act.put, List.getElem_toArray, List.getElem_cons_zero, List.getElem_cons_succ, List.setIfInBounds_toArray, List.set_cons_zero, List.set_cons_succ]
            refine wpAnyH_take (i := 26) (v := ?_) rfl (by kernel_rfl) (by kernel_rfl) (by kernel_rfl) (fun _ _ _ h => h) (Or.inl ⟨by rfl, ?_⟩) (by assumption) ?_
            rotate_left
            focus (intro w hSw; (try dsimp only at hSw); go_simp; first | done | with_reducible rfl)
            simp only [Act.put, List.getElem_toArray, List.getElem_cons_zero, List.getElem_cons_succ, List.setIfInBounds_toArray, List.set_cons_zero, List.set_cons_succ]
            refine wpAnyH_take (i := 27) (v := ?_) rfl (by kernel_rfl) (by kernel_rfl) (by kernel_rfl) (fun _ _ _ h => h) (Or.inl ⟨by rfl, ?_⟩) (by assumption) ?_
            rotate_left
            focus (intro w hSw; (try dsimp only at hSw); go_simp; first | done | with_reducible rfl)
            simp only [Act.put, List.getElem_toArray, List.getElem_cons_zero, List.getElem_cons_succ, List.setIfInBounds_toArray, List.set_cons_zero, List.set_cons_succ]
            refine wpAnyH_done (by kernel_rfl) ?_ _
            go_wp2
            have hbZ : Below wq.heap.size wq w7 := hbB.trans (hb7.mono hbB.size)
            clear kB0 kB1 hbB hlB hb7 hHeld
            go_loop [11] (fun i => ∃ m : Nat, i = .int .i64 m ∧ last ≤ m ∧ m ≤ p + 1 ∧ (m < p → m + skipN false (s.data.toList.drop m) = p)) (fun i => p + 1 - (intOf i).toNat)
            case atStart => exact ⟨last, rfl, by omega, by omega, fun _ => HF1.out.symm⟩
            case round =>
              obtain ⟨m, rfl, hm1, hm2, hm3⟩ := hrel
              have HM3 := Lib.hid hm3
              clear hm3
              by_cases hmp : m < p
              · have hms : m < s.size := by omega
                obtain ⟨c, r, hd, hcase⟩ := gap_step (HM3.out hmp) hmp
                have hcs : s[m] = c := by
                  have h1 := drop_bytes s m hms
                  rw [hd] at h1
                  exact (List.cons.inj h1).1.symm
                have e47 := eq_nat s[m] 47
                rcases hcase with ⟨hbl, hgo⟩ | ⟨hc47, r', hr', hr1, hr2, hr3⟩
                · have HGO := Lib.hid hgo
                  have hn47 : (s[m] == 47) = false := by
                    rw [hcs, beq_eq_false_iff_ne]
                    rintro rfl
                    revert hbl
                    decide
                  have f47 : ((s[m].toNat : Int) == 47) = false := e47.trans hn47
                  have e10 := eq_nat s[m] 10
                  have e32 := eq_nat s[m] 32
                  have e9 := eq_nat s[m] 9
                  have e13 := eq_nat s[m] 13
                  have hor : s[m] = 10 ∨ s[m] = 32 ∨ s[m] = 9 ∨ s[m] = 13 := by
                    rw [hcs]
                    unfold blank at hbl
                    simpa [or_assoc] using hbl
                  clear hgo hbl hd hn47 e47 hcs
                  rcases hor with h0 | h0 | h0 | h0
                  · have d10 : ((s[m].toNat : Int) == 10) = true := e10.trans (by rw [h0]; rfl)
                    have n10 : ((s[m].toNat : Int) != 10) = false := by rw [bne, d10]; rfl
                    have d32 : ((s[m].toNat : Int) == 32) = false := e32.trans (by rw [h0]; rfl)
                    have n32 : ((s[m].toNat : Int) != 32) = true := by rw [bne, d32]; rfl
                    have d9 : ((s[m].toNat : Int) == 9) = false := e9.trans (by rw [h0]; rfl)
                    have n9 : ((s[m].toNat : Int) != 9) = true := by rw [bne, d9]; rfl
                    have d13 : ((s[m].toNat : Int) == 13) = false := e13.trans (by rw [h0]; rfl)
                    have n13 : ((s[m].toNat : Int) != 13) = true := by rw [bne, d13]; rfl
                    clear h0 e10 e32 e9 e13
                    go_wp2
                    go_round
                    case rel => exact ⟨m + 1, by go_num, by omega, by omega, fun _ => HGO.out⟩
                    case measure => simp [intOf]; omega
                  · have d10 : ((s[m].toNat : Int) == 10) = false := e10.trans (by rw [h0]; rfl)
                    have n10 : ((s[m].toNat : Int) != 10) = true := by rw [bne, d10]; rfl
                    have d32 : ((s[m].toNat : Int) == 32) = true := e32.trans (by rw [h0]; rfl)
                    have n32 : ((s[m].toNat : Int) != 32) = false := by rw [bne, d32]; rfl
                    have d9 : ((s[m].toNat : Int) == 9) = false := e9.trans (by rw [h0]; rfl)
                    have n9 : ((s[m].toNat : Int) != 9) = true := by rw [bne, d9]; rfl
                    have d13 : ((s[m].toNat : Int) == 13) = false := e13.trans (by rw [h0]; rfl)
                    have n13 : ((s[m].toNat : Int) != 13) = true := by rw [bne, d13]; rfl
                    clear h0 e10 e32 e9 e13
                    go_wp2
                    go_round
                    case rel => exact ⟨m + 1, by go_num, by omega, by omega, fun _ => HGO.out⟩
                    case measure => simp [intOf]; omega
                  · have d10 : ((s[m].toNat : Int) == 10) = false := e10.trans (by rw [h0]; rfl)
                    have n10 : ((s[m].toNat : Int) != 10) = true := by rw [bne, d10]; rfl
                    have d32 : ((s[m].toNat : Int) == 32) = false := e32.trans (by rw [h0]; rfl)
                    have n32 : ((s[m].toNat : Int) != 32) = true := by rw [bne, d32]; rfl
                    have d9 : ((s[m].toNat : Int) == 9) = true := e9.trans (by rw [h0]; rfl)
                    have n9 : ((s[m].toNat : Int) != 9) = false := by rw [bne, d9]; rfl
                    have d13 : ((s[m].toNat : Int) == 13) = false := e13.trans (by rw [h0]; rfl)
                    have n13 : ((s[m].toNat : Int) != 13) = true := by rw [bne, d13]; rfl
                    clear h0 e10 e32 e9 e13
                    go_wp2
                    go_round
                    case rel => exact ⟨m + 1, by go_num, by omega, by omega, fun _ => HGO.out⟩
                    case measure => simp [intOf]; omega
                  · have d10 : ((s[m].toNat : Int) == 10) = false := e10.trans (by rw [h0]; rfl)
                    have n10 : ((s[m].toNat : Int) != 10) = true := by rw [bne, d10]; rfl
                    have d32 : ((s[m].toNat : Int) == 32) = false := e32.trans (by rw [h0]; rfl)
                    have n32 : ((s[m].toNat : Int) != 32) = true := by rw [bne, d32]; rfl
                    have d9 : ((s[m].toNat : Int) == 9) = false := e9.trans (by rw [h0]; rfl)
                    have n9 : ((s[m].toNat : Int) != 9) = true := by rw [bne, d9]; rfl
                    have d13 : ((s[m].toNat : Int) == 13) = true := e13.trans (by rw [h0]; rfl)
                    have n13 : ((s[m].toNat : Int) != 13) = false := by rw [bne, d13]; rfl
                    clear h0 e10 e32 e9 e13
                    go_wp2
                    go_round
                    case rel => exact ⟨m + 1, by go_num, by omega, by omega, fun _ => HGO.out⟩
                    case measure => simp [intOf]; omega
                · subst hc47
                  have hr2b : m + remN (s.data.toList.drop m) ≤ s.size := by omega
                  have f47 : ((s[m].toNat : Int) == 47) = true := e47.trans (by rw [hcs]; rfl)
                  have hm1p : m + 1 < p := by omega
                  have hm1s : m + 1 < s.size := by omega
                  have hs2 : s[m + 1] = 47 := by
                    have h1 := drop_bytes s m hms
                    have h2 := drop_bytes s (m + 1) hm1s
                    rw [hd, hr', h2] at h1
                    exact (List.cons.inj (List.cons.inj h1).2).1.symm
                  have g47 : ((s[m + 1].toNat : Int) == 47) = true := (eq_nat s[m + 1] 47).trans (by rw [hs2]; rfl)
                  obtain ⟨R, hR⟩ : ∃ R, R = remN (s.data.toList.drop m) := ⟨_, rfl⟩
                  have HR := Lib.hid hR
                  rw [← hR] at hr1 hr2 hr3 hr2b
                  have HR2 := Lib.hid hr2
                  clear hR hr2 hs2 hd hr' hcs e47
                  go_wp2
                  go_loop [11] (fun i => ∃ q : Nat, i = .int .i64 q ∧ m ≤ q ∧ q ≤ m + R) (fun i => p + 1 - (intOf i).toNat)
                  case atStart => exact ⟨m, rfl, by omega, by omega⟩
                  case round =>
                    obtain ⟨q, rfl, hq1, hq2⟩ := hrel
                    by_cases hqR : q < m + R
                    · have hqs : q < s.size := by omega
                      have hqp : q < p := by omega
                      have hne : (s[q] == 10) = false := by
                        obtain ⟨c, hc1, hc2⟩ := rem_char (l := s.data.toList) (k := m) (j := q - m) (by rw [← HR.out]; omega)
                        rw [show m + (q - m) = q from by omega, at_bytes s q hqs] at hc1
                        rw [beq_eq_false_iff_ne, Option.some.inj hc1]
                        exact hc2
                      have d10 : ((s[q].toNat : Int) == 10) = false := (eq_nat s[q] 10).trans hne
                      have n10 : ((s[q].toNat : Int) != 10) = true := by rw [bne, d10]; rfl
                      clear hne
                      go_wp2
                      go_round
                      case rel => exact ⟨q + 1, by go_num, by omega, by omega⟩
                      case measure => simp [intOf]; omega
                    · have hqe : q = m + R := by omega
                      by_cases hqp : q < p
                      · have hqs : q < s.size := by omega
                        have hte : (s[q] == 10) = true := by
                          have h1 := rem_end (l := s.data.toList) (k := m) (by rw [← HR.out]; simp; omega)
                          rw [← HR.out, ← hqe, at_bytes s q hqs] at h1
                          rw [beq_iff_eq]
                          exact Option.some.inj h1
                        have hnext : (q + 1) + skipN false (s.data.toList.drop (q + 1)) = p := by
                          have h1 := HR2.out
                          rw [← hqe, drop_bytes s q hqs, skipN, if_pos (by unfold blank; rw [hte]; rfl)] at h1
                          omega
                        have HNE := Lib.hid hnext
                        have d10 : ((s[q].toNat : Int) == 10) = true := (eq_nat s[q] 10).trans hte
                        have n10 : ((s[q].toNat : Int) != 10) = false := by rw [bne, d10]; rfl
                        clear hte hqe hnext
                        go_wp2
                        go_round
                        case rel => exact ⟨q + 1, by go_num, by omega, by omega, fun _ => HNE.out⟩
                        case measure => simp [intOf]; omega
                      · clear hqe
                        go_wp2
                        go_round
                        case rel => exact ⟨q + 1, by go_num, by omega, by omega, fun h => by omega⟩
                        case measure => simp [intOf]; omega
              · go_wp2
                go_roundw
                case rel => exact ⟨k + 1, p + T.size, by go_num, by go_num, by omega, by omega, HNX.out, hbZ⟩
                case measure => simp [intOf]; omega
        · go_wp2
          go_ret
          exact ⟨rfl, hbW.trans (hbr.mono hbW.size)⟩
end Go.Proofs.YtaochdmbbbighaaDoor
