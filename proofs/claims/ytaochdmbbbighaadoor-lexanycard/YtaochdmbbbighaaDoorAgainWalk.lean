/-
  LexAgain: the walk.
-/
import Derived.Test.YtaochdmbbbighaaDoorHead
import Derived.Test.YtaochdmbbbighaaDoorPlain
namespace Go.Proofs.YtaochdmbbbighaaDoor
open Go.RowKit

theorem tcells_len (l : Bs) (x : Nat × Tok) : (tcells l x).length = 5 := rfl
theorem flat_at (l : Bs) (ts : List (Nat × Tok)) (k i : Nat) (hk : k < ts.length) (hi : i < 5) : (ts.flatMap (tcells l))[k * 5 + i]? = (tcells l ts[k])[i]? := by
  induction ts generalizing k with
  | nil => simp at hk
  | cons x ts ih =>
    rw [List.flatMap_cons]
    cases k with
    | zero =>
      rw [List.getElem?_append_left (by rw [tcells_len]; omega)]
      simp
    | succ k =>
      rw [List.getElem?_append_right (by rw [tcells_len]; omega), tcells_len, show (k + 1) * 5 + i - 5 = k * 5 + i from by omega, ih k (by simpa using hk)]
      rfl
/-- a told row of tokens in block g -/
def TAt (w : World) (g : Nat) (l : Bs) (ts : List (Nat × Tok)) : Prop := g < w.heap.size ∧ ∀ (j : Nat) u, (ts.flatMap (tcells l))[j]? = some u → w.cell? ⟨g, j, none⟩ = some u
theorem TAt.keep {w w' : World} {g : Nat} {l : Bs} {ts : List (Nat × Tok)} (h : TAt w g l ts) (hb : Below w.heap.size w w') : TAt w' g l ts := ⟨Nat.lt_of_lt_of_le h.1 hb.size, fun j u hu => (hb.cell (p := ⟨g, j, none⟩) h.1).trans (h.2 j u hu)⟩
theorem TAt.cells {w : World} {g : Nat} {l : Bs} {ts : List (Nat × Tok)} (h : TAt w g l ts) (k : Nat) (hk : k < ts.length) :
    w.cell? ⟨g, k * 5, none⟩ = some (.int .i64 (ts[k].2.kind : Int)) ∧ w.cell? ⟨g, k * 5 + 1, none⟩ = some (.string (str ts[k].2.text)) ∧ w.cell? ⟨g, k * 5 + 2, none⟩ = some (.int .i64 (ts[k].2.num : Int)) ∧
    w.cell? ⟨g, k * 5 + 3, none⟩ = some (.int .i64 (posL l ts[k].1 : Int)) ∧ w.cell? ⟨g, k * 5 + 4, none⟩ = some (.int .i64 (posC l ts[k].1 : Int)) :=
  ⟨h.2 (k * 5) _ (by have := flat_at l ts k 0 hk (by omega); rwa [Nat.add_zero] at this), h.2 _ _ (flat_at l ts k 1 hk (by omega)), h.2 _ _ (flat_at l ts k 2 hk (by omega)), h.2 _ _ (flat_at l ts k 3 hk (by omega)), h.2 _ _ (flat_at l ts k 4 hk (by omega))⟩
theorem row_tat {w : World} {base n : Nat} {v : Value} {l : Bs} {ts : List (Nat × Tok)} (h : w.ownsRow base 34 5 v n (ts.flatMap (tcells l))) (hn : 0 < n) : ∃ g cap, v = .slice (some ⟨g, 0, none⟩) n cap ∧ n ≤ cap ∧ TAt w g l ts := by
  obtain ⟨g, cap, e, _, h2, h3, h4⟩ := row_cells h hn
  exact ⟨g, cap, e, h3, h2, h4⟩
theorem Lx.pos {l : Bs} {o : Nat} {ts : List (Nat × Tok)} (h : Lx l o ts none) : 0 < ts.length := by
  cases h <;> simp

set_option maxHeartbeats 400000 in
theorem again_long (s : ByteArray) (w : World) (hT : Tabs w) (h : 500 < s.size) : Calls Tryd.prog 5 #[.string s] w fun e w' => e = .returned (.bool true) ∧ Below w.heap.size w w' := by
  go_enter Tryd.func5, Tryd.ntmps5
  go_wp2_with (go_at_call 9; refine (head_any w hT).mono ?_; rintro e w1 ⟨rfl, hb1⟩)
  go_ret
  exact ⟨rfl, hb1⟩
set_option maxHeartbeats 400000 in
theorem again_bad (s : ByteArray) (w : World) (hT : Tabs w) (h : ¬ 500 < s.size) (ts : List (Nat × Tok)) (er p : Nat) (he : er ≠ 0) (hL : Lx s.data.toList 0 ts (some (er, p))) : Calls Tryd.prog 5 #[.string s] w fun e w' => e = .returned (.bool true) ∧ Below w.heap.size w w' := by
  have he1 : ((er : Int) != 0) = true := by rw [bne_iff_ne]; omega
  have he2 : ¬ (er : Int) = 0 := by omega
  have HL := Lib.hid hL
  clear hL
  go_enter Tryd.func5, Tryd.ntmps5
  go_wp2_with fail
  refine (head_any w hT).mono ?_
  rintro e w1 ⟨rfl, hb1⟩
  go_wp2_with fail
  refine (all_of rfl (by simp; omega) (hT.below hb1) HL.out).mono ?_
  rintro e w2 ⟨hb2, rfl⟩
  go_wp2
  go_ret
  exact ⟨rfl, (hb1.trans (hb2.mono hb1.size)).alloc (Nat.le_trans hb1.size hb2.size) _⟩

theorem again_snoc (ts : List (Nat × Tok)) (k : Nat) (h : k < ts.length) : againL (ts.take (k + 1)) = againL (ts.take k) ++ (ts[k].2.text ++ [32]) := by
  unfold againL
  rw [List.take_succ_eq_append_getElem h, List.flatMap_append, List.flatMap_singleton]
theorem again_take (ts : List (Nat × Tok)) (k : Nat) : (againL (ts.take k)).length ≤ (againL ts).length := by
  conv => rhs; rw [← List.take_append_drop k ts]
  unfold againL
  rw [List.flatMap_append, List.length_append]
  omega
theorem size_list (B : ByteArray) : B.size = B.data.toList.length := by simp

set_option maxHeartbeats 1000000 in
set_option maxRecDepth 100000 in
theorem again_good (s : ByteArray) (w : World) (hT : Tabs w) (h : ¬ 500 < s.size) (ts : List (Nat × Tok)) (hL : Lx s.data.toList 0 ts none) : Calls Tryd.prog 5 #[.string s] w fun e w' => e = .returned (.bool true) ∧ Below w.heap.size w w' := by
  have hpos := hL.pos
  have hlen : ts.length ≤ 501 := by have := hL.len (Nat.zero_le _); simp at this; omega
  have halen : (againL ts).length ≤ 1001 := by have := again_len hL (Nat.zero_le _); simp at this; omega
  have HL := Lib.hid hL
  have HAL := Lib.hid halen
  clear hL halen
  go_enter Tryd.func5, Tryd.ntmps5
  go_wp2_with fail
  refine (head_any w hT).mono ?_
  rintro e w1 ⟨rfl, hb1⟩
  go_wp2_with fail
  refine (all_of rfl (by simp; omega) (hT.below hb1) HL.out).mono ?_
  rintro e w2 ⟨hb2, v2, rfl, row2⟩
  obtain ⟨g, cap, rfl, hcap, hat⟩ := row_tat row2 hpos
  have HAT := Lib.hid hat
  clear row2 hat
  go_wp2
  have hbA : Below w.heap.size w (w2.alloc (.cells #[.int .i64 0, .int .i64 0, .int .i64 0] 28)) := (hb1.trans (hb2.mono hb1.size)).alloc (Nat.le_trans hb1.size hb2.size) _
  have HA2 := Lib.hid (HAT.out.keep ((Below.refl w2.heap.size w2).alloc (Nat.le_refl _) (.cells #[.int .i64 0, .int .i64 0, .int .i64 0] 28)))
  generalize w2.alloc (.cells #[.int .i64 0, .int .i64 0, .int .i64 0] 28) = w3 at hbA HA2 ⊢
  clear hb2 HAT
  go_loopw [5, 26] (fun t i wr => ∃ k : Nat, ∃ B : ByteArray, i = .int .i64 k ∧ k ≤ ts.length ∧ t = .string B ∧ B.data.toList = againL (ts.take k) ∧ Below w3.heap.size w3 wr) (fun _ i _ => ts.length - (intOf i).toNat)
  case atStart => exact ⟨0, ⟨#[]⟩, rfl, by omega, rfl, rfl, Below.refl _ _⟩
  case round =>
    obtain ⟨k, B, rfl, hk, rfl, hB, hbr⟩ := hrel
    have HB := Lib.hid hB
    clear hB
    by_cases hlt : k < ts.length
    · have hsn := again_snoc ts k hlt
      have hbd := again_take ts (k + 1)
      rw [hsn] at hbd
      rw [List.length_append, List.length_append] at hbd
      have hBT : B.size + (str ts[k].2.text).size ≤ 1001 := by
        have := HAL.out
        rw [size_list, HB.out, str_size]
        simp at hbd
        omega
      obtain ⟨k0, k1, k2, k3, k4⟩ := (HA2.out.keep hbr).cells k hlt
      have HSN := Lib.hid hsn
      clear hsn hbd
      obtain ⟨T, hT⟩ : ∃ T, T = str ts[k].2.text := ⟨_, rfl⟩
      rw [← hT] at k1 hBT
      have HT := Lib.hid hT
      clear hT
      go_wp2
      go_roundw
      case rel =>
        refine ⟨k + 1, B ++ T ++ ⟨#[32]⟩, by go_num, by omega, rfl, ?_, hbr.alloc hbr.size _⟩
        rw [HSN.out, ByteArray.data_append, ByteArray.data_append, Array.toList_append, Array.toList_append, HB.out, HT.out, str_list, List.append_assoc]
      case measure => simp [intOf]; omega
    · obtain rfl : k = ts.length := by omega
      rw [List.take_length] at HB
      obtain ⟨ts', hl1, hl2⟩ := again_lx HL.out rfl []
      rw [List.nil_append] at hl1
      have hlen2 : ts'.length = ts.length := by have := congrArg List.length hl2; simpa using this
      have hbR := hbA.trans (hbr.mono hbA.size)
      have HL1 := Lib.hid hl1
      have HL2 := Lib.hid hl2
      clear hl1 hl2
      go_wp2_with fail
      refine (all_of HB.out (by have := HAL.out; omega) (hT.below hbR) HL1.out).mono ?_
      rintro e w4 ⟨hb4, v4, rfl, row4⟩
      rw [hlen2] at row4
      obtain ⟨g4, cap4, rfl, hcap4, hat4⟩ := row_tat row4 hpos
      go_wp2
      have hbB : Below w.heap.size w (w4.alloc (.cells #[.int .i64 0, .int .i64 0, .int .i64 0] 28)) := (hbR.trans (hb4.mono hbR.size)).alloc (Nat.le_trans hbR.size hb4.size) _
      have HA4 := Lib.hid (hat4.keep ((Below.refl w4.heap.size w4).alloc (Nat.le_refl _) (.cells #[.int .i64 0, .int .i64 0, .int .i64 0] 28)))
      have HA5 := Lib.hid (((HA2.out.keep hbr).keep hb4).keep ((Below.refl w4.heap.size w4).alloc (Nat.le_refl _) (.cells #[.int .i64 0, .int .i64 0, .int .i64 0] 28)))
      generalize w4.alloc (.cells #[.int .i64 0, .int .i64 0, .int .i64 0] 28) = w5 at hbB HA4 HA5 ⊢
      clear row4 hat4 hb4 hbR hbr HA2 HB
      clear hcap hcap4
      go_loopw [53] (fun i wr => ∃ k : Nat, i = .int .i64 k ∧ k ≤ ts.length ∧ Mods (fun _ => False) w5 wr) (fun i _ => ts.length - (intOf i).toNat)
      case atStart => exact ⟨0, rfl, by omega, Mods.refl _ _⟩
      case round =>
        obtain ⟨k, rfl, hk2, hmr⟩ := hrel
        by_cases hlt : k < ts.length
        · have hlt2 : k < ts'.length := by omega
          obtain ⟨a0, a1, a2, x3, x4⟩ := (HA5.out.keep (hmr.below (fun _ e => e.elim) (Nat.le_refl _))).cells k hlt
          obtain ⟨b0, b1, b2, y3, y4⟩ := (HA4.out.keep (hmr.below (fun _ e => e.elim) (Nat.le_refl _))).cells k hlt2
          have hee : ts'[k].2 = ts[k].2 := by
            have h1 := congrArg (·[k]?) HL2.out
            simp only [List.getElem?_map, List.getElem?_eq_getElem hlt, List.getElem?_eq_getElem hlt2, Option.map_some, Option.some.injEq] at h1
            exact h1
          rw [hee] at b0 b1 b2
          generalize (ts[k].2.kind : Int) = kk at a0 b0
          generalize (ts[k].2.num : Int) = nn at a2 b2
          generalize str ts[k].2.text = T at a1 b1
          have hk0 : (k : Int) < (ts.length : Int) := by omega
          have t1 : (kk != kk) = false := by simp
          have t2 : (nn != nn) = false := by simp
          have t3 : (T.toList != T.toList) = false := by simp
          clear hee x3 x4 y3 y4 hlt2
          go_wp2
          go_quiet (fail)
          go_wp2
          go_roundw
          case rel => exact ⟨k + 1, by go_num, by omega, hmr.drewN _⟩
          case measure => simp [intOf]; omega
        · go_wp2
          go_ret
          exact ⟨rfl, hbB.trans (hmr.below (fun _ e => e.elim) hbB.size)⟩
end Go.Proofs.YtaochdmbbbighaaDoor
