/-
  LexWords: the walk.
-/
import Derived.Test.YtaochdmbbbighaaDoorMarksLaw
namespace Go.Proofs.YtaochdmbbbighaaDoor
open Go.RowKit

/-- what is read of a name alone -/
def oneT (k : Nat) (l : Bs) : List (Nat × Tok) := [(0, ⟨k, l, 0⟩), (l.length, ⟨0, [], 0⟩)]
def wB (i d : Nat) : Bool := if hi : i < 21 then decide (lexF (wordsL[i]'hi) 12 0 = (oneT 1 (wordsL[i]'hi), none)) && decide (lexF ((wordsL[i]'hi) ++ [UInt8.ofNat (113 + d)]) 12 0 = (oneT (if isWd ((wordsL[i]'hi) ++ [UInt8.ofNat (113 + d)]) then 1 else 3) ((wordsL[i]'hi) ++ [UInt8.ofNat (113 + d)]), none)) && decide (lexF (88 :: (wordsL[i]'hi)) 12 0 = (oneT 2 (88 :: (wordsL[i]'hi)), none)) && decide ((wordsL[i]'hi).length < 10) else true
theorem w_all : (List.range 21).all (fun i => (List.range 8).all (fun d => wB i d)) = true := by decide +kernel
theorem w_one (i d : Nat) (hi : i < 21) (hd : d < 8) : Lx (wordsL[i]'hi) 0 (oneT 1 (wordsL[i]'hi)) none ∧ Lx ((wordsL[i]'hi) ++ [UInt8.ofNat (113 + d)]) 0 (oneT (if isWd ((wordsL[i]'hi) ++ [UInt8.ofNat (113 + d)]) then 1 else 3) ((wordsL[i]'hi) ++ [UInt8.ofNat (113 + d)])) none ∧ Lx (88 :: (wordsL[i]'hi)) 0 (oneT 2 (88 :: (wordsL[i]'hi))) none ∧ (wordsL[i]'hi).length < 10 := by
  have h := w_all
  rw [List.all_eq_true] at h
  have h1 := h i (List.mem_range.2 hi)
  rw [List.all_eq_true] at h1
  have h2 := h1 d (List.mem_range.2 hd)
  unfold wB at h2
  rw [dif_pos hi, Bool.and_eq_true, Bool.and_eq_true, Bool.and_eq_true, decide_eq_true_eq, decide_eq_true_eq, decide_eq_true_eq, decide_eq_true_eq] at h2
  obtain ⟨⟨⟨h3, h4⟩, h5⟩, h6⟩ := h2
  have g1 := Lx.fn (wordsL[i]'hi) 12 0 (by omega) (by omega)
  have g2 := Lx.fn ((wordsL[i]'hi) ++ [UInt8.ofNat (113 + d)]) 12 0 (by simp; omega) (by omega)
  have g3 := Lx.fn (88 :: (wordsL[i]'hi)) 12 0 (by simp; omega) (by omega)
  rw [h3] at g1
  rw [h4] at g2
  rw [h5] at g3
  exact ⟨g1, g2, g3, h6⟩
theorem u8_and7 (c : Int) (h0 : 0 ≤ c) (h1 : c ≤ 255) : bits .and .u8 c 7 = c % 8 := by
  have h := u8_and_nat c.toNat 7 (by omega) (by omega)
  rw [show (7 : Nat) = 2 ^ 3 - 1 from rfl, Nat.and_two_pow_sub_one_eq_mod] at h
  have e : ((c.toNat : Nat) : Int) = c := by omega
  rw [e] at h
  have h2 : bits .and .u8 c 7 = ((c.toNat % 8 : Nat) : Int) := h
  rw [h2]
  omega

theorem undrew {w w' : World} (h : Below w.drew.heap.size w.drew w') : Below w.heap.size w w' := ⟨h.os, h.tape, h.output, h.size, h.block⟩
theorem wl_at (i : Nat) (hi : i < 21) (h : i < ([Value.string { data := #[97, 115] }, Value.string { data := #[98, 111, 111, 108] }, Value.string { data := #[99, 108, 97, 115, 115] }, Value.string { data := #[101, 108, 115, 101] }, Value.string { data := #[101, 120, 116, 101, 110, 100, 115] }, Value.string { data := #[102, 97, 108, 115, 101] }, Value.string { data := #[102, 105, 101, 108, 100] }, Value.string { data := #[105, 102] }, Value.string { data := #[105, 110, 116] }, Value.string { data := #[105, 115] }, Value.string { data := #[108, 101, 110, 103, 116, 104] }, Value.string { data := #[108, 101, 116] }, Value.string { data := #[109, 101, 116, 104, 111, 100] }, Value.string { data := #[110, 101, 119] }, Value.string { data := #[110, 117, 108, 108] }, Value.string { data := #[112, 114, 105, 110, 116] }, Value.string { data := #[114, 101, 116, 117, 114, 110] }, Value.string { data := #[115, 116, 97, 116, 105, 99] }, Value.string { data := #[116, 104, 105, 115] }, Value.string { data := #[116, 114, 117, 101] }, Value.string { data := #[119, 104, 105, 108, 101] }] : List Value).length) : ([Value.string { data := #[97, 115] }, Value.string { data := #[98, 111, 111, 108] }, Value.string { data := #[99, 108, 97, 115, 115] }, Value.string { data := #[101, 108, 115, 101] }, Value.string { data := #[101, 120, 116, 101, 110, 100, 115] }, Value.string { data := #[102, 97, 108, 115, 101] }, Value.string { data := #[102, 105, 101, 108, 100] }, Value.string { data := #[105, 102] }, Value.string { data := #[105, 110, 116] }, Value.string { data := #[105, 115] }, Value.string { data := #[108, 101, 110, 103, 116, 104] }, Value.string { data := #[108, 101, 116] }, Value.string { data := #[109, 101, 116, 104, 111, 100] }, Value.string { data := #[110, 101, 119] }, Value.string { data := #[110, 117, 108, 108] }, Value.string { data := #[112, 114, 105, 110, 116] }, Value.string { data := #[114, 101, 116, 117, 114, 110] }, Value.string { data := #[115, 116, 97, 116, 105, 99] }, Value.string { data := #[116, 104, 105, 115] }, Value.string { data := #[116, 114, 117, 101] }, Value.string { data := #[119, 104, 105, 108, 101] }] : List Value)[i]'h = .string (str (wordsL[i]'hi)) := by
  have hl : i < (wordsL.map S8).length := hi
  have e : (wordsL.map S8)[i]'hl = .string (str (wordsL[i]'hi)) := by rw [List.getElem_map]; rfl
  exact e

set_option maxHeartbeats 4000000 in
set_option maxRecDepth 100000 in
theorem words_walk (n c : Int) (hc0 : 0 ≤ c) (hc1 : c ≤ 255) (w : World) (hT : Tabs w) : Calls Tryd.prog 7 #[.int .i64 n, .int .u8 c] w fun e w' => e = .returned (.bool true) ∧ Below w.heap.size w w' := by
  have h7 := u8_and7 c hc0 hc1
  obtain ⟨d, hd, hd1⟩ : ∃ d : Nat, c % 8 = (d : Int) ∧ d < 8 := ⟨(c % 8).toNat, by omega, by omega⟩
  rw [hd] at h7
  obtain ⟨i, h21, hi⟩ : ∃ i : Nat, (IntKind.u64.wrap n).tmod 21 = (i : Int) ∧ i < 21 := by
    have e : IntKind.u64.wrap n = n % 18446744073709551616 := rfl
    have h0 : 0 ≤ IntKind.u64.wrap n := by rw [e]; omega
    refine ⟨((IntKind.u64.wrap n) % 21).toNat, ?_, by omega⟩
    rw [Int.tmod_eq_emod_of_nonneg h0]
    omega
  clear hd
  go_enter Tryd.func7, Tryd.ntmps7
  go_wp2_with fail
  refine (head_any w hT).mono ?_
  rintro e w1 ⟨rfl, hb1⟩
  go_wp2_with fail
  rw [run_convert_bytes_arg (P := Tryd.prog) _ 42 5 Tryd.underlying42 Tryd.underlying5 (w1.heap.size + 1) 0 1 1 [113 + (d : Int)] rfl (by intro j hj; obtain rfl : j = 0 := by omega
                                                                                                                                          simp [go_sem]) 9 Tryd.underlying9]
  simp only [Result.andThen]
  rw [Oper.upon_value, wl_at i hi]
  have hbW : Below w.heap.size w ((w1.alloc (Obj.cells #[Value.string { data := #[97, 115] }, Value.string { data := #[98, 111, 111, 108] }, Value.string { data := #[99, 108, 97, 115, 115] }, Value.string { data := #[101, 108, 115, 101] }, Value.string { data := #[101, 120, 116, 101, 110, 100, 115] }, Value.string { data := #[102, 97, 108, 115, 101] }, Value.string { data := #[102, 105, 101, 108, 100] }, Value.string { data := #[105, 102] }, Value.string { data := #[105, 110, 116] }, Value.string { data := #[105, 115] }, Value.string { data := #[108, 101, 110, 103, 116, 104] }, Value.string { data := #[108, 101, 116] }, Value.string { data := #[109, 101, 116, 104, 111, 100] }, Value.string { data := #[110, 101, 119] }, Value.string { data := #[110, 117, 108, 108] }, Value.string { data := #[112, 114, 105, 110, 116] }, Value.string { data := #[114, 101, 116, 117, 114, 110] }, Value.string { data := #[115, 116, 97, 116, 105, 99] }, Value.string { data := #[116, 104, 105, 115] }, Value.string { data := #[116, 114, 117, 101] }, Value.string { data := #[119, 104, 105, 108, 101] }] 9)).alloc (Obj.cells #[Value.int IntKind.u8 (113 + (d : Int))] 5)) := (hb1.alloc hb1.size _).alloc (by simp; have := hb1.size; omega) _
  generalize (w1.alloc (Obj.cells #[Value.string { data := #[97, 115] }, Value.string { data := #[98, 111, 111, 108] }, Value.string { data := #[99, 108, 97, 115, 115] }, Value.string { data := #[101, 108, 115, 101] }, Value.string { data := #[101, 120, 116, 101, 110, 100, 115] }, Value.string { data := #[102, 97, 108, 115, 101] }, Value.string { data := #[102, 105, 101, 108, 100] }, Value.string { data := #[105, 102] }, Value.string { data := #[105, 110, 116] }, Value.string { data := #[105, 115] }, Value.string { data := #[108, 101, 110, 103, 116, 104] }, Value.string { data := #[108, 101, 116] }, Value.string { data := #[109, 101, 116, 104, 111, 100] }, Value.string { data := #[110, 101, 119] }, Value.string { data := #[110, 117, 108, 108] }, Value.string { data := #[112, 114, 105, 110, 116] }, Value.string { data := #[114, 101, 116, 117, 114, 110] }, Value.string { data := #[115, 116, 97, 116, 105, 99] }, Value.string { data := #[116, 104, 105, 115] }, Value.string { data := #[116, 114, 117, 101] }, Value.string { data := #[119, 104, 105, 108, 101] }] 9)).alloc (Obj.cells #[Value.int IntKind.u8 (113 + (d : Int))] 5) = w2 at hbW ⊢
  obtain ⟨X, hX⟩ : ∃ X, X = str (wordsL[i]'hi) := ⟨_, rfl⟩
  obtain ⟨Y, hY⟩ : ∃ Y, Y = strOfNums [113 + (d : Int)] := ⟨_, rfl⟩
  rw [← hX, ← hY]
  obtain ⟨g1, g2, g3, g4⟩ := w_one i d hi hd1
  have hYd : Y.data.toList = [UInt8.ofNat (113 + d)] := by
    rw [hY]
    have : d = 0 ∨ d = 1 ∨ d = 2 ∨ d = 3 ∨ d = 4 ∨ d = 5 ∨ d = 6 ∨ d = 7 := by omega
    rcases this with rfl | rfl | rfl | rfl | rfl | rfl | rfl | rfl <;> rfl
  have hXd : X.data.toList = wordsL[i]'hi := by rw [hX, str_list]
  have hXs : X.size ≤ 10 := by rw [hX, str_size]; omega
  have hYs : Y.size ≤ 10 := by
    have : Y.data.toList.length = 1 := by rw [hYd]; rfl
    simp at this
    omega
  have HX := Lib.hid hX
  have HXd := Lib.hid hXd
  have HYd := Lib.hid hYd
  have G1 := Lib.hid g1
  have G2 := Lib.hid g2
  have G3 := Lib.hid g3
  have G4 := Lib.hid g4
  have hT2 := hT.below hbW
  clear hX hY hXd hYd g1 g2 g3 g4 h7 h21
  go_wp2_with fail
  refine (all_of HXd.out (by have := G4.out; omega) hT2 G1.out).mono ?_
  rintro e w3 ⟨hb3, v3, rfl, row3⟩
  have hbW3 := hbW.trans (hb3.mono hbW.size)
  have hT3 := hT.below hbW3
  obtain ⟨s3, c3, rfl, _, l3, _, hc3⟩ := row_cells row3 (by show 0 < 2; decide)
  have p0 : w3.cell? ⟨s3, 0, none⟩ = some (.int .i64 1) := hc3 0 _ rfl
  have p1 : w3.cell? ⟨s3, 1, none⟩ = some (.string X) := by rw [HX.out]; exact hc3 1 _ rfl
  clear hc3 row3
  have e3 : (oneT 1 (wordsL[i]'hi)).length = 2 := rfl
  rw [e3]
  clear e3
  go_wp2_with fail
  obtain ⟨K2, hK2⟩ : ∃ K2, K2 = if isWd ((wordsL[i]'hi) ++ [UInt8.ofNat (113 + d)]) then 1 else 3 := ⟨_, rfl⟩
  have G2' := G2.out
  rw [← hK2] at G2'
  have HK2 := Lib.hid hK2
  clear hK2
  have hbA : Below w.heap.size w (w3.alloc (.cells #[.int .i64 0, .int .i64 0, .int .i64 0] 28)) := hbW3.alloc hbW3.size _
  refine (all_of (l := (wordsL[i]'hi) ++ [UInt8.ofNat (113 + d)]) (by rw [ByteArray.data_append, Array.toList_append, HXd.out, HYd.out]) (by have := G4.out; simp; omega) (hT.below hbA) G2').mono ?_
  rintro e w4 ⟨hb4, v4, rfl, row4⟩
  have hbW4 := hbA.trans (hb4.mono hbA.size)
  obtain ⟨s4, c4, rfl, _, l4, _, hc4⟩ := row_cells row4 (by show 0 < 2; decide)
  have q0 : w4.cell? ⟨s4, 0, none⟩ = some (.int .i64 (K2 : Int)) := hc4 0 _ rfl
  have q1 : w4.cell? ⟨s4, 1, none⟩ = some (.string (X ++ Y)) := by
    have := hc4 1 _ rfl
    rw [this]
    show some (Value.string (str _)) = _
    congr 2
    apply ByteArray.ext
    apply Array.ext'
    rw [ByteArray.data_append, Array.toList_append, HXd.out, HYd.out]
    rfl
  clear hc4 row4 G2'
  have e4 : (oneT K2 ((wordsL[i]'hi) ++ [UInt8.ofNat (113 + d)])).length = 2 := rfl
  rw [e4]
  clear e4
  go_wp2_with fail
  have hbB : Below w.heap.size w (w4.alloc (.cells #[.int .i64 0, .int .i64 0, .int .i64 0] 28)) := hbW4.alloc hbW4.size _
  refine (all_of (l := 88 :: (wordsL[i]'hi)) (by rw [ByteArray.data_append, Array.toList_append, HXd.out]; rfl) (by have := G4.out; simp; omega) (hT.below hbB) G3.out).mono ?_
  rintro e w5 ⟨hb5, v5, rfl, row5⟩
  have hbW5 := hbB.trans (hb5.mono hbB.size)
  obtain ⟨s5, c5, rfl, _, l5, _, hc5⟩ := row_cells row5 (by show 0 < 2; decide)
  have r0 : w5.cell? ⟨s5, 0, none⟩ = some (.int .i64 2) := hc5 0 _ rfl
  clear hc5 row5
  have e5 : (oneT 2 (88 :: (wordsL[i]'hi))).length = 2 := rfl
  rw [e5]
  clear e5
  go_wp2_with fail
  have F3 : (w3.alloc (.cells #[.int .i64 0, .int .i64 0, .int .i64 0] 28)).cell? ⟨w3.heap.size, 0, none⟩ = some (.int .i64 0) := by simp [go_sem]
  have F4 : (w4.alloc (.cells #[.int .i64 0, .int .i64 0, .int .i64 0] 28)).cell? ⟨w4.heap.size, 0, none⟩ = some (.int .i64 0) := by simp [go_sem]
  have F5 : (w5.alloc (.cells #[.int .i64 0, .int .i64 0, .int .i64 0] 28)).cell? ⟨w5.heap.size, 0, none⟩ = some (.int .i64 0) := by simp [go_sem]
  have z34 : w3.heap.size < w4.heap.size := by have := hb4.size; simp at this; omega
  have z45 : w4.heap.size < w5.heap.size := by have := hb5.size; simp at this; omega
  have m34 : Below w3.heap.size w3 w4 := ((Below.refl _ _).alloc (Nat.le_refl _) _).trans (hb4.mono (by simp))
  have m45 : Below w4.heap.size w4 w5 := ((Below.refl _ _).alloc (Nat.le_refl _) _).trans (hb5.mono (by simp))
  have m56 : Below w5.heap.size w5 (w5.alloc (.cells #[.int .i64 0, .int .i64 0, .int .i64 0] 28)) := (Below.refl _ _).alloc (Nat.le_refl _) _
  have hbC := hbW5.alloc hbW5.size (.cells #[.int .i64 0, .int .i64 0, .int .i64 0] 28)
  have hz6 : w5.heap.size < (w5.alloc (.cells #[.int .i64 0, .int .i64 0, .int .i64 0] 28)).heap.size := by simp
  have u3 : w4.cell? ⟨w3.heap.size, 0, none⟩ = some (.int .i64 0) := (hb4.cell (p := ⟨w3.heap.size, 0, none⟩) (by simp)).trans F3
  have u4 : w5.cell? ⟨w4.heap.size, 0, none⟩ = some (.int .i64 0) := (hb5.cell (p := ⟨w4.heap.size, 0, none⟩) (by simp)).trans F4
  generalize w5.alloc (.cells #[.int .i64 0, .int .i64 0, .int .i64 0] 28) = w6 at F5 m56 hbC hz6 ⊢
  obtain ⟨Z, hZ⟩ : ∃ Z, Z = X ++ Y := ⟨_, rfl⟩
  rw [← hZ] at q1 ⊢
  have HWD : Hid (isWd Z.data.toList = isWd ((wordsL[i]'hi) ++ [UInt8.ofNat (113 + d)])) := Lib.hid (by rw [hZ, ByteArray.data_append, Array.toList_append, HXd.out, HYd.out])
  clear hZ
  have m46 := m45.trans (m56.mono (by omega))
  have m36 := m34.trans (m46.mono (by omega))
  have HK : Hid (∀ w', Below w6.heap.size w6 w' → w'.cell? ⟨w3.heap.size, 0, none⟩ = some (.int .i64 0) ∧ w'.cell? ⟨w4.heap.size, 0, none⟩ = some (.int .i64 0) ∧ w'.cell? ⟨w5.heap.size, 0, none⟩ = some (.int .i64 0) ∧ w'.cell? ⟨s3, 0, none⟩ = some (.int .i64 1) ∧ w'.cell? ⟨s3, 1, none⟩ = some (.string X) ∧ w'.cell? ⟨s4, 0, none⟩ = some (.int .i64 (K2 : Int)) ∧ w'.cell? ⟨s4, 1, none⟩ = some (.string Z) ∧ w'.cell? ⟨s5, 0, none⟩ = some (.int .i64 2)) := Lib.hid (fun w' hb => by
    have t5 : Below w5.heap.size w5 w' := m56.trans (hb.mono (by omega))
    have t4 : Below w4.heap.size w4 w' := m46.trans (hb.mono (by omega))
    have t3 : Below w3.heap.size w3 w' := m36.trans (hb.mono (by omega))
    exact ⟨(t4.cell (p := ⟨w3.heap.size, 0, none⟩) z34).trans u3, (t5.cell (p := ⟨w4.heap.size, 0, none⟩) z45).trans u4, (hb.cell (p := ⟨w5.heap.size, 0, none⟩) hz6).trans F5, (t3.cell (p := ⟨s3, 0, none⟩) l3).trans p0, (t3.cell (p := ⟨s3, 1, none⟩) l3).trans p1, (t4.cell (p := ⟨s4, 0, none⟩) l4).trans q0, (t4.cell (p := ⟨s4, 1, none⟩) l4).trans q1, (t5.cell (p := ⟨s5, 0, none⟩) l5).trans r0⟩)
  generalize w3.heap.size = n3 at HK ⊢
  generalize w4.heap.size = n4 at HK ⊢
  generalize w5.heap.size = n5 at HK ⊢
  clear p0 p1 q0 q1 r0 u3 u4 F3 F4 F5 m34 m45 m56 m46 m36 z34 z45 hz6 l3 l4 l5 hbA hbB hb4 hb5 hbW hbW3 hbW4 hbW5 hT2 hT3 hb3 hb1 G1 G2 G3 HXd HYd HX
  generalize hKI : (K2 : Int) = KI at HK ⊢
  have hxx : (X.toList == X.toList) = true := by simp
  have hzz : (Z.toList == Z.toList) = true := by simp
  by_cases hwd : isWd ((wordsL[i]'hi) ++ [UInt8.ofNat (113 + d)]) = true
  · have hk : KI = 1 := by rw [← hKI, HK2.out, if_pos hwd]; rfl
    clear hKI
    subst hk
    rw [hwd] at HWD
    obtain ⟨c1, c2, c3', c4', c5', c6, c7, c8⟩ := HK.out w6 (Below.refl _ _)
    go_region_held3 (fun w' => w'.cell? ⟨n3, 0, none⟩ = some (.int .i64 0) ∧ w'.cell? ⟨n4, 0, none⟩ = some (.int .i64 0) ∧ w'.cell? ⟨n5, 0, none⟩ = some (.int .i64 0) ∧ w'.cell? ⟨s3, 0, none⟩ = some (.int .i64 1) ∧ w'.cell? ⟨s3, 1, none⟩ = some (.string X) ∧ w'.cell? ⟨s4, 0, none⟩ = some (.int .i64 1) ∧ w'.cell? ⟨s4, 1, none⟩ = some (.string Z) ∧ w'.cell? ⟨s5, 0, none⟩ = some (.int .i64 2))
      (first | go_keep | exact HK.out _ hb7)
      (first | ((with_reducible refine (word_any _ _).mono ?_); rintro e w7 ⟨rfl, hb7d⟩; rw [HWD.out]; have hb7 := undrew hb7d; clear hb7d))
    go_wp2
    go_ret
    exact ⟨rfl, hbC.trans (hb7.mono hbC.size)⟩
  · have hk : KI = 3 := by rw [← hKI, HK2.out, if_neg hwd]; rfl
    clear hKI
    have hwd := Bool.eq_false_iff.2 hwd
    subst hk
    rw [hwd] at HWD
    obtain ⟨c1, c2, c3', c4', c5', c6, c7, c8⟩ := HK.out w6 (Below.refl _ _)
    go_region_held3 (fun w' => w'.cell? ⟨n3, 0, none⟩ = some (.int .i64 0) ∧ w'.cell? ⟨n4, 0, none⟩ = some (.int .i64 0) ∧ w'.cell? ⟨n5, 0, none⟩ = some (.int .i64 0) ∧ w'.cell? ⟨s3, 0, none⟩ = some (.int .i64 1) ∧ w'.cell? ⟨s3, 1, none⟩ = some (.string X) ∧ w'.cell? ⟨s4, 0, none⟩ = some (.int .i64 3) ∧ w'.cell? ⟨s4, 1, none⟩ = some (.string Z) ∧ w'.cell? ⟨s5, 0, none⟩ = some (.int .i64 2))
      (first | go_keep | exact HK.out _ hb7)
      (first | ((with_reducible refine (word_any _ _).mono ?_); rintro e w7 ⟨rfl, hb7d⟩; rw [HWD.out]; have hb7 := undrew hb7d; clear hb7d))
    go_wp2
    go_ret
    exact ⟨rfl, hbC.trans (hb7.mono hbC.size)⟩
end Go.Proofs.YtaochdmbbbighaaDoor
