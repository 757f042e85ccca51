/-
  FaceReads: the walk.
-/
import Derived.Test.YtdcbeemjdpgjmaaDoorFcReadF
import Derived.Test.YtdcbeemjdpgjmaaDoorFcApart
namespace Go.Proofs.YtdcbeemjdpgjmaaDoor.Fc
open Go.RowKit
set_option linter.unusedVariables false

set_option maxHeartbeats 400000 in
theorem read16 (s : ByteArray) (w : World) : Calls Tryd.prog 16 #[.string s] w fun e w' => e = .returned (.pointer (some ⟨w.heap.size, 0, none⟩)) ∧ w' = w.alloc (.cells #[.string s, .bool false] 90) := by
  go_enter Tryd.func16, Tryd.ntmps16
  go_wp2
  go_ret
  exact ⟨rfl, rfl⟩
theorem rat_new {q : Nat} (s : ByteArray) {w : World} (h : w.heap.size = q) : Pk.RAt q (w.alloc (.cells #[.string s, .bool false] 90)) ⟨bl s, false⟩ := by
  have := Blk.newAt h [.string s, .bool false] 90
  unfold Pk.RAt
  rw [bl_mk]
  exact this
theorem wat_mods {base bw q : Nat} {w w' : World} {bs : List UInt8} {st : Pk.St} (h : Pk.WAt base bw w bs) (hm : Mods (· = q) w w') (hr : Pk.RAt q w st) (hne : bw ≠ q) : Pk.WAt base bw w' bs := wat_keep h (fun k hk hn => hm.block k hk hn) (rat_no hr 5 (by decide)) hne
theorem good_A : goodB ⟨#[65]⟩ = true := by kernel_rfl
theorem good_a : goodB ⟨#[97]⟩ = false := by kernel_rfl
abbrev sA1 : ByteArray := ⟨#[1, 65, 1]⟩
theorem ty_A1 : rdTy 40 ⟨bl sA1, false⟩ = (⟨⟨#[65]⟩, true⟩, ⟨[], false⟩) := by
  have h : bl sA1 = tyB ⟨⟨#[65]⟩, true⟩ ++ [] := by decide
  rw [h]
  exact (cod_ty 40).back ⟨⟨#[65]⟩, true⟩ [] ⟨⟨by decide, by decide⟩, trivial⟩

set_option maxHeartbeats 4000000 in
set_option maxRecDepth 100000 in
theorem reads4 (s : ByteArray) (w : World) (hK : RdW 0 w K) : Calls Tryd.prog 4 #[.string s] w fun e w' => e = .returned (.bool true) ∧ Below w.heap.size w w' := by
  have H8 := Lib.hid (head8 w hK)
  clear hK
  by_cases hl : 500 < s.size
  · go_enter Tryd.func4, Tryd.ntmps4
    go_wp2_with (go_at_call 8; refine H8.out.mono ?_; rintro e w1 ⟨rfl, hb1⟩)
    go_ret
    exact ⟨rfl, hb1⟩
  have HSS : Hid (s.size ≤ 500) := Lib.hid (by omega)
  have HLS : Hid ((bl s).length ≤ 140737488355328) := Lib.hid (by rw [bl_len]; omega)
  have HSO := Lib.hid ((cod_fc 40 200).sound (bl s))
  go_enter Tryd.func4, Tryd.ntmps4
  go_wp2_with fail
  refine H8.out.mono ?_
  rintro e w1 ⟨rfl, hb1⟩
  have hs1 := hb1.size
  go_wp2_with fail
  refine (read16 s w1).mono ?_
  rintro e w2 ⟨rfl, hw2⟩
  have R2 : Pk.RAt w1.heap.size w2 ⟨bl s, false⟩ := by rw [hw2]; exact rat_new s rfl
  have hb2 : Below w1.heap.size w1 w2 := by rw [hw2]; exact below1 w1 _
  have hs2 : w2.heap.size = w1.heap.size + 1 := by rw [hw2]; simp
  have HS2 := Lib.hid hs2
  clear hw2 hs2
  go_wp2_with fail
  refine (read17 w1.heap.size ⟨bl s, false⟩ w2 R2 HLS.out).mono ?_
  rintro e w3 ⟨cs, rfl, hf3, hr3, hm3⟩
  have hs3 := hm3.size
  have HB3 : Hid (Below w.heap.size w w3) := Lib.hid (hb1.trans ((hb2.trans (hm3.below (fun k e => by omega) (by have := HS2.out; omega))).mono hs1))
  generalize rdFc 40 200 ⟨bl s, false⟩ = R at *
  obtain ⟨f, st⟩ := R
  dsimp only at hf3 hr3 HSO
  have HF3 := Lib.hid hf3
  obtain ⟨a1, n1, c1, a2, n2, c2, rfl, _, _⟩ := hf3
  have HR3 := Lib.hid hr3
  clear hb1 hb2 hm3 R2 hr3
  obtain ⟨W4, HW4⟩ : ∃ W4, Hid (W4 = w3.alloc (.cells #[.string f.name, .string f.sup, .slice a1 n1 c1, .slice a2 n2 c2] 25)) := ⟨_, Lib.hid rfl⟩
  have HB4 : Hid (Below w3.heap.size w3 W4) := Lib.hid (by rw [HW4.out]; exact below1 w3 _)
  have F4 : Hid (Blk W4 w3.heap.size [.string f.name, .string f.sup, .slice a1 n1 c1, .slice a2 n2 c2] 25) := Lib.hid (by rw [HW4.out]; exact Blk.new w3 [.string f.name, .string f.sup, .slice a1 n1 c1, .slice a2 n2 c2] 25)
  have R4 : Hid (Pk.RAt w1.heap.size W4 st) := Lib.hid (by rw [HW4.out]; exact rat_al HR3.out _)
  have HS4 : Hid (W4.heap.size = w3.heap.size + 1) := Lib.hid (by rw [HW4.out]; simp)
  have hbW : Below w.heap.size w W4 := HB3.out.trans (HB4.out.mono (by have := HS2.out; omega))
  go_wp2_with fail
  rw [← HW4.out]
  by_cases hd : st.bad = false ∧ st.s = []
  rotate_left
  · have hdv : Pk.rDone st = 2 := by unfold Pk.rDone; rw [if_neg hd]
    refine (Pk.done_any w1.heap.size st W4 R4.out).mono ?_
    rintro e w5 ⟨rfl, rfl⟩
    rw [hdv]
    go_wp2
    go_ret
    exact ⟨rfl, hbW⟩
  have hdv : Pk.rDone st = 0 := by unfold Pk.rDone; rw [if_pos hd]
  have HEQ : Hid (bl s = fcB f) := Lib.hid (by have := (HSO.out hd.1).1; rw [hd.2, List.append_nil] at this; exact this)
  refine (Pk.done_any w1.heap.size st W4 R4.out).mono ?_
  rintro e w5 ⟨rfl, rfl⟩
  rw [hdv]
  clear hdv hd HSO R4 HR3
  go_upto_region 10 with fail
  obtain ⟨W6, HW6⟩ : ∃ W6, Hid (W6 = W4.alloc (.cells #[.slice none 0 0] 31)) := ⟨_, Lib.hid rfl⟩
  rw [← HW6.out]
  have HB6 : Hid (Below W4.heap.size W4 W6) := Lib.hid (by rw [HW6.out]; exact below1 W4 _)
  have HS6 : Hid (W6.heap.size = W4.heap.size + 1) := Lib.hid (by rw [HW6.out]; simp)
  have A6 : Hid (Pk.WAt (W4.heap.size + 1) W4.heap.size W6 []) := Lib.hid (by rw [HW6.out]; exact Pk.WAt.new _ W4)
  have F6 := F4.out.below HB6.out
  have HB36 : Hid (Below w3.heap.size w3 W6) := Lib.hid (HB4.out.trans (HB6.out.mono (by rw [HS4.out]; omega)))
  have hbW6 : Below w.heap.size w W6 := hbW.trans (HB6.out.mono hbW.size)
  have HBW6 := Lib.hid hbW6
  have HFL : Hid ((fcB f).length ≤ 500) := Lib.hid (by rw [← HEQ.out, bl_len]; exact HSS.out)
  have p0 := F6.cell 0
  have p1 := F6.cell 1
  have p2 := F6.cell 2
  have p3 := F6.cell 3
  simp only [List.getElem?_cons_succ, List.getElem?_cons_zero] at p0 p1 p2 p3
  clear F6 hbW hbW6 F4
  go_wp2_with fail
  refine (lay12 w3 f _ HF3.out (W4.heap.size + 1) W4.heap.size [] W6 HB36.out (by rw [HS4.out]; omega) A6.out (by omega) (by rw [HS6.out]; exact Nat.le_refl _) (by have := HFL.out; simp only [List.length_nil]; omega)).mono ?_
  rintro e w7 ⟨rfl, hw7, hk7⟩
  rw [List.nil_append, ← HEQ.out] at hw7
  have hs7 := hk7.size
  have hs67 : W4.heap.size < w7.heap.size := by have := HS6.out; omega
  have HB7 : Hid (Below w.heap.size w w7) := Lib.hid (HBW6.out.trans (kp_below hk7 (by have := HS4.out; have := HS2.out; omega) (by omega)))
  have A7 := Lib.hid hw7
  clear hw7 hk7 p0 p1 p2 p3 A6 HB36 HBW6 HF3
  go_wp2_with fail
  refine (read16 sA1 w7).mono ?_
  rintro e w8 ⟨rfl, hw8⟩
  have R8 : Pk.RAt w7.heap.size w8 ⟨bl sA1, false⟩ := by rw [hw8]; exact rat_new sA1 rfl
  have A8 : Pk.WAt (W4.heap.size + 1) W4.heap.size w8 (bl s) := by rw [hw8]; exact wat_al A7.out _
  have hb8 : Below w7.heap.size w7 w8 := by rw [hw8]; exact below1 w7 _
  have HB8 : Hid (Below w.heap.size w w8) := Lib.hid (HB7.out.trans (hb8.mono HB7.out.size))
  have hs8 := hb8.size
  clear hw8 hb8 A7
  go_wp2_with fail
  refine (type20 w7.heap.size ⟨bl sA1, false⟩ w8 R8 (by decide)).mono ?_
  rintro e w9 ⟨rfl, hr9, hm9⟩
  rw [ty_A1]
  have hs9 := hm9.size
  have A9 := Lib.hid (wat_mods A8 hm9 R8 (by omega))
  have HB9 : Hid (Below w.heap.size w w9) := Lib.hid (HB8.out.trans (hm9.below (fun k e => by have := HB7.out.size; omega) HB8.out.size))
  clear hr9 hm9 A8 R8 HB8 HB7
  obtain ⟨W10, HW10⟩ : ∃ W10, Hid (W10 = w9.alloc (.cells #[.string ⟨#[65]⟩, .bool true] 45)) := ⟨_, Lib.hid rfl⟩
  have A10 : Hid (Pk.WAt (W4.heap.size + 1) W4.heap.size W10 (bl s)) := Lib.hid (by rw [HW10.out]; exact wat_al A9.out _)
  have HB10 : Hid (Below w.heap.size w W10) := Lib.hid (by rw [HW10.out]; exact HB9.out.alloc HB9.out.size _)
  have T10 : Hid (Blk W10 w9.heap.size [.string ⟨#[65]⟩, .bool true] 45) := Lib.hid (by rw [HW10.out]; exact Blk.new w9 [.string ⟨#[65]⟩, .bool true] 45)
  go_upto_region 12 with fail
  rw [← HW10.out]
  have t0 := T10.out.cell 0
  have t1 := T10.out.cell 1
  simp only [List.getElem?_cons_succ, List.getElem?_cons_zero] at t0 t1
  have hss : (s.toList == s.toList) = true := by simp
  have HG1 : Hid (∀ W, Calls Tryd.prog 21 #[.agg #[.string ⟨#[65]⟩, .bool true]] W fun e w' => e = .returned (.bool true) ∧ Below W.heap.size W w') := Lib.hid (fun W => by have := good43 ⟨#[65]⟩ true W; rwa [good_A] at this)
  have HG2 : Hid (∀ W, Calls Tryd.prog 21 #[.agg #[.string ⟨#[97]⟩, .bool false]] W fun e w' => e = .returned (.bool false) ∧ Below W.heap.size W w') := Lib.hid (fun W => by have := good43 ⟨#[97]⟩ false W; rwa [good_a] at this)
  have HST : Hid (Calls Tryd.prog 13 #[.pointer (some ⟨W4.heap.size, 0, none⟩)] W10 fun e w' => e = .returned (.string s) ∧ W10 = w') := Lib.hid (by have := Pk.string_any _ _ _ W10 A10.out; rwa [bl_mk] at this)
  clear A9 HB9 HW10 A10 T10
  go_wp2_with (go_at_call 13; refine HST.out.mono ?_; rintro e w11 ⟨rfl, rfl⟩)
  refine (HG1.out W10).mono ?_
  rintro e w12 ⟨rfl, hb12⟩
  have HB12 : Hid (Below w.heap.size w w12) := Lib.hid (HB10.out.trans (hb12.mono HB10.out.size))
  clear hb12
  go_wp2_with fail
  refine (HG2.out w12).mono ?_
  rintro e w13 ⟨rfl, hb13⟩
  have HB13 : Hid (Below w.heap.size w w13) := Lib.hid (HB12.out.trans (hb13.mono HB12.out.size))
  clear hb13
  go_wp2
  go_ret
  exact ⟨rfl, HB13.out⟩
end Go.Proofs.YtdcbeemjdpgjmaaDoor.Fc
