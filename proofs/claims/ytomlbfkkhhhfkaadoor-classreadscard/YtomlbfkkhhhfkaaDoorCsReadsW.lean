/-
  Whatever bytes: a file that is right, just so, or none.
-/
import Derived.Test.YtomlbfkkhhhfkaaDoorCsUnq
namespace Go.Proofs.YtomlbfkkhhhfkaaDoor.Fc
open Go.RowKit
set_option linter.unusedVariables false

set_option maxHeartbeats 4000000 in
set_option maxRecDepth 100000 in
theorem reads4 (s : List UInt8) (w : World) (hT : TabR w) :
    Calls Tryd.prog 4 #[.string ⟨s.toArray⟩] w fun e w' => e = .returned (.bool true) ∧ Below w.heap.size w w' := by
  have HT := Lib.hid hT
  clear hT
  go_enter Tryd.func4, Tryd.ntmps4
  go_wp2_with fail
  refine (head9 w).mono ?_
  rintro e w1 ⟨rfl, hb1⟩
  have HB1 := Lib.hid hb1
  clear hb1
  by_cases hbig : 1500 < s.length
  · have d1 : decide ((1500 : Int) < (s.length : Int)) = true := decide_eq_true (by omega)
    go_wp2_with fail
    all_goals first | (exfalso; omega) | skip
    exact bodyPost_ret (v := .bool true) (by simp [results, Tryd.results4, go_sem]) rfl ⟨rfl, HB1.out⟩
  have d1 : decide ((1500 : Int) < (s.length : Int)) = false := decide_eq_false (by omega)
  go_wp2_with fail
  all_goals first | (exfalso; omega) | skip
  refine (decode14 s w1 (by omega) (HT.out.below HB1.out)).mono ?_
  rintro e w2 ⟨hv, hb2⟩
  have HB2 : Hid (Below w.heap.size w w2) := Lib.hid (HB1.out.trans (hb2.mono HB1.out.size))
  clear hb2
  rcases hv with ⟨⟨fl, ⟨a1, n1, c1⟩, ⟨a2, n2, c2⟩, ⟨a3, n3, c3⟩, ⟨a4, n4, c4⟩, ⟨a5, n5, c5⟩, ⟨a6, n6, c6⟩, ⟨a7, n7, c7⟩, ⟨a8, n8, c8⟩⟩, he, hx, hok, hfo⟩ | ⟨rfl, hno⟩
  · have he' : e = .returned (.tuple #[.agg #[.string fl.fc.name, .string fl.fc.sup, .slice a1 n1 c1, .slice a2 n2 c2, .slice a3 n3 c3, .slice a4 n4 c4, .slice a5 n5 c5, .slice a6 n6 c6, .slice a7 n7 c7, .slice a8 n8 c8], .int .i64 0]) := he
    subst he'
    clear he
    have HX : Hid (fl = (rdFl ⟨s, false⟩).1) := Lib.hid hx
    have HOK := Lib.hid hok
    have HRF : Hid (RightF fl) := Lib.hid (by rw [HX.out]; exact HOK.out.1)
    have HQ : Hid (flB fl = s) := Lib.hid (by rw [HX.out]; exact HOK.out.2)
    obtain ⟨w3, HW3⟩ : ∃ W, Hid (W = w2.alloc (.cells #[.string fl.fc.name, .string fl.fc.sup, .slice a1 n1 c1, .slice a2 n2 c2, .slice a3 n3 c3, .slice a4 n4 c4, .slice a5 n5 c5, .slice a6 n6 c6, .slice a7 n7 c7, .slice a8 n8 c8] 35)) := ⟨_, Lib.hid rfl⟩
    have X3 : Hid (Blk w3 w2.heap.size [.string fl.fc.name, .string fl.fc.sup, .slice a1 n1 c1, .slice a2 n2 c2, .slice a3 n3 c3, .slice a4 n4 c4, .slice a5 n5 c5, .slice a6 n6 c6, .slice a7 n7 c7, .slice a8 n8 c8] 35) := Lib.hid (by rw [HW3.out]; exact Blk.new w2 _ 35)
    have HF3 : Hid (FlR w3 fl [.string fl.fc.name, .string fl.fc.sup, .slice a1 n1 c1, .slice a2 n2 c2, .slice a3 n3 c3, .slice a4 n4 c4, .slice a5 n5 c5, .slice a6 n6 c6, .slice a7 n7 c7, .slice a8 n8 c8]) := Lib.hid (by rw [HW3.out]; exact (hfo.flr).keep (Keeps.of_below (below1 w2 _)))
    have HB3 : Hid (Below w.heap.size w w3) := Lib.hid (by rw [HW3.out]; exact bl_al' HB2.out)
    have HE := Lib.hid (encode13 fl [.string fl.fc.name, .string fl.fc.sup, .slice a1 n1 c1, .slice a2 n2 c2, .slice a3 n3 c3, .slice a4 n4 c4, .slice a5 n5 c5, .slice a6 n6 c6, .slice a7 n7 c7, .slice a8 n8 c8] w3 HF3.out (HT.out.below HB3.out) (by rw [HX.out]; exact rdfl_ok _))
    obtain ⟨FB, HFB⟩ : ∃ b, Hid (b = w2.heap.size) := ⟨_, Lib.hid rfl⟩
    rw [← HFB.out] at X3
    clear hx hok hfo
    go_upto_region 6 with fail
    rw [← HW3.out, ← HFB.out]
    clear HW3 HFB HB2
    have XX := X3.out
    have q0 := XX.cell 0
    have q1 := XX.cell 1
    have q2 := XX.cell 2
    have q3 := XX.cell 3
    have q4 := XX.cell 4
    have q5 := XX.cell 5
    have q6 := XX.cell 6
    have q7 := XX.cell 7
    have q8 := XX.cell 8
    have q9 := XX.cell 9
    simp only [List.getElem?_cons_succ, List.getElem?_cons_zero] at q0 q1 q2 q3 q4 q5 q6 q7 q8 q9
    clear XX
    go_wp2_with fail
    refine HE.out.mono ?_
    rintro e w4 ⟨hv, hb4⟩
    have HB4 : Hid (Below w.heap.size w w4) := Lib.hid (HB3.out.trans (hb4.mono HB3.out.size))
    have X4 := Lib.hid (X3.out.below hb4)
    have HF4 : Hid (FlR w4 fl [.string fl.fc.name, .string fl.fc.sup, .slice a1 n1 c1, .slice a2 n2 c2, .slice a3 n3 c3, .slice a4 n4 c4, .slice a5 n5 c5, .slice a6 n6 c6, .slice a7 n7 c7, .slice a8 n8 c8]) := Lib.hid (HF3.out.keep (Keeps.of_below hb4))
    clear hb4 HE X3 HF3 HB3 q0 q1 q2 q3 q4 q5 q6 q7 q8 q9
    rcases hv with ⟨_, rfl⟩ | ⟨h, _⟩
    rotate_left
    · exact absurd HRF.out h
    rw [HQ.out]
    have XX := X4.out
    have q0 := XX.cell 0
    have q1 := XX.cell 1
    have q2 := XX.cell 2
    have q3 := XX.cell 3
    have q4 := XX.cell 4
    have q5 := XX.cell 5
    have q6 := XX.cell 6
    have q7 := XX.cell 7
    have q8 := XX.cell 8
    have q9 := XX.cell 9
    simp only [List.getElem?_cons_succ, List.getElem?_cons_zero] at q0 q1 q2 q3 q4 q5 q6 q7 q8 q9
    clear XX
    have HRI := Lib.hid (right11 fl [.string fl.fc.name, .string fl.fc.sup, .slice a1 n1 c1, .slice a2 n2 c2, .slice a3 n3 c3, .slice a4 n4 c4, .slice a5 n5 c5, .slice a6 n6 c6, .slice a7 n7 c7, .slice a8 n8 c8] w4 HF4.out (HT.out.below HB4.out))
    go_wp2_with fail
    refine HRI.out.mono ?_
    rintro e w5 ⟨r, rfl, hr, hb5⟩
    obtain rfl : r = true := hr.2 HRF.out
    have HB5 : Hid (Below w.heap.size w w5) := Lib.hid (HB4.out.trans (hb5.mono HB4.out.size))
    clear hr hb5 HRI HB4 X4 HF4 q0 q1 q2 q3 q4 q5 q6 q7 q8 q9
    go_wp2_with fail
    refine (unpack17 s w5 (by omega) (HT.out.below HB5.out)).mono ?_
    rintro e wu ⟨hv, hbu⟩
    have HBU : Hid (Below w.heap.size w wu) := Lib.hid (HB5.out.trans (hbu.mono HB5.out.size))
    clear hbu
    rcases hv with ⟨ps, a, n, c, rfl, hok, hps, hsl, hfs⟩ | ⟨rfl, hno⟩
    · have hfl := fls_of hfs hsl
      rw [hps] at hfl
      have HA := Lib.hid (archive18 ((unT s).1.map decF) a n c wu hfl (HT.out.below HBU.out) (decs_ok _))
      have HS := Lib.hid (un_sound hok)
      have HRR := Lib.hid (decs_right hok)
      have HL : Hid (((unT s).1.map decF).length ≤ 200) := Lib.hid (by rw [List.length_map]; exact HS.out.2)
      clear hok hps hsl hfs hfl
      go_wp2_with fail
      refine HA.out.mono ?_
      rintro e wv ⟨hv, hbv⟩
      have HBV : Hid (Below w.heap.size w wv) := Lib.hid (HBU.out.trans (hbv.mono HBU.out.size))
      rcases hv with ⟨h, _⟩ | ⟨_, h, _⟩ | ⟨_, _, rfl⟩
      · exact absurd HL.out (Nat.not_le_of_lt h)
      · exact absurd HRR.out h
      · rw [HS.out.1]
        clear HA HS HRR HL hbv
        go_wp2_with fail
        exact bodyPost_ret (v := .bool true) (by simp [results, Tryd.results4, go_sem]) rfl ⟨rfl, HBV.out⟩
    · clear hno
      go_wp2_with fail
      exact bodyPost_ret (v := .bool true) (by simp [results, Tryd.results4, go_sem]) rfl ⟨rfl, HBU.out⟩
  · obtain ⟨w3, HW3⟩ : ∃ W, Hid (W = w2.alloc (.cells #[.string ⟨#[]⟩, .string ⟨#[]⟩, .slice none 0 0, .slice none 0 0, .slice none 0 0, .slice none 0 0, .slice none 0 0, .slice none 0 0, .slice none 0 0, .slice none 0 0] 35)) := ⟨_, Lib.hid rfl⟩
    have X3 : Hid (Blk w3 w2.heap.size [.string ⟨#[]⟩, .string ⟨#[]⟩, .slice none 0 0, .slice none 0 0, .slice none 0 0, .slice none 0 0, .slice none 0 0, .slice none 0 0, .slice none 0 0, .slice none 0 0] 35) := Lib.hid (by rw [HW3.out]; exact Blk.new w2 _ 35)
    have HB3 : Hid (Below w.heap.size w w3) := Lib.hid (by rw [HW3.out]; exact bl_al' HB2.out)
    obtain ⟨FB, HFB⟩ : ∃ b, Hid (b = w2.heap.size) := ⟨_, Lib.hid rfl⟩
    rw [← HFB.out] at X3
    clear hno
    go_upto_region 6 with fail
    rw [← HW3.out, ← HFB.out]
    clear HW3 HFB HB2
    have XX := X3.out
    have q0 := XX.cell 0
    have q9 := XX.cell 9
    simp only [List.getElem?_cons_succ, List.getElem?_cons_zero] at q0 q9
    clear XX X3
    go_wp2_with fail
    refine (unpack17 s w3 (by omega) (HT.out.below HB3.out)).mono ?_
    rintro e wu ⟨hv, hbu⟩
    have HBU : Hid (Below w.heap.size w wu) := Lib.hid (HB3.out.trans (hbu.mono HB3.out.size))
    clear hbu
    rcases hv with ⟨ps, a, n, c, rfl, hok, hps, hsl, hfs⟩ | ⟨rfl, hno⟩
    · have hfl := fls_of hfs hsl
      rw [hps] at hfl
      have HA := Lib.hid (archive18 ((unT s).1.map decF) a n c wu hfl (HT.out.below HBU.out) (decs_ok _))
      have HS := Lib.hid (un_sound hok)
      have HRR := Lib.hid (decs_right hok)
      have HL : Hid (((unT s).1.map decF).length ≤ 200) := Lib.hid (by rw [List.length_map]; exact HS.out.2)
      clear hok hps hsl hfs hfl
      go_wp2_with fail
      refine HA.out.mono ?_
      rintro e wv ⟨hv, hbv⟩
      have HBV : Hid (Below w.heap.size w wv) := Lib.hid (HBU.out.trans (hbv.mono HBU.out.size))
      rcases hv with ⟨h, _⟩ | ⟨_, h, _⟩ | ⟨_, _, rfl⟩
      · exact absurd HL.out (Nat.not_le_of_lt h)
      · exact absurd HRR.out h
      · rw [HS.out.1]
        clear HA HS HRR HL hbv
        go_wp2_with fail
        exact bodyPost_ret (v := .bool true) (by simp [results, Tryd.results4, go_sem]) rfl ⟨rfl, HBV.out⟩
    · clear hno
      go_wp2_with fail
      exact bodyPost_ret (v := .bool true) (by simp [results, Tryd.results4, go_sem]) rfl ⟨rfl, HBU.out⟩
theorem reads4s (s : ByteArray) (w : World) (hT : TabR w) : Calls Tryd.prog 4 #[.string s] w fun e w' => e = .returned (.bool true) ∧ Below w.heap.size w w' := by
  have h := reads4 s.data.toList w hT
  have e : (⟨s.data.toList.toArray⟩ : ByteArray) = s := by cases s; simp
  rwa [e] at h
end Go.Proofs.YtomlbfkkhhhfkaaDoor.Fc
