/-
  A face's digest.
-/
import Derived.Test.YtdcbeemjdpgjmaaDoorFcLay2
import Derived.Test.YtdcbeemjdpgjmaaDoorShSum
namespace Go.Proofs.YtdcbeemjdpgjmaaDoor.Fc
open Go.RowKit
set_option linter.unusedVariables false

abbrev faceS : ByteArray := ⟨#[102, 97, 99, 101, 32]⟩
theorem wat_new {base q : Nat} {w : World} (h : w.heap.size = q) : Pk.WAt base q (w.alloc (.cells #[.slice none 0 0] 31)) [] := h ▸ Pk.WAt.new base w
/-- the digest of a face -/
def digV (f : Fc) : Value := .agg ((shaOf (allOf [faceS, ⟨(fcB f).toArray⟩])).map U8).toArray
theorem roots_keep {w w' : World} (h : RdW 0 w K) (hb : Below w.heap.size w w') : RdW 0 w' K := by
  have h0 : 0 < w.heap.size := block_lt_of_cell (h 0 (by omega))
  exact fun i hi => (hb.cell (by exact h0)).trans (h i hi)

set_option maxHeartbeats 2000000 in
set_option maxRecDepth 100000 in
theorem digest14 (f : Fc) (cs : List Value) (w : World) (hf : FcR w f cs) (hlen : (fcB f).length ≤ 900000) (hK : RdW 0 w K) :
    Calls Tryd.prog 14 #[.agg cs.toArray] w fun e w' => e = .returned (digV f) ∧ Below w.heap.size w w' := by
  obtain ⟨Z, hZ, HZ⟩ : ∃ Z : Array Value, (#[Value.int IntKind.u8 0, Value.int IntKind.u8 0, Value.int IntKind.u8 0, Value.int IntKind.u8 0, Value.int IntKind.u8 0, Value.int IntKind.u8 0, Value.int IntKind.u8 0, Value.int IntKind.u8 0, Value.int IntKind.u8 0, Value.int IntKind.u8 0, Value.int IntKind.u8 0, Value.int IntKind.u8 0, Value.int IntKind.u8 0, Value.int IntKind.u8 0, Value.int IntKind.u8 0, Value.int IntKind.u8 0, Value.int IntKind.u8 0, Value.int IntKind.u8 0, Value.int IntKind.u8 0, Value.int IntKind.u8 0, Value.int IntKind.u8 0, Value.int IntKind.u8 0, Value.int IntKind.u8 0, Value.int IntKind.u8 0, Value.int IntKind.u8 0, Value.int IntKind.u8 0, Value.int IntKind.u8 0, Value.int IntKind.u8 0, Value.int IntKind.u8 0, Value.int IntKind.u8 0, Value.int IntKind.u8 0, Value.int IntKind.u8 0] : Array Value) = Z ∧ Hid (Z = ((List.replicate 32 0).map U8).toArray) := ⟨_, rfl, Lib.hid rfl⟩
  have HF := Lib.hid hf
  have HK := Lib.hid hK
  obtain ⟨a1, n1, c1, a2, n2, c2, rfl, _, _⟩ := hf
  obtain ⟨w0, HW0⟩ : ∃ w0, Hid (w0 = (w.alloc (.cells #[.string f.name, .string f.sup, .slice a1 n1 c1, .slice a2 n2 c2] 25)).alloc (.cells Z 35)) := ⟨_, Lib.hid rfl⟩
  have HZ0 : Hid (w0.heap.size = w.heap.size + 2) := Lib.hid (by rw [HW0.out]; simp)
  clear hK
  go_enter Tryd.func14, Tryd.ntmps14
  go_wp2_with fail
  rw [← HW0.out]
  have hb0 : Below w.heap.size w (w0.alloc (.cells #[.slice none 0 0] 31)) := by rw [HW0.out]; exact ((below2 w _ _).alloc (by simp; omega) _)
  refine (lay12 w f _ HF.out (w.heap.size + 1 + 1 + 1) (w.heap.size + 1 + 1) [] _ hb0 (by omega) (wat_new HZ0.out) (by omega) (by simp [HZ0.out]) (by simp only [List.length_nil]; omega)).mono ?_
  rintro e w1 ⟨rfl, hw1, hk1⟩
  rw [List.nil_append] at hw1
  have hs1 := hk1.size
  have hs1' : w.heap.size + 3 ≤ w1.heap.size := by simp [HZ0.out] at hs1; omega
  have hb1 : Below w.heap.size w w1 := hb0.trans (kp_below hk1 (by omega) (by omega))
  have HRB : Hid (DAt (w.heap.size + 1) w1 (List.replicate 32 0)) := by
    refine Lib.hid ⟨?_, by simp⟩
    rw [hk1.block (w.heap.size + 1) (by omega) (by omega), Below.heap_alloc _ _ _ (by rw [HZ0.out]; omega), HW0.out]
    have := heap_alloc_new (w.alloc (.cells #[.string f.name, .string f.sup, .slice a1 n1 c1, .slice a2 n2 c2] 25)) (.cells Z 35)
    simp only [World.size_alloc] at this
    rw [this, HZ.out]
  have HW1 := Lib.hid hw1
  clear hw1 hk1 hs1 hb0 hZ
  go_wp2_with (go_at_call 13; refine (Pk.string_any _ _ _ w1 HW1.out).mono ?_; rintro e w2 ⟨rfl, rfl⟩)
  have HB2 : Hid (Below w.heap.size w (w1.alloc (.cells #[.string faceS, .string ⟨(fcB f).toArray⟩] 9))) := Lib.hid (hb1.alloc hb1.size _)
  refine (sum_any _ (some ⟨w1.heap.size, 0, none⟩) w1.heap.size 2 [faceS, ⟨(fcB f).toArray⟩] (by simp [allOf, bsOf_length, ByteArray.size]; omega) (by simp) (fun i hi => ⟨rfl, by simp, by
    have hi' : i < 2 := hi
    rcases (show i = 0 ∨ i = 1 by omega) with rfl | rfl
    · simp
    · simp⟩) (roots_keep HK.out HB2.out)).mono ?_
  rintro e w3 ⟨rfl, hb3⟩
  obtain ⟨cs, HCS⟩ : ∃ cs, Hid (cs = (shaOf (allOf [faceS, ⟨(fcB f).toArray⟩])).map U8) := ⟨_, Lib.hid rfl⟩
  rw [← HCS.out]
  have HBW3 : Hid (Below w.heap.size w w3) := Lib.hid (HB2.out.trans (hb3.mono (by simp; omega)))
  have hcl : cs.length = 32 := by rw [HCS.out, List.length_map]; exact digestOf_length _
  obtain ⟨rb, HRBE⟩ : ∃ rb, Hid (rb = w.heap.size + 1) := ⟨_, Lib.hid rfl⟩
  rw [← HRBE.out]
  have hrb : DAt rb w3 (List.replicate 32 0) := by
    rw [HRBE.out]
    refine ⟨?_, by simp⟩
    rw [hb3.block _ (by simp; omega), Below.heap_alloc _ _ _ (by omega)]
    exact HRB.out.1
  have hthere : w3.there rb 0 cs.toArray.size := by rw [List.size_toArray, hcl]; exact hrb.there
  have hall2 : cs.toArray.all (·.oneCell') = true := by rw [HCS.out]; exact all_oneCell_toArray (U8_one _)
  have HJ : Hid ((Tryd.prog.info? 35).map (·.size) = some cs.length) := by rw [hcl]; exact info24
  have HJ2 : Hid ((Tryd.prog.info? 35).map (·.size) = some cs.toArray.size) := by rw [List.size_toArray, hcl]; exact info24
  have HRD : Hid ((loadVar 35 ⟨rb, 0, none⟩).run Tryd.prog (w3.setCells rb 0 cs) = .ok (.agg cs.toArray) (w3.setCells rb 0 cs)) := Lib.hid
    (run_loadVar_mid _ _ _ _ _ _ (World.rangeAt_setCells_same _ _ _ _ (by have := hthere; simpa using this)) Tryd.underlying35 rfl HJ.out)
  have HBe : Hid (Below w.heap.size w (w3.setCells rb 0 cs)) := Lib.hid (below_setCells (by rw [HRBE.out]; omega) _ _ _ HBW3.out)
  have HDV : Hid (digV f = .agg cs.toArray) := Lib.hid (by rw [HCS.out]; rfl)
  clear hcl hrb hb3 HBW3 HRB
  go_wp2_with (with_reducible refine wpList_store_mid rfl 35 (.tmp 2) (.tmp 8) rfl rb 0 cs.toArray rfl rfl hthere HJ2.out hall2 ?_)
  exact bodyPost_ret (v := .agg cs.toArray) (results_cell1 Tryd.results14 rfl HRD.out) rfl ⟨by rw [HDV.out], HBe.out⟩
end Go.Proofs.YtdcbeemjdpgjmaaDoor.Fc
