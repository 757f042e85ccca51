/-
  As many files in an archive as there may be, and one more.
-/
import Derived.Test.YtomlbfkkhhhfkaaDoorCsUnq
import Derived.Test.YtomlbfkkhhhfkaaDoorCsLimits
namespace Go.Proofs.YtomlbfkkhhhfkaaDoor.Fc
open Go.RowKit
set_option linter.unusedVariables false

def flA : Fl := ⟨⟨⟨#[65]⟩, ⟨#[]⟩, [], []⟩, [], [], [], [], [], []⟩
def pA : FsP := ⟨flA, (none, 0, 0), (none, 0, 0), (none, 0, 0), (none, 0, 0), (none, 0, 0), (none, 0, 0), (none, 0, 0), (none, 0, 0)⟩
theorem flA_right : RightF flA where
  fc := ⟨by show classB ⟨#[65]⟩ = true; unfold classB greatB; decide +kernel, .inl rfl, Nat.zero_le _, Nat.zero_le _, fun i x h => by simp [flA] at h, fun i x h => by simp [flA] at h⟩
  po := ⟨Nat.zero_le _, ⟨Nat.zero_le _, by simp [flA]⟩, ⟨Nat.zero_le _, by simp [flA]⟩, ⟨Nat.zero_le _, by simp [flA]⟩, ⟨Nat.zero_le _, by simp [flA]⟩⟩
  ln := rfl
  bd := fun i s b h1 h2 => by simp [flA] at h1
theorem flA_flr (w : World) : FlR w flA (encFl pA) :=
  ⟨none, 0, 0, none, 0, 0, none, 0, 0, none, 0, 0, none, 0, 0, none, 0, 0, none, 0, 0, none, 0, 0, rfl, ⟨none, 0, 0, none, 0, 0, rfl, Sl.nil _ _ _, Sl.nil _ _ _⟩, ⟨Sl.nil _ _ _, Sl.nil _ _ _, Sl.nil _ _ _, Sl.nil _ _ _, Sl.nil _ _ _⟩, Sl.nil _ _ _⟩
theorem flAs {w : World} {k : Nat} {v : Value} (hs : Sl w 10 GfR (List.replicate k pA) v) : Sl w 10 (FlR w) (List.replicate k flA) v := by
  obtain ⟨a, c, rfl, hl, hc, hk⟩ := hs
  refine ⟨a, c, by simp, by simpa using hl, hc, fun i x hi => ?_⟩
  have hx : x = flA := List.eq_of_mem_replicate (List.mem_of_getElem? hi)
  have hik : i < k := by have := (List.getElem?_eq_some_iff.1 hi).1; simpa using this
  obtain ⟨b, o, cs, ea, hcell, hcs⟩ := hk i pA (by rw [List.getElem?_replicate, if_pos hik])
  subst hx
  exact ⟨b, o, _, ea, hcell, by rw [hcs]; exact flA_flr w⟩
theorem flAs_ok (k : Nat) : ∀ f ∈ List.replicate k flA, RightF f ∧ ∀ z ∈ f.nu, OkI z := fun f hf => by
  rw [List.eq_of_mem_replicate hf]
  exact ⟨flA_right, fun z hz => by simp [flA] at hz⟩
set_option maxHeartbeats 4000000 in
set_option maxRecDepth 100000 in
theorem many8 (n : Int) (w : World) (hT : TabR w) :
    Calls Tryd.prog 8 #[.int .i64 n] w fun e w' => e = .returned (.bool true) ∧ Below w.heap.size w w' := by
  obtain ⟨i0, hi, hii⟩ : ∃ i, Tryd.prog.info? 35 = some i ∧ (i.size, i.bytes, i.zero.map (fun z => z.cells.size)) = (10, 224, some 10) := Option.map_eq_some_iff.1 (show (Tryd.prog.info? 35).map (fun i => (i.size, i.bytes, i.zero.map (fun z => z.cells.size))) = some (10, 224, some 10) by kernel_rfl)
  simp only [Prod.mk.injEq, Option.map_eq_some_iff] at hii
  obtain ⟨y1, y2, z, ez, y3⟩ := hii
  obtain ⟨K, hK, eK⟩ := i64_and n 8 255 (by omega) (by decide)
  simp only [Nat.reducePow] at hK
  have EK : bits .and .i64 n 255 = (K : Int) := eK
  clear eK
  have HT := Lib.hid hT
  clear hT
  go_enter Tryd.func8, Tryd.ntmps8
  go_wp2_with fail
  refine (head9 w).mono ?_
  rintro e w1 ⟨rfl, hb1⟩
  obtain ⟨w2, HW2⟩ : ∃ W, Hid (W = w1.alloc (.cells #[] 35)) := ⟨_, Lib.hid rfl⟩
  have HB2 : Hid (Below w.heap.size w w2) := Lib.hid (by rw [HW2.out]; exact bl_al' hb1)
  have HO2 : Hid (w2.ownsRow w.heap.size 35 10 (.slice (some ⟨w1.heap.size, 0, none⟩) 0 0) 0 []) := Lib.hid (by rw [HW2.out]; exact World.ownsRow_lit (e := 35) (size := 10) w1 #[] 0 hb1.size (by unfold maxLen; omega) rfl)
  clear hb1
  go_upto_region 5 with fail
  rw [← HW2.out]
  clear EK HW2
  go_wp2
  go_loopw [3, 4] (fun v i wr => ∃ k : Nat, k ≤ K ∧ i = .int .i64 k ∧ (∃ a m c, v = .slice a m c) ∧ Hid (wr.ownsRow w.heap.size 35 10 v k ((List.replicate k pA).flatMap encFl)) ∧ Hid (Below w.heap.size w wr)) (fun _ i _ => K - (intOf i).toNat)
  case atStart => exact ⟨0, Nat.zero_le _, rfl, ⟨_, _, _, rfl⟩, HO2, HB2⟩
  case round =>
    clear HO2 HB2
    obtain ⟨k, hk, rfl, ⟨a, m, c, rfl⟩, HO, HB⟩ := hrel
    by_cases hkl : k < K
    · have hsr := HB.out.size
      go_wp2_with (at_builtin; refine wpList_append_own _ rfl (.tmp 19) (.tmp 22) 46 rfl w.heap.size 35 i0 z 10 224 Tryd.underlying46 hi ez y1 y2 y3 (by decide) _ _ _ rfl (HO.out.alloc _) ⟨wr.heap.size, 0, none⟩ 1 1 [.string ⟨#[65]⟩, .string ⟨#[]⟩, .slice none 0 0, .slice none 0 0, .slice none 0 0, .slice none 0 0, .slice none 0 0, .slice none 0 0, .slice none 0 0, .slice none 0 0] rfl rfl ?c1 ?c2 ?c3 ?c4 ?c5 ?_)
      case c1 =>
        intro j u hu
        rw [add_pl, Nat.zero_add]
        exact ((Blk.new wr [.string ⟨#[65]⟩, .string ⟨#[]⟩, .slice none 0 0, .slice none 0 0, .slice none 0 0, .slice none 0 0, .slice none 0 0, .slice none 0 0, .slice none 0 0, .slice none 0 0] 35).cell j).trans hu
      case c2 => simp [Value.oneCell']
      case c3 => unfold maxLen; omega
      case c4 => omega
      case c5 => simp; omega
      intro v' w6 hown' hgrow hnil
      have HB6 : Hid (Below w.heap.size w w6) := Lib.hid (rowgrown_below HB.out HO.out hgrow (Nat.le_refl _) (Nat.le_refl _))
      obtain ⟨A, m', c'', rfl⟩ := Pk.row_shape hown'
      have HO6 : Hid (w6.ownsRow w.heap.size 35 10 (.slice A m' c'') (k + 1) ((List.replicate (k + 1) pA).flatMap encFl)) := Lib.hid (by rw [List.replicate_succ', List.flatMap_append, List.flatMap_singleton]; exact hown')
      clear hown' hgrow hnil HO HB
      go_wp2
      go_roundw
      case rel => exact ⟨k + 1, by omega, by go_num, ⟨_, _, _, rfl⟩, HO6, HB6⟩
      case measure => simp [intOf]; omega
    · obtain rfl : k = K := by omega
      obtain ⟨a', c'', e1, hsl, hown⟩ := row_sl (enc := encFl) (fun _ => rfl) (List.length_replicate ..) HO.out
      cases e1
      have HSL := Lib.hid (flAs hsl)
      have HA := Lib.hid (archive18 (List.replicate k flA) a k c wr HSL.out (HT.out.below HB.out) (fun f hf => (flAs_ok k f hf).2))
      clear hsl hown HO
      go_wp2_with fail
      refine HA.out.mono ?_
      rintro e w3 ⟨hv, hb3⟩
      have HB3 : Hid (Below w.heap.size w w3) := Lib.hid (HB.out.trans (hb3.mono HB.out.size))
      clear hb3 HA HSL HB
      rw [List.length_replicate] at hv
      by_cases hbig : 200 < k
      · have d1 : decide ((200 : Int) < (k : Int)) = true := decide_eq_true (by omega)
        rcases hv with ⟨_, rfl⟩ | ⟨h, _⟩ | ⟨h, _⟩
        · go_wp2_with fail
          all_goals first | (exfalso; omega) | skip
          exact bodyPost_ret (v := .bool true) (by simp [results, Tryd.results8, go_sem]) rfl ⟨rfl, HB3.out⟩
        · omega
        · omega
      · have d1 : decide ((200 : Int) < (k : Int)) = false := decide_eq_false (by omega)
        have hk200 : k ≤ 200 := by omega
        rcases hv with ⟨h, _⟩ | ⟨_, h, _⟩ | ⟨_, _, rfl⟩
        · omega
        · exact absurd (fun f hf => (flAs_ok k f hf).1) h
        · have HUB := Lib.hid (un_back (flAs_ok k) (by rw [List.length_replicate]; exact hk200))
          have HAL := Lib.hid (arcB_len (flAs_ok k) (by rw [List.length_replicate]; exact hk200))
          generalize arcB (List.replicate k flA) = s at *
          go_wp2_with fail
          all_goals first | (exfalso; omega) | skip
          refine (unpack17 s w3 HAL.out (HT.out.below HB3.out)).mono ?_
          rintro e w4 ⟨hv, hb4⟩
          have HB4 : Hid (Below w.heap.size w w4) := Lib.hid (HB3.out.trans (hb4.mono HB3.out.size))
          clear hb4
          rcases hv with ⟨ps, a4, n4, c4, rfl, _, hps, hsl, _⟩ | ⟨_, hno⟩
          · rw [HUB.out.2] at hps
            have hl := congrArg List.length hps
            rw [List.length_map, List.length_replicate] at hl
            obtain rfl : n4 = k := hsl.at.1.trans hl
            clear hps hsl hl HUB HAL HB3
            go_wp2_with fail
            exact bodyPost_ret (v := .bool true) (by simp [results, Tryd.results8, go_sem]) rfl ⟨rfl, HB4.out⟩
          · exact absurd HUB.out.1 hno
end Go.Proofs.YtomlbfkkhhhfkaaDoor.Fc
