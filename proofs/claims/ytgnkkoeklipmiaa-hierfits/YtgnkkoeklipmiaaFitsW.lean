/-
  HierFits walked.
-/
import Derived.Test.YtgnkkoeklipmiaaFits
import Derived.Test.YtgnkkoeklipmiaaUps
import Derived.Deep.Cut
namespace Go.Proofs.Ytgnkkoeklipmiaa
open Go.RowKit
set_option linter.unusedVariables false

theorem fits_ts {W w : World} {tb fm k : Nat} {L : List Fc} (h : TS W tb fm L k w) (hL : L.length ≤ 100) (hk : k < 500000) (an : ByteArray) (aa : Bool) (bn : ByteArray) (ba : Bool) (hs : an.size ≤ maxLen) :
    Calls Try.prog 26 #[.pointer (some ⟨tb, 0, none⟩), tv an aa, tv bn ba] w fun e w' => e = .returned (.bool (ftB L an aa bn ba)) ∧ TS W tb fm L (k + 101) w' ∧ Keeps w w' := by
  obtain ⟨B, sv, c, h1, h2, h3, h4, h5⟩ := h
  refine (fits26 B tb fm L hL an aa bn ba hs w sv c h3 h1 (by omega)).mono ?_
  rintro e w' ⟨sv', c', rfl, hT, hst, hc⟩
  exact ⟨rfl, TS.next h1 h2 h3 h4 h5 hT hst hc⟩
theorem known_ts {W w : World} {tb fm k : Nat} {L : List Fc} (h : TS W tb fm L k w) (hk : k < 500000) (ts : List Ty) (hsz : ∀ t ∈ ts, t.n.size ≤ maxLen) (hln : ts.length ≤ 1000) {a : Option Addr} {n cp : Nat} (hN : Sl w 2 TyR ts (.slice a n cp)) :
    Calls Try.prog 27 #[.pointer (some ⟨tb, 0, none⟩), .slice a n cp] w fun e w' => e = .returned (.bool (ts.all (fun t => knB L t.n))) ∧ TS W tb fm L (k + ts.length) w' ∧ Keeps w w' := by
  obtain ⟨B, sv, c, h1, h2, h3, h4, h5⟩ := h
  refine (known27 B tb fm L ts hsz hln a n cp w sv c hN h3 h1 (by omega)).mono ?_
  rintro e w' ⟨sv', c', rfl, hT, hst, hc⟩
  exact ⟨rfl, TS.next h1 h2 h3 h4 h5 hT hst hc⟩
theorem tys1 (w : World) (an : ByteArray) (aa : Bool) : Sl (w.alloc (.cells #[.string an, .bool aa] 44)) 2 TyR [⟨an, aa⟩] (.slice (some ⟨w.heap.size, 0, none⟩) 1 1) := by
  refine ⟨some ⟨w.heap.size, 0, none⟩, 1, rfl, by simp, by unfold maxLen; omega, fun i x hi => ?_⟩
  have hB := Blk.new w [.string an, .bool aa] 44
  match i, hi with
  | 0, hi =>
    simp at hi
    subst hi
    refine ⟨w.heap.size, 0, _, rfl, fun j v hv => ?_, rfl⟩
    rw [hB.cell]
    simpa using hv
theorem tys2 (w : World) (an : ByteArray) (aa : Bool) (bn : ByteArray) (ba : Bool) : Sl (w.alloc (.cells #[.string an, .bool aa, .string bn, .bool ba] 44)) 2 TyR [⟨an, aa⟩, ⟨bn, ba⟩] (.slice (some ⟨w.heap.size, 0, none⟩) 2 2) := by
  refine ⟨some ⟨w.heap.size, 0, none⟩, 2, rfl, by simp, by unfold maxLen; omega, fun i x hi => ?_⟩
  have hB := Blk.new w [.string an, .bool aa, .string bn, .bool ba] 44
  match i, hi with
  | 0, hi =>
    simp at hi
    subst hi
    refine ⟨w.heap.size, 0, _, rfl, fun j v hv => ?_, rfl⟩
    rw [hB.cell]
    match j, hv with
    | 0, hv => exact hv
    | 1, hv => exact hv
  | 1, hi =>
    simp at hi
    subst hi
    refine ⟨w.heap.size, 0, _, rfl, fun j v hv => ?_, rfl⟩
    rw [hB.cell]
    match j, hv with
    | 0, hv => exact hv
    | 1, hv => exact hv
set_option maxHeartbeats 1000000 in
theorem great25 (n : ByteArray) (w : World) : Calls Try.prog 25 #[.string n] w fun e w' => e = .returned (.bool (greatB n)) ∧ w' = w := by
  by_cases h0 : 0 < n.size
  · have hE : n.toList.isEmpty = false := by
      cases h : n.toList.isEmpty
      · rfl
      · rw [ByteArray.toList_eq, List.isEmpty_iff, ← List.length_eq_zero_iff] at h; exact absurd h (by show ¬ n.size = 0; omega)
    have HG : Hid (greatB n = (decide ((65 : Int) ≤ n[0].toNat) && decide ((n[0].toNat : Int) ≤ 90))) := Lib.hid (by unfold greatB; rw [dif_pos h0])
    by_cases h65 : (65 : Int) ≤ n[0].toNat
    · go_enter Try.func25, Try.ntmps25
      go_wp2
      go_ret
      refine ⟨?_, rfl⟩
      rw [HG.out]; simp [h65]
    · go_enter Try.func25, Try.ntmps25
      go_wp2
      go_ret
      refine ⟨?_, rfl⟩
      rw [HG.out, decide_eq_false (by omega : ¬ (65 : Int) ≤ n[0].toNat)]; rfl
  · have HG : Hid (greatB n = false) := Lib.hid (by unfold greatB; rw [dif_neg h0])
    have hE : n.toList.isEmpty = true := by
      rw [ByteArray.toList_eq, List.isEmpty_iff, ← List.length_eq_zero_iff]; show n.size = 0; omega
    go_enter Try.func25, Try.ntmps25
    go_wp2
    go_ret
    exact ⟨by rw [HG.out]; rfl, rfl⟩
theorem TS.drew {W w : World} {tb fm k : Nat} {L : List Fc} (h : TS W tb fm L k w) : TS W tb fm L k w.drew := h.below ⟨rfl, rfl, rfl, Nat.le_refl _, fun _ _ => rfl⟩

set_option maxHeartbeats 16000000 in
set_option maxRecDepth 100000 in
theorem fits5 (W : World) (L : List Fc) (v0 : Option Addr) (n cp : Nat) (an : ByteArray) (aa : Bool) (bn : ByteArray) (ba : Bool) (h : Sl W 4 (FcR W) L (.slice v0 n cp)) (hz : an.size ≤ maxLen ∧ bn.size ≤ maxLen) :
    Calls Try.prog 5 #[.slice v0 n cp, tv an aa, tv bn ba] W fun e w' => e = .returned (.bool true) ∧ Below W.heap.size W w' := by
  have HH := Lib.hid h
  obtain ⟨hma, hmb⟩ := hz
  have hn := h.at.1
  have hl := h.at.2.1
  have hc := h.at.2.2.1
  have hma' := hma
  have hmb' := hmb
  unfold maxLen at hc hma' hmb'
  have HN := Lib.hid hn
  clear h hn
  have HC0 : Hid (∀ w', Below ((W.alloc (.cells #[.string an, .bool aa] 44)).alloc (.cells #[.string bn, .bool ba] 44)).heap.size ((W.alloc (.cells #[.string an, .bool aa] 44)).alloc (.cells #[.string bn, .bool ba] 44)) w' → (fun w' => w'.cell? ⟨W.heap.size, 0, none⟩ = some (.string an) ∧ w'.cell? ⟨W.heap.size, 1, none⟩ = some (.bool aa) ∧ w'.cell? ⟨W.heap.size + 1, 0, none⟩ = some (.string bn) ∧ w'.cell? ⟨W.heap.size + 1, 1, none⟩ = some (.bool ba)) w') := Lib.hid (fun w' hb => by
    have b0 := ((Blk.new W [.string an, .bool aa] 44).below (below1 _ (.cells #[.string bn, .bool ba] 44))).below hb
    have b1 : Blk ((W.alloc (.cells #[.string an, .bool aa] 44)).alloc (.cells #[.string bn, .bool ba] 44)) (W.heap.size + 1) [.string bn, .bool ba] 44 := by
      have := Blk.new (W.alloc (.cells #[.string an, .bool aa] 44)) [.string bn, .bool ba] 44
      simpa using this
    have b2 := b1.below hb
    exact ⟨b0.cell 0, b0.cell 1, b2.cell 0, b2.cell 1⟩)
  go_enter Try.func5, Try.ntmps5
  go_wp2_with fail
  refine (head9 ((W.alloc (.cells #[.string an, .bool aa] 44)).alloc (.cells #[.string bn, .bool ba] 44))).mono ?_
  rintro e w1 ⟨rfl, hb1⟩
  have hbw : Below W.heap.size W w1 := (below2 W _ _).trans (hb1.mono (by first | omega | (simp; done) | (simp; omega)))
  have HF := Lib.hid (few10 L v0 n cp w1 (fcs_keep (Keeps.of_below hbw) HH.out))
  have hz1 := hbw.size
  have HB1 := Lib.hid hb1
  have HC1 := Lib.hid (HC0.out w1 hb1)
  clear hb1
  go_wp2_with fail
  refine HF.out.mono ?_
  rintro e w2 ⟨r, rfl, hr, hb2⟩
  have hB2 : Below W.heap.size W w2 := hbw.trans (hb2.mono hz1)
  have HC2 := Lib.hid (HC0.out w2 (HB1.out.trans (hb2.mono HB1.out.size)))
  obtain ⟨i0, i1, i2, i3⟩ := HC2.out
  clear HF hb2 hbw
  cases r with
  | false =>
    clear hr
    go_wp2
    go_ret
    exact ⟨rfl, hB2⟩
  | true =>
    obtain ⟨hl8, hsm⟩ := hr rfl
    have HSM := Lib.hid hsm
    clear hr hsm
    by_cases hla : 60 < an.size
    · go_wp2
      go_ret
      exact ⟨rfl, hB2⟩
    by_cases hlb : 60 < bn.size
    · go_wp2
      go_ret
      exact ⟨rfl, hB2⟩
    have HNW := Lib.hid (new11 w2 L v0 n cp (fcs_keep (Keeps.of_below hB2) HH.out) (by have := HN.out; omega) HSM.out)
    go_wp2_with fail
    refine HNW.out.mono ?_
    rintro e w3 ⟨tb, fm, rfl, hT, hb3⟩
    have HT3 : Hid (TS W tb fm L 0 w3) := Lib.hid (TS.start hB2 hT hb3)
    have hk3 := Keeps.of_below hb3
    have HC3 : Hid ((fun w' => w'.cell? ⟨W.heap.size, 0, none⟩ = some (.string an) ∧ w'.cell? ⟨W.heap.size, 1, none⟩ = some (.bool aa) ∧ w'.cell? ⟨W.heap.size + 1, 0, none⟩ = some (.string bn) ∧ w'.cell? ⟨W.heap.size + 1, 1, none⟩ = some (.bool ba)) w3) := Lib.hid ⟨hk3 _ _ HC2.out.1 (pl_str _), hk3 _ _ HC2.out.2.1 (pl_bool _), hk3 _ _ HC2.out.2.2.1 (pl_str _), hk3 _ _ HC2.out.2.2.2 (pl_bool _)⟩
    clear HNW hT hb3 hB2 i0 i1 i2 i3 hk3
    obtain ⟨i0, i1, i2, i3⟩ := HC3.out
    have HU := Lib.hid (up12 L hl8 an v0 n cp w3 (fcs_keep (Keeps.of_below HT3.out.bel) HH.out))
    go_wp2_with fail
    refine HU.out.mono ?_
    rintro e w4 ⟨wa, wc', rfl, hS4, hb4⟩
    have HT4 := Lib.hid (HT3.out.below hb4)
    have HS4 := Lib.hid hS4
    have hk4 := Keeps.of_below hb4
    have HC4 : Hid ((fun w' => w'.cell? ⟨W.heap.size, 0, none⟩ = some (.string an) ∧ w'.cell? ⟨W.heap.size, 1, none⟩ = some (.bool aa) ∧ w'.cell? ⟨W.heap.size + 1, 0, none⟩ = some (.string bn) ∧ w'.cell? ⟨W.heap.size + 1, 1, none⟩ = some (.bool ba)) w4) := Lib.hid ⟨hk4 _ _ HC3.out.1 (pl_str _), hk4 _ _ HC3.out.2.1 (pl_bool _), hk4 _ _ HC3.out.2.2.1 (pl_str _), hk4 _ _ HC3.out.2.2.2 (pl_bool _)⟩
    clear HU hS4 hb4 HT3 i0 i1 i2 i3 hk4 HC3 HC2 HC1 HC0 HB1
    obtain ⟨i0, i1, i2, i3⟩ := HC4.out
    have HBE : Hid (bel L an bn = decide (bn ∈ (ab L an).1)) := Lib.hid rfl
    generalize (ab L an).1 = la at *
    generalize (ab L an).2 = wh at *
    go_upto_region 8 with fail
    go_cut [11] from 38 (fun s11 wc => s11 = .bool (ftB L an aa bn ba) ∧ wc = w4)
    case first =>
      have he := eql44 an aa bn ba
      have HWD : Hid (ftB L an aa bn ba = (decide (an = bn ∧ aa = ba) || (nullB an && !aa && (ba || greatB bn || nullB bn)) || (greatB an && !aa && greatB bn && !ba && decide (bn ∈ la)))) := Lib.hid (by unfold ftB; rw [HBE.out])
      generalize ftB L an aa bn ba = want at *
      generalize decide (an = bn ∧ aa = ba) = r at *
      have HNG := Lib.hid (@null_great an)
      have HG1 := Lib.hid (great25 an w4)
      have HG2 := Lib.hid (great25 bn w4)
      have HIN := Lib.hid (in14 la _ bn w4 HS4.out)
      generalize decide (bn ∈ la) = mem at *
      have HN1 : Hid (nullB an = (an.toList == [110, 117, 108, 108])) := Lib.hid rfl
      have HN2 : Hid (nullB bn = (bn.toList == [110, 117, 108, 108])) := Lib.hid rfl
      generalize nullB an = n1 at *
      generalize nullB bn = n2 at *
      generalize greatB an = gA at *
      generalize greatB bn = gB at *
      cases r with
      | true =>
        have HW : Hid (want = true) := Lib.hid (by rw [HWD.out]; simp)
        clear HWD HNG HG1 HG2 HIN HN1 HN2
        go_wp2
        go_meet
        case rel => exact ⟨by rw [HW.out], rfl⟩
      | false =>
        cases hn1 : (an.toList == [110, 117, 108, 108]) with
        | true =>
          rw [hn1] at HN1
          have hgA : gA = false := HNG.out HN1.out
          have HW0 : Hid (want = (!aa && (ba || gB || n2))) := Lib.hid (by rw [HWD.out, HN1.out, hgA]; simp)
          rw [hgA] at HG1
          clear hgA HWD HNG HN1
          cases aa with
          | true =>
            have HW : Hid (want = false) := Lib.hid (by rw [HW0.out]; rfl)
            clear HW0 HN2 HIN HG2
            go_wp2_with fail
            refine HG1.out.mono ?_
            rintro e w5 ⟨rfl, rfl⟩
            go_wp2
            go_meet
            case rel => exact ⟨by rw [HW.out], rfl⟩
          | false =>
            cases ba with
            | true =>
              have HW : Hid (want = true) := Lib.hid (by rw [HW0.out]; rfl)
              clear HW0 HN2 HIN HG1 HG2
              go_wp2
              go_meet
              case rel => exact ⟨by rw [HW.out], rfl⟩
            | false =>
              cases gB with
              | true =>
                have HW : Hid (want = true) := Lib.hid (by rw [HW0.out]; rfl)
                clear HW0 HN2 HIN HG1
                go_wp2_with fail
                refine HG2.out.mono ?_
                rintro e w5 ⟨rfl, rfl⟩
                go_wp2
                go_meet
                case rel => exact ⟨by rw [HW.out], rfl⟩
              | false =>
                cases hn2 : (bn.toList == [110, 117, 108, 108]) with
                | true =>
                  have HW : Hid (want = true) := Lib.hid (by rw [HW0.out, HN2.out, hn2]; rfl)
                  clear HW0 HN2 HIN HG1
                  go_wp2_with fail
                  refine HG2.out.mono ?_
                  rintro e w5 ⟨rfl, rfl⟩
                  go_wp2
                  go_meet
                  case rel => exact ⟨by rw [HW.out], rfl⟩
                | false =>
                  have HW : Hid (want = false) := Lib.hid (by rw [HW0.out, HN2.out, hn2]; rfl)
                  clear HW0 HN2 HIN
                  go_wp2_with fail
                  refine HG2.out.mono ?_
                  rintro e w5 ⟨rfl, rfl⟩
                  go_wp2_with fail
                  refine HG1.out.mono ?_
                  rintro e w5 ⟨rfl, rfl⟩
                  go_wp2
                  go_meet
                  case rel => exact ⟨by rw [HW.out], rfl⟩
        | false =>
          rw [hn1] at HN1
          have HW0 : Hid (want = (gA && !aa && gB && !ba && mem)) := Lib.hid (by rw [HWD.out, HN1.out]; simp)
          clear HWD HNG HN1 HN2
          cases gA with
          | false =>
            have HW : Hid (want = false) := Lib.hid (by rw [HW0.out]; rfl)
            clear HW0 HIN HG2
            go_wp2_with fail
            refine HG1.out.mono ?_
            rintro e w5 ⟨rfl, rfl⟩
            go_wp2
            go_meet
            case rel => exact ⟨by rw [HW.out], rfl⟩
          | true =>
            cases aa with
            | true =>
              have HW : Hid (want = false) := Lib.hid (by rw [HW0.out]; rfl)
              clear HW0 HIN HG2
              go_wp2_with fail
              refine HG1.out.mono ?_
              rintro e w5 ⟨rfl, rfl⟩
              go_wp2
              go_meet
              case rel => exact ⟨by rw [HW.out], rfl⟩
            | false =>
              cases gB with
              | false =>
                have HW : Hid (want = false) := Lib.hid (by rw [HW0.out]; rfl)
                clear HW0 HIN
                go_wp2_with fail
                refine HG1.out.mono ?_
                rintro e w5 ⟨rfl, rfl⟩
                go_wp2_with fail
                refine HG2.out.mono ?_
                rintro e w5 ⟨rfl, rfl⟩
                go_wp2
                go_meet
                case rel => exact ⟨by rw [HW.out], rfl⟩
              | true =>
                cases ba with
                | true =>
                  have HW : Hid (want = false) := Lib.hid (by rw [HW0.out]; rfl)
                  clear HW0 HIN
                  go_wp2_with fail
                  refine HG1.out.mono ?_
                  rintro e w5 ⟨rfl, rfl⟩
                  go_wp2_with fail
                  refine HG2.out.mono ?_
                  rintro e w5 ⟨rfl, rfl⟩
                  go_wp2
                  go_meet
                  case rel => exact ⟨by rw [HW.out], rfl⟩
                | false =>
                  have HW : Hid (want = mem) := Lib.hid (by rw [HW0.out]; simp)
                  clear HW0
                  go_wp2_with fail
                  refine HG1.out.mono ?_
                  rintro e w5 ⟨rfl, rfl⟩
                  go_wp2_with fail
                  refine HG2.out.mono ?_
                  rintro e w5 ⟨rfl, rfl⟩
                  go_wp2_with fail
                  refine HIN.out.mono ?_
                  rintro e w5 ⟨rfl, rfl⟩
                  go_wp2
                  go_meet
                  case rel => exact ⟨by rw [HW.out], rfl⟩
    case rest =>
      obtain ⟨rfl, rfl⟩ := hcut
      have HTD : Hid (TS W tb fm L 0 wc.drew) := Lib.hid HT4.out.drew
      obtain ⟨want, hwant⟩ : ∃ r, r = ftB L an aa bn ba := ⟨_, rfl⟩
      have hww : (want == want) = true := by simp
      rw [← hwant]
      have HWA := Lib.hid hwant
      obtain ⟨kA, HKA⟩ : ∃ r, Hid (knB L an = r) := ⟨_, Lib.hid rfl⟩
      obtain ⟨kB, HKB⟩ : ∃ r, Hid (knB L bn = r) := ⟨_, Lib.hid rfl⟩
      have hkk : (kB == kB) = true := by simp
      clear hwant HT4
      cases kA with
      | true =>
        go_wp2
        refine wp_region_held_drew (S := fun w' => w'.cell? ⟨W.heap.size, 0, none⟩ = some (.string an) ∧ w'.cell? ⟨W.heap.size, 1, none⟩ = some (.bool aa) ∧ w'.cell? ⟨W.heap.size + 1, 0, none⟩ = some (.string bn) ∧ w'.cell? ⟨W.heap.size + 1, 1, none⟩ = some (.bool ba)) (by kernel_rfl) ?_ (fun hHeld => ?_)
        · exact HC4.out
        refine wpAnyH_take (i := 0) (v := ?_) rfl (by kernel_rfl) (by kernel_rfl) (by kernel_rfl) (fun _ _ _ h => h) (Or.inl ⟨by rfl, ?_⟩) (by assumption) ?_
        rotate_left
        focus (intro w hSw; obtain ⟨hS0, hS1, hS2, hS3⟩ := hSw; go_simp; first | done | with_reducible rfl)
        simp only [Act.put, List.getElem_toArray, List.getElem_cons_zero, List.setIfInBounds_toArray, List.set_cons_zero, List.set_cons_succ]
        refine wpAnyH_take (i := 1) (v := ?_) rfl (by kernel_rfl) (by kernel_rfl) (by kernel_rfl) (fun _ _ _ h => h) (Or.inl ⟨by rfl, ?_⟩) (by assumption) ?_
        rotate_left
        focus (intro w hSw; obtain ⟨hS0, hS1, hS2, hS3⟩ := hSw; go_simp; first | done | with_reducible rfl)
        simp only [Act.put, List.getElem_toArray, List.getElem_cons_zero, List.getElem_cons_succ, List.setIfInBounds_toArray, List.set_cons_zero, List.set_cons_succ]
        refine wpAnyH_take (i := 2) (v := ?_) rfl (by kernel_rfl) (by kernel_rfl) (by kernel_rfl) (fun _ _ _ h => h) (Or.inl ⟨by rfl, ?_⟩) (by assumption) ?_
        rotate_left
        focus (intro w hSw; obtain ⟨hS0, hS1, hS2, hS3⟩ := hSw; go_simp; first | done | with_reducible rfl)
        simp only [Act.put, List.getElem_toArray, List.getElem_cons_zero, List.getElem_cons_succ, List.setIfInBounds_toArray, List.set_cons_zero, List.set_cons_succ]
        refine wpAnyH_take (i := 4) (v := ?_) rfl (by kernel_rfl) (by kernel_rfl) (by kernel_rfl) (fun _ _ _ h => h) (Or.inl ⟨by rfl, ?_⟩) (by assumption) ?_
        rotate_left
        focus (intro w hSw; obtain ⟨hS0, hS1, hS2, hS3⟩ := hSw; go_simp; first | done | with_reducible rfl)
        simp only [Act.put, List.getElem_toArray, List.getElem_cons_zero, List.getElem_cons_succ, List.setIfInBounds_toArray, List.set_cons_zero, List.set_cons_succ]
        refine wpAnyH_ready (rs := [3]) (by kernel_rfl) (by simp) ?_
        refine AllReadyH.cons (o := _) rfl (fun K hK => ?_) AllReadyH.nil
        go_simp
        with_reducible refine (fits_ts HTD.out (by omega) (by omega) an aa bn ba hma).mono ?_
        rintro e v3 ⟨rfl, hT3, hk3⟩
        rw [← HWA.out]
        go_simp
        refine hK.out _ _ ⟨hk3 _ _ hHeld.1 (pl_str _), hk3 _ _ hHeld.2.1 (pl_bool _), hk3 _ _ hHeld.2.2.1 (pl_str _), hk3 _ _ hHeld.2.2.2 (pl_bool _)⟩ (fun hHeld => ?_)
        clear hK K
        try simp only [Act.put, List.getElem_toArray, List.getElem_cons_zero, List.getElem_cons_succ, List.setIfInBounds_toArray, List.set_cons_zero, List.set_cons_succ]
        refine wpAnyH_take (i := 5) (v := ?_) rfl (by kernel_rfl) (by kernel_rfl) (by kernel_rfl) (fun _ _ _ h => h) (Or.inl ⟨by rfl, ?_⟩) (by assumption) ?_
        rotate_left
        focus (intro w hSw; obtain ⟨hS0, hS1, hS2, hS3⟩ := hSw; go_simp; first | done | with_reducible rfl)
        simp only [Act.put, List.getElem_toArray, List.getElem_cons_zero, List.getElem_cons_succ, List.setIfInBounds_toArray, List.set_cons_zero, List.set_cons_succ]
        refine wpAnyH_take (i := 6) (v := ?_) rfl (by kernel_rfl) (by kernel_rfl) (by kernel_rfl) (fun _ _ _ h => h) (Or.inl ⟨by rfl, ?_⟩) (by assumption) ?_
        rotate_left
        focus (intro w hSw; obtain ⟨hS0, hS1, hS2, hS3⟩ := hSw; go_simp; first | done | with_reducible rfl)
        simp only [Act.put, List.getElem_toArray, List.getElem_cons_zero, List.getElem_cons_succ, List.setIfInBounds_toArray, List.set_cons_zero, List.set_cons_succ]
        refine wpAnyH_take (i := 7) (v := ?_) rfl (by kernel_rfl) (by kernel_rfl) (by kernel_rfl) (fun _ _ _ h => h) (Or.inl ⟨by rfl, ?_⟩) (by assumption) ?_
        rotate_left
        focus (intro w hSw; obtain ⟨hS0, hS1, hS2, hS3⟩ := hSw; go_simp; first | done | with_reducible rfl)
        simp only [Act.put, List.getElem_toArray, List.getElem_cons_zero, List.getElem_cons_succ, List.setIfInBounds_toArray, List.set_cons_zero, List.set_cons_succ]
        refine wpAnyH_take (i := 8) (v := ?_) rfl (by kernel_rfl) (by kernel_rfl) (by kernel_rfl) (fun _ _ _ h => h) (Or.inl ⟨by rfl, ?_⟩) (by assumption) ?_
        rotate_left
        focus (intro w hSw; obtain ⟨hS0, hS1, hS2, hS3⟩ := hSw; go_simp; first | done | with_reducible rfl)
        simp only [Act.put, List.getElem_toArray, List.getElem_cons_zero, List.getElem_cons_succ, List.setIfInBounds_toArray, List.set_cons_zero, List.set_cons_succ]
        refine wpAnyH_take (i := 11) (v := ?_) rfl (by kernel_rfl) (by kernel_rfl) (by kernel_rfl) (fun _ _ _ h => h) (Or.inl ⟨by rfl, ?_⟩) (by assumption) ?_
        rotate_left
        focus (intro w hSw; obtain ⟨hS0, hS1, hS2, hS3⟩ := hSw; go_simp; first | done | with_reducible rfl)
        simp only [Act.put, List.getElem_toArray, List.getElem_cons_zero, List.getElem_cons_succ, List.setIfInBounds_toArray, List.set_cons_zero, List.set_cons_succ]
        refine wpAnyH_take (i := 12) (v := ?_) rfl (by kernel_rfl) (by kernel_rfl) (by kernel_rfl) (fun _ _ _ h => h) (Or.inl ⟨by rfl, ?_⟩) (by assumption) ?_
        rotate_left
        focus (intro w hSw; obtain ⟨hS0, hS1, hS2, hS3⟩ := hSw; go_simp; first | done | with_reducible rfl)
        simp only [Act.put, List.getElem_toArray, List.getElem_cons_zero, List.getElem_cons_succ, List.setIfInBounds_toArray, List.set_cons_zero, List.set_cons_succ]
        refine wpAnyH_ready (rs := [9]) (by kernel_rfl) (by simp) ?_
        refine AllReadyH.cons (o := _) rfl (fun K hK => ?_) AllReadyH.nil
        go_simp
        have hT9 := hT3.below (below1 v3 (.cells #[.string an, .bool aa] 44))
        have hk9 := Keeps.of_below (below1 v3 (.cells #[.string an, .bool aa] 44))
        have hl9 := tys1 v3 an aa
        refine hK.out _ _ ⟨hk9 _ _ hHeld.1 (pl_str _), hk9 _ _ hHeld.2.1 (pl_bool _), hk9 _ _ hHeld.2.2.1 (pl_str _), hk9 _ _ hHeld.2.2.2 (pl_bool _)⟩ (fun hHeld => ?_)
        clear hK K
        try simp only [Act.put, List.getElem_toArray, List.getElem_cons_zero, List.getElem_cons_succ, List.setIfInBounds_toArray, List.set_cons_zero, List.set_cons_succ]
        refine wpAnyH_ready (rs := [10]) (by kernel_rfl) (by simp) ?_
        refine AllReadyH.cons (o := _) rfl (fun K hK => ?_) AllReadyH.nil
        go_simp
        with_reducible refine (known_ts hT9 (by omega) [⟨an, aa⟩] (by simpa using hma) (by simp) hl9).mono ?_
        rintro e v10 ⟨rfl, hT10, hk10⟩
        simp only [List.all_cons, List.all_nil, Bool.and_true]
        rw [HKA.out]
        go_simp
        refine hK.out _ _ ⟨hk10 _ _ hHeld.1 (pl_str _), hk10 _ _ hHeld.2.1 (pl_bool _), hk10 _ _ hHeld.2.2.1 (pl_str _), hk10 _ _ hHeld.2.2.2 (pl_bool _)⟩ (fun hHeld => ?_)
        clear hK K
        try simp only [Act.put, List.getElem_toArray, List.getElem_cons_zero, List.getElem_cons_succ, List.setIfInBounds_toArray, List.set_cons_zero, List.set_cons_succ]
        refine wpAnyH_ready (rs := [13]) (by kernel_rfl) (by simp) ?_
        refine AllReadyH.cons (o := _) rfl (fun K hK => ?_) AllReadyH.nil
        go_simp
        with_reducible refine (known28 L an aa v0 n cp v10 (fcs_keep (Keeps.of_below (hT10).bel) HH.out)).mono ?_
        rintro e v13 ⟨rfl, hb13⟩
        have hT13 := (hT10).below hb13
        have hk13 := Keeps.of_below hb13
        rw [HKA.out]
        go_simp
        refine hK.out _ _ ⟨hk13 _ _ hHeld.1 (pl_str _), hk13 _ _ hHeld.2.1 (pl_bool _), hk13 _ _ hHeld.2.2.1 (pl_str _), hk13 _ _ hHeld.2.2.2 (pl_bool _)⟩ (fun hHeld => ?_)
        clear hK K
        try simp only [Act.put, List.getElem_toArray, List.getElem_cons_zero, List.getElem_cons_succ, List.setIfInBounds_toArray, List.set_cons_zero, List.set_cons_succ]
        refine wpAnyH_take (i := 14) (v := ?_) rfl (by kernel_rfl) (by kernel_rfl) (by kernel_rfl) (fun _ _ _ h => h) (Or.inl ⟨by rfl, ?_⟩) (by assumption) ?_
        rotate_left
        focus (intro w hSw; obtain ⟨hS0, hS1, hS2, hS3⟩ := hSw; go_simp; first | done | with_reducible rfl)
        simp only [Act.put, List.getElem_toArray, List.getElem_cons_zero, List.getElem_cons_succ, List.setIfInBounds_toArray, List.set_cons_zero, List.set_cons_succ]
        refine wpAnyH_take (i := 15) (v := ?_) rfl (by kernel_rfl) (by kernel_rfl) (by kernel_rfl) (fun _ _ _ h => h) (Or.inl ⟨by rfl, ?_⟩) (by assumption) ?_
        rotate_left
        focus (intro w hSw; obtain ⟨hS0, hS1, hS2, hS3⟩ := hSw; go_simp; first | done | with_reducible rfl)
        simp only [Act.put, List.getElem_toArray, List.getElem_cons_zero, List.getElem_cons_succ, List.setIfInBounds_toArray, List.set_cons_zero, List.set_cons_succ]
        refine wpAnyH_take (i := 16) (v := ?_) rfl (by kernel_rfl) (by kernel_rfl) (by kernel_rfl) (fun _ _ _ h => h) (Or.inl ⟨by rfl, ?_⟩) (by assumption) ?_
        rotate_left
        focus (intro w hSw; obtain ⟨hS0, hS1, hS2, hS3⟩ := hSw; go_simp; first | done | with_reducible rfl)
        simp only [Act.put, List.getElem_toArray, List.getElem_cons_zero, List.getElem_cons_succ, List.setIfInBounds_toArray, List.set_cons_zero, List.set_cons_succ]
        refine wpAnyH_take (i := 17) (v := ?_) rfl (by kernel_rfl) (by kernel_rfl) (by kernel_rfl) (fun _ _ _ h => h) (Or.inl ⟨by rfl, ?_⟩) (by assumption) ?_
        rotate_left
        focus (intro w hSw; obtain ⟨hS0, hS1, hS2, hS3⟩ := hSw; go_simp; first | done | with_reducible rfl)
        simp only [Act.put, List.getElem_toArray, List.getElem_cons_zero, List.getElem_cons_succ, List.setIfInBounds_toArray, List.set_cons_zero, List.set_cons_succ]
        refine wpAnyH_take (i := 18) (v := ?_) rfl (by kernel_rfl) (by kernel_rfl) (by kernel_rfl) (fun _ _ _ h => h) (Or.inl ⟨by rfl, ?_⟩) (by assumption) ?_
        rotate_left
        focus (intro w hSw; obtain ⟨hS0, hS1, hS2, hS3⟩ := hSw; go_simp; first | done | with_reducible rfl)
        simp only [Act.put, List.getElem_toArray, List.getElem_cons_zero, List.getElem_cons_succ, List.setIfInBounds_toArray, List.set_cons_zero, List.set_cons_succ]
        refine wpAnyH_take (i := 19) (v := ?_) rfl (by kernel_rfl) (by kernel_rfl) (by kernel_rfl) (fun _ _ _ h => h) (Or.inl ⟨by rfl, ?_⟩) (by assumption) ?_
        rotate_left
        focus (intro w hSw; obtain ⟨hS0, hS1, hS2, hS3⟩ := hSw; go_simp; first | done | with_reducible rfl)
        simp only [Act.put, List.getElem_toArray, List.getElem_cons_zero, List.getElem_cons_succ, List.setIfInBounds_toArray, List.set_cons_zero, List.set_cons_succ]
        refine wpAnyH_take (i := 22) (v := ?_) rfl (by kernel_rfl) (by kernel_rfl) (by kernel_rfl) (fun _ _ _ h => h) (Or.inl ⟨by rfl, ?_⟩) (by assumption) ?_
        rotate_left
        focus (intro w hSw; obtain ⟨hS0, hS1, hS2, hS3⟩ := hSw; go_simp; first | done | with_reducible rfl)
        simp only [Act.put, List.getElem_toArray, List.getElem_cons_zero, List.getElem_cons_succ, List.setIfInBounds_toArray, List.set_cons_zero, List.set_cons_succ]
        refine wpAnyH_take (i := 23) (v := ?_) rfl (by kernel_rfl) (by kernel_rfl) (by kernel_rfl) (fun _ _ _ h => h) (Or.inl ⟨by rfl, ?_⟩) (by assumption) ?_
        rotate_left
        focus (intro w hSw; obtain ⟨hS0, hS1, hS2, hS3⟩ := hSw; go_simp; first | done | with_reducible rfl)
        simp only [Act.put, List.getElem_toArray, List.getElem_cons_zero, List.getElem_cons_succ, List.setIfInBounds_toArray, List.set_cons_zero, List.set_cons_succ]
        refine wpAnyH_ready (rs := [20]) (by kernel_rfl) (by simp) ?_
        refine AllReadyH.cons (o := _) rfl (fun K hK => ?_) AllReadyH.nil
        go_simp
        have hT20 := hT13.below (below1 v13 (.cells #[.string an, .bool aa, .string bn, .bool ba] 44))
        have hk20 := Keeps.of_below (below1 v13 (.cells #[.string an, .bool aa, .string bn, .bool ba] 44))
        have hl20 := tys2 v13 an aa bn ba
        refine hK.out _ _ ⟨hk20 _ _ hHeld.1 (pl_str _), hk20 _ _ hHeld.2.1 (pl_bool _), hk20 _ _ hHeld.2.2.1 (pl_str _), hk20 _ _ hHeld.2.2.2 (pl_bool _)⟩ (fun hHeld => ?_)
        clear hK K
        try simp only [Act.put, List.getElem_toArray, List.getElem_cons_zero, List.getElem_cons_succ, List.setIfInBounds_toArray, List.set_cons_zero, List.set_cons_succ]
        refine wpAnyH_ready (rs := [21]) (by kernel_rfl) (by simp) ?_
        refine AllReadyH.cons (o := _) rfl (fun K hK => ?_) AllReadyH.nil
        go_simp
        with_reducible refine (known_ts hT20 (by first | omega | (simp; done) | (simp; omega)) [⟨an, aa⟩, ⟨bn, ba⟩] (by simp; exact ⟨hma, hmb⟩) (by simp) hl20).mono ?_
        rintro e v21 ⟨rfl, hT21, hk21⟩
        simp only [List.all_cons, List.all_nil, Bool.and_true]
        rw [HKA.out, HKB.out]
        go_simp
        refine hK.out _ _ ⟨hk21 _ _ hHeld.1 (pl_str _), hk21 _ _ hHeld.2.1 (pl_bool _), hk21 _ _ hHeld.2.2.1 (pl_str _), hk21 _ _ hHeld.2.2.2 (pl_bool _)⟩ (fun hHeld => ?_)
        clear hK K
        try simp only [Act.put, List.getElem_toArray, List.getElem_cons_zero, List.getElem_cons_succ, List.setIfInBounds_toArray, List.set_cons_zero, List.set_cons_succ]
        refine wpAnyH_ready (rs := [24]) (by kernel_rfl) (by simp) ?_
        refine AllReadyH.cons (o := _) rfl (fun K hK => ?_) AllReadyH.nil
        go_simp
        with_reducible refine (known28 L an aa v0 n cp v21 (fcs_keep (Keeps.of_below (hT21).bel) HH.out)).mono ?_
        rintro e v24 ⟨rfl, hb24⟩
        have hT24 := (hT21).below hb24
        have hk24 := Keeps.of_below hb24
        rw [HKA.out]
        go_simp
        refine hK.out _ _ ⟨hk24 _ _ hHeld.1 (pl_str _), hk24 _ _ hHeld.2.1 (pl_bool _), hk24 _ _ hHeld.2.2.1 (pl_str _), hk24 _ _ hHeld.2.2.2 (pl_bool _)⟩ (fun hHeld => ?_)
        clear hK K
        try simp only [Act.put, List.getElem_toArray, List.getElem_cons_zero, List.getElem_cons_succ, List.setIfInBounds_toArray, List.set_cons_zero, List.set_cons_succ]
        refine wpAnyH_take (i := 25) (v := ?_) rfl (by kernel_rfl) (by kernel_rfl) (by kernel_rfl) (fun _ _ _ h => h) (Or.inl ⟨by rfl, ?_⟩) (by assumption) ?_
        rotate_left
        focus (intro w hSw; obtain ⟨hS0, hS1, hS2, hS3⟩ := hSw; go_simp; first | done | with_reducible rfl)
        simp only [Act.put, List.getElem_toArray, List.getElem_cons_zero, List.getElem_cons_succ, List.setIfInBounds_toArray, List.set_cons_zero, List.set_cons_succ]
        refine wpAnyH_take (i := 26) (v := ?_) rfl (by kernel_rfl) (by kernel_rfl) (by kernel_rfl) (fun _ _ _ h => h) (Or.inl ⟨by rfl, ?_⟩) (by assumption) ?_
        rotate_left
        focus (intro w hSw; obtain ⟨hS0, hS1, hS2, hS3⟩ := hSw; go_simp; first | done | with_reducible rfl)
        simp only [Act.put, List.getElem_toArray, List.getElem_cons_zero, List.getElem_cons_succ, List.setIfInBounds_toArray, List.set_cons_zero, List.set_cons_succ]
        refine wpAnyH_take (i := 27) (v := ?_) rfl (by kernel_rfl) (by kernel_rfl) (by kernel_rfl) (fun _ _ _ h => h) (Or.inl ⟨by rfl, ?_⟩) (by assumption) ?_
        rotate_left
        focus (intro w hSw; obtain ⟨hS0, hS1, hS2, hS3⟩ := hSw; go_simp; first | done | with_reducible rfl)
        simp only [Act.put, List.getElem_toArray, List.getElem_cons_zero, List.getElem_cons_succ, List.setIfInBounds_toArray, List.set_cons_zero, List.set_cons_succ]
        refine wpAnyH_ready (rs := [28]) (by kernel_rfl) (by simp) ?_
        refine AllReadyH.cons (o := _) rfl (fun K hK => ?_) AllReadyH.nil
        go_simp
        with_reducible refine (known28 L bn ba v0 n cp v24 (fcs_keep (Keeps.of_below (hT24).bel) HH.out)).mono ?_
        rintro e v28 ⟨rfl, hb28⟩
        have hT28 := (hT24).below hb28
        have hk28 := Keeps.of_below hb28
        rw [HKB.out]
        go_simp
        refine hK.out _ _ ⟨hk28 _ _ hHeld.1 (pl_str _), hk28 _ _ hHeld.2.1 (pl_bool _), hk28 _ _ hHeld.2.2.1 (pl_str _), hk28 _ _ hHeld.2.2.2 (pl_bool _)⟩ (fun hHeld => ?_)
        clear hK K
        try simp only [Act.put, List.getElem_toArray, List.getElem_cons_zero, List.getElem_cons_succ, List.setIfInBounds_toArray, List.set_cons_zero, List.set_cons_succ]
        refine wpAnyH_take (i := 29) (v := ?_) rfl (by kernel_rfl) (by kernel_rfl) (by kernel_rfl) (fun _ _ _ h => h) (Or.inl ⟨by rfl, ?_⟩) (by assumption) ?_
        rotate_left
        focus (intro w hSw; obtain ⟨hS0, hS1, hS2, hS3⟩ := hSw; go_simp; first | done | with_reducible rfl)
        simp only [Act.put, List.getElem_toArray, List.getElem_cons_zero, List.getElem_cons_succ, List.setIfInBounds_toArray, List.set_cons_zero, List.set_cons_succ]
        refine wpAnyH_take (i := 30) (v := ?_) rfl (by kernel_rfl) (by kernel_rfl) (by kernel_rfl) (fun _ _ _ h => h) (Or.inl ⟨by rfl, ?_⟩) (by assumption) ?_
        rotate_left
        focus (intro w hSw; obtain ⟨hS0, hS1, hS2, hS3⟩ := hSw; go_simp; first | done | with_reducible rfl)
        simp only [Act.put, List.getElem_toArray, List.getElem_cons_zero, List.getElem_cons_succ, List.setIfInBounds_toArray, List.set_cons_zero, List.set_cons_succ]
        refine wpAnyH_take (i := 31) (v := ?_) rfl (by kernel_rfl) (by kernel_rfl) (by kernel_rfl) (fun _ _ _ h => h) (Or.inl ⟨by rfl, ?_⟩) (by assumption) ?_
        rotate_left
        focus (intro w hSw; obtain ⟨hS0, hS1, hS2, hS3⟩ := hSw; go_simp; first | done | with_reducible rfl)
        simp only [Act.put, List.getElem_toArray, List.getElem_cons_zero, List.getElem_cons_succ, List.setIfInBounds_toArray, List.set_cons_zero, List.set_cons_succ]
        refine wpAnyH_take (i := 32) (v := ?_) rfl (by kernel_rfl) (by kernel_rfl) (by kernel_rfl) (fun _ _ _ h => h) (Or.inl ⟨by rfl, ?_⟩) (by assumption) ?_
        rotate_left
        focus (intro w hSw; obtain ⟨hS0, hS1, hS2, hS3⟩ := hSw; go_simp; first | done | with_reducible rfl)
        simp only [Act.put, List.getElem_toArray, List.getElem_cons_zero, List.getElem_cons_succ, List.setIfInBounds_toArray, List.set_cons_zero, List.set_cons_succ]
        refine wpAnyH_take (i := 33) (v := ?_) rfl (by kernel_rfl) (by kernel_rfl) (by kernel_rfl) (fun _ _ _ h => h) (Or.inl ⟨by rfl, ?_⟩) (by assumption) ?_
        rotate_left
        focus (intro w hSw; obtain ⟨hS0, hS1, hS2, hS3⟩ := hSw; go_simp; first | done | with_reducible rfl)
        simp only [Act.put, List.getElem_toArray, List.getElem_cons_zero, List.getElem_cons_succ, List.setIfInBounds_toArray, List.set_cons_zero, List.set_cons_succ]
        refine wpAnyH_ready (rs := [34]) (by kernel_rfl) (by simp) ?_
        refine AllReadyH.cons (o := _) rfl (fun K hK => ?_) AllReadyH.nil
        go_simp
        with_reducible refine (known_ts hT28 (by first | omega | (simp; done) | (simp; omega)) [] (by simp) (by simp) (Sl.nil _ _ _)).mono ?_
        rintro e v34 ⟨rfl, hT34, hk34⟩
        simp only [List.all_nil]
        go_simp
        refine hK.out _ _ ⟨hk34 _ _ hHeld.1 (pl_str _), hk34 _ _ hHeld.2.1 (pl_bool _), hk34 _ _ hHeld.2.2.1 (pl_str _), hk34 _ _ hHeld.2.2.2 (pl_bool _)⟩ (fun hHeld => ?_)
        clear hK K
        try simp only [Act.put, List.getElem_toArray, List.getElem_cons_zero, List.getElem_cons_succ, List.setIfInBounds_toArray, List.set_cons_zero, List.set_cons_succ]
        refine wpAnyH_take (i := 35) (v := ?_) rfl (by kernel_rfl) (by kernel_rfl) (by kernel_rfl) (fun _ _ _ h => h) (Or.inl ⟨by rfl, ?_⟩) (by assumption) ?_
        rotate_left
        focus (intro w hSw; obtain ⟨hS0, hS1, hS2, hS3⟩ := hSw; go_simp; first | done | with_reducible rfl)
        simp only [Act.put, List.getElem_toArray, List.getElem_cons_zero, List.getElem_cons_succ, List.setIfInBounds_toArray, List.set_cons_zero, List.set_cons_succ]
        refine wpAnyH_take (i := 36) (v := ?_) rfl (by kernel_rfl) (by kernel_rfl) (by kernel_rfl) (fun _ _ _ h => h) (Or.inl ⟨by rfl, ?_⟩) (by assumption) ?_
        rotate_left
        focus (intro w hSw; obtain ⟨hS0, hS1, hS2, hS3⟩ := hSw; go_simp; first | done | with_reducible rfl)
        simp only [Act.put, List.getElem_toArray, List.getElem_cons_zero, List.getElem_cons_succ, List.setIfInBounds_toArray, List.set_cons_zero, List.set_cons_succ]
        refine wpAnyH_done (by kernel_rfl) ?_ _
        have HBL := Lib.hid hT34.bel
        clear hT3 hT9 hT10 hT13 hT20 hT21 hT24 hT28 hT34
        go_wp2
        go_ret
        exact ⟨rfl, HBL.out⟩
      | false =>
        go_wp2
        refine wp_region_held_drew (S := fun w' => w'.cell? ⟨W.heap.size, 0, none⟩ = some (.string an) ∧ w'.cell? ⟨W.heap.size, 1, none⟩ = some (.bool aa) ∧ w'.cell? ⟨W.heap.size + 1, 0, none⟩ = some (.string bn) ∧ w'.cell? ⟨W.heap.size + 1, 1, none⟩ = some (.bool ba)) (by kernel_rfl) ?_ (fun hHeld => ?_)
        · exact HC4.out
        refine wpAnyH_take (i := 0) (v := ?_) rfl (by kernel_rfl) (by kernel_rfl) (by kernel_rfl) (fun _ _ _ h => h) (Or.inl ⟨by rfl, ?_⟩) (by assumption) ?_
        rotate_left
        focus (intro w hSw; obtain ⟨hS0, hS1, hS2, hS3⟩ := hSw; go_simp; first | done | with_reducible rfl)
        simp only [Act.put, List.getElem_toArray, List.getElem_cons_zero, List.setIfInBounds_toArray, List.set_cons_zero, List.set_cons_succ]
        refine wpAnyH_take (i := 1) (v := ?_) rfl (by kernel_rfl) (by kernel_rfl) (by kernel_rfl) (fun _ _ _ h => h) (Or.inl ⟨by rfl, ?_⟩) (by assumption) ?_
        rotate_left
        focus (intro w hSw; obtain ⟨hS0, hS1, hS2, hS3⟩ := hSw; go_simp; first | done | with_reducible rfl)
        simp only [Act.put, List.getElem_toArray, List.getElem_cons_zero, List.getElem_cons_succ, List.setIfInBounds_toArray, List.set_cons_zero, List.set_cons_succ]
        refine wpAnyH_take (i := 2) (v := ?_) rfl (by kernel_rfl) (by kernel_rfl) (by kernel_rfl) (fun _ _ _ h => h) (Or.inl ⟨by rfl, ?_⟩) (by assumption) ?_
        rotate_left
        focus (intro w hSw; obtain ⟨hS0, hS1, hS2, hS3⟩ := hSw; go_simp; first | done | with_reducible rfl)
        simp only [Act.put, List.getElem_toArray, List.getElem_cons_zero, List.getElem_cons_succ, List.setIfInBounds_toArray, List.set_cons_zero, List.set_cons_succ]
        refine wpAnyH_take (i := 4) (v := ?_) rfl (by kernel_rfl) (by kernel_rfl) (by kernel_rfl) (fun _ _ _ h => h) (Or.inl ⟨by rfl, ?_⟩) (by assumption) ?_
        rotate_left
        focus (intro w hSw; obtain ⟨hS0, hS1, hS2, hS3⟩ := hSw; go_simp; first | done | with_reducible rfl)
        simp only [Act.put, List.getElem_toArray, List.getElem_cons_zero, List.getElem_cons_succ, List.setIfInBounds_toArray, List.set_cons_zero, List.set_cons_succ]
        refine wpAnyH_ready (rs := [3]) (by kernel_rfl) (by simp) ?_
        refine AllReadyH.cons (o := _) rfl (fun K hK => ?_) AllReadyH.nil
        go_simp
        with_reducible refine (fits_ts HTD.out (by omega) (by omega) an aa bn ba hma).mono ?_
        rintro e v3 ⟨rfl, hT3, hk3⟩
        rw [← HWA.out]
        go_simp
        refine hK.out _ _ ⟨hk3 _ _ hHeld.1 (pl_str _), hk3 _ _ hHeld.2.1 (pl_bool _), hk3 _ _ hHeld.2.2.1 (pl_str _), hk3 _ _ hHeld.2.2.2 (pl_bool _)⟩ (fun hHeld => ?_)
        clear hK K
        try simp only [Act.put, List.getElem_toArray, List.getElem_cons_zero, List.getElem_cons_succ, List.setIfInBounds_toArray, List.set_cons_zero, List.set_cons_succ]
        refine wpAnyH_take (i := 5) (v := ?_) rfl (by kernel_rfl) (by kernel_rfl) (by kernel_rfl) (fun _ _ _ h => h) (Or.inl ⟨by rfl, ?_⟩) (by assumption) ?_
        rotate_left
        focus (intro w hSw; obtain ⟨hS0, hS1, hS2, hS3⟩ := hSw; go_simp; first | done | with_reducible rfl)
        simp only [Act.put, List.getElem_toArray, List.getElem_cons_zero, List.getElem_cons_succ, List.setIfInBounds_toArray, List.set_cons_zero, List.set_cons_succ]
        refine wpAnyH_take (i := 6) (v := ?_) rfl (by kernel_rfl) (by kernel_rfl) (by kernel_rfl) (fun _ _ _ h => h) (Or.inl ⟨by rfl, ?_⟩) (by assumption) ?_
        rotate_left
        focus (intro w hSw; obtain ⟨hS0, hS1, hS2, hS3⟩ := hSw; go_simp; first | done | with_reducible rfl)
        simp only [Act.put, List.getElem_toArray, List.getElem_cons_zero, List.getElem_cons_succ, List.setIfInBounds_toArray, List.set_cons_zero, List.set_cons_succ]
        refine wpAnyH_take (i := 7) (v := ?_) rfl (by kernel_rfl) (by kernel_rfl) (by kernel_rfl) (fun _ _ _ h => h) (Or.inl ⟨by rfl, ?_⟩) (by assumption) ?_
        rotate_left
        focus (intro w hSw; obtain ⟨hS0, hS1, hS2, hS3⟩ := hSw; go_simp; first | done | with_reducible rfl)
        simp only [Act.put, List.getElem_toArray, List.getElem_cons_zero, List.getElem_cons_succ, List.setIfInBounds_toArray, List.set_cons_zero, List.set_cons_succ]
        refine wpAnyH_take (i := 8) (v := ?_) rfl (by kernel_rfl) (by kernel_rfl) (by kernel_rfl) (fun _ _ _ h => h) (Or.inl ⟨by rfl, ?_⟩) (by assumption) ?_
        rotate_left
        focus (intro w hSw; obtain ⟨hS0, hS1, hS2, hS3⟩ := hSw; go_simp; first | done | with_reducible rfl)
        simp only [Act.put, List.getElem_toArray, List.getElem_cons_zero, List.getElem_cons_succ, List.setIfInBounds_toArray, List.set_cons_zero, List.set_cons_succ]
        refine wpAnyH_take (i := 11) (v := ?_) rfl (by kernel_rfl) (by kernel_rfl) (by kernel_rfl) (fun _ _ _ h => h) (Or.inl ⟨by rfl, ?_⟩) (by assumption) ?_
        rotate_left
        focus (intro w hSw; obtain ⟨hS0, hS1, hS2, hS3⟩ := hSw; go_simp; first | done | with_reducible rfl)
        simp only [Act.put, List.getElem_toArray, List.getElem_cons_zero, List.getElem_cons_succ, List.setIfInBounds_toArray, List.set_cons_zero, List.set_cons_succ]
        refine wpAnyH_take (i := 12) (v := ?_) rfl (by kernel_rfl) (by kernel_rfl) (by kernel_rfl) (fun _ _ _ h => h) (Or.inl ⟨by rfl, ?_⟩) (by assumption) ?_
        rotate_left
        focus (intro w hSw; obtain ⟨hS0, hS1, hS2, hS3⟩ := hSw; go_simp; first | done | with_reducible rfl)
        simp only [Act.put, List.getElem_toArray, List.getElem_cons_zero, List.getElem_cons_succ, List.setIfInBounds_toArray, List.set_cons_zero, List.set_cons_succ]
        refine wpAnyH_ready (rs := [9]) (by kernel_rfl) (by simp) ?_
        refine AllReadyH.cons (o := _) rfl (fun K hK => ?_) AllReadyH.nil
        go_simp
        have hT9 := hT3.below (below1 v3 (.cells #[.string an, .bool aa] 44))
        have hk9 := Keeps.of_below (below1 v3 (.cells #[.string an, .bool aa] 44))
        have hl9 := tys1 v3 an aa
        refine hK.out _ _ ⟨hk9 _ _ hHeld.1 (pl_str _), hk9 _ _ hHeld.2.1 (pl_bool _), hk9 _ _ hHeld.2.2.1 (pl_str _), hk9 _ _ hHeld.2.2.2 (pl_bool _)⟩ (fun hHeld => ?_)
        clear hK K
        try simp only [Act.put, List.getElem_toArray, List.getElem_cons_zero, List.getElem_cons_succ, List.setIfInBounds_toArray, List.set_cons_zero, List.set_cons_succ]
        refine wpAnyH_ready (rs := [10]) (by kernel_rfl) (by simp) ?_
        refine AllReadyH.cons (o := _) rfl (fun K hK => ?_) AllReadyH.nil
        go_simp
        with_reducible refine (known_ts hT9 (by omega) [⟨an, aa⟩] (by simpa using hma) (by simp) hl9).mono ?_
        rintro e v10 ⟨rfl, hT10, hk10⟩
        simp only [List.all_cons, List.all_nil, Bool.and_true]
        rw [HKA.out]
        go_simp
        refine hK.out _ _ ⟨hk10 _ _ hHeld.1 (pl_str _), hk10 _ _ hHeld.2.1 (pl_bool _), hk10 _ _ hHeld.2.2.1 (pl_str _), hk10 _ _ hHeld.2.2.2 (pl_bool _)⟩ (fun hHeld => ?_)
        clear hK K
        try simp only [Act.put, List.getElem_toArray, List.getElem_cons_zero, List.getElem_cons_succ, List.setIfInBounds_toArray, List.set_cons_zero, List.set_cons_succ]
        refine wpAnyH_ready (rs := [13]) (by kernel_rfl) (by simp) ?_
        refine AllReadyH.cons (o := _) rfl (fun K hK => ?_) AllReadyH.nil
        go_simp
        with_reducible refine (known28 L an aa v0 n cp v10 (fcs_keep (Keeps.of_below (hT10).bel) HH.out)).mono ?_
        rintro e v13 ⟨rfl, hb13⟩
        have hT13 := (hT10).below hb13
        have hk13 := Keeps.of_below hb13
        rw [HKA.out]
        go_simp
        refine hK.out _ _ ⟨hk13 _ _ hHeld.1 (pl_str _), hk13 _ _ hHeld.2.1 (pl_bool _), hk13 _ _ hHeld.2.2.1 (pl_str _), hk13 _ _ hHeld.2.2.2 (pl_bool _)⟩ (fun hHeld => ?_)
        clear hK K
        try simp only [Act.put, List.getElem_toArray, List.getElem_cons_zero, List.getElem_cons_succ, List.setIfInBounds_toArray, List.set_cons_zero, List.set_cons_succ]
        refine wpAnyH_take (i := 14) (v := ?_) rfl (by kernel_rfl) (by kernel_rfl) (by kernel_rfl) (fun _ _ _ h => h) (Or.inl ⟨by rfl, ?_⟩) (by assumption) ?_
        rotate_left
        focus (intro w hSw; obtain ⟨hS0, hS1, hS2, hS3⟩ := hSw; go_simp; first | done | with_reducible rfl)
        simp only [Act.put, List.getElem_toArray, List.getElem_cons_zero, List.getElem_cons_succ, List.setIfInBounds_toArray, List.set_cons_zero, List.set_cons_succ]
        refine wpAnyH_take (i := 15) (v := ?_) rfl (by kernel_rfl) (by kernel_rfl) (by kernel_rfl) (fun _ _ _ h => h) (Or.inl ⟨by rfl, ?_⟩) (by assumption) ?_
        rotate_left
        focus (intro w hSw; obtain ⟨hS0, hS1, hS2, hS3⟩ := hSw; go_simp; first | done | with_reducible rfl)
        simp only [Act.put, List.getElem_toArray, List.getElem_cons_zero, List.getElem_cons_succ, List.setIfInBounds_toArray, List.set_cons_zero, List.set_cons_succ]
        refine wpAnyH_take (i := 16) (v := ?_) rfl (by kernel_rfl) (by kernel_rfl) (by kernel_rfl) (fun _ _ _ h => h) (Or.inl ⟨by rfl, ?_⟩) (by assumption) ?_
        rotate_left
        focus (intro w hSw; obtain ⟨hS0, hS1, hS2, hS3⟩ := hSw; go_simp; first | done | with_reducible rfl)
        simp only [Act.put, List.getElem_toArray, List.getElem_cons_zero, List.getElem_cons_succ, List.setIfInBounds_toArray, List.set_cons_zero, List.set_cons_succ]
        refine wpAnyH_take (i := 17) (v := ?_) rfl (by kernel_rfl) (by kernel_rfl) (by kernel_rfl) (fun _ _ _ h => h) (Or.inl ⟨by rfl, ?_⟩) (by assumption) ?_
        rotate_left
        focus (intro w hSw; obtain ⟨hS0, hS1, hS2, hS3⟩ := hSw; go_simp; first | done | with_reducible rfl)
        simp only [Act.put, List.getElem_toArray, List.getElem_cons_zero, List.getElem_cons_succ, List.setIfInBounds_toArray, List.set_cons_zero, List.set_cons_succ]
        refine wpAnyH_take (i := 18) (v := ?_) rfl (by kernel_rfl) (by kernel_rfl) (by kernel_rfl) (fun _ _ _ h => h) (Or.inl ⟨by rfl, ?_⟩) (by assumption) ?_
        rotate_left
        focus (intro w hSw; obtain ⟨hS0, hS1, hS2, hS3⟩ := hSw; go_simp; first | done | with_reducible rfl)
        simp only [Act.put, List.getElem_toArray, List.getElem_cons_zero, List.getElem_cons_succ, List.setIfInBounds_toArray, List.set_cons_zero, List.set_cons_succ]
        refine wpAnyH_take (i := 19) (v := ?_) rfl (by kernel_rfl) (by kernel_rfl) (by kernel_rfl) (fun _ _ _ h => h) (Or.inl ⟨by rfl, ?_⟩) (by assumption) ?_
        rotate_left
        focus (intro w hSw; obtain ⟨hS0, hS1, hS2, hS3⟩ := hSw; go_simp; first | done | with_reducible rfl)
        simp only [Act.put, List.getElem_toArray, List.getElem_cons_zero, List.getElem_cons_succ, List.setIfInBounds_toArray, List.set_cons_zero, List.set_cons_succ]
        refine wpAnyH_take (i := 22) (v := ?_) rfl (by kernel_rfl) (by kernel_rfl) (by kernel_rfl) (fun _ _ _ h => h) (Or.inl ⟨by rfl, ?_⟩) (by assumption) ?_
        rotate_left
        focus (intro w hSw; obtain ⟨hS0, hS1, hS2, hS3⟩ := hSw; go_simp; first | done | with_reducible rfl)
        simp only [Act.put, List.getElem_toArray, List.getElem_cons_zero, List.getElem_cons_succ, List.setIfInBounds_toArray, List.set_cons_zero, List.set_cons_succ]
        refine wpAnyH_take (i := 23) (v := ?_) rfl (by kernel_rfl) (by kernel_rfl) (by kernel_rfl) (fun _ _ _ h => h) (Or.inl ⟨by rfl, ?_⟩) (by assumption) ?_
        rotate_left
        focus (intro w hSw; obtain ⟨hS0, hS1, hS2, hS3⟩ := hSw; go_simp; first | done | with_reducible rfl)
        simp only [Act.put, List.getElem_toArray, List.getElem_cons_zero, List.getElem_cons_succ, List.setIfInBounds_toArray, List.set_cons_zero, List.set_cons_succ]
        refine wpAnyH_ready (rs := [20]) (by kernel_rfl) (by simp) ?_
        refine AllReadyH.cons (o := _) rfl (fun K hK => ?_) AllReadyH.nil
        go_simp
        have hT20 := hT13.below (below1 v13 (.cells #[.string an, .bool aa, .string bn, .bool ba] 44))
        have hk20 := Keeps.of_below (below1 v13 (.cells #[.string an, .bool aa, .string bn, .bool ba] 44))
        have hl20 := tys2 v13 an aa bn ba
        refine hK.out _ _ ⟨hk20 _ _ hHeld.1 (pl_str _), hk20 _ _ hHeld.2.1 (pl_bool _), hk20 _ _ hHeld.2.2.1 (pl_str _), hk20 _ _ hHeld.2.2.2 (pl_bool _)⟩ (fun hHeld => ?_)
        clear hK K
        try simp only [Act.put, List.getElem_toArray, List.getElem_cons_zero, List.getElem_cons_succ, List.setIfInBounds_toArray, List.set_cons_zero, List.set_cons_succ]
        refine wpAnyH_ready (rs := [21]) (by kernel_rfl) (by simp) ?_
        refine AllReadyH.cons (o := _) rfl (fun K hK => ?_) AllReadyH.nil
        go_simp
        with_reducible refine (known_ts hT20 (by first | omega | (simp; done) | (simp; omega)) [⟨an, aa⟩, ⟨bn, ba⟩] (by simp; exact ⟨hma, hmb⟩) (by simp) hl20).mono ?_
        rintro e v21 ⟨rfl, hT21, hk21⟩
        simp only [List.all_cons, List.all_nil, Bool.and_true]
        rw [HKA.out, HKB.out]
        go_simp
        refine hK.out _ _ ⟨hk21 _ _ hHeld.1 (pl_str _), hk21 _ _ hHeld.2.1 (pl_bool _), hk21 _ _ hHeld.2.2.1 (pl_str _), hk21 _ _ hHeld.2.2.2 (pl_bool _)⟩ (fun hHeld => ?_)
        clear hK K
        try simp only [Act.put, List.getElem_toArray, List.getElem_cons_zero, List.getElem_cons_succ, List.setIfInBounds_toArray, List.set_cons_zero, List.set_cons_succ]
        refine wpAnyH_ready (rs := [24]) (by kernel_rfl) (by simp) ?_
        refine AllReadyH.cons (o := _) rfl (fun K hK => ?_) AllReadyH.nil
        go_simp
        with_reducible refine (known28 L an aa v0 n cp v21 (fcs_keep (Keeps.of_below (hT21).bel) HH.out)).mono ?_
        rintro e v24 ⟨rfl, hb24⟩
        have hT24 := (hT21).below hb24
        have hk24 := Keeps.of_below hb24
        rw [HKA.out]
        go_simp
        refine hK.out _ _ ⟨hk24 _ _ hHeld.1 (pl_str _), hk24 _ _ hHeld.2.1 (pl_bool _), hk24 _ _ hHeld.2.2.1 (pl_str _), hk24 _ _ hHeld.2.2.2 (pl_bool _)⟩ (fun hHeld => ?_)
        clear hK K
        try simp only [Act.put, List.getElem_toArray, List.getElem_cons_zero, List.getElem_cons_succ, List.setIfInBounds_toArray, List.set_cons_zero, List.set_cons_succ]
        refine wpAnyH_take (i := 25) (v := ?_) rfl (by kernel_rfl) (by kernel_rfl) (by kernel_rfl) (fun _ _ _ h => h) (Or.inl ⟨by rfl, ?_⟩) (by assumption) ?_
        rotate_left
        focus (intro w hSw; obtain ⟨hS0, hS1, hS2, hS3⟩ := hSw; go_simp; first | done | with_reducible rfl)
        simp only [Act.put, List.getElem_toArray, List.getElem_cons_zero, List.getElem_cons_succ, List.setIfInBounds_toArray, List.set_cons_zero, List.set_cons_succ]
        refine wpAnyH_take (i := 26) (v := undef) rfl (by kernel_rfl) (by kernel_rfl) (by kernel_rfl) (fun _ _ _ h => h) (Or.inr ⟨by rfl, rfl⟩) (by assumption) ?_
        try simp only [Act.put, List.getElem_toArray, List.getElem_cons_zero, List.getElem_cons_succ, List.setIfInBounds_toArray, List.set_cons_zero, List.set_cons_succ]
        refine wpAnyH_take (i := 27) (v := undef) rfl (by kernel_rfl) (by kernel_rfl) (by kernel_rfl) (fun _ _ _ h => h) (Or.inr ⟨by rfl, rfl⟩) (by assumption) ?_
        try simp only [Act.put, List.getElem_toArray, List.getElem_cons_zero, List.getElem_cons_succ, List.setIfInBounds_toArray, List.set_cons_zero, List.set_cons_succ]
        refine wpAnyH_take (i := 28) (v := undef) rfl (by kernel_rfl) (by kernel_rfl) (by kernel_rfl) (fun _ _ _ h => h) (Or.inr ⟨by rfl, rfl⟩) (by assumption) ?_
        try simp only [Act.put, List.getElem_toArray, List.getElem_cons_zero, List.getElem_cons_succ, List.setIfInBounds_toArray, List.set_cons_zero, List.set_cons_succ]
        refine wpAnyH_take (i := 29) (v := ?_) rfl (by kernel_rfl) (by kernel_rfl) (by kernel_rfl) (fun _ _ _ h => h) (Or.inl ⟨by rfl, ?_⟩) (by assumption) ?_
        rotate_left
        focus (intro w hSw; obtain ⟨hS0, hS1, hS2, hS3⟩ := hSw; go_simp; first | done | with_reducible rfl)
        simp only [Act.put, List.getElem_toArray, List.getElem_cons_zero, List.getElem_cons_succ, List.setIfInBounds_toArray, List.set_cons_zero, List.set_cons_succ]
        refine wpAnyH_take (i := 30) (v := ?_) rfl (by kernel_rfl) (by kernel_rfl) (by kernel_rfl) (fun _ _ _ h => h) (Or.inl ⟨by rfl, ?_⟩) (by assumption) ?_
        rotate_left
        focus (intro w hSw; obtain ⟨hS0, hS1, hS2, hS3⟩ := hSw; go_simp; first | done | with_reducible rfl)
        simp only [Act.put, List.getElem_toArray, List.getElem_cons_zero, List.getElem_cons_succ, List.setIfInBounds_toArray, List.set_cons_zero, List.set_cons_succ]
        refine wpAnyH_take (i := 31) (v := ?_) rfl (by kernel_rfl) (by kernel_rfl) (by kernel_rfl) (fun _ _ _ h => h) (Or.inl ⟨by rfl, ?_⟩) (by assumption) ?_
        rotate_left
        focus (intro w hSw; obtain ⟨hS0, hS1, hS2, hS3⟩ := hSw; go_simp; first | done | with_reducible rfl)
        simp only [Act.put, List.getElem_toArray, List.getElem_cons_zero, List.getElem_cons_succ, List.setIfInBounds_toArray, List.set_cons_zero, List.set_cons_succ]
        refine wpAnyH_take (i := 32) (v := ?_) rfl (by kernel_rfl) (by kernel_rfl) (by kernel_rfl) (fun _ _ _ h => h) (Or.inl ⟨by rfl, ?_⟩) (by assumption) ?_
        rotate_left
        focus (intro w hSw; obtain ⟨hS0, hS1, hS2, hS3⟩ := hSw; go_simp; first | done | with_reducible rfl)
        simp only [Act.put, List.getElem_toArray, List.getElem_cons_zero, List.getElem_cons_succ, List.setIfInBounds_toArray, List.set_cons_zero, List.set_cons_succ]
        refine wpAnyH_take (i := 33) (v := ?_) rfl (by kernel_rfl) (by kernel_rfl) (by kernel_rfl) (fun _ _ _ h => h) (Or.inl ⟨by rfl, ?_⟩) (by assumption) ?_
        rotate_left
        focus (intro w hSw; obtain ⟨hS0, hS1, hS2, hS3⟩ := hSw; go_simp; first | done | with_reducible rfl)
        simp only [Act.put, List.getElem_toArray, List.getElem_cons_zero, List.getElem_cons_succ, List.setIfInBounds_toArray, List.set_cons_zero, List.set_cons_succ]
        refine wpAnyH_ready (rs := [34]) (by kernel_rfl) (by simp) ?_
        refine AllReadyH.cons (o := _) rfl (fun K hK => ?_) AllReadyH.nil
        go_simp
        with_reducible refine (known_ts hT24 (by first | omega | (simp; done) | (simp; omega)) [] (by simp) (by simp) (Sl.nil _ _ _)).mono ?_
        rintro e v34 ⟨rfl, hT34, hk34⟩
        simp only [List.all_nil]
        go_simp
        refine hK.out _ _ ⟨hk34 _ _ hHeld.1 (pl_str _), hk34 _ _ hHeld.2.1 (pl_bool _), hk34 _ _ hHeld.2.2.1 (pl_str _), hk34 _ _ hHeld.2.2.2 (pl_bool _)⟩ (fun hHeld => ?_)
        clear hK K
        try simp only [Act.put, List.getElem_toArray, List.getElem_cons_zero, List.getElem_cons_succ, List.setIfInBounds_toArray, List.set_cons_zero, List.set_cons_succ]
        refine wpAnyH_take (i := 35) (v := ?_) rfl (by kernel_rfl) (by kernel_rfl) (by kernel_rfl) (fun _ _ _ h => h) (Or.inl ⟨by rfl, ?_⟩) (by assumption) ?_
        rotate_left
        focus (intro w hSw; obtain ⟨hS0, hS1, hS2, hS3⟩ := hSw; go_simp; first | done | with_reducible rfl)
        simp only [Act.put, List.getElem_toArray, List.getElem_cons_zero, List.getElem_cons_succ, List.setIfInBounds_toArray, List.set_cons_zero, List.set_cons_succ]
        refine wpAnyH_take (i := 36) (v := ?_) rfl (by kernel_rfl) (by kernel_rfl) (by kernel_rfl) (fun _ _ _ h => h) (Or.inl ⟨by rfl, ?_⟩) (by assumption) ?_
        rotate_left
        focus (intro w hSw; obtain ⟨hS0, hS1, hS2, hS3⟩ := hSw; go_simp; first | done | with_reducible rfl)
        simp only [Act.put, List.getElem_toArray, List.getElem_cons_zero, List.getElem_cons_succ, List.setIfInBounds_toArray, List.set_cons_zero, List.set_cons_succ]
        refine wpAnyH_done (by kernel_rfl) ?_ _
        have HBL := Lib.hid hT34.bel
        clear hT3 hT9 hT10 hT13 hT20 hT21 hT24 hT34
        go_wp2
        go_ret
        exact ⟨rfl, HBL.out⟩
end Go.Proofs.Ytgnkkoeklipmiaa
