/-
  The statements' own same: a disk has just the model's files.
-/
import Derived.Test.YtecegjdnodcamaaPair
import Derived.WalkLawsBesides
namespace Go.Proofs.Ytecegjdnodcamaa
open Go.RowKit Go.Maps Go.Sort

set_option maxHeartbeats 12800000 in
set_option maxRecDepth 100000 in
theorem same_any (w : World) (n bd bm : Nat) (ex fm : Nat → Prop) (S S' : DS) (h : Own n ex w bd S) (hM : MAt w bm fm S') (hnow : S.now = S'.now) (hroom : S.room = S'.room) (hdown : S.down = S'.down) :
    Calls Try.prog 17 #[.pointer (some ⟨bd, 0, none⟩), .pointer (some ⟨bm, 0, none⟩)] w fun e w' => e = .returned (.bool true) ∧ Below w.heap.size w w' := by
  obtain ⟨bs, sv, l, hM, _⟩ := hM
  have HOK := Lib.hid hM.ok
  have HC := Lib.hid (files_mv w bm bs sv S' l hM)
  have HM := Lib.hid hM
  have HO := Lib.hid h
  have HNW := Lib.hid hnow
  have HRM := Lib.hid hroom
  have HDN := Lib.hid hdown
  have hr9 := hM.ok.room
  have ht9 := hM.ok.totn
  clear hM h hnow hroom hdown
  go_enter Try.func17, Try.ntmps17
  go_wp2_with fail
  refine HC.out.mono ?_
  rintro e w1 ⟨b', rfl, hM1, hbb, hbel1⟩
  have c2 : w1.cell? ⟨bm, 2, none⟩ = some (.int .i64 (S'.room : Int)) := (HM.out.blk.keep (fp := fun _ => False) (Mods.of_below hbel1) id).cell 2
  have hMo : w1.ownsMap Try.prog 9 (plainElem Try.prog 9) b' (Maps.size S'.now) S'.now := hM1
  have HMO := Lib.hid hMo
  clear hbb hM1 hMo
  go_wp2_with (first
    | (at_range; refine wpList_range_own _ rfl _ 38 rfl 9 9 law Try.underlying38 _ b' (Maps.size S'.now) S'.now rfl HMO.out ?_; intro w0 hrg0 hg0 hs0)
    | go_in)
  try go_frame
  go_loopw [6] (fun u wr => ∃ (left : Lit → Bool) (cnt : Nat) (F : Int), u = .int .i64 F ∧ FreeRel S' left F ∧ wr.ranges Try.prog 9 (plainElem Try.prog 9) b' w1.heap.size (Maps.size S'.now) S'.now left cnt ∧ Below w1.heap.size w1 wr) (fun _ wr => wr.rangeLeft b' w1.heap.size)
  case atStart => exact ⟨_, _, _, rfl, FreeRel.start HOK.out, hrg0, (Below.refl _ _).grown hg0 (Nat.le_refl _) (fun j hj => by cases hj)⟩
  case round =>
    obtain ⟨left, cnt, F, rfl, hF, hrg, hnx⟩ := hrel
    have HFR := Lib.hid hF
    clear hF hrg0 hg0 hs0
    go_wp2_with (first
      | (at_next; refine wpList_next_ranges _ rfl _ rfl 9 law (plainElem Try.prog 9) encStr Value.string (fun key kl hk => by obtain ⟨x, hx, _⟩ := Maps.keyOf_str Try.underlying9 hk; exact ⟨x, hx⟩) (fun v y hv => by obtain ⟨c, rfl, _⟩ := plainElem_string_inv Try.underlying9 hv; exact ⟨c, rfl⟩) b' w1.heap.size (Maps.size S'.now) _ _ _ rfl hrg ?_ ?_)
      | go_in)
    · intro hc0 hl0
      have hFe := HFR.out.done hl0
      subst hFe
      have hbelr : Below w.heap.size w wr := hbel1.trans (hnx.mono hbel1.size)
      have HBR := Lib.hid hbelr
      have HOr := Lib.hid (HO.out.keep (fq := fun _ => False) (⟨hbelr.os, hbelr.tape, hbelr.output, hbelr.size, fun k hk _ => hbelr.block k hk⟩ : Mods (fun _ => False) w wr) (fun _ _ _ _ => id))
      have c4 : wr.cell? ⟨bm, 4, none⟩ = some (.bool S'.down) := (HM.out.blk.keep (fp := fun _ => False) (⟨hbelr.os, hbelr.tape, hbelr.output, hbelr.size, fun k hk _ => hbelr.block k hk⟩ : Mods (fun _ => False) w wr) id).cell 4
      have hMFr : MF wr b' S'.now := hrg.owns
      have HMFR := Lib.hid hMFr
      have HDn : Hid (∀ m, Calls Try.prog 26 #[.pointer (some ⟨bd, 0, none⟩)] (wr.drewN m) fun e w' => e = .returned (.bool S'.down) ∧ w' = wr.drewN m) := Lib.hid (fun m => (down_own (HOr.out.drewN m)).mono fun e w' ⟨he, hw⟩ => ⟨by rw [he, HDN.out], hw.symm⟩)
      have HRm : Hid (∀ m, Calls Try.prog 27 #[.pointer (some ⟨bd, 0, none⟩)] (wr.drewN m) fun e w' => e = .returned (.int .i64 ((S'.room : Int) - tot S'.now)) ∧ ∃ k, w' = (wr.drewN m).drewN k) := Lib.hid (fun m => (room_own (HOr.out.drewN m)).mono fun e w' ⟨he, hw⟩ => ⟨by rw [he, HRM.out, HNW.out], hw⟩)
      have hdd : (S'.down != S'.down) = false := by simp
      clear hMFr hrg hnx hc0 hl0 hbelr
      go_wp2
      go_quiet ((first | (go_at_call 26; exact Calls.quiet_of_same (HDn.out _)) | (go_at_call 27; exact Calls.quiet_of (HRm.out _))))
      have HNM := Lib.hid (names_own (HOr.out.drewN nq))
      cases hd : S'.down
      · rw [hd] at c4
        have HN0 : Hid (nmS S = sk S'.now) := Lib.hid (by unfold nmS; rw [HDN.out, hd, HNW.out]; rfl)
        rw [HN0.out] at HNM
        have HD0 := Lib.hid hd
        clear hd
        go_wp2_with fail
        refine HNM.out.mono ?_
        rintro e x1 ⟨A, cap, rfl, hrow, hbx⟩
        have hbx' : Below wr.heap.size wr x1 := ⟨hbx.os, hbx.tape, hbx.output, hbx.size, hbx.block⟩
        have hbm4 := block_lt_of_cell c4
        have c4x : x1.cell? ⟨bm, 4, none⟩ = some (.bool false) := (hbx'.cell (p := ⟨bm, 4, none⟩) hbm4).trans c4
        have HOx := Lib.hid (HOr.out.below hbx')
        have HMFx := Lib.hid (HMFR.out.below hbx')
        have HBX := Lib.hid (HBR.out.trans (hbx'.mono HBR.out.size))
        obtain ⟨L, HL⟩ : ∃ L, Hid (L = sk S'.now) := ⟨_, Lib.hid rfl⟩
        rw [← HL.out] at hrow ⊢
        have HLs : Hid (L.length = Maps.size S'.now) := Lib.hid (by rw [HL.out, sk_len])
        have hL5 : L.length ≤ 500000 := by have := HLs.out; have := HOK.out.sizen; omega
        have HROW := Lib.hid hrow
        have HFm : Hid (0 < L.length → ∃ g, A = some ⟨g, 0, none⟩) := Lib.hid (fun h0 => by
          obtain ⟨g, c', e, _⟩ := hrow.form h0
          cases e
          exact ⟨g, rfl⟩)
        clear hrow hbx hbx' HNM HDn HRm
        go_wp2
        go_loopw [54] (fun i wz => ∃ k : Nat, i = .int .i64 k ∧ k ≤ L.length ∧ Below x1.heap.size x1 wz) (fun i _ => L.length - (intOf i).toNat)
        case atStart => exact ⟨0, rfl, by omega, Below.refl _ _⟩
        case round =>
          obtain ⟨k, rfl, hk, hbz⟩ := hrel
          have HOz := Lib.hid (HOx.out.below hbz)
          by_cases hkl : k < L.length
          · obtain ⟨g, rfl⟩ := HFm.out (by omega)
            have hcell : ∀ i (hi : i < L.length), wr.cell? ⟨g, i, none⟩ = some (.string (T L[i])) := by
              intro i hi
              have h1 := HROW.out.cells (g := g) rfl i (encStr L[i]) (by simp [hi])
              have e2 : (⟨g, 0, none⟩ : Addr).add i = ⟨g, i, none⟩ := by simp [Addr.add]; intro h; omega
              rw [e2] at h1
              exact (hbz.cell (p := ⟨g, i, none⟩) (block_lt_of_cell h1)).trans h1
            have cn := hcell k hkl
            obtain ⟨nm, HNMk⟩ : ∃ nm, Hid (nm = T L[k]) := ⟨_, Lib.hid rfl⟩
            rw [← HNMk.out] at cn
            have HNmax : Hid (nm.size ≤ maxLen) := Lib.hid (by
              rw [HNMk.out, T_size]
              have hmm : ∀ x ∈ L, x ∈ strKeys S'.now := by rw [HL.out]; exact fun x hx => (List.mergeSort_perm (strKeys S'.now) _).mem_iff.1 hx
              exact strKeys_le (w := x1) (D0 := S'.now) HMFx.out Try.underlying9 _ (hmm _ (List.getElem_mem hkl)))
            have HRD : Hid (rdS S nm = (get S'.now nm, 0)) := Lib.hid (by
              have h1 : hasF S'.now nm = true := by
                rw [HNMk.out]
                have := sk_has HOK.out.goodn k (by rw [← HL.out]; exact hkl)
                simpa [HL.out] using this
              unfold rdS
              rw [HDN.out, HD0.out, HNW.out, h1]
              rfl)
            rcases Nat.eq_zero_or_pos k with hk0 | hk0
            · subst hk0
              clear hcell
              go_wp2_with fail
              refine (read_own HOz.out nm HNmax.out).mono ?_
              rintro e x2 ⟨rfl, hb2⟩
              rw [HRD.out]
              have hzb : Below x1.heap.size x1 x2 := hbz.trans (hb2.mono hbz.size)
              have hlk2 := (HMFx.out.below hzb).look HOK.out.goodn nm HNmax.out
              have hse : ((get S'.now nm).toList != (get S'.now nm).toList) = false := by simp
              go_wp2
              go_roundw
              case rel => exact ⟨0 + 1, by go_num, by omega, hzb⟩
              case measure => simp [intOf]; omega
            · obtain ⟨j, rfl⟩ : ∃ j, k = j + 1 := ⟨k - 1, by omega⟩
              have cp := hcell j (by omega)
              obtain ⟨pm, HPM⟩ : ∃ pm, Hid (pm = T L[j]) := ⟨_, Lib.hid rfl⟩
              rw [← HPM.out] at cp
              have hbl : Op.bytesLess pm.toList nm.toList = true := by
                rw [HPM.out, HNMk.out, ByteArray.toList_eq, ByteArray.toList_eq]
                have := sk_less HOK.out.goodn j (by rw [← HL.out]; exact hkl)
                show Op.bytesLess L[j] L[j + 1] = true
                simpa [HL.out] using this
              clear hcell
              go_wp2_with fail
              refine (read_own HOz.out nm HNmax.out).mono ?_
              rintro e x2 ⟨rfl, hb2⟩
              rw [HRD.out]
              have hzb : Below x1.heap.size x1 x2 := hbz.trans (hb2.mono hbz.size)
              have hlk2 := (HMFx.out.below hzb).look HOK.out.goodn nm HNmax.out
              have cp2 : x2.cell? ⟨g, j, none⟩ = some (.string pm) := (hb2.cell (p := ⟨g, j, none⟩) (block_lt_of_cell cp)).trans cp
              have hse : ((get S'.now nm).toList != (get S'.now nm).toList) = false := by simp
              go_wp2
              go_roundw
              case rel => exact ⟨j + 1 + 1, by go_num, by omega, hzb⟩
              case measure => simp [intOf]; omega
          · have hlenm := fun (ty : TypeId) => World.ownsMap.len (HMFx.out.below hbz) Try.underlying38 ty
            have hLE : (L.length : Int) = (Maps.size S'.now : Int) := by have := HLs.out; omega
            go_wp2
            go_ret
            exact ⟨by simp, HBX.out.trans (hbz.mono HBX.out.size)⟩
      · rw [hd] at c4
        have HN0 : Hid (nmS S = []) := Lib.hid (by unfold nmS; rw [HDN.out, hd]; rfl)
        rw [HN0.out] at HNM
        clear hd
        go_wp2_with fail
        refine HNM.out.mono ?_
        rintro e x1 ⟨A, cap, rfl, hrow, hbx⟩
        have hbx' : Below wr.heap.size wr x1 := ⟨hbx.os, hbx.tape, hbx.output, hbx.size, hbx.block⟩
        have hbm4 := block_lt_of_cell c4
        have c4x : x1.cell? ⟨bm, 4, none⟩ = some (.bool true) := (hbx'.cell (p := ⟨bm, 4, none⟩) hbm4).trans c4
        go_wp2
        go_ret
        exact ⟨rfl, HBR.out.trans (hbx'.mono HBR.out.size)⟩
    · intro x c kl yd yp w2 cnt2 hkey hlk hv hat hrg2 hlt2 hg2 hs2' hen
      obtain ⟨x', ex, rfl, hxl⟩ := Maps.keyOf_str Try.underlying9 hkey
      obtain rfl : x = x' := encStr_inj ex
      obtain ⟨c', ec, hcz, hcl⟩ := plainElem_string_inv Try.underlying9 hv
      cases ec
      obtain ⟨rfl, rfl⟩ := Prod.mk.inj hcz
      obtain ⟨n1, n2, n3, n4⟩ := HFR.out.step HOK.out hlk hat
      have HN1 := Lib.hid n1
      unfold maxLen at hcl
      clear hs2' n1
      go_wp2
      go_roundw
      case rel => exact ⟨_, cnt2, _, rfl, HN1.out, hrg2, hnx.grown hg2 hnx.size (fun j hj => by cases hj; exact Nat.le_refl _)⟩
      case measure => rw [hrg2.left_eq, hrg.left_eq]; exact hlt2

end Go.Proofs.Ytecegjdnodcamaa
