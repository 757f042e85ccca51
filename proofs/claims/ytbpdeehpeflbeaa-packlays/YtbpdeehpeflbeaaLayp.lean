/-
  The statements' own lay: parts as bytes, by the page.
-/
import Derived.Test.YtbpdeehpeflbeaaPart
import Derived.Deep.RegionHeld3
namespace Go.Proofs.Ytbpdeehpeflbeaa
open Go.RowKit

/-- a part: its kind, a number, a text -/
structure Pt where
  k : Int
  n : Int
  s : List UInt8

/-- a part of this kind as bytes -/
def layP (κ : Nat) (n : Int) (s : List UInt8) : List UInt8 :=
  match κ with
  | 0 => encI n
  | 1 => textB s
  | 2 => enc (bitOf n)
  | _ => intB n
def layB (p : Pt) : List UInt8 := layP (kindOf p.k) p.n p.s
def layAll (ps : List Pt) : List UInt8 := ps.flatMap layB

/-- a slice that holds these parts, three cells each -/
def PArg (w : World) (A : Option Addr) (ps : List Pt) : Prop :=
  ps = [] ∨ ∃ ad : Addr, A = some ad ∧ ad.block < w.heap.size ∧
    ∀ i (h : i < ps.length), w.cell? (ad.add (i * 3)) = some (.int .i64 ps[i].k) ∧ w.cell? ⟨(ad.add (i * 3)).block, (ad.add (i * 3)).off + 1, none⟩ = some (.int .i64 ps[i].n) ∧ w.cell? ⟨(ad.add (i * 3)).block, (ad.add (i * 3)).off + 2, none⟩ = some (.string ⟨ps[i].s.toArray⟩)

theorem PArg.at_ {w w' : World} {A : Option Addr} {ps : List Pt} (h : PArg w A ps) (hb : Below w.heap.size w w') (i : Nat) (hi : i < ps.length) :
    ∃ ad, A = some ad ∧ w'.cell? (ad.add (i * 3)) = some (.int .i64 ps[i].k) ∧ w'.cell? ⟨(ad.add (i * 3)).block, (ad.add (i * 3)).off + 1, none⟩ = some (.int .i64 ps[i].n) ∧ w'.cell? ⟨(ad.add (i * 3)).block, (ad.add (i * 3)).off + 2, none⟩ = some (.string ⟨ps[i].s.toArray⟩) := by
  rcases h with h | ⟨ad, e, hlt, hc⟩
  · subst h; simp at hi
  · exact ⟨ad, e, (hb.cell (by rw [add_block]; exact hlt)).trans (hc i hi).1, (hb.cell (by show (ad.add (i * 3)).block < _; rw [add_block]; exact hlt)).trans (hc i hi).2.1, (hb.cell (by show (ad.add (i * 3)).block < _; rw [add_block]; exact hlt)).trans (hc i hi).2.2⟩

theorem layAll_snoc (ps : List Pt) (k : Nat) (h : k < ps.length) : layAll (ps.take (k + 1)) = layAll (ps.take k) ++ layB ps[k] := by
  unfold layAll; rw [List.take_succ_eq_append_getElem h, List.flatMap_append, List.flatMap_singleton]

theorem layAll_take (ps : List Pt) (k : Nat) : (layAll (ps.take k)).length ≤ (layAll ps).length := by
  have : layAll ps = layAll (ps.take k) ++ layAll (ps.drop k) := by unfold layAll; rw [← List.flatMap_append, List.take_append_drop]
  rw [this]; simp

theorem zig_neg2 (n : Int) (h : n < 0) (h1 : -9223372036854775808 ≤ n) : IntKind.u64.wrap (IntKind.u64.wrap (IntKind.u64.wrap (-IntKind.u64.wrap n) * 2) - 1) = ((zig n : Nat) : Int) := by
  unfold zig
  rw [if_pos h]
  simp only [IntKind.wrap_u64]
  omega

theorem numl_held1 (w : World) (p : Addr) (u : Value) (z : Int) (hz : z ≤ 9223372036854775807) (wc : World) (h : Below w.heap.size w wc ∧ wc.cell? p = some u) :
    Calls Try.prog 27 #[.int .i64 z] wc fun e w' => e = .returned (.string ⟨(encI z).toArray⟩) ∧ (Below w.heap.size w w' ∧ w'.cell? p = some u) := by
  refine (numl_any z hz wc).mono ?_
  rintro e w' ⟨rfl, hb'⟩
  exact ⟨rfl, h.1.trans (hb'.mono h.1.size), (hb'.cell (block_lt_of_cell h.2)).trans h.2⟩

set_option maxHeartbeats 1600000 in
set_option maxRecDepth 100000 in
theorem layp_any (ps : List Pt) (A : Option Addr) (c : Nat) (w : World) (hA : PArg w A ps) (hz : ∀ p ∈ ps, -9223372036854775808 ≤ p.n ∧ p.n ≤ 9223372036854775807) (hl : ps.length ≤ 65536) (hlen : (layAll ps).length ≤ 140737488355328) :
    Calls Try.prog 17 #[.slice A ps.length c] w fun e w' => e = .returned (.string ⟨(layAll ps).toArray⟩) ∧ Below w.heap.size w w' := by
  go_enter Try.func17, Try.ntmps17
  go_wp2
  go_loopw [3, 9] (fun t i wr => ∃ k : Nat, i = .int .i64 k ∧ k ≤ ps.length ∧ t = .string ⟨(layAll (ps.take k)).toArray⟩ ∧ Below w.heap.size w wr) (fun _ i _ => ps.length - (intOf i).toNat)
  case atStart => exact ⟨0, rfl, by omega, by simp [layAll], Below.refl _ _⟩
  case round =>
    obtain ⟨k, rfl, hk, rfl, hbk⟩ := hrel
    by_cases hkl : k < ps.length
    · obtain ⟨kk, n, s, HP⟩ : ∃ kk n s, Hid (ps[k] = ⟨kk, n, s⟩) := ⟨_, _, _, Lib.hid rfl⟩
      have hzk := hz ps[k] (List.getElem_mem hkl)
      obtain ⟨ad, rfl, c0, c1, c2⟩ := hA.at_ hbk k hkl
      have HS := Lib.hid (layAll_snoc ps k hkl)
      rw [HP.out] at hzk c0 c1 c2
      simp only at hzk c0 c1 c2
      have hka := kind_and kk
      have hkl4 := kind_lt kk
      unfold layB at HS
      rw [HP.out] at HS
      simp only at HS
      clear hA HP
      generalize kindOf kk = κ at *
      generalize layAll (ps.take k) = T at *
      have HT : Hid (T.length + (layP κ n s).length ≤ 140737488355328) := by
        have h1 := congrArg List.length HS.out
        have h2 := layAll_take ps (k + 1)
        rw [List.length_append] at h1
        show _ ≤ _
        omega
      have hTl : T.length ≤ 140737488355328 := by have := HT.out; omega
      have hbz := hbk.size
      have hba : Below w.heap.size w (wr.alloc (.cells #[.int .i64 kk, .int .i64 n, .string ⟨s.toArray⟩] 30)) := hbk.alloc hbz _
      have hbs : w.heap.size ≤ (wr.alloc (.cells #[.int .i64 kk, .int .i64 n, .string ⟨s.toArray⟩] 30)).heap.size := by simp; omega
      have HBA := Lib.hid hba
      have HBS := Lib.hid hbs
      clear hba hbs
      rcases (show κ = 0 ∨ κ = 1 ∨ κ = 2 ∨ κ = 3 by omega) with rfl | rfl | rfl | rfl
      · have hl9 := encI_len n hzk.2
        have HAP := Lib.hid (bytes_append T (encI n))
        go_wp2_with fail
        refine (numl_any n hzk.2 _).mono ?_
        rintro e w2 ⟨rfl, hb2⟩
        have HB2 := Lib.hid (HBA.out.trans (hb2.mono HBS.out))
        clear hb2
        go_wp2
        go_roundw
        case rel => exact ⟨k + 1, by go_num, by omega, by rw [HS.out, HAP.out]; rfl, HB2.out⟩
        case measure => simp [intOf]; omega
      · have htl : (enc s.length).length ≤ 140737488355328 ∧ s.length ≤ 140737488355328 ∧ T.length + ((enc s.length).length + s.length) ≤ 140737488355328 := by
          have := HT.out
          simp only [layP, textB, List.length_append] at this
          exact ⟨by omega, by omega, by omega⟩
        have HAP := Lib.hid (bytes_append T (encI (s.length : Int)))
        have HAP2 := Lib.hid (bytes_append (T ++ encI (s.length : Int)) s)
        have hl9 : (encI (s.length : Int)).length ≤ 9 := encI_len _ (by omega)
        have h5 : ¬ 9223372036854775807 < T.length + (encI (s.length : Int)).length := by omega
        have h8 : ¬ 9223372036854775807 < T.length + (encI (s.length : Int)).length + s.length := by omega
        have hc2 : (wr.alloc (.cells #[.int .i64 kk, .int .i64 n, .string ⟨s.toArray⟩] 30)).cell? ⟨wr.heap.size, 2, none⟩ = some (.string ⟨s.toArray⟩) := by simp
        have HC2 := Lib.hid hc2
        clear hc2
        go_wp2
        go_region_held3 (fun w' => Below w.heap.size w w' ∧ w'.cell? ⟨wr.heap.size, 2, none⟩ = some (.string ⟨s.toArray⟩))
          (first | exact ⟨HBA.out.drew, HC2.out⟩ | exact hN | assumption)
          (first | (go_at_call 27; refine (numl_held1 w ⟨wr.heap.size, 2, none⟩ _ _ (by omega) _ (by assumption)).mono ?_; rintro e wN ⟨rfl, hN⟩))
        go_wp2
        go_roundw
        case rel => exact ⟨k + 1, by go_num, by omega, by rw [HS.out, HAP.out, HAP2.out, List.append_assoc]; rfl, hN.1⟩
        case measure => simp [intOf]; omega
      · have hl9 := enc_len9 (bitOf n) (by have := bit_lt n; omega)
        have hbn := bit_and n
        have hbl := bit_lt n
        have HAP := Lib.hid (bytes_append T (encI ((bitOf n : Nat) : Int)))
        have HLP : Hid (layP 2 n s = encI ((bitOf n : Nat) : Int)) := rfl
        generalize bitOf n = bn at *
        go_wp2_with fail
        refine (numl_any (bn : Int) (by omega) _).mono ?_
        rintro e w2 ⟨rfl, hb2⟩
        have HB2 := Lib.hid (HBA.out.trans (hb2.mono HBS.out))
        clear hb2
        have hl9' : (encI (bn : Int)).length ≤ 9 := hl9
        go_wp2
        go_roundw
        case rel => exact ⟨k + 1, by go_num, by omega, by rw [HS.out, HAP.out, HLP.out], HB2.out⟩
        case measure => simp [intOf]; omega
      · have hzl := zig_lt n hzk.1 hzk.2
        obtain ⟨U, V, hU0, hU1, hV0, hV1, HU, HA, HLP⟩ : ∃ U V : Int, 0 ≤ U ∧ U < 4294967296 ∧ 0 ≤ V ∧ V < 4294967296 ∧ Hid (((zig n : Nat) : Int) / 4294967296 = U) ∧ Hid (wrap64 (bits .and .u64 ((zig n : Nat) : Int) 4294967295) = V) ∧ Hid (layP 3 n s = encI U ++ encI V) :=
          ⟨((zig n / 4294967296 : Nat) : Int), ((zig n % 4294967296 : Nat) : Int), by omega, by omega, by omega, by omega, Lib.hid (by omega), Lib.hid (by rw [and32 (zig n) hzl, wrap64_nat _ (by omega)]), Lib.hid rfl⟩
        have ha9 : (encI U).length ≤ 9 := encI_len _ (by omega)
        have hb9 : (encI V).length ≤ 9 := encI_len _ (by omega)
        have HAP := Lib.hid (bytes_append T (encI U))
        have HAP2 := Lib.hid (bytes_append (T ++ encI U) (encI V))
        by_cases hneg : n < 0
        · have HX := Lib.hid (zig_neg2 n hneg hzk.1)
          have HW : Hid (wrap64 U = U) := by show _ = _; obtain ⟨m, rfl⟩ := Int.eq_ofNat_of_zero_le hU0; exact wrap64_nat _ (by omega)
          go_wp2_with fail
          rw [HX.out, HU.out, HW.out]
          refine (numl_any U (by omega) _).mono ?_
          rintro e w2 ⟨rfl, hb2⟩
          have HB2 := Lib.hid (HBA.out.trans (hb2.mono HBS.out))
          clear hb2
          go_wp2_with fail
          rw [HA.out]
          refine (numl_any V (by omega) _).mono ?_
          rintro e w3 ⟨rfl, hb3⟩
          have HB3 := Lib.hid (HB2.out.trans (hb3.mono HB2.out.size))
          clear hb3
          go_wp2
          go_roundw
          case rel => exact ⟨k + 1, by go_num, by omega, by rw [HS.out, HAP.out, HAP2.out, List.append_assoc, HLP.out], HB3.out⟩
          case measure => simp [intOf]; omega
        · have HX : Hid (n * 2 = ((zig n : Nat) : Int)) := by show _ = _; unfold zig; rw [if_neg hneg]; omega
          go_wp2_with fail
          rw [HX.out, HU.out]
          refine (numl_any U (by omega) _).mono ?_
          rintro e w2 ⟨rfl, hb2⟩
          have HB2 := Lib.hid (HBA.out.trans (hb2.mono HBS.out))
          clear hb2
          go_wp2_with fail
          rw [HA.out]
          refine (numl_any V (by omega) _).mono ?_
          rintro e w3 ⟨rfl, hb3⟩
          have HB3 := Lib.hid (HB2.out.trans (hb3.mono HB2.out.size))
          clear hb3
          go_wp2
          go_roundw
          case rel => exact ⟨k + 1, by go_num, by omega, by rw [HS.out, HAP.out, HAP2.out, List.append_assoc, HLP.out], HB3.out⟩
          case measure => simp [intOf]; omega
    · go_wp2
      go_ret
      rw [List.take_of_length_le (by omega)]
      exact ⟨rfl, hbk⟩

end Go.Proofs.Ytbpdeehpeflbeaa
