/-
  Methods of a pool that are not there; whether one of a list is not there.
-/
import Derived.Test.YthimpjfmelmhpaaDoorLkY
namespace Go.Proofs.YthimpjfmelmhpaaDoor.Fc
open Go.RowKit
set_option linter.unusedVariables false
set_option linter.unusedSimpArgs false

set_option maxHeartbeats 4000000 in
set_option maxRecDepth 100000 in
theorem lacks61 (i : ImS) (hL : i.fs.length ≤ 300) (sv : Value) (c : Nat) (w : World) (h : Im i sv c w) (hc : c < 100000000000) (x : Mt) (ax : Option Addr) (nx cx : Nat) (hx : Sl w 2 TyR x.1.ps (.slice ax nx cx)) (hs : x.2.size ≤ maxLen) :
    Calls Tryd.prog 61 #[.pointer (some ⟨i.im, 0, none⟩), .agg #[.string x.1.name, .bool x.1.st, .slice ax nx cx, .string x.1.rn, .bool x.1.ra, .string x.2]] w (IPost i w c 301 (.bool (fdM i.fs x).isNone)) := by
  have hb0 := below1 w (.cells #[.string x.1.name, .bool x.1.st, .slice ax nx cx, .string x.1.rn, .bool x.1.ra, .string x.2] 58)
  have HF := Lib.hid (find14 i hL sv c _ (h.bel hb0) hc x ax nx cx (tys_keep (Keeps.of_below hb0) hx) hs)
  have HhB := Lib.hid h.hB
  have HB0 := Lib.hid hb0
  clear h hx hb0
  go_enter Tryd.func61, Tryd.ntmps61
  go_wp2_with fail
  refine HF.out.mono ?_
  rintro e w1 ⟨sv1, c1, rfl, hI, hk, hb, hc1⟩
  have HP : Hid (IPost i w c 301 (.bool (fdM i.fs x).isNone) (.returned (.bool (fdM i.fs x).isNone)) w1) := Lib.hid ⟨sv1, c1, rfl, hI, (Keeps.of_below HB0.out).trans hk, (HB0.out.mono HhB.out).trans hb, hc1⟩
  clear hI hk hb HF
  go_wp2
  go_ret
  exact HP.out
set_option maxHeartbeats 4000000 in
set_option maxRecDepth 100000 in
theorem idx83 (i : ImS) (sv : Value) (c J : Nat) (w : World) (h : Im i sv c w) (xs : List ByteArray) (a : Option Addr) (n cp : Nat) (hk : Sl w 1 StrR xs (.slice a n cp)) (p : ByteArray → Bool) (hF : ∀ x ∈ xs, ∀ z sv1 c1, Im i sv1 c1 z → c1 < 100000000000 → Calls Tryd.prog 57 #[.pointer (some ⟨i.im, 0, none⟩), .string x] z (IPost i z c1 J (.bool (p x)))) (hc : c + n * J < 100000000000) :
    Calls Tryd.prog 83 #[.slice a n cp, .func (.func 57) #[.pointer (some ⟨i.im, 0, none⟩)] #[]] w fun e w' => ∃ r : Int, IPost i w c (n * J) (.int .i64 r) e w' ∧ (0 ≤ r ↔ xs.any p = true) ∧ -1 ≤ r ∧ r ≤ 9223372036854775807 := by
  obtain ⟨hn, hl, hcp, hkk⟩ := hk.at
  unfold maxLen at hcp
  have HN := Lib.hid hn
  have HK := Lib.hid hkk
  have HF := Lib.hid hF
  have HI := Lib.hid h
  have HCC := Lib.hid hc
  clear hn hkk hk hF h hc
  go_enter Tryd.func83, Tryd.ntmps83
  go_wp2
  go_loopw [8] (fun ii wr => ∃ (k : Nat) (sv1 : Value) (c1 : Nat), k ≤ n ∧ ii = .int .i64 k ∧ Hid (∀ x ∈ xs.take k, p x = false) ∧ Im i sv1 c1 wr ∧ Keeps w wr ∧ Below i.B w wr ∧ c1 ≤ c + k * J) (fun ii _ => n - (intOf ii).toNat)
  case atStart => exact ⟨0, sv, c, Nat.zero_le _, rfl, Lib.hid (by simp), HI.out, Keeps.refl _, Below.refl _ _, by omega⟩
  case round =>
    obtain ⟨k, sv1, c1, hk1, rfl, HA, hI1, hkr, hbr, hc1⟩ := hrel
    have hJ : k * J ≤ n * J := Nat.mul_le_mul_right _ hk1
    have HI1 := Lib.hid hI1
    have HKR := Lib.hid hkr
    have HBR := Lib.hid hbr
    by_cases hlt : k < n
    · obtain ⟨x, hx⟩ : ∃ x, xs[k]? = some x := ⟨_, List.getElem?_eq_getElem (by have := HN.out; omega)⟩
      have hJ2 : (k + 1) * J = k * J + J := Nat.succ_mul k J
      have hJ3 : (k + 1) * J ≤ n * J := Nat.mul_le_mul_right _ hlt
      obtain ⟨g, o, cs, rfl, hcell, hcs⟩ := HK.out k x hx
      obtain ⟨rfl⟩ := hcs
      have k0 : wr.cell? ⟨g, o + k * 1, none⟩ = some (.string x) := (hkr _ _ (hcell 0 _ rfl) (by first | exact pl_str _ | exact pl_bool _ | exact pl_slice _ _ _))
      have hgl : g < wr.heap.size := World.block_lt_of_cell? _ _ k0
      have HC := Lib.hid (HF.out x (List.mem_of_getElem? hx) wr sv1 c1 hI1 (by have := HCC.out; omega))
      have HX := Lib.hid hx
      clear hcell hx hI1 hkr hbr
      simp only [Nat.mul_one] at k0
      go_wp2_with fail
      refine HC.out.mono ?_
      rintro e w2 ⟨sv2, c2, rfl, hI2, hk2, hb2, hc2⟩
      have HI2 := Lib.hid hI2
      have HK2 := Lib.hid (HKR.out.trans hk2)
      have HB2 := Lib.hid (HBR.out.trans hb2)
      clear hI2 hk2 hb2 HC
      cases hp : p x with
      | true =>
        have HANY : Hid (xs.any p = true) := Lib.hid (List.any_eq_true.2 ⟨x, List.mem_of_getElem? HX.out, hp⟩)
        go_wp2
        go_ret
        exact ⟨k, ⟨sv2, c2, rfl, HI2.out, HK2.out, HB2.out, by omega⟩, ⟨fun _ => HANY.out, fun _ => by omega⟩, by omega, by omega⟩
      | false =>
        have HA2 := Lib.hid (all_snoc (P := fun x => p x = false) HX.out HA.out hp)
        clear hp
        go_wp2
        go_roundw
        case rel => exact ⟨k + 1, sv2, c2, by omega, by go_num, HA2, HI2.out, HK2.out, HB2.out, by omega⟩
        case measure => simp [intOf]; omega
    · have HNO : Hid (xs.any p = false) := Lib.hid (by
        rw [List.any_eq_false]
        intro x hx
        have := HA.out x (by rw [List.take_of_length_le (by have := HN.out; omega)]; exact hx)
        simp [this])
      go_wp2
      go_ret
      exact ⟨-1, ⟨sv1, c1, rfl, HI1.out, HKR.out, HBR.out, by omega⟩, ⟨fun h => by omega, fun h => by rw [HNO.out] at h; cases h⟩, by omega, by omega⟩
set_option maxHeartbeats 4000000 in
set_option maxRecDepth 100000 in
theorem has56 (i : ImS) (sv : Value) (c J : Nat) (w : World) (h : Im i sv c w) (xs : List ByteArray) (a : Option Addr) (n cp : Nat) (hk : Sl w 1 StrR xs (.slice a n cp)) (p : ByteArray → Bool) (hF : ∀ x ∈ xs, ∀ z sv1 c1, Im i sv1 c1 z → c1 < 100000000000 → Calls Tryd.prog 57 #[.pointer (some ⟨i.im, 0, none⟩), .string x] z (IPost i z c1 J (.bool (p x)))) (hc : c + n * J < 100000000000) :
    Calls Tryd.prog 56 #[.slice a n cp, .func (.func 57) #[.pointer (some ⟨i.im, 0, none⟩)] #[]] w (IPost i w c (n * J) (.bool (xs.any p))) := by
  have HC := Lib.hid (idx83 i sv c J w h xs a n cp hk p hF hc)
  clear h hk hF hc
  go_enter Tryd.func56, Tryd.ntmps56
  go_wp2_with fail
  refine HC.out.mono ?_
  rintro e w1 ⟨r, ⟨sv1, c1, rfl, hI, hk, hb, hc1⟩, hr, hr1, hr2⟩
  have HP : Hid (IPost i w c (n * J) (.bool (xs.any p)) (.returned (.bool (decide (0 ≤ r)))) w1) := Lib.hid ⟨sv1, c1, by
    have : decide (0 ≤ r) = xs.any p := by
      cases hx : xs.any p with
      | true => simp [hr.2 hx]
      | false => exact decide_eq_false (fun h => by have := hr.1 h; rw [hx] at this; cases this)
    rw [this], hI, hk, hb, hc1⟩
  clear hI hk hb HC hr
  go_wp2
  go_ret
  exact HP.out
set_option maxHeartbeats 4000000 in
set_option maxRecDepth 100000 in
theorem idx85 (i : ImS) (sv : Value) (c J : Nat) (w : World) (h : Im i sv c w) (xs : List Fd) (a : Option Addr) (n cp : Nat) (hk : Sl w 4 FdR xs (.slice a n cp)) (p : Fd → Bool) (hF : ∀ x ∈ xs, ∀ z sv1 c1, Im i sv1 c1 z → c1 < 100000000000 → Calls Tryd.prog 59 #[.pointer (some ⟨i.im, 0, none⟩), .agg #[.string x.1.name, .string x.1.tn, .bool x.1.ta, .string x.2]] z (IPost i z c1 J (.bool (p x)))) (hc : c + n * J < 100000000000) :
    Calls Tryd.prog 85 #[.slice a n cp, .func (.func 59) #[.pointer (some ⟨i.im, 0, none⟩)] #[]] w fun e w' => ∃ r : Int, IPost i w c (n * J) (.int .i64 r) e w' ∧ (0 ≤ r ↔ xs.any p = true) ∧ -1 ≤ r ∧ r ≤ 9223372036854775807 := by
  obtain ⟨hn, hl, hcp, hkk⟩ := hk.at
  unfold maxLen at hcp
  have HN := Lib.hid hn
  have HK := Lib.hid hkk
  have HF := Lib.hid hF
  have HI := Lib.hid h
  have HCC := Lib.hid hc
  clear hn hkk hk hF h hc
  go_enter Tryd.func85, Tryd.ntmps85
  go_wp2
  go_loopw [8] (fun ii wr => ∃ (k : Nat) (sv1 : Value) (c1 : Nat), k ≤ n ∧ ii = .int .i64 k ∧ Hid (∀ x ∈ xs.take k, p x = false) ∧ Im i sv1 c1 wr ∧ Keeps w wr ∧ Below i.B w wr ∧ c1 ≤ c + k * J) (fun ii _ => n - (intOf ii).toNat)
  case atStart => exact ⟨0, sv, c, Nat.zero_le _, rfl, Lib.hid (by simp), HI.out, Keeps.refl _, Below.refl _ _, by omega⟩
  case round =>
    obtain ⟨k, sv1, c1, hk1, rfl, HA, hI1, hkr, hbr, hc1⟩ := hrel
    have hJ : k * J ≤ n * J := Nat.mul_le_mul_right _ hk1
    have HI1 := Lib.hid hI1
    have HKR := Lib.hid hkr
    have HBR := Lib.hid hbr
    by_cases hlt : k < n
    · obtain ⟨x, hx⟩ : ∃ x, xs[k]? = some x := ⟨_, List.getElem?_eq_getElem (by have := HN.out; omega)⟩
      have hJ2 : (k + 1) * J = k * J + J := Nat.succ_mul k J
      have hJ3 : (k + 1) * J ≤ n * J := Nat.mul_le_mul_right _ hlt
      obtain ⟨g, o, cs, rfl, hcell, hcs⟩ := HK.out k x hx
      obtain ⟨rfl⟩ := hcs
      have k0 : wr.cell? ⟨g, o + k * 4, none⟩ = some (.string x.1.name) := (hkr _ _ (hcell 0 _ rfl) (by first | exact pl_str _ | exact pl_bool _ | exact pl_slice _ _ _))
      have k1 := (hkr _ _ (hcell 1 _ rfl) (by first | exact pl_str _ | exact pl_bool _ | exact pl_slice _ _ _))
      have k2 := (hkr _ _ (hcell 2 _ rfl) (by first | exact pl_str _ | exact pl_bool _ | exact pl_slice _ _ _))
      have k3 := (hkr _ _ (hcell 3 _ rfl) (by first | exact pl_str _ | exact pl_bool _ | exact pl_slice _ _ _))
      have hgl : g < wr.heap.size := World.block_lt_of_cell? _ _ k0
      have HC := Lib.hid (HF.out x (List.mem_of_getElem? hx) wr sv1 c1 hI1 (by have := HCC.out; omega))
      have HX := Lib.hid hx
      clear hcell hx hI1 hkr hbr
      skip
      go_wp2_with fail
      refine HC.out.mono ?_
      rintro e w2 ⟨sv2, c2, rfl, hI2, hk2, hb2, hc2⟩
      have HI2 := Lib.hid hI2
      have HK2 := Lib.hid (HKR.out.trans hk2)
      have HB2 := Lib.hid (HBR.out.trans hb2)
      clear hI2 hk2 hb2 HC
      cases hp : p x with
      | true =>
        have HANY : Hid (xs.any p = true) := Lib.hid (List.any_eq_true.2 ⟨x, List.mem_of_getElem? HX.out, hp⟩)
        go_wp2
        go_ret
        exact ⟨k, ⟨sv2, c2, rfl, HI2.out, HK2.out, HB2.out, by omega⟩, ⟨fun _ => HANY.out, fun _ => by omega⟩, by omega, by omega⟩
      | false =>
        have HA2 := Lib.hid (all_snoc (P := fun x => p x = false) HX.out HA.out hp)
        clear hp
        go_wp2
        go_roundw
        case rel => exact ⟨k + 1, sv2, c2, by omega, by go_num, HA2, HI2.out, HK2.out, HB2.out, by omega⟩
        case measure => simp [intOf]; omega
    · have HNO : Hid (xs.any p = false) := Lib.hid (by
        rw [List.any_eq_false]
        intro x hx
        have := HA.out x (by rw [List.take_of_length_le (by have := HN.out; omega)]; exact hx)
        simp [this])
      go_wp2
      go_ret
      exact ⟨-1, ⟨sv1, c1, rfl, HI1.out, HKR.out, HBR.out, by omega⟩, ⟨fun h => by omega, fun h => by rw [HNO.out] at h; cases h⟩, by omega, by omega⟩
set_option maxHeartbeats 4000000 in
set_option maxRecDepth 100000 in
theorem has58 (i : ImS) (sv : Value) (c J : Nat) (w : World) (h : Im i sv c w) (xs : List Fd) (a : Option Addr) (n cp : Nat) (hk : Sl w 4 FdR xs (.slice a n cp)) (p : Fd → Bool) (hF : ∀ x ∈ xs, ∀ z sv1 c1, Im i sv1 c1 z → c1 < 100000000000 → Calls Tryd.prog 59 #[.pointer (some ⟨i.im, 0, none⟩), .agg #[.string x.1.name, .string x.1.tn, .bool x.1.ta, .string x.2]] z (IPost i z c1 J (.bool (p x)))) (hc : c + n * J < 100000000000) :
    Calls Tryd.prog 58 #[.slice a n cp, .func (.func 59) #[.pointer (some ⟨i.im, 0, none⟩)] #[]] w (IPost i w c (n * J) (.bool (xs.any p))) := by
  have HC := Lib.hid (idx85 i sv c J w h xs a n cp hk p hF hc)
  clear h hk hF hc
  go_enter Tryd.func58, Tryd.ntmps58
  go_wp2_with fail
  refine HC.out.mono ?_
  rintro e w1 ⟨r, ⟨sv1, c1, rfl, hI, hk, hb, hc1⟩, hr, hr1, hr2⟩
  have HP : Hid (IPost i w c (n * J) (.bool (xs.any p)) (.returned (.bool (decide (0 ≤ r)))) w1) := Lib.hid ⟨sv1, c1, by
    have : decide (0 ≤ r) = xs.any p := by
      cases hx : xs.any p with
      | true => simp [hr.2 hx]
      | false => exact decide_eq_false (fun h => by have := hr.1 h; rw [hx] at this; cases this)
    rw [this], hI, hk, hb, hc1⟩
  clear hI hk hb HC hr
  go_wp2
  go_ret
  exact HP.out
set_option maxHeartbeats 4000000 in
set_option maxRecDepth 100000 in
theorem idx86 (i : ImS) (sv : Value) (c J : Nat) (w : World) (h : Im i sv c w) (xs : List Mt) (a : Option Addr) (n cp : Nat) (hk : Sl w 6 (MtR w) xs (.slice a n cp)) (p : Mt → Bool) (hF : ∀ x ∈ xs, ∀ z sv1 c1, Im i sv1 c1 z → c1 < 100000000000 → ∀ (ax : Option Addr) (nx cx : Nat), Sl z 2 TyR x.1.ps (.slice ax nx cx) → Calls Tryd.prog 61 #[.pointer (some ⟨i.im, 0, none⟩), .agg #[.string x.1.name, .bool x.1.st, .slice ax nx cx, .string x.1.rn, .bool x.1.ra, .string x.2]] z (IPost i z c1 J (.bool (p x)))) (hc : c + n * J < 100000000000) :
    Calls Tryd.prog 86 #[.slice a n cp, .func (.func 61) #[.pointer (some ⟨i.im, 0, none⟩)] #[]] w fun e w' => ∃ r : Int, IPost i w c (n * J) (.int .i64 r) e w' ∧ (0 ≤ r ↔ xs.any p = true) ∧ -1 ≤ r ∧ r ≤ 9223372036854775807 := by
  obtain ⟨hn, hl, hcp, hkk⟩ := hk.at
  unfold maxLen at hcp
  have HN := Lib.hid hn
  have HK := Lib.hid hkk
  have HF := Lib.hid hF
  have HI := Lib.hid h
  have HCC := Lib.hid hc
  clear hn hkk hk hF h hc
  go_enter Tryd.func86, Tryd.ntmps86
  go_wp2
  go_loopw [8] (fun ii wr => ∃ (k : Nat) (sv1 : Value) (c1 : Nat), k ≤ n ∧ ii = .int .i64 k ∧ Hid (∀ x ∈ xs.take k, p x = false) ∧ Im i sv1 c1 wr ∧ Keeps w wr ∧ Below i.B w wr ∧ c1 ≤ c + k * J) (fun ii _ => n - (intOf ii).toNat)
  case atStart => exact ⟨0, sv, c, Nat.zero_le _, rfl, Lib.hid (by simp), HI.out, Keeps.refl _, Below.refl _ _, by omega⟩
  case round =>
    obtain ⟨k, sv1, c1, hk1, rfl, HA, hI1, hkr, hbr, hc1⟩ := hrel
    have hJ : k * J ≤ n * J := Nat.mul_le_mul_right _ hk1
    have HI1 := Lib.hid hI1
    have HKR := Lib.hid hkr
    have HBR := Lib.hid hbr
    by_cases hlt : k < n
    · obtain ⟨x, hx⟩ : ∃ x, xs[k]? = some x := ⟨_, List.getElem?_eq_getElem (by have := HN.out; omega)⟩
      have hJ2 : (k + 1) * J = k * J + J := Nat.succ_mul k J
      have hJ3 : (k + 1) * J ≤ n * J := Nat.mul_le_mul_right _ hlt
      obtain ⟨g, o, cs, rfl, hcell, hcs⟩ := HK.out k x hx
      obtain ⟨ax, nx, cx, rfl, hps⟩ := hcs
      have k0 : wr.cell? ⟨g, o + k * 6, none⟩ = some (.string x.1.name) := (hkr _ _ (hcell 0 _ rfl) (by first | exact pl_str _ | exact pl_bool _ | exact pl_slice _ _ _))
      have k1 := (hkr _ _ (hcell 1 _ rfl) (by first | exact pl_str _ | exact pl_bool _ | exact pl_slice _ _ _))
      have k2 := (hkr _ _ (hcell 2 _ rfl) (by first | exact pl_str _ | exact pl_bool _ | exact pl_slice _ _ _))
      have k3 := (hkr _ _ (hcell 3 _ rfl) (by first | exact pl_str _ | exact pl_bool _ | exact pl_slice _ _ _))
      have k4 := (hkr _ _ (hcell 4 _ rfl) (by first | exact pl_str _ | exact pl_bool _ | exact pl_slice _ _ _))
      have k5 := (hkr _ _ (hcell 5 _ rfl) (by first | exact pl_str _ | exact pl_bool _ | exact pl_slice _ _ _))
      have hgl : g < wr.heap.size := World.block_lt_of_cell? _ _ k0
      have HC := Lib.hid (HF.out x (List.mem_of_getElem? hx) wr sv1 c1 hI1 (by have := HCC.out; omega) ax nx cx (tys_keep hkr hps))
      have HX := Lib.hid hx
      clear hcell hx hps hI1 hkr hbr
      skip
      go_wp2_with fail
      refine HC.out.mono ?_
      rintro e w2 ⟨sv2, c2, rfl, hI2, hk2, hb2, hc2⟩
      have HI2 := Lib.hid hI2
      have HK2 := Lib.hid (HKR.out.trans hk2)
      have HB2 := Lib.hid (HBR.out.trans hb2)
      clear hI2 hk2 hb2 HC
      cases hp : p x with
      | true =>
        have HANY : Hid (xs.any p = true) := Lib.hid (List.any_eq_true.2 ⟨x, List.mem_of_getElem? HX.out, hp⟩)
        go_wp2
        go_ret
        exact ⟨k, ⟨sv2, c2, rfl, HI2.out, HK2.out, HB2.out, by omega⟩, ⟨fun _ => HANY.out, fun _ => by omega⟩, by omega, by omega⟩
      | false =>
        have HA2 := Lib.hid (all_snoc (P := fun x => p x = false) HX.out HA.out hp)
        clear hp
        go_wp2
        go_roundw
        case rel => exact ⟨k + 1, sv2, c2, by omega, by go_num, HA2, HI2.out, HK2.out, HB2.out, by omega⟩
        case measure => simp [intOf]; omega
    · have HNO : Hid (xs.any p = false) := Lib.hid (by
        rw [List.any_eq_false]
        intro x hx
        have := HA.out x (by rw [List.take_of_length_le (by have := HN.out; omega)]; exact hx)
        simp [this])
      go_wp2
      go_ret
      exact ⟨-1, ⟨sv1, c1, rfl, HI1.out, HKR.out, HBR.out, by omega⟩, ⟨fun h => by omega, fun h => by rw [HNO.out] at h; cases h⟩, by omega, by omega⟩
set_option maxHeartbeats 4000000 in
set_option maxRecDepth 100000 in
theorem has60 (i : ImS) (sv : Value) (c J : Nat) (w : World) (h : Im i sv c w) (xs : List Mt) (a : Option Addr) (n cp : Nat) (hk : Sl w 6 (MtR w) xs (.slice a n cp)) (p : Mt → Bool) (hF : ∀ x ∈ xs, ∀ z sv1 c1, Im i sv1 c1 z → c1 < 100000000000 → ∀ (ax : Option Addr) (nx cx : Nat), Sl z 2 TyR x.1.ps (.slice ax nx cx) → Calls Tryd.prog 61 #[.pointer (some ⟨i.im, 0, none⟩), .agg #[.string x.1.name, .bool x.1.st, .slice ax nx cx, .string x.1.rn, .bool x.1.ra, .string x.2]] z (IPost i z c1 J (.bool (p x)))) (hc : c + n * J < 100000000000) :
    Calls Tryd.prog 60 #[.slice a n cp, .func (.func 61) #[.pointer (some ⟨i.im, 0, none⟩)] #[]] w (IPost i w c (n * J) (.bool (xs.any p))) := by
  have HC := Lib.hid (idx86 i sv c J w h xs a n cp hk p hF hc)
  clear h hk hF hc
  go_enter Tryd.func60, Tryd.ntmps60
  go_wp2_with fail
  refine HC.out.mono ?_
  rintro e w1 ⟨r, ⟨sv1, c1, rfl, hI, hk, hb, hc1⟩, hr, hr1, hr2⟩
  have HP : Hid (IPost i w c (n * J) (.bool (xs.any p)) (.returned (.bool (decide (0 ≤ r)))) w1) := Lib.hid ⟨sv1, c1, by
    have : decide (0 ≤ r) = xs.any p := by
      cases hx : xs.any p with
      | true => simp [hr.2 hx]
      | false => exact decide_eq_false (fun h => by have := hr.1 h; rw [hx] at this; cases this)
    rw [this], hI, hk, hb, hc1⟩
  clear hI hk hb HC hr
  go_wp2
  go_ret
  exact HP.out
end Go.Proofs.YthimpjfmelmhpaaDoor.Fc
