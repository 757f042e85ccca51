/-
  The state's mixFull and put.
-/
import Derived.Test.YtbpdeehpeflbeaaDoorMix
import Derived.Test.YtbpdeehpeflbeaaDoorBlk
namespace Go.Proofs.YtbpdeehpeflbeaaDoor
open Go.RowKit

theorem mixOf_length (hs bl : List Nat) (h : hs.length = 8) : (mixOf hs bl).length = 8 := by
  unfold mixOf Vs.list
  simp [h]

set_option maxHeartbeats 400000 in
theorem mixfull_yes (b : Nat) (w : World) (hs bl : List Nat) (t : Nat) (h : SAt b w hs bl 64 t) (hbl : ∀ x ∈ bl, x < 256) (hhs : ∀ x ∈ hs, x < 4294967296) (hK : RdW 0 w K) (hg : 0 ≠ b) :
    Calls Tryd.prog 18 #[.pointer (some ⟨b, 0, none⟩)] w fun e w' => e = .returned (.tuple #[]) ∧ SAt b w' (mixOf hs bl) bl 0 t ∧ Mod b w w' := by
  have hu := h.used
  have HC := Lib.hid (mix_any b w hs bl 64 t h hbl hhs hK hg)
  clear h hK
  go_enter Tryd.func18, Tryd.ntmps18
  go_wp2_with fail
  refine HC.out.mono ?_
  rintro e w1 ⟨rfl, hs1, hm1⟩
  have c72 := hs1.used
  have f72 := hs1.frozen 72
  have HS := Lib.hid hs1
  clear hs1
  go_wp2
  go_end0
  exact ⟨rfl, HS.out.setUsed 0, hm1.setCell (.inl rfl) _⟩

set_option maxHeartbeats 400000 in
theorem mixfull_no (b : Nat) (w : World) (hs bl : List Nat) (u t : Nat) (h : SAt b w hs bl u t) (hu64 : u < 64) :
    Calls Tryd.prog 18 #[.pointer (some ⟨b, 0, none⟩)] w fun e w' => e = .returned (.tuple #[]) ∧ SAt b w' hs bl u t ∧ Mod b w w' := by
  have hu := h.used
  have H := Lib.hid h
  clear h
  go_enter Tryd.func18, Tryd.ntmps18
  go_wp2
  go_end0
  exact ⟨rfl, H.out, Mod.refl _ _⟩

/-- the state has taken just these bytes, and tells t in all -/
def Inv (b : Nat) (w : World) (L : List Nat) (t : Nat) : Prop :=
  ∃ bl, SAt b w (hsOf L) bl (L.length % 64) t ∧ bl.take (L.length % 64) = tailOf L ∧ (∀ x ∈ bl, x < 256) ∧ RdW 0 w K ∧ 0 ≠ b

/-- bytes laid into the block, and what mixFull makes of it -/
theorem mixfull_inv (b : Nat) (w : World) (L s bl : List Nat) (t : Nat) (h : SAt b w (hsOf L) bl (L.length % 64 + s.length) t) (hle : L.length % 64 + s.length ≤ 64)
    (hp : bl.take (L.length % 64 + s.length) = tailOf L ++ s) (hbl : ∀ x ∈ bl, x < 256) (hK : RdW 0 w K) (hg : 0 ≠ b) :
    Calls Tryd.prog 18 #[.pointer (some ⟨b, 0, none⟩)] w fun e w' => e = .returned (.tuple #[]) ∧ Inv b w' (L ++ s) t ∧ Mod b w w' := by
  by_cases hf : L.length % 64 + s.length = 64
  · obtain ⟨e1, e2, e3⟩ := hsOf_full L s hf
    rw [hf] at h hp
    have hbb : bl = tailOf L ++ s := by rw [← hp, List.take_of_length_le (by rw [h.2.2]; omega)]
    refine (mixfull_yes b w _ bl t h hbl (hsOf_lt L) hK hg).mono ?_
    rintro e w' ⟨rfl, hs', hm⟩
    refine ⟨rfl, ⟨bl, ?_, ?_, hbl, hK.keep hm hg, hg⟩, hm⟩
    · rw [e1, e3, ← hbb]; exact hs'
    · rw [e3, e2]; simp
  · obtain ⟨e1, e2, e3⟩ := hsOf_few L s (by omega)
    refine (mixfull_no b w _ bl _ t h (by omega)).mono ?_
    rintro e w' ⟨rfl, hs', hm⟩
    refine ⟨rfl, ⟨bl, ?_, ?_, hbl, hK.keep hm hg, hg⟩, hm⟩
    · rw [e1, e3]; exact hs'
    · rw [e3, e2]; exact hp

set_option maxHeartbeats 800000 in
theorem put_any (b : Nat) (w : World) (L : List Nat) (t c : Nat) (hc : c < 256) (h : Inv b w L t) :
    Calls Tryd.prog 19 #[.pointer (some ⟨b, 0, none⟩), .int .u8 (c : Int)] w fun e w' => e = .returned (.tuple #[]) ∧ Inv b w' (L ++ [c]) t ∧ Mod b w w' := by
  obtain ⟨bl, hS, hp, hbl, hK, hg⟩ := h
  have hu := hS.used
  have hul : L.length % 64 < 64 := Nat.mod_lt _ (by omega)
  have HTL := Lib.hid (tailOf_length L)
  obtain ⟨u, HU⟩ : ∃ u, Hid (u = L.length % 64) := ⟨_, Lib.hid rfl⟩
  rw [← HU.out] at hS hp hu hul
  have cb := hS.byte u hul
  have fb := hS.frozen (8 + u)
  have c72 := hS.used
  have f72 := hS.frozen 72
  have HS := Lib.hid hS
  have HP := Lib.hid hp
  clear hS hp
  have i1 : (0 : Int) ≤ (u : Int) := by omega
  have i2 : (u : Int) < 64 := by omega
  go_enter Tryd.func19, Tryd.ntmps19
  go_wp2
  go_region
  obtain ⟨W1, HW1⟩ : ∃ W1, Hid (W1 = (w.setCell ⟨b, 8 + u, none⟩ (.int .u8 (c : Int))).drew) := ⟨_, Lib.hid rfl⟩
  rw [← HW1.out]
  have hS1 : SAt b W1 (hsOf L) (bl.set u c) u t := by rw [HW1.out]; exact (HS.out.setByte u c hul).drew
  have hm1 : Mod b w W1 := by rw [HW1.out]; exact ((Mod.refl b w).setCell (.inl rfl) _).drew
  have c72' := hS1.used
  have f72' := hS1.frozen 72
  have HS1 := Lib.hid hS1
  have hbl' : ∀ x ∈ bl.set u c, x < 256 := by
    intro x hx
    rcases List.mem_or_eq_of_mem_set hx with h | h
    · exact hbl x h
    · omega
  have hlen : bl.length = 64 := HS.out.2.2
  have HPP : Hid ((bl.set u c).take (u + 1) = tailOf L ++ [c]) := by
    show _ = _
    rw [← HP.out, List.take_set, List.take_succ_eq_append_getElem (by omega), List.set_append_right _ _ (by rw [List.length_take]; omega)]
    have : u - (bl.take u).length = 0 := by rw [List.length_take]; omega
    rw [this]
    rfl
  have HL := Lib.hid hlen
  clear hS1 HW1 cb fb c72 f72 hu HS hlen
  go_wp2_with fail
  have hcast : ((u : Int) + 1) = ((u + 1 : Nat) : Int) := by omega
  rw [hcast]
  have hll : L.length % 64 + [c].length = u + 1 := by rw [← HU.out]; rfl
  have HLL := Lib.hid hll
  clear hll
  refine (mixfull_inv b _ L [c] (bl.set u c) t ?_ (by rw [HLL.out]; omega) ?_ hbl' ?_ hg).mono ?_
  · rw [HLL.out]; exact HS1.out.setUsed (u + 1)
  · rw [HLL.out]; exact HPP.out
  · exact (hK.keep hm1 hg).keep ((Mod.refl b _).setCell (.inl rfl) _) hg
  clear hcast c72' f72' i1 i2 hul hbl' hbl
  rintro e w' ⟨rfl, hinv, hm2⟩
  go_wp2
  go_end0
  exact ⟨rfl, hinv, (hm1.setCell (.inl rfl) _).trans hm2⟩

end Go.Proofs.YtbpdeehpeflbeaaDoor
