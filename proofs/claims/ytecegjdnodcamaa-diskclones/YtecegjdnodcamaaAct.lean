/-
  Acts: one of a disk's turns, and what comes of it.
-/
import Derived.Test.YtecegjdnodcamaaBits
import Derived.Test.YtecegjdnodcamaaFallsWalk
import Derived.IntWalk
namespace Go.Proofs.Ytecegjdnodcamaa
open Go.RowKit Go.Maps

structure ActD where
  K : Int
  N : Int
  name : ByteArray
  to_ : ByteArray
  text : ByteArray
def actL (a : ActD) : List Value := [.int .i64 a.K, .int .i64 a.N, .string a.name, .string a.to_, .string a.text]
def actV (a : ActD) : Value := .agg #[.int .i64 a.K, .int .i64 a.N, .string a.name, .string a.to_, .string a.text]

/-- which act -/
def ActD.kind (a : ActD) : Int := wrap64 ((IntKind.u64.wrap a.K).tmod 6)
theorem ActD.kinds (a : ActD) : a.kind = 0 ∨ a.kind = 1 ∨ a.kind = 2 ∨ a.kind = 3 ∨ a.kind = 4 ∨ a.kind = 5 := by
  have h1 : 0 ≤ IntKind.u64.wrap a.K := by rw [IntKind.wrap_u64]; omega
  have h2 : (IntKind.u64.wrap a.K).tmod 6 = (IntKind.u64.wrap a.K) % 6 := Int.tmod_eq_emod_of_nonneg h1
  have h3 : a.kind = (IntKind.u64.wrap a.K) % 6 := by
    unfold ActD.kind
    rw [h2]
    unfold wrap64; omega
  omega
/-- an act, done to a disk -/
def doS (S : DS) (a : ActD) : Nat × DS :=
  if a.kind = 0 then wrS S a.name a.text else if a.kind = 1 then wrS S a.name a.text else if a.kind = 2 then rnS S a.name a.to_ else if a.kind = 3 then rmS S a.name else if a.kind = 4 then syS S else (0, { S with falls := true, left := a.N.toNat })
structure ActD.small (a : ActD) : Prop where
  name : a.name.size ≤ 100
  to_ : a.to_.size ≤ 100
  text : a.text.size ≤ 100
  N : a.N ≤ 9223372036854775807

set_option maxHeartbeats 1600000 in
theorem play_any (w : World) (n bd : Nat) (ex : Nat → Prop) (S : DS) (h : Own n ex w bd S) (hn : n ≤ w.heap.size) (hex : ∀ k, ex k → k < w.heap.size) (a : ActD) (hs : a.small) (h3 : S.wt + 100 ≤ 1099511627776) (h4 : S.cnt + 1 ≤ 500000) :
    Calls Try.prog 15 #[.pointer (some ⟨bd, 0, none⟩), actV a] w fun e w' => e = .returned (.int .i64 ((doS S a).1 : Int)) ∧ Own n ex w' bd (doS S a).2 ∧ Mods (May n ex) w w' := by
  unfold actV
  have hs1 : a.name.size ≤ maxLen := by have := hs.name; unfold maxLen; omega
  have hs2 : a.to_.size ≤ maxLen := by have := hs.to_; unfold maxLen; omega
  have hs3 : a.text.size ≤ maxLen := by have := hs.text; unfold maxLen; omega
  have hN := hs.N
  have hn' : ∀ X, n ≤ (w.alloc X).heap.size := fun X => by simp; omega
  have hex' : ∀ X k, ex k → k < (w.alloc X).heap.size := fun X k e => by have := hex k e; simp; omega
  have t1 := hs.name
  have t2 := hs.to_
  have t3 := hs.text
  rcases a.kinds with hk | hk | hk | hk | hk | hk
  · have HE : Hid (doS S a = wrS S a.name a.text) := Lib.hid (by unfold doS; rw [hk]; rfl)
    unfold ActD.kind at hk
    rw [HE.out]
    go_enter Try.func15, Try.ntmps15
    go_wp2_with fail
    refine (write_own _ n bd ex S (h.alloc _) (hn' _) (hex' _) a.name a.text hs1 hs3 (by omega) h4).mono ?_
    rintro e w1 ⟨rfl, o1, m1⟩
    go_wp2
    go_ret
    exact ⟨rfl, o1, ((Mods.refl (May n ex) w).alloc _).trans m1 (fun _ _ e => e) (fun _ _ e => e)⟩
  · have HE : Hid (doS S a = wrS S a.name a.text) := Lib.hid (by unfold doS; rw [hk]; rfl)
    unfold ActD.kind at hk
    rw [HE.out]
    go_enter Try.func15, Try.ntmps15
    go_wp2_with fail
    refine (write_own _ n bd ex S (h.alloc _) (hn' _) (hex' _) a.name a.text hs1 hs3 (by omega) h4).mono ?_
    rintro e w1 ⟨rfl, o1, m1⟩
    go_wp2
    go_ret
    exact ⟨rfl, o1, ((Mods.refl (May n ex) w).alloc _).trans m1 (fun _ _ e => e) (fun _ _ e => e)⟩
  · have HE : Hid (doS S a = rnS S a.name a.to_) := Lib.hid (by unfold doS; rw [hk]; rfl)
    unfold ActD.kind at hk
    rw [HE.out]
    go_enter Try.func15, Try.ntmps15
    go_wp2_with fail
    refine (rename_own _ n bd ex S (h.alloc _) (hn' _) (hex' _) a.name a.to_ hs1 hs2 (by omega) h4).mono ?_
    rintro e w1 ⟨rfl, o1, m1⟩
    go_wp2
    go_ret
    exact ⟨rfl, o1, ((Mods.refl (May n ex) w).alloc _).trans m1 (fun _ _ e => e) (fun _ _ e => e)⟩
  · have HE : Hid (doS S a = rmS S a.name) := Lib.hid (by unfold doS; rw [hk]; rfl)
    unfold ActD.kind at hk
    rw [HE.out]
    go_enter Try.func15, Try.ntmps15
    go_wp2_with fail
    refine (remove_own _ n bd ex S (h.alloc _) (hn' _) (hex' _) a.name hs1 h4).mono ?_
    rintro e w1 ⟨rfl, o1, m1⟩
    go_wp2
    go_ret
    exact ⟨rfl, o1, ((Mods.refl (May n ex) w).alloc _).trans m1 (fun _ _ e => e) (fun _ _ e => e)⟩
  · have HE : Hid (doS S a = syS S) := Lib.hid (by unfold doS; rw [hk]; rfl)
    unfold ActD.kind at hk
    rw [HE.out]
    go_enter Try.func15, Try.ntmps15
    go_wp2_with fail
    refine (sync_own _ n bd ex S (h.alloc _) (hn' _) (hex' _)).mono ?_
    rintro e w1 ⟨rfl, o1, m1⟩
    go_wp2
    go_ret
    exact ⟨rfl, o1, ((Mods.refl (May n ex) w).alloc _).trans m1 (fun _ _ e => e) (fun _ _ e => e)⟩
  · have HE : Hid (doS S a = (0, { S with falls := true, left := a.N.toNat })) := Lib.hid (by unfold doS; rw [hk]; rfl)
    unfold ActD.kind at hk
    rw [HE.out]
    go_enter Try.func15, Try.ntmps15
    go_wp2_with fail
    refine (fall_own _ n bd ex S (h.alloc _) (hn' _) (hex' _) a.N hN).mono ?_
    rintro e w1 ⟨rfl, o1, m1⟩
    go_wp2
    go_ret
    exact ⟨rfl, o1, ((Mods.refl (May n ex) w).alloc _).trans m1 (fun _ _ e => e) (fun _ _ e => e)⟩

end Go.Proofs.Ytecegjdnodcamaa
