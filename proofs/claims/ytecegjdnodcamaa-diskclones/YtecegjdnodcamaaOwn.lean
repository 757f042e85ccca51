/-
  A disk that a call has made; the document's example.
-/
import Derived.Test.YtecegjdnodcamaaCrash
namespace Go.Proofs.Ytecegjdnodcamaa
open Go.RowKit Go.Maps

/-- a disk whose blocks lie from n on, and aren't of ex -/
def Own (n : Nat) (ex : Nat → Prop) (w : World) (bd : Nat) (S : DS) : Prop := ∃ fp, DAt w bd fp S ∧ ∀ k, fp k → n ≤ k ∧ k < w.heap.size ∧ ¬ ex k
/-- what may turn -/
def May (n : Nat) (ex : Nat → Prop) (k : Nat) : Prop := n ≤ k ∧ ¬ ex k
theorem May.below {n B : Nat} {ex : Nat → Prop} {w w' : World} (h : Mods (May n ex) w w') (hB : B ≤ n) (hn : n ≤ w.heap.size) : Below B w w' := h.below (fun _ e => Nat.le_trans hB e.1) (Nat.le_trans hB hn)
theorem May.trans {n : Nat} {ex : Nat → Prop} {x y z : World} (h : Mods (May n ex) x y) (k : Mods (May n ex) y z) : Mods (May n ex) x z := h.trans k (fun _ _ e => e) (fun _ _ e => e)
theorem May.of_below {n : Nat} {ex : Nat → Prop} {x y : World} (h : Below x.heap.size x y) : Mods (May n ex) x y := Mods.of_below h

section
variable {n bd : Nat} {ex : Nat → Prop} {w w' : World} {S S' : DS}
theorem Own.ok (h : Own n ex w bd S) : S.ok := by obtain ⟨fp, h, _⟩ := h; exact h.ok
theorem Own.keep {fq : Nat → Prop} (h : Own n ex w bd S) (hm : Mods fq w w') (hn : ∀ k, n ≤ k → ¬ ex k → k < w.heap.size → ¬ fq k) : Own n ex w' bd S := by
  obtain ⟨fp, h, hf⟩ := h
  exact ⟨fp, h.keep hm (fun k hk => hn k (hf k hk).1 (hf k hk).2.2 (hf k hk).2.1), fun k hk => ⟨(hf k hk).1, Nat.lt_of_lt_of_le (hf k hk).2.1 hm.size, (hf k hk).2.2⟩⟩
theorem Own.below (h : Own n ex w bd S) (hb : Below w.heap.size w w') : Own n ex w' bd S := h.keep (fq := fun _ => False) (Mods.of_below hb) (fun _ _ _ _ => id)
theorem Own.alloc (h : Own n ex w bd S) (o : Obj) : Own n ex (w.alloc o) bd S := h.keep (fq := fun _ => False) ((Mods.refl _ w).alloc o) (fun _ _ _ _ => id)
theorem Own.drewN (h : Own n ex w bd S) (m : Nat) : Own n ex (w.drewN m) bd S := h.keep (fq := fun _ => False) ((Mods.refl _ w).drewN m) (fun _ _ _ _ => id)
theorem Own.drew (h : Own n ex w bd S) : Own n ex w.drew bd S := h.keep (fq := fun _ => False) (Mods.refl _ w).drew (fun _ _ _ _ => id)
theorem own_step {fp : Nat → Prop} (hf : ∀ k, fp k → n ≤ k ∧ k < w.heap.size ∧ ¬ ex k) (hn : n ≤ w.heap.size) (hex : ∀ k, ex k → k < w.heap.size) (h : DAt w' bd (ext fp w w') S' ∧ Mods fp w w') : Own n ex w' bd S' ∧ Mods (May n ex) w w' := by
  refine ⟨⟨ext fp w w', h.1, ?_⟩, h.2.weak (fun i _ e => ⟨(hf i e).1, (hf i e).2.2⟩)⟩
  rintro k (e | ⟨e1, e2⟩)
  · exact ⟨(hf k e).1, Nat.lt_of_lt_of_le (hf k e).2.1 h.2.size, (hf k e).2.2⟩
  · exact ⟨Nat.le_trans hn e1, e2, fun e => by have := hex k e; omega⟩
end

section
variable (w : World) (n bd : Nat) (ex : Nat → Prop) (S : DS) (h : Own n ex w bd S) (hn : n ≤ w.heap.size) (hex : ∀ k, ex k → k < w.heap.size)
include h hn hex
theorem write_own (name text : ByteArray) (h1 : name.size ≤ maxLen) (h2 : text.size ≤ maxLen) (h3 : S.wt + text.size ≤ 1099511627776) (h4 : S.cnt + 1 ≤ 500000) :
    Calls Try.prog 24 #[.pointer (some ⟨bd, 0, none⟩), .string name, .string text] w fun e w' => e = .returned (.int .i64 ((wrS S name text).1 : Int)) ∧ Own n ex w' bd (wrS S name text).2 ∧ Mods (May n ex) w w' := by
  obtain ⟨fp, h, hf⟩ := h
  exact (write_any w bd fp S h name text h1 h2 h3 h4).mono fun e w' ⟨he, hr⟩ => ⟨he, own_step hf hn hex hr⟩
theorem rename_own (n1 n2 : ByteArray) (h1 : n1.size ≤ maxLen) (h2 : n2.size ≤ maxLen) (h3 : S.wt + n2.size ≤ 1099511627776) (h4 : S.cnt + 1 ≤ 500000) :
    Calls Try.prog 30 #[.pointer (some ⟨bd, 0, none⟩), .string n1, .string n2] w fun e w' => e = .returned (.int .i64 ((rnS S n1 n2).1 : Int)) ∧ Own n ex w' bd (rnS S n1 n2).2 ∧ Mods (May n ex) w w' := by
  obtain ⟨fp, h, hf⟩ := h
  exact (rename_any w bd fp S h n1 n2 h1 h2 h3 h4).mono fun e w' ⟨he, hr⟩ => ⟨he, own_step hf hn hex hr⟩
theorem remove_own (n1 : ByteArray) (h1 : n1.size ≤ maxLen) (h4 : S.cnt + 1 ≤ 500000) :
    Calls Try.prog 29 #[.pointer (some ⟨bd, 0, none⟩), .string n1] w fun e w' => e = .returned (.int .i64 ((rmS S n1).1 : Int)) ∧ Own n ex w' bd (rmS S n1).2 ∧ Mods (May n ex) w w' := by
  obtain ⟨fp, h, hf⟩ := h
  exact (remove_any w bd fp S h n1 h1 h4).mono fun e w' ⟨he, hr⟩ => ⟨he, own_step hf hn hex hr⟩
theorem sync_own : Calls Try.prog 25 #[.pointer (some ⟨bd, 0, none⟩)] w fun e w' => e = .returned (.int .i64 ((syS S).1 : Int)) ∧ Own n ex w' bd (syS S).2 ∧ Mods (May n ex) w w' := by
  obtain ⟨fp, h, hf⟩ := h
  exact (sync_any w bd fp S h).mono fun e w' ⟨he, hr⟩ => ⟨he, own_step hf hn hex hr⟩
theorem fall_own (turns : Int) (ht : turns ≤ 9223372036854775807) :
    Calls Try.prog 23 #[.pointer (some ⟨bd, 0, none⟩), .int .i64 turns] w fun e w' => e = .returned (.tuple #[]) ∧ Own n ex w' bd { S with falls := true, left := turns.toNat } ∧ Mods (May n ex) w w' := by
  obtain ⟨fp, h, hf⟩ := h
  exact (fall_any turns w bd fp S h ht).mono fun e w' ⟨he, h1, h2, _⟩ => ⟨he, own_step hf hn hex ⟨h1.weak (fun k hk => .inl hk), h2⟩⟩
end
theorem crash_own (w : World) (n bd : Nat) (ex : Nat → Prop) (S : DS) (h : Own n ex w bd S) (hex : ∀ k, ex k → k < w.heap.size) (A : Option Addr) (c : Nat) (ks : List Bool) (hA : BArg w A ks) (hkl : ks.length ≤ maxLen) :
    Calls Try.prog 20 #[.pointer (some ⟨bd, 0, none⟩), .slice A ks.length c] w fun e w' => ∃ b', e = .returned (.pointer (some ⟨b', 0, none⟩)) ∧ Own w.heap.size ex w' b' (crS S ks) ∧ Below w.heap.size w w' := by
  obtain ⟨fp, h, hf⟩ := h
  exact (crash_any w bd fp S h A c ks hA hkl).mono fun e w' ⟨b', he, hb, hd, hbl⟩ => ⟨b', he, ⟨_, hd, fun k hk => ⟨hk.1, hk.2, fun e => by have := hex k e; omega⟩⟩, hbl⟩
theorem read_own {w : World} {n bd : Nat} {ex : Nat → Prop} {S : DS} (h : Own n ex w bd S) (name : ByteArray) (hn : name.size ≤ maxLen) :
    Calls Try.prog 18 #[.pointer (some ⟨bd, 0, none⟩), .string name] w fun e w' => e = .returned (.tuple #[.string (rdS S name).1, .int .i64 ((rdS S name).2 : Int)]) ∧ Below w.heap.size w w' := by
  obtain ⟨fp, h, hf⟩ := h
  exact read_any w bd fp S h name hn
theorem down_own {w : World} {n bd : Nat} {ex : Nat → Prop} {S : DS} (h : Own n ex w bd S) : Calls Try.prog 26 #[.pointer (some ⟨bd, 0, none⟩)] w fun e w' => e = .returned (.bool S.down) ∧ w = w' := by
  obtain ⟨fp, h, hf⟩ := h
  exact down_any w bd fp S h
theorem room_own {w : World} {n bd : Nat} {ex : Nat → Prop} {S : DS} (h : Own n ex w bd S) : Calls Try.prog 27 #[.pointer (some ⟨bd, 0, none⟩)] w fun e w' => e = .returned (.int .i64 ((S.room : Int) - tot S.now)) ∧ ∃ n, w' = w.drewN n := by
  obtain ⟨fp, h, hf⟩ := h
  exact room_any w bd fp S h
theorem new_own (room : Int) (w : World) (ex : Nat → Prop) (hex : ∀ k, ex k → k < w.heap.size) :
    Calls Try.prog 13 #[.int .i64 room] w fun e w' => e = .returned (.pointer (some ⟨w.heap.size, 0, none⟩)) ∧ Own w.heap.size ex w' w.heap.size (newS room) ∧ Below w.heap.size w w' ∧ w'.heap.size = w.heap.size + 1 :=
  (new_any room w).mono fun e w' ⟨he, h1, h2, h3⟩ => ⟨he, ⟨_, h1, fun k hk => by subst hk; exact ⟨Nat.le_refl _, by omega, fun e => by have := hex _ e; omega⟩⟩, h2, h3⟩

def tA : ByteArray := ⟨#[97]⟩
def tB : ByteArray := ⟨#[98]⟩
def tOne : ByteArray := ⟨#[111, 110, 101]⟩
def tTwo : ByteArray := ⟨#[116, 119, 111]⟩
def h0 : DS := newS 100
def h1 : Nat × DS := wrS h0 tA tOne
def h2 : Nat × DS := syS h1.2
def h3 : Nat × DS := wrS h2.2 tB tTwo
def h4 : Nat × DS := rnS h3.2 tB tA
theorem h_all : h1.1 = 0 ∧ h2.1 = 0 ∧ h3.1 = 0 ∧ h4.1 = 0 ∧ rdS (crS h4.2 [false, true]) tA = (tOne, 0) ∧ rdS h4.2 tA = (tTwo, 0) := ⟨by kernel_rfl, by kernel_rfl, by kernel_rfl, by kernel_rfl, by kernel_rfl, by kernel_rfl⟩
theorem h_bounds : h0.wt ≤ 100 ∧ h0.cnt ≤ 10 ∧ h1.2.wt ≤ 100 ∧ h2.2.wt ≤ 100 ∧ h2.2.cnt ≤ 10 ∧ h3.2.wt ≤ 100 ∧ h3.2.cnt ≤ 10 :=
  ⟨of_decide_eq_true (by kernel_rfl), of_decide_eq_true (by kernel_rfl), of_decide_eq_true (by kernel_rfl), of_decide_eq_true (by kernel_rfl), of_decide_eq_true (by kernel_rfl), of_decide_eq_true (by kernel_rfl), of_decide_eq_true (by kernel_rfl)⟩

theorem barg_lit (w : World) (ks : List Bool) (t : TypeId) : BArg (w.alloc (.cells (ks.map Value.bool).toArray t)) (some ⟨w.heap.size, 0, none⟩) ks := by
  refine .inr ⟨_, rfl, by simp, fun i hi => ?_⟩
  have hb : Blk (w.alloc (.cells (ks.map Value.bool).toArray t)) w.heap.size (ks.map Value.bool) t := (MapKept.heap_alloc w _).1
  have : (⟨w.heap.size, 0, none⟩ : Addr).add i = ⟨w.heap.size, i, none⟩ := by simp [Addr.add]; intro h; omega
  rw [this, hb.cell i]
  simp [hi]

set_option maxHeartbeats 1600000 in
set_option maxRecDepth 100000 in
theorem head_any (w : World) : Calls Try.prog 11 #[] w fun e w' => e = .returned (.bool true) ∧ Below w.heap.size w w' := by
  obtain ⟨r1, r2, r3, r4, r5, r6⟩ := h_all
  obtain ⟨b1, b2, b3, b4, b5, b6, b7⟩ := h_bounds
  have R1 := Lib.hid r1
  have R2 := Lib.hid r2
  have R3 := Lib.hid r3
  have R4 := Lib.hid r4
  have R5 := Lib.hid r5
  have R6 := Lib.hid r6
  clear r1 r2 r3 r4 r5 r6
  have nof : ∀ (u : World) k, (fun _ : Nat => False) k → k < u.heap.size := fun _ _ e => e.elim
  go_enter Try.func11, Try.ntmps11
  go_wp2_with fail
  refine (new_own 100 w (fun _ => False) (nof w)).mono ?_
  rintro e w1 ⟨rfl, o1, hb1, hz1⟩
  have HZ1 := Lib.hid hz1
  have hs1 := hb1.size
  clear hz1
  go_wp2_with fail
  refine (write_own w1 w.heap.size w.heap.size _ h0 o1 hs1 (nof w1) tA tOne (of_decide_eq_true (by kernel_rfl)) (of_decide_eq_true (by kernel_rfl)) (by have : tOne.size = 3 := rfl; omega) (by omega)).mono ?_
  rintro e w2 ⟨rfl, o2, m2⟩
  change Own _ _ w2 _ h1.2 at o2
  rw [show (wrS h0 tA tOne).1 = 0 from R1.out]
  have hs2 := m2.size
  go_wp2_with fail
  refine (sync_own w2 w.heap.size w.heap.size _ h1.2 o2 (by omega) (nof w2)).mono ?_
  rintro e w3 ⟨rfl, o3, m3⟩
  change Own _ _ w3 _ h2.2 at o3
  rw [show (syS h1.2).1 = 0 from R2.out]
  have hs3 := m3.size
  go_wp2_with fail
  refine (write_own w3 w.heap.size w.heap.size _ h2.2 o3 (by omega) (nof w3) tB tTwo (of_decide_eq_true (by kernel_rfl)) (of_decide_eq_true (by kernel_rfl)) (by have : tTwo.size = 3 := rfl; omega) (by omega)).mono ?_
  rintro e w4 ⟨rfl, o4, m4⟩
  change Own _ _ w4 _ h3.2 at o4
  rw [show (wrS h2.2 tB tTwo).1 = 0 from R3.out]
  have hs4 := m4.size
  go_wp2_with fail
  refine (rename_own w4 w.heap.size w.heap.size _ h3.2 o4 (by omega) (nof w4) tB tA (of_decide_eq_true (by kernel_rfl)) (of_decide_eq_true (by kernel_rfl)) (by have : tA.size = 1 := rfl; omega) (by omega)).mono ?_
  rintro e w5 ⟨rfl, o5, m5⟩
  change Own _ _ w5 _ h4.2 at o5
  rw [show (rnS h3.2 tB tA).1 = 0 from R4.out]
  have hs5 := m5.size
  go_wp2_with fail
  refine (crash_own (w5.alloc (.cells #[.bool false, .bool true] 4)) w.heap.size w.heap.size _ h4.2 (o5.alloc _) (nof _) (some ⟨w5.heap.size, 0, none⟩) 2 [false, true] (barg_lit w5 [false, true] 4) (by simp [maxLen])).mono ?_
  rintro e w6 ⟨b', rfl, o6, hb6⟩
  go_wp2_with fail
  refine (read_own o6 tA (of_decide_eq_true (by kernel_rfl))).mono ?_
  rintro e w7 ⟨rfl, hb7⟩
  rw [R5.out]
  have o7 := ((o5.alloc (.cells #[.bool false, .bool true] 4)).below hb6).below hb7
  go_wp2_with fail
  refine (read_own o7 tA (of_decide_eq_true (by kernel_rfl))).mono ?_
  rintro e w8 ⟨rfl, hb8⟩
  rw [R6.out]
  have q1 : tOne.toList = [111, 110, 101] := by rw [ByteArray.toList_eq]; rfl
  have q2 : tTwo.toList = [116, 119, 111] := by rw [ByteArray.toList_eq]; rfl
  go_wp2
  go_ret
  refine ⟨by kernel_rfl, ?_⟩
  have M : Mods (May w.heap.size (fun _ => False)) w1 w5 := May.trans (May.trans (May.trans m2 m3) m4) m5
  exact (((hb1.trans (May.below M (Nat.le_refl _) hs1)).alloc (by omega) _).trans ((hb6.mono (by simp; omega)).trans (hb7.mono (by have := hb6.size; simp at this; omega)))).trans (hb8.mono (by have := hb6.size; have := hb7.size; simp at *; omega))

end Go.Proofs.Ytecegjdnodcamaa
