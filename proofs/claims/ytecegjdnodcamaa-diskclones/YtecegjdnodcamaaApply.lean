/-
  The store's move, apply.
-/
import Derived.Test.YtecegjdnodcamaaPut
namespace Go.Proofs.Ytecegjdnodcamaa
open Go.RowKit Go.Maps

theorem SAt.below {w w' : World} {b o : Nat} {cs : List Value} {t : TypeId} {v : Value} {D : Dt} (h : SAt w b o cs t v D) (hb : Below w.heap.size w w') : SAt w' b o cs t v D := h.keep (fp := fun _ => False) (Mods.of_below hb) id (fun _ _ => id)
theorem SAt.self {w : World} {b o : Nat} {cs : List Value} {t : TypeId} {v : Value} {D : Dt} (h : SAt w b o cs t v D) : st cs o v (.int .i64 (tot D)) = cs := by
  rw [st_same _ h.c0]
  obtain ⟨h1, h2⟩ := List.getElem?_eq_some_iff.1 h.c1
  rw [← h2, List.set_getElem_self]
theorem SAt.again {w : World} {b o : Nat} {cs : List Value} {t : TypeId} {v : Value} {D : Dt} (h : SAt w b o cs t v D) : SAt w b o (st cs o v (.int .i64 (tot D))) t v D := by rw [h.self]; exact h

set_option maxHeartbeats 800000 in
theorem move_no (w : World) (b o : Nat) (cs : List Value) (t : TypeId) (v : Value) (D : Dt) (h : SAt w b o cs t v D) (n1 n2 : ByteArray) (hn : n1.size ≤ maxLen) (hh : hasF D n1 = false) :
    Calls Try.prog 41 #[.pointer (some ⟨b, o, none⟩), .string n1, .string n2] w fun e w' => e = .returned (.tuple #[]) ∧ Below w.heap.size w w' := by
  have HC := Lib.hid (has_any w b o cs t v D h n1 hn)
  rw [hh] at HC
  clear h hh
  go_enter Try.func41, Try.ntmps41
  go_wp2_with fail
  refine HC.out.mono ?_
  rintro e w1 ⟨rfl, hb1⟩
  go_wp2
  refine bodyPost_ret (results_none rfl _ _ _) rfl ?_
  exact ⟨rfl, hb1⟩

set_option maxHeartbeats 800000 in
theorem move_yes (w : World) (b o : Nat) (cs : List Value) (t : TypeId) (v : Value) (D : Dt) (h : SAt w b o cs t v D) (n1 n2 : ByteArray) (hn : n1.size ≤ maxLen) (hn2 : n2.size ≤ maxLen) (hh : hasF D n1 = true) (hf : Maps.size D + 1 < 1000000) :
    Calls Try.prog 41 #[.pointer (some ⟨b, o, none⟩), .string n1, .string n2] w fun e w' => e = .returned (.tuple #[]) ∧
      ∃ v', SAt w' b o (st cs o v' (.int .i64 (tot (putF (delF D n1) n2 (get D n1))))) t v' (putF (delF D n1) n2 (get D n1)) ∧ NewV w v v' ∧ Mods (fun k => k = b ∨ v = .map (some k)) w w' := by
  have HC := Lib.hid (has_any w b o cs t v D h n1 hn)
  rw [hh] at HC
  have HS := Lib.hid h
  clear h hh
  go_enter Try.func41, Try.ntmps41
  go_wp2_with fail
  refine HC.out.mono ?_
  rintro e w1 ⟨rfl, hb1⟩
  have h1 := HS.out.below hb1
  have a0 : w1.cell? ⟨b, o, none⟩ = some v := (h1.blk.cell o).trans h1.c0
  have hl := h1.files.look h1.good n1 hn
  have HG := Lib.hid (h1.files.get_le h1.good n1 hn)
  have H1 := Lib.hid h1
  have hlt := h1.blk.lt
  have hvl := h1.files.lt
  have HA := Lib.hid (h1.keep (fp := fun _ => False) ((Mods.refl _ w1).alloc (.cells #[.string (get D n1)] 74)) id (fun _ _ => id))
  have HBk : Hid (Blk (w1.alloc (.cells #[.string (get D n1)] 74)) w1.heap.size [.string (get D n1)] 74) := Lib.hid (MapKept.heap_alloc w1 _).1
  clear h1
  go_wp2_with fail
  refine (drop_any _ b o cs t v D HA.out n1 hn).mono ?_
  rintro e w2 ⟨rfl, h2, hm2⟩
  have c2 : w2.cell? ⟨w1.heap.size, 0, none⟩ = some (.string (get D n1)) := (HBk.out.keep hm2 (fun e => by rcases e with e | e; omega; have := hvl _ e; omega)).cell 0
  have H2 := Lib.hid h2
  have HT := Lib.hid (tot_del H1.out.good n1)
  have HR := Lib.hid (HS.out.room)
  have HZ := Lib.hid (size_del_le H1.out.good n1)
  clear h2
  go_wp2_with fail
  refine (put_any w2 b o _ t v (delF D n1) H2.out n2 (get D n1) hn2 HG.out (by have := HT.out; have := HR.out; omega) (by have := HZ.out; omega)).mono ?_
  rintro e w3 ⟨rfl, v', h3, hv3, hm3⟩
  rw [st_st] at h3
  go_wp2
  go_end0
  have hs2 := hm2.size
  have hs1 := hb1.size
  simp only [World.size_alloc] at hs2
  refine ⟨rfl, v', h3, ?_, ?_⟩
  · rcases hv3 with e | ⟨k, e, hk⟩
    · exact .inl e
    · exact .inr ⟨k, e, by omega⟩
  · exact (((Mods.of_below (fp := fun k => k = b ∨ v = .map (some k)) hb1).alloc _).trans hm2 (fun _ _ e => e) (fun _ _ e => e)).trans hm3 (fun _ _ e => e) (fun _ _ e => e)

def chg (c : Chg) : Value := .agg #[.int .i64 (c.k : Int), .string c.name, .string c.with_]

set_option maxHeartbeats 800000 in
theorem apply_any (w : World) (b o : Nat) (cs : List Value) (t : TypeId) (v : Value) (D : Dt) (h : SAt w b o cs t v D) (c : Chg) (hk : c.k ≤ 2) (hn : c.name.size ≤ maxLen) (hw : c.with_.size ≤ maxLen) (hr : tot D + c.with_.size ≤ 4611686018427387904) (hf : Maps.size D + 1 < 1000000) :
    Calls Try.prog 33 #[.pointer (some ⟨b, o, none⟩), chg c] w fun e w' => e = .returned (.tuple #[]) ∧
      ∃ v', SAt w' b o (st cs o v' (.int .i64 (tot (app D c)))) t v' (app D c) ∧ NewV w v v' ∧ Mods (fun k => k = b ∨ v = .map (some k)) w w' := by
  obtain ⟨k, name, with_⟩ := c
  simp only at hk hn hw hr
  have HS := Lib.hid h
  unfold chg
  have HA := Lib.hid (h.keep (fp := fun _ => False) ((Mods.refl _ w).alloc (.cells #[.int .i64 (k : Int), .string name, .string with_] 78)) id (fun _ _ => id))
  clear h
  have hk3 : k = 0 ∨ k = 1 ∨ k = 2 := by omega
  rcases hk3 with rfl | rfl | rfl
  · go_enter Try.func33, Try.ntmps33
    go_wp2_with fail
    refine (put_any _ b o cs t v D HA.out name with_ hn hw hr hf).mono ?_
    rintro e w3 ⟨rfl, v', h3, hv3, hm3⟩
    go_wp2
    go_end0
    refine ⟨rfl, v', h3, ?_, ((Mods.refl _ w).alloc _).trans hm3 (fun _ _ e => e) (fun _ _ e => e)⟩
    rcases hv3 with e | ⟨k, e, hk⟩
    · exact .inl e
    · exact .inr ⟨k, e, by simp at hk; omega⟩
  · by_cases hh : hasF D name = true
    · go_enter Try.func33, Try.ntmps33
      go_wp2_with fail
      refine (move_yes _ b o cs t v D HA.out name with_ hn hw hh hf).mono ?_
      rintro e w3 ⟨rfl, v', h3, hv3, hm3⟩
      go_wp2
      go_end0
      have e1 : app D ⟨1, name, with_⟩ = putF (delF D name) with_ (get D name) := by simp [app, hh]
      rw [e1]
      refine ⟨rfl, v', h3, ?_, ((Mods.refl _ w).alloc _).trans hm3 (fun _ _ e => e) (fun _ _ e => e)⟩
      rcases hv3 with e | ⟨k, e, hk⟩
      · exact .inl e
      · exact .inr ⟨k, e, by simp at hk; omega⟩
    · have hh : hasF D name = false := by simpa using hh
      go_enter Try.func33, Try.ntmps33
      go_wp2_with fail
      refine (move_no _ b o cs t v D HA.out name with_ hn hh).mono ?_
      rintro e w3 ⟨rfl, hb3⟩
      go_wp2
      go_end0
      have e1 : app D ⟨1, name, with_⟩ = D := by simp [app, hh]
      rw [e1]
      exact ⟨rfl, v, (HA.out.below hb3).again, .inl rfl, ((Mods.refl _ w).alloc _).trans (Mods.of_below (fp := fun _ => False) hb3) (fun _ _ e => e) (fun _ _ e => e.elim)⟩
  · go_enter Try.func33, Try.ntmps33
    go_wp2_with fail
    refine (drop_any _ b o cs t v D HA.out name hn).mono ?_
    rintro e w3 ⟨rfl, h3, hm3⟩
    go_wp2
    go_end0
    exact ⟨rfl, v, h3, .inl rfl, ((Mods.refl _ w).alloc _).trans hm3 (fun _ _ e => e) (fun _ _ e => e)⟩

end Go.Proofs.Ytecegjdnodcamaa
