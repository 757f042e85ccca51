/-
  The store's drop, has.
-/
import Derived.Test.YtecegjdnodcamaaMem
namespace Go.Proofs.Ytecegjdnodcamaa
open Go.RowKit Go.Maps

/-- a store: two cells of a block, files and their bytes -/
structure SAt (w : World) (b o : Nat) (cs : List Value) (t : TypeId) (v : Value) (D : Dt) : Prop where
  blk : Blk w b cs t
  c0 : cs[o]? = some v
  c1 : cs[o + 1]? = some (.int .i64 (tot D))
  files : FAt w v D
  good : Good D
  room : tot D ≤ 4611686018427387904
  few : Maps.size D < 1000000

/-- two cells that lie side by side, written -/
def st (cs : List Value) (o : Nat) (v x : Value) : List Value := (cs.set o v).set (o + 1) x
theorem st_st (cs : List Value) (o : Nat) (v x v' x' : Value) : st (st cs o v x) o v' x' = st cs o v' x' := by
  unfold st
  rw [List.set_comm x v' (by omega : o + 1 ≠ o), List.set_set, List.set_set]
theorem st_same {cs : List Value} {o : Nat} {v : Value} (x : Value) (h : cs[o]? = some v) : st cs o v x = cs.set (o + 1) x := by
  unfold st
  obtain ⟨h1, h2⟩ := List.getElem?_eq_some_iff.1 h
  subst h2
  rw [List.set_getElem_self]
theorem st_0 (cs : List Value) (o : Nat) (v x : Value) (h : o + 1 < cs.length) : (st cs o v x)[o]? = some v := by
  unfold st
  rw [List.getElem?_set_ne (by omega), List.getElem?_set_self (by omega)]
theorem st_1 (cs : List Value) (o : Nat) (v x : Value) (h : o + 1 < cs.length) : (st cs o v x)[o + 1]? = some x := by
  unfold st
  rw [List.getElem?_set_self (by simpa using h)]
theorem st_len (cs : List Value) (o : Nat) (v x : Value) : (st cs o v x).length = cs.length := by simp [st]
theorem SAt.len {w : World} {b o : Nat} {cs : List Value} {t : TypeId} {v : Value} {D : Dt} (h : SAt w b o cs t v D) : o + 1 < cs.length := (List.getElem?_eq_some_iff.1 h.c1).1

set_option maxHeartbeats 800000 in
theorem drop_any (w : World) (b o : Nat) (cs : List Value) (t : TypeId) (v : Value) (D : Dt) (h : SAt w b o cs t v D) (name : ByteArray) (hn : name.size ≤ maxLen) :
    Calls Try.prog 42 #[.pointer (some ⟨b, o, none⟩), .string name] w fun e w' => e = .returned (.tuple #[]) ∧
      SAt w' b o (st cs o v (.int .i64 (tot (delF D name)))) t v (delF D name) ∧ Mods (fun k => k = b ∨ v = .map (some k)) w w' := by
  have a0 : w.cell? ⟨b, o, none⟩ = some v := (h.blk.cell o).trans h.c0
  have a1 : w.cell? ⟨b, o + 1, none⟩ = some (.int .i64 (tot D)) := (h.blk.cell _).trans h.c1
  have f1 := h.blk.frozen (o + 1)
  have hl := (show FAt w.drew v D from h.files).look h.good name hn
  have hfd := field74 (get D name)
  have HT := Lib.hid (tot_del h.good name)
  have ht : (get D name).size ≤ tot D := by have := HT.out; omega
  have hr := h.room
  have H := Lib.hid h
  clear h
  go_enter Try.func42, Try.ntmps42
  go_wp2
  go_region
  have hFF : FAt ((w.setCell ⟨b, o + 1, none⟩ (.int .i64 ((tot D : Int) - (get D name).size))).drew) v D :=
    H.out.files.keep (fp := (· = b)) (((Mods.refl (· = b) w).setCell (p := ⟨b, o + 1, none⟩) (.inl rfl) _).drew) (fun k hk e => H.out.blk.ne H.out.files (by rw [hk, e]))
  have HF := Lib.hid hFF
  clear hFF
  go_wp2_with (at_delete; refine wpList_delete_F rfl _ _ rfl v D rfl HF.out name rfl hn ?_; intro w1 hF1 hm1)
  go_end0
  have hb : Blk ((w.setCell ⟨b, o + 1, none⟩ (.int .i64 ((tot D : Int) - (get D name).size))).drew) b (cs.set (o + 1) (.int .i64 ((tot D : Int) - (get D name).size))) t := (H.out.blk.set (o + 1) _).drew
  have hb1 := hb.keep hm1 (fun e => H.out.blk.ne H.out.files e)
  have e1 : ((tot (delF D name) : Nat) : Int) = (tot D : Int) - (get D name).size := by have := HT.out; omega
  refine ⟨rfl, ⟨by rw [e1, st_same _ H.out.c0]; exact hb1, st_0 _ _ _ _ H.out.len, st_1 _ _ _ _ H.out.len, hF1, H.out.good.del _, Nat.le_trans (tot_del_le H.out.good name) hr, Nat.lt_of_le_of_lt (size_del_le H.out.good name) H.out.few⟩, ?_⟩
  · exact (((Mods.refl (· = b) w).setCell (p := ⟨b, o + 1, none⟩) (.inl rfl) _).drew).trans hm1 (fun i _ e => .inl e) (fun i _ e => .inr e)

set_option maxHeartbeats 800000 in
theorem has_any (w : World) (b o : Nat) (cs : List Value) (t : TypeId) (v : Value) (D : Dt) (h : SAt w b o cs t v D) (name : ByteArray) (hn : name.size ≤ maxLen) :
    Calls Try.prog 31 #[.pointer (some ⟨b, o, none⟩), .string name] w fun e w' => e = .returned (.bool (hasF D name)) ∧ Below w.heap.size w w' := by
  have a0 : w.cell? ⟨b, o, none⟩ = some v := (h.blk.cell o).trans h.c0
  have hl := h.files.look_ok h.good name hn
  clear h
  go_enter Try.func31, Try.ntmps31
  go_wp2
  go_ret
  exact ⟨rfl, (Below.refl _ _).alloc (Nat.le_refl _) _⟩

end Go.Proofs.Ytecegjdnodcamaa
