/-
  A disk in memory: Down, Room, turn, change.
-/
import Derived.Test.YtecegjdnodcamaaApply
import Derived.StillTailTactics
import Derived.Deep.AppendLies
namespace Go.Proofs.Ytecegjdnodcamaa
open Go.RowKit Go.Maps

/-- what a disk is: its room, the files that are safe, what was done since, when it falls, whether it has no power -/
structure DS where
  room : Nat
  safe : Dt
  ch : List Chg
  falls : Bool
  left : Nat
  down : Bool
def DS.now (S : DS) : Dt := apps S.safe S.ch
def DS.wt (S : DS) : Nat := tot S.safe + Ytecegjdnodcamaa.wt S.ch
def DS.cnt (S : DS) : Nat := Maps.size S.safe + S.ch.length
def Chg.ok (c : Chg) : Prop := c.k ≤ 2 ∧ c.name.size ≤ maxLen ∧ c.with_.size ≤ maxLen
structure DS.ok (S : DS) : Prop where
  good : Good S.safe
  chs : ∀ c ∈ S.ch, c.ok
  wt : S.wt ≤ 1099511627776
  cnt : S.cnt ≤ 500000
  room : S.room ≤ 4194304
  left : S.left ≤ 9223372036854775807
theorem DS.ok.goodn {S : DS} (h : S.ok) : Good S.now := h.good.apps _
theorem DS.ok.totn {S : DS} (h : S.ok) : tot S.now ≤ 1099511627776 := Nat.le_trans (tot_apps h.good _) h.wt
theorem DS.ok.sizen {S : DS} (h : S.ok) : Maps.size S.now ≤ 500000 := Nat.le_trans (size_apps h.good _) h.cnt

def ccells (c : Chg) : List Value := [.int .i64 (c.k : Int), .string c.name, .string c.with_]
theorem ccells_len (l : List Chg) : (l.flatMap ccells).length = l.length * 3 := by
  induction l with
  | nil => rfl
  | cons c l ih => simp only [List.flatMap_cons, List.length_append, ih, List.length_cons, ccells, List.length_nil]; omega

def dcs (S : DS) (vn vs cv : Value) : List Value := [.int .i64 (S.room : Int), vn, .int .i64 (tot S.now : Int), vs, .int .i64 (tot S.safe : Int), cv, .bool S.falls, .int .i64 (S.left : Int), .bool S.down]
structure DV (w : World) (bd : Nat) (vn vs cv : Value) (S : DS) : Prop where
  blk : Blk w bd (dcs S vn vs cv) 71
  now : FAt w vn S.now
  safe : FAt w vs S.safe
  ne : ∀ k, vn = .map (some k) → vs ≠ .map (some k)
  row : w.ownsRow 0 78 3 cv S.ch.length (S.ch.flatMap ccells)
  ok : S.ok
def foot (bd : Nat) (vn vs cv : Value) (k : Nat) : Prop := k = bd ∨ vn = .map (some k) ∨ vs = .map (some k) ∨ cv.ownBlock = some k
/-- a disk in block bd; what it holds lies in blocks of fp -/
def DAt (w : World) (bd : Nat) (fp : Nat → Prop) (S : DS) : Prop := ∃ vn vs cv, DV w bd vn vs cv S ∧ ∀ k, foot bd vn vs cv k → fp k

theorem row_keep {w w' : World} {v : Value} {n : Nat} {xs : List Value} {fp : Nat → Prop} (h : w.ownsRow 0 78 3 v n xs) (hm : Mods fp w w') (hn : ∀ k, v.ownBlock = some k → ¬ fp k) : w'.ownsRow 0 78 3 v n xs := by
  have hlt := h.lt
  obtain ⟨hl, h⟩ := h
  refine ⟨hl, ?_⟩
  rcases h with h | ⟨g, cap, cur, rfl, hb, hg, r⟩
  · exact .inl h
  · exact .inr ⟨g, cap, cur, rfl, hb, (hm.block g (hlt g rfl).2 (hn g rfl)).trans hg, r⟩
theorem row_no_map {w : World} {v : Value} {n : Nat} {xs : List Value} (h : w.ownsRow 0 78 3 v n xs) {u : Value} {D : Dt} (hF : FAt w u D) : ∀ k, v.ownBlock = some k → u ≠ .map (some k) := by
  intro k hk e
  rcases h.2 with ⟨rfl, _⟩ | ⟨g, cap, cur, rfl, hb, hg, r⟩
  · cases hk
  · simp [Value.ownBlock] at hk
    subst hk
    exact hF.no_cells g e _ _ _ hg
theorem row_no_disk {w : World} {v : Value} {n : Nat} {xs : List Value} (h : w.ownsRow 0 78 3 v n xs) {b : Nat} {cs : List Value} (hb : Blk w b cs 71) : v.ownBlock ≠ some b := by
  intro hk
  rcases h.2 with ⟨rfl, _⟩ | ⟨g, cap, cur, rfl, _, hg, r⟩
  · cases hk
  · simp [Value.ownBlock] at hk
    subst hk
    rw [show w.heap[g]? = _ from hb] at hg
    cases hg

section
variable {w w' : World} {bd : Nat} {vn vs cv : Value} {S : DS} {fp fq : Nat → Prop}
theorem DV.keep (h : DV w bd vn vs cv S) (hm : Mods fq w w') (hn : ∀ k, foot bd vn vs cv k → ¬ fq k) : DV w' bd vn vs cv S :=
  ⟨h.blk.keep hm (hn _ (.inl rfl)), h.now.keep hm (fun k hk => hn k (.inr (.inl hk))), h.safe.keep hm (fun k hk => hn k (.inr (.inr (.inl hk)))), h.ne, row_keep h.row hm (fun k hk => hn k (.inr (.inr (.inr hk)))), h.ok⟩
theorem DV.foot_lt (h : DV w bd vn vs cv S) : ∀ k, foot bd vn vs cv k → k < w.heap.size := by
  rintro k (rfl | e | e | e)
  · exact h.blk.lt
  · exact h.now.lt k e
  · exact h.safe.lt k e
  · exact (h.row.lt k e).2
theorem DAt.keep (h : DAt w bd fp S) (hm : Mods fq w w') (hn : ∀ k, fp k → ¬ fq k) : DAt w' bd fp S := by
  obtain ⟨vn, vs, cv, h, hf⟩ := h
  exact ⟨vn, vs, cv, h.keep hm (fun k hk => hn k (hf k hk)), hf⟩
theorem DAt.weak (h : DAt w bd fp S) (hn : ∀ k, fp k → fq k) : DAt w bd fq S := by
  obtain ⟨vn, vs, cv, h, hf⟩ := h
  exact ⟨vn, vs, cv, h, fun k hk => hn k (hf k hk)⟩
theorem DAt.below (h : DAt w bd fp S) (hb : Below w.heap.size w w') : DAt w' bd fp S := h.keep (fq := fun _ => False) (Mods.of_below hb) (fun _ _ => id)
theorem DAt.ok (h : DAt w bd fp S) : S.ok := by obtain ⟨_, _, _, h, _⟩ := h; exact h.ok
theorem DV.nowS (h : DV w bd vn vs cv S) : SAt w bd 1 (dcs S vn vs cv) 71 vn S.now :=
  ⟨h.blk, rfl, rfl, h.now, h.ok.goodn, by have := h.ok.totn; omega, by have := h.ok.sizen; omega⟩
theorem DV.safeS (h : DV w bd vn vs cv S) : SAt w bd 3 (dcs S vn vs cv) 71 vs S.safe :=
  ⟨h.blk, rfl, rfl, h.safe, h.ok.good, by have := h.ok.wt; unfold DS.wt at this; omega, by have := h.ok.cnt; unfold DS.cnt at this; omega⟩
end

set_option maxHeartbeats 400000 in
theorem down_dv (w : World) (bd : Nat) (vn vs cv : Value) (S : DS) (h : DV w bd vn vs cv S) :
    Calls Try.prog 26 #[.pointer (some ⟨bd, 0, none⟩)] w fun e w' => e = .returned (.bool S.down) ∧ w = w' := by
  have c8 : w.cell? ⟨bd, 8, none⟩ = some (.bool S.down) := h.blk.cell 8
  clear h
  go_enter Try.func26, Try.ntmps26
  go_wp2
  go_ret
  exact ⟨rfl, rfl⟩

set_option maxHeartbeats 400000 in
theorem room_dv (w : World) (bd : Nat) (vn vs cv : Value) (S : DS) (h : DV w bd vn vs cv S) :
    Calls Try.prog 27 #[.pointer (some ⟨bd, 0, none⟩)] w fun e w' => e = .returned (.int .i64 ((S.room : Int) - tot S.now)) ∧ ∃ n, w' = w.drewN n := by
  have c0 : w.cell? ⟨bd, 0, none⟩ = some (.int .i64 (S.room : Int)) := h.blk.cell 0
  have c2 : w.cell? ⟨bd, 2, none⟩ = some (.int .i64 (tot S.now : Int)) := h.blk.cell 2
  have hr := h.ok.room
  have ht := h.ok.totn
  clear h
  go_enter Try.func27, Try.ntmps27
  go_wp2
  go_quiet (fail)
  go_wp2
  go_ret
  exact ⟨rfl, _, rfl⟩

def turnS (S : DS) : Bool × DS :=
  if S.down then (false, S) else if S.falls then (if S.left = 0 then (false, { S with down := true }) else (true, { S with left := S.left - 1 })) else (true, S)
theorem DS.ok.turn {S : DS} (h : S.ok) : (turnS S).2.ok := by
  unfold turnS
  split
  · exact h
  · split
    · split
      · exact ⟨h.good, h.chs, h.wt, h.cnt, h.room, h.left⟩
      · exact ⟨h.good, h.chs, h.wt, h.cnt, h.room, by have := h.left; show S.left - 1 ≤ _; omega⟩
    · exact h
theorem turnS_ch (S : DS) : (turnS S).2.ch = S.ch ∧ (turnS S).2.safe = S.safe ∧ (turnS S).2.room = S.room := by
  unfold turnS
  split
  · exact ⟨rfl, rfl, rfl⟩
  · split
    · split <;> exact ⟨rfl, rfl, rfl⟩
    · exact ⟨rfl, rfl, rfl⟩

/-- cells 7 or 8 of a disk written -/
theorem DV.turned {w w' : World} {bd : Nat} {vn vs cv : Value} {S S' : DS} (h : DV w bd vn vs cv S) (hm : Mods (· = bd) w w') (hb : Blk w' bd (dcs S' vn vs cv) 71) (e1 : S'.ch = S.ch) (e2 : S'.safe = S.safe) (ok : S'.ok) : DV w' bd vn vs cv S' := by
  have en : S'.now = S.now := by unfold DS.now; rw [e1, e2]
  refine ⟨hb, ?_, ?_, h.ne, ?_, ok⟩
  · rw [en]; exact h.now.keep hm (fun k hk e => h.blk.ne h.now (by rw [hk, e]))
  · rw [e2]; exact h.safe.keep hm (fun k hk e => h.blk.ne h.safe (by rw [hk, e]))
  · rw [e1]; exact row_keep h.row hm (fun k hk e => row_no_disk h.row h.blk (by rw [hk, e]))

set_option maxHeartbeats 800000 in
theorem turn_dv (w : World) (bd : Nat) (vn vs cv : Value) (S : DS) (h : DV w bd vn vs cv S) :
    Calls Try.prog 35 #[.pointer (some ⟨bd, 0, none⟩)] w fun e w' => e = .returned (.bool (turnS S).1) ∧ DV w' bd vn vs cv (turnS S).2 ∧ Mods (· = bd) w w' := by
  have HC := Lib.hid (down_dv w bd vn vs cv S h)
  have c6 : w.cell? ⟨bd, 6, none⟩ = some (.bool S.falls) := h.blk.cell 6
  have c7 : w.cell? ⟨bd, 7, none⟩ = some (.int .i64 (S.left : Int)) := h.blk.cell 7
  have c8 : w.cell? ⟨bd, 8, none⟩ = some (.bool S.down) := h.blk.cell 8
  have f7 := h.blk.frozen 7
  have f8 := h.blk.frozen 8
  have hok := Lib.hid h.ok
  have H := Lib.hid h
  have hl := h.ok.left
  clear h
  obtain ⟨room, safe, ch, falls, left, down⟩ := S
  simp only at c6 c7 c8 HC hl
  cases down
  · cases falls
    · go_enter Try.func35, Try.ntmps35
      go_wp2_with fail
      refine HC.out.mono ?_
      rintro e w1 ⟨rfl, rfl⟩
      go_wp2
      go_ret
      exact ⟨rfl, H.out, Mods.refl _ _⟩
    · by_cases h0 : left = 0
      · have h0' : ((left : Int) == 0) = true := by rw [h0]; rfl
        go_enter Try.func35, Try.ntmps35
        go_wp2_with fail
        refine HC.out.mono ?_
        rintro e w1 ⟨rfl, rfl⟩
        go_wp2
        go_ret
        have hm : Mods (· = bd) w (w.setCell ⟨bd, 8, none⟩ (.bool true)) := (Mods.refl (· = bd) w).setCell (p := ⟨bd, 8, none⟩) (.inl rfl) _
        have e1 : turnS ⟨room, safe, ch, true, left, false⟩ = (false, ⟨room, safe, ch, true, left, true⟩) := by simp [turnS, h0]
        rw [e1]
        exact ⟨rfl, H.out.turned hm (H.out.blk.set 8 _) rfl rfl ⟨hok.out.good, hok.out.chs, hok.out.wt, hok.out.cnt, hok.out.room, hok.out.left⟩, hm⟩
      · have h0' : ((left : Int) == 0) = false := by rw [beq_eq_false_iff_ne]; omega
        have h1 : 1 ≤ left := by omega
        go_enter Try.func35, Try.ntmps35
        go_wp2_with fail
        refine HC.out.mono ?_
        rintro e w1 ⟨rfl, rfl⟩
        go_wp2
        go_ret
        have hm : Mods (· = bd) w (w.setCell ⟨bd, 7, none⟩ (.int .i64 ((left : Int) - 1))) := (Mods.refl (· = bd) w).setCell (p := ⟨bd, 7, none⟩) (.inl rfl) _
        have e1 : turnS ⟨room, safe, ch, true, left, false⟩ = (true, ⟨room, safe, ch, true, left - 1, false⟩) := by simp [turnS, h0]
        have e2 : ((left - 1 : Nat) : Int) = (left : Int) - 1 := by omega
        rw [e1]
        refine ⟨rfl, H.out.turned hm ?_ rfl rfl ⟨hok.out.good, hok.out.chs, hok.out.wt, hok.out.cnt, hok.out.room, by show left - 1 ≤ _; omega⟩, hm⟩
        have := H.out.blk.set 7 (.int .i64 ((left : Int) - 1))
        unfold dcs at this ⊢
        simp only [e2]
        exact this
  · go_enter Try.func35, Try.ntmps35
    go_wp2_with fail
    refine HC.out.mono ?_
    rintro e w1 ⟨rfl, rfl⟩
    go_wp2
    go_ret
    exact ⟨rfl, H.out, Mods.refl _ _⟩

end Go.Proofs.Ytecegjdnodcamaa
