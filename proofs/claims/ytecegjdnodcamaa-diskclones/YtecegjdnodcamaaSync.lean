/-
  A disk's New, Fall, Down, Room, Read, Sync.
-/
import Derived.Test.YtecegjdnodcamaaWrite
namespace Go.Proofs.Ytecegjdnodcamaa
open Go.RowKit Go.Maps

def newS (room : Int) : DS := ⟨(min (max room 0) 4194304).toNat, .map [], [], false, 0, false⟩
theorem newS_ok (room : Int) : (newS room).ok := ⟨good_empty, by simp [newS], by simp [newS, DS.wt, tot, wt], by simp [newS, DS.cnt, Maps.size], by simp only [newS]; omega, by simp [newS]⟩

theorem new_at (w : World) (r : Nat) (h : r ≤ 4194304) : DAt (w.alloc (.cells #[.int .i64 (r : Int), .map none, .int .i64 0, .map none, .int .i64 0, .slice none 0 0, .bool false, .int .i64 0, .bool false] 71)) w.heap.size (fun k => k = w.heap.size) ⟨r, .map [], [], false, 0, false⟩ := by
  refine ⟨.map none, .map none, .slice none 0 0, ⟨(MapKept.heap_alloc w _).1, .inl ⟨rfl, rfl⟩, .inl ⟨rfl, rfl⟩, fun k hk => (by cases hk), World.ownsRow_nil _ _ _ _, ⟨good_empty, by simp, by simp [DS.wt, tot, wt], by simp [DS.cnt, Maps.size], h, by simp⟩⟩, ?_⟩
  rintro k (e | e | e | e)
  · exact e
  · cases e
  · cases e
  · cases e
theorem new_end {room m : Int} (w : World) (h : m = min (max room 0) 4194304) :
    DAt (w.alloc (.cells #[.int .i64 m, .map none, .int .i64 0, .map none, .int .i64 0, .slice none 0 0, .bool false, .int .i64 0, .bool false] 71)) w.heap.size (fun k => k = w.heap.size) (newS room) ∧
      Below w.heap.size w (w.alloc (.cells #[.int .i64 m, .map none, .int .i64 0, .map none, .int .i64 0, .slice none 0 0, .bool false, .int .i64 0, .bool false] 71)) ∧
      (w.alloc (.cells #[.int .i64 m, .map none, .int .i64 0, .map none, .int .i64 0, .slice none 0 0, .bool false, .int .i64 0, .bool false] 71)).heap.size = w.heap.size + 1 := by
  refine ⟨?_, (Below.refl _ _).alloc (Nat.le_refl _) _, by simp⟩
  have := new_at w (min (max room 0) 4194304).toNat (by omega)
  rw [show (((min (max room 0) 4194304).toNat : Nat) : Int) = m by omega] at this
  exact this

set_option maxHeartbeats 800000 in
theorem new_any (room : Int) (w : World) :
    Calls Try.prog 13 #[.int .i64 room] w fun e w' => e = .returned (.pointer (some ⟨w.heap.size, 0, none⟩)) ∧ DAt w' w.heap.size (fun k => k = w.heap.size) (newS room) ∧ Below w.heap.size w w' ∧ w'.heap.size = w.heap.size + 1 := by
  go_enter Try.func13, Try.ntmps13
  go_wp2
  all_goals
    go_ret
    exact ⟨rfl, new_end w (by omega)⟩

theorem fall_end {turns m : Int} {w : World} {bd : Nat} {fp : Nat → Prop} {S : DS} {vn vs cv : Value} (h : DV w bd vn vs cv S) (hf : ∀ k, foot bd vn vs cv k → fp k) (ht : turns ≤ 9223372036854775807) (hm : m = (turns.toNat : Int)) :
    DAt ((w.setCell ⟨bd, 6, none⟩ (.bool true)).setCell ⟨bd, 7, none⟩ (.int .i64 m)) bd fp { S with falls := true, left := turns.toNat } ∧ Mods fp w ((w.setCell ⟨bd, 6, none⟩ (.bool true)).setCell ⟨bd, 7, none⟩ (.int .i64 m)) ∧
      ((w.setCell ⟨bd, 6, none⟩ (.bool true)).setCell ⟨bd, 7, none⟩ (.int .i64 m)).heap.size = w.heap.size := by
  have hm1 : Mods (· = bd) w ((w.setCell ⟨bd, 6, none⟩ (.bool true)).setCell ⟨bd, 7, none⟩ (.int .i64 m)) := ((Mods.refl (· = bd) w).setCell (p := ⟨bd, 6, none⟩) (.inl rfl) _).setCell (p := ⟨bd, 7, none⟩) (.inl rfl) _
  refine ⟨(DV.turned (S' := { S with falls := true, left := turns.toNat }) h hm1 ?_ rfl rfl ⟨h.ok.good, h.ok.chs, h.ok.wt, h.ok.cnt, h.ok.room, by show turns.toNat ≤ _; omega⟩).at_ hf, hm1.weak (fun i _ e => by rw [e]; exact hf bd (.inl rfl)), by simp [World.setCell]⟩
  subst hm
  exact (h.blk.set 6 _).set 7 _

set_option maxHeartbeats 800000 in
theorem fall_any (turns : Int) (w : World) (bd : Nat) (fp : Nat → Prop) (S : DS) (h : DAt w bd fp S) (ht : turns ≤ 9223372036854775807) :
    Calls Try.prog 23 #[.pointer (some ⟨bd, 0, none⟩), .int .i64 turns] w fun e w' => e = .returned (.tuple #[]) ∧ DAt w' bd fp { S with falls := true, left := turns.toNat } ∧ Mods fp w w' ∧ w'.heap.size = w.heap.size := by
  obtain ⟨vn, vs, cv, h, hf⟩ := h
  have c6 : w.cell? ⟨bd, 6, none⟩ = some (.bool S.falls) := h.blk.cell 6
  have c7 : w.cell? ⟨bd, 7, none⟩ = some (.int .i64 (S.left : Int)) := h.blk.cell 7
  have f6 := h.blk.frozen 6
  have f7 := h.blk.frozen 7
  have H := Lib.hid h
  clear h
  go_enter Try.func23, Try.ntmps23
  go_wp2
  all_goals
    go_end0
    exact ⟨rfl, fall_end H.out hf ht (by omega)⟩

set_option maxHeartbeats 800000 in
theorem down_any (w : World) (bd : Nat) (fp : Nat → Prop) (S : DS) (h : DAt w bd fp S) :
    Calls Try.prog 26 #[.pointer (some ⟨bd, 0, none⟩)] w fun e w' => e = .returned (.bool S.down) ∧ w = w' := by
  obtain ⟨vn, vs, cv, h, hf⟩ := h
  exact down_dv w bd vn vs cv S h
theorem room_any (w : World) (bd : Nat) (fp : Nat → Prop) (S : DS) (h : DAt w bd fp S) :
    Calls Try.prog 27 #[.pointer (some ⟨bd, 0, none⟩)] w fun e w' => e = .returned (.int .i64 ((S.room : Int) - tot S.now)) ∧ ∃ n, w' = w.drewN n := by
  obtain ⟨vn, vs, cv, h, hf⟩ := h
  exact room_dv w bd vn vs cv S h

def rdS (S : DS) (name : ByteArray) : ByteArray × Nat :=
  if S.down then (ByteArray.empty, 8) else if hasF S.now name then (get S.now name, 0) else (ByteArray.empty, 5)

set_option maxHeartbeats 800000 in
theorem read_any (w : World) (bd : Nat) (fp : Nat → Prop) (S : DS) (h : DAt w bd fp S) (name : ByteArray) (hn : name.size ≤ maxLen) :
    Calls Try.prog 18 #[.pointer (some ⟨bd, 0, none⟩), .string name] w fun e w' => e = .returned (.tuple #[.string (rdS S name).1, .int .i64 ((rdS S name).2 : Int)]) ∧ Below w.heap.size w w' := by
  obtain ⟨vn, vs, cv, h, hf⟩ := h
  have HC := Lib.hid (down_dv w bd vn vs cv S h)
  cases hd : S.down
  · have HS := Lib.hid (has_any w bd 1 _ 71 vn _ h.nowS name hn)
    rw [hd] at HC
    cases hh : hasF S.now name
    · have HE : Hid (rdS S name = (ByteArray.empty, 5)) := Lib.hid (by simp [rdS, hd, hh])
      rw [hh] at HS
      clear h hd hh
      rw [HE.out]
      go_enter Try.func18, Try.ntmps18
      go_wp2_with fail
      refine HC.out.mono ?_
      rintro e w1 ⟨rfl, rfl⟩
      go_wp2_with fail
      refine HS.out.mono ?_
      rintro e w2 ⟨rfl, hb2⟩
      go_wp2
      go_ret2
      exact ⟨rfl, hb2⟩
    · have HE : Hid (rdS S name = (get S.now name, 0)) := Lib.hid (by simp [rdS, hd, hh])
      rw [hh] at HS
      have H := Lib.hid h
      have hfd := field74 (get S.now name)
      clear h hd hh
      rw [HE.out]
      go_enter Try.func18, Try.ntmps18
      go_wp2_with fail
      refine HC.out.mono ?_
      rintro e w1 ⟨rfl, rfl⟩
      go_wp2_with fail
      refine HS.out.mono ?_
      rintro e w2 ⟨rfl, hb2⟩
      have h2 := H.out.keep (fq := fun _ => False) (Mods.of_below hb2) (fun _ _ => id)
      have c1 : w2.cell? ⟨bd, 1, none⟩ = some vn := h2.blk.cell 1
      have hl := looked w2 bd vn vs cv _ h2 name hn
      clear h2
      go_wp2
      go_ret2
      exact ⟨rfl, hb2⟩
  · have HE : Hid (rdS S name = (ByteArray.empty, 8)) := Lib.hid (by simp [rdS, hd])
    rw [hd] at HC
    clear h hd
    rw [HE.out]
    go_enter Try.func18, Try.ntmps18
    go_wp2_with fail
    refine HC.out.mono ?_
    rintro e w1 ⟨rfl, rfl⟩
    go_wp2
    go_ret2
    exact ⟨rfl, Below.refl _ _⟩

theorem apps_take (D : Dt) (l : List Chg) (k : Nat) (h : k < l.length) : apps D (l.take (k + 1)) = app (apps D (l.take k)) l[k] := by
  rw [List.take_succ_eq_append_getElem h, apps_snoc]
theorem wt_take (l : List Chg) (k : Nat) (h : k < l.length) : wt (l.take (k + 1)) = wt (l.take k) + l[k].with_.size := by
  rw [List.take_succ_eq_append_getElem h, wt_snoc]
theorem wt_take_le (l : List Chg) (k : Nat) : wt (l.take k) ≤ wt l := by
  have : wt (l.take k ++ l.drop k) = wt (l.take k) + wt (l.drop k) := by simp only [wt, List.map_append, List.sum_append]
  rw [List.take_append_drop] at this
  omega

theorem changed_end' {w w1 w2 : World} {bd : Nat} {vn vs cv vn' vs' cv' : Value} {fp : Nat → Prop} {S' : DS} (hf : ∀ k, foot bd vn vs cv k → fp k) (hm : Mods (· = bd) w w1) (hd : DV w2 bd vn' vs' cv' S')
    (hf2 : ∀ k, foot bd vn' vs' cv' k → foot bd vn vs cv k ∨ w1.heap.size ≤ k) (hm2 : Mods (foot bd vn vs cv) w1 w2) : DAt w2 bd (ext fp w w2) S' ∧ Mods fp w w2 := by
  refine ⟨hd.at_ (fun k hk => ?_), hm.trans hm2 (fun i _ e => by rw [e]; exact hf bd (.inl rfl)) (fun i _ e => hf i e)⟩
  rcases hf2 k hk with e | e
  · exact .inl (hf k e)
  · exact .inr ⟨Nat.le_trans hm.size e, hd.foot_lt k hk⟩

/-- the cells of one change in the row -/
theorem row_cells {w : World} {g cap : Nat} {l : List Chg} (h : w.ownsRow 0 78 3 (.slice (some ⟨g, 0, none⟩) l.length cap) l.length (l.flatMap ccells)) (k : Nat) (hk : k < l.length) :
    w.cell? ⟨g, k * 3, none⟩ = some (.int .i64 (l[k].k : Int)) ∧ w.cell? ⟨g, k * 3 + 1, none⟩ = some (.string l[k].name) ∧ w.cell? ⟨g, k * 3 + 2, none⟩ = some (.string l[k].with_) := by
  have hc := h.cells (g := g) rfl
  have hidx : ∀ j, j < 3 → (l.flatMap ccells)[k * 3 + j]? = (ccells l[k])[j]? := by
    intro j hj
    have e : l.flatMap ccells = (l.take k).flatMap ccells ++ (ccells l[k] ++ (l.drop (k + 1)).flatMap ccells) := by
      have e0 : l = l.take k ++ (l[k] :: l.drop (k + 1)) := by rw [← List.drop_eq_getElem_cons hk, List.take_append_drop]
      have e1 := congrArg (List.flatMap ccells) e0
      rwa [List.flatMap_append, List.flatMap_cons] at e1
    have hl : ((l.take k).flatMap ccells).length = k * 3 := by rw [ccells_len, List.length_take]; congr 1; omega
    rw [e, List.getElem?_append_right (by omega), hl, Nat.add_sub_cancel_left, List.getElem?_append_left (by simpa [ccells] using hj)]
  have hadd : ∀ j, (⟨g, 0, none⟩ : Addr).add j = ⟨g, j, none⟩ := by intro j; simp [Addr.add]; intro h; omega
  refine ⟨?_, ?_, ?_⟩
  · have := hc (k * 3) (.int .i64 (l[k].k : Int)) ((hidx 0 (by omega)).trans rfl)
    rwa [hadd] at this
  · have := hc (k * 3 + 1) (.string l[k].name) ((hidx 1 (by omega)).trans rfl)
    rwa [hadd] at this
  · have := hc (k * 3 + 2) (.string l[k].with_) ((hidx 2 (by omega)).trans rfl)
    rwa [hadd] at this

/-- in the midst of a Sync: of the changes the first k are safe -/
structure Mid (w wr : World) (bd : Nat) (vn vs cv vk : Value) (S : DS) (k : Nat) : Prop where
  safe : SAt wr bd 3 (st (dcs S vn vs cv) 3 vk (.int .i64 (tot (apps S.safe (S.ch.take k))))) 71 vk (apps S.safe (S.ch.take k))
  now : FAt wr vn S.now
  row : wr.ownsRow 0 78 3 cv S.ch.length (S.ch.flatMap ccells)
  ne : ∀ k, vn = .map (some k) → vk ≠ .map (some k)
  vk : NewV w vs vk
  mods : Mods (foot bd vn vs cv) w wr

theorem Mid.start {w : World} {bd : Nat} {vn vs cv : Value} {S : DS} (h : DV w bd vn vs cv S) : Mid w w bd vn vs cv vs S 0 := by
  refine ⟨?_, h.now, h.row, h.ne, .inl rfl, Mods.refl _ _⟩
  have := h.safeS
  rw [List.take_zero]
  exact this.again

theorem Mid.pre {w wr : World} {bd : Nat} {vn vs cv vk : Value} {S : DS} {k : Nat} (hok : S.ok) (h : Mid w wr bd vn vs cv vk S k) (hk : k < S.ch.length) (X : Obj) :
    SAt (wr.alloc X).drew bd 3 (st (dcs S vn vs cv) 3 vk (.int .i64 (tot (apps S.safe (S.ch.take k))))) 71 vk (apps S.safe (S.ch.take k)) ∧ tot (apps S.safe (S.ch.take k)) + (S.ch[k]).with_.size ≤ 4611686018427387904 ∧ Maps.size (apps S.safe (S.ch.take k)) + 1 < 1000000 := by
  refine ⟨h.safe.keep (fp := fun _ => False) ((Mods.refl _ wr).alloc X).drew id (fun _ _ => id), ?_, ?_⟩
  · have h1 := tot_apps hok.good (S.ch.take k)
    have h2 := wt_take S.ch k hk
    have h3 := wt_take_le S.ch (k + 1)
    have h4 := hok.wt
    unfold DS.wt at h4
    omega
  · have h1 := size_apps hok.good (S.ch.take k)
    have h2 := hok.cnt
    unfold DS.cnt at h2
    rw [List.length_take] at h1
    omega

theorem Mid.step {w wr w2 : World} {bd : Nat} {vn vs cv vk v' : Value} {S : DS} {k : Nat} (h0 : DV w bd vn vs cv S) (h : Mid w wr bd vn vs cv vk S k) (hk : k < S.ch.length) {X : Obj}
    (h2 : SAt w2 bd 3 (st (st (dcs S vn vs cv) 3 vk (.int .i64 (tot (apps S.safe (S.ch.take k))))) 3 v' (.int .i64 (tot (app (apps S.safe (S.ch.take k)) S.ch[k])))) 71 v' (app (apps S.safe (S.ch.take k)) S.ch[k]))
    (hv : NewV (wr.alloc X).drew vk v') (hm : Mods (fun j => j = bd ∨ vk = .map (some j)) (wr.alloc X).drew w2) : Mid w w2 bd vn vs cv v' S (k + 1) := by
  have hm' : Mods (fun j => j = bd ∨ vk = .map (some j)) wr w2 := ((Mods.refl (fun _ => False) wr).alloc X).drew.trans hm (fun _ _ e => e.elim) (fun _ _ e => e)
  have hlt := h0.foot_lt
  have hsz := h.mods.size
  have hvk : ∀ j, vk = .map (some j) → vs = .map (some j) ∨ w.heap.size ≤ j := by
    intro j hj
    rcases h.vk with e | ⟨i, e, hi⟩
    · exact .inl (by rw [← e, hj])
    · rw [hj] at e; cases e; exact .inr hi
  refine ⟨?_, ?_, ?_, ?_, ?_, ?_⟩
  · rw [apps_take _ _ _ hk]
    rwa [st_st] at h2
  · refine h.now.keep hm' (fun j hj e => ?_)
    rcases e with e | e
    · exact h0.blk.ne h0.now (by rw [hj, e])
    · exact h.ne j hj e
  · refine row_keep h.row hm' (fun j hj e => ?_)
    rcases e with e | e
    · exact row_no_disk h0.row h0.blk (by rw [hj, e])
    · exact row_no_map h.row h.safe.files j hj e
  · intro j hj e
    rcases hv with e2 | ⟨i, e2, hi⟩
    · exact h.ne j hj (by rw [← e2, e])
    · rw [e] at e2
      cases e2
      have := hlt j (.inr (.inl hj))
      simp at hi
      omega
  · rcases hv with e2 | ⟨i, e2, hi⟩
    · rw [e2]; exact h.vk
    · exact .inr ⟨i, e2, by simp at hi; omega⟩
  · refine h.mods.trans hm' (fun _ _ e => e) (fun i hi e => ?_)
    rcases e with e | e
    · exact .inl e
    · rcases hvk i e with e2 | e2
      · exact .inr (.inr (.inl e2))
      · omega

def syncedS (S : DS) : DS := { S with safe := S.now, ch := [] }
theorem DS.ok.synced {S : DS} (h : S.ok) : (syncedS S).ok := by
  refine ⟨h.goodn, by simp [syncedS], ?_, ?_, h.room, h.left⟩
  · have h1 := tot_apps h.good S.ch
    have h2 := h.wt
    unfold DS.wt at *
    show tot S.now + Ytecegjdnodcamaa.wt [] ≤ _
    simp only [Ytecegjdnodcamaa.wt, List.map_nil, List.sum_nil]
    unfold DS.now
    omega
  · have h1 := size_apps h.good S.ch
    have h2 := h.cnt
    unfold DS.cnt at *
    show Maps.size S.now + ([] : List Chg).length ≤ _
    unfold DS.now
    simp only [List.length_nil]
    omega

theorem Mid.done {w wr : World} {bd : Nat} {vn vs cv vk : Value} {S : DS} {k : Nat} (h0 : DV w bd vn vs cv S) (h : Mid w wr bd vn vs cv vk S k) (hk : k = S.ch.length) :
    DV (wr.setCell ⟨bd, 5, none⟩ (.slice none 0 0)) bd vn vk (.slice none 0 0) (syncedS S) ∧ (∀ j, foot bd vn vk (.slice none 0 0) j → foot bd vn vs cv j ∨ w.heap.size ≤ j) ∧ Mods (foot bd vn vs cv) w (wr.setCell ⟨bd, 5, none⟩ (.slice none 0 0)) := by
  have hmD : Mods (· = bd) wr (wr.setCell ⟨bd, 5, none⟩ (.slice none 0 0)) := (Mods.refl (· = bd) wr).setCell (p := ⟨bd, 5, none⟩) (.inl rfl) _
  have hs := h.safe
  rw [hk, List.take_length] at hs
  refine ⟨⟨?_, ?_, ?_, h.ne, World.ownsRow_nil _ _ _ _, h0.ok.synced⟩, ?_, h.mods.setCell (p := ⟨bd, 5, none⟩) (.inl (.inl rfl)) _⟩
  · exact hs.blk.set 5 _
  · exact h.now.keep hmD (fun j hj e => h.safe.blk.ne h.now (by rw [hj, e]))
  · exact hs.files.keep hmD (fun j hj e => h.safe.blk.ne hs.files (by rw [hj, e]))
  · rintro j (e | e | e | e)
    · exact .inl (.inl e)
    · exact .inl (.inr (.inl e))
    · rcases h.vk with e2 | ⟨i, e2, hi⟩
      · exact .inl (.inr (.inr (.inl (by rw [← e2, e]))))
      · rw [e] at e2; cases e2; exact .inr hi
    · cases e

set_option maxHeartbeats 1600000 in
set_option maxRecDepth 100000 in
theorem sync_ok (w : World) (bd : Nat) (fp : Nat → Prop) (S : DS) (h : DAt w bd fp S) (hp : (turnS S).1 = true) :
    Calls Try.prog 25 #[.pointer (some ⟨bd, 0, none⟩)] w fun e w' => e = .returned (.int .i64 0) ∧ DAt w' bd (ext fp w w') (syncedS (turnS S).2) ∧ Mods fp w w' := by
  obtain ⟨vn, vs, cv, h, hf⟩ := h
  have HC := Lib.hid (turn_dv w bd vn vs cv S h)
  rw [hp] at HC
  clear h hp
  generalize (turnS S).2 = S1 at *
  go_enter Try.func25, Try.ntmps25
  go_wp2_with fail
  refine HC.out.mono ?_
  rintro e w1 ⟨rfl, hd, hm⟩
  have hfb := hf bd (.inl rfl)
  have c5 : w1.cell? ⟨bd, 5, none⟩ = some cv := hd.blk.cell 5
  have hM := Mid.start hd
  obtain ⟨A, cap, HV, HV2⟩ : ∃ A cap, Hid (cv = .slice A S1.ch.length cap) ∧ Hid (0 < S1.ch.length → ∃ g, A = some ⟨g, 0, none⟩) := by
    rcases hd.row.2 with ⟨e, h0⟩ | ⟨g, cap, cur, e, _⟩
    · exact ⟨none, 0, Lib.hid (by rw [e, h0]), Lib.hid (by omega)⟩
    · exact ⟨some ⟨g, 0, none⟩, cap, Lib.hid e, Lib.hid (fun _ => ⟨g, rfl⟩)⟩
  have HD := Lib.hid hd
  have hlen : S1.ch.length ≤ 500000 := by have := hd.ok.cnt; unfold DS.cnt at this; omega
  have HM := Lib.hid hM
  rw [HV.out] at c5
  clear hd hM HC
  go_wp2
  go_loopw [13] (fun i wr => ∃ (k : Nat) (vk : Value), i = .int .i64 k ∧ k ≤ S1.ch.length ∧ Mid w1 wr bd vn vs cv vk S1 k) (fun i _ => S1.ch.length - (intOf i).toNat)
  case atStart => exact ⟨0, vs, rfl, by omega, HM.out⟩
  case round =>
    obtain ⟨k, vk, rfl, hk, hMk⟩ := hrel
    by_cases hkl : k < S1.ch.length
    · obtain ⟨g, rfl⟩ := HV2.out (by omega)
      have hrow := hMk.row
      rw [HV.out] at hrow
      obtain ⟨e0, e1, e2⟩ := row_cells hrow k hkl
      obtain ⟨ck, HCK⟩ : ∃ ck, Hid (ck = S1.ch[k]) := ⟨_, Lib.hid rfl⟩
      rw [← HCK.out] at e0 e1 e2
      have HMk := Lib.hid hMk
      clear hMk hrow
      obtain ⟨hpre, hp1, hp2⟩ := HMk.out.pre HD.out.ok hkl (.cells #[.int .i64 (ck.k : Int), .string ck.name, .string ck.with_] 78)
      have HPre := Lib.hid hpre
      have hck := HD.out.ok.chs S1.ch[k] (List.getElem_mem hkl)
      rw [← HCK.out] at hp1 hck
      clear hpre
      go_wp2
      refine wp_region_still_tail 4 (by kernel_rfl) (by kernel_rfl) ?_
      simp only [List.take_succ_cons, List.take_zero, List.drop_succ_cons, List.drop_zero]
      change wpStill _ _ ((wr.alloc (.cells #[.int .i64 (ck.k : Int), .string ck.name, .string ck.with_] 78)).drew) _ _ _
      repeat still_step
      refine wpStill_nil ?_
      go_wp2_with fail
      change Calls _ _ _ ((wr.alloc (.cells #[.int .i64 (ck.k : Int), .string ck.name, .string ck.with_] 78)).drew) _
      refine (apply_any _ bd 3 _ 71 vk _ HPre.out ck hck.1 hck.2.1 hck.2.2 hp1 hp2).mono ?_
      rintro e w2 ⟨rfl, v', h2, hv2, hm2⟩
      rw [HCK.out] at h2
      have HM2 := Lib.hid (Mid.step HD.out HMk.out hkl h2 hv2 hm2)
      clear h2 hv2 hm2
      go_wp2
      go_roundw
      case rel => exact ⟨k + 1, v', by go_num, by omega, HM2.out⟩
      case measure => simp [intOf]; omega
    · have c5r : wr.cell? ⟨bd, 5, none⟩ = some cv := hMk.safe.blk.cell 5
      have f5r := hMk.safe.blk.frozen 5
      go_wp2
      go_ret
      obtain ⟨g1, g2, g3⟩ := Mid.done HD.out hMk (by omega)
      exact ⟨rfl, changed_end' hf hm g1 g2 g3⟩

def syS (S : DS) : Nat × DS := if (turnS S).1 = false then (8, (turnS S).2) else (0, syncedS (turnS S).2)

set_option maxHeartbeats 400000 in
theorem sync_any (w : World) (bd : Nat) (fp : Nat → Prop) (S : DS) (h : DAt w bd fp S) :
    Calls Try.prog 25 #[.pointer (some ⟨bd, 0, none⟩)] w fun e w' => e = .returned (.int .i64 ((syS S).1 : Int)) ∧ DAt w' bd (ext fp w w') (syS S).2 ∧ Mods fp w w' := by
  cases hp : (turnS S).1
  · obtain ⟨vn, vs, cv, h, hf⟩ := h
    have HC := Lib.hid (turn_dv w bd vn vs cv S h)
    rw [hp] at HC
    have HE : Hid (syS S = (8, (turnS S).2)) := Lib.hid (by unfold syS; rw [if_pos hp])
    clear h hp
    rw [HE.out]
    go_enter Try.func25, Try.ntmps25
    go_wp2_with fail
    refine HC.out.mono ?_
    rintro e w1 ⟨rfl, hd, hm⟩
    go_wp2
    go_ret
    exact ⟨rfl, hd.at_ (fun k hk => .inl (hf k hk)), hm.weak (fun i _ e => by rw [e]; exact hf bd (.inl rfl))⟩
  · have HE : syS S = (0, syncedS (turnS S).2) := by unfold syS; rw [if_neg (by simp [hp])]
    rw [HE]
    exact sync_ok w bd fp S h hp

end Go.Proofs.Ytecegjdnodcamaa
