/-
  The statements' own: the last face of a name, those above a class, whether a text is in a list.
-/
import Derived.Test.YtgnkkoeklipmiaaAbove
namespace Go.Proofs.Ytgnkkoeklipmiaa
open Go.RowKit
set_option linter.unusedVariables false

theorem fnd_take {L : List Fc} {s : ByteArray} {k : Nat} {x : Fc} (hx : L[k]? = some x) : fnd (L.take (k + 1)) s = if x.name = s then some x else fnd (L.take k) s := by
  have hkl : k < L.length := (List.getElem?_eq_some_iff.1 hx).1
  rw [List.take_succ_eq_append_getElem hkl, fnd_snoc, (List.getElem?_eq_some_iff.1 hx).2]

/-- a face that is told, and whether there is one; its lists lie where they did in an older world -/
def FindPostG (L : List Fc) (s : ByteArray) (W w : World) (e : Ending) (w' : World) : Prop :=
  ∃ cs, e = .returned (.tuple #[.agg cs.toArray, .bool (fnd L s).isSome]) ∧ FcR W ((fnd L s).getD zF) cs ∧ Below w.heap.size w w'
/-- a face that is told, and whether there is one -/
def FindPost (L : List Fc) (s : ByteArray) (w : World) (e : Ending) (w' : World) : Prop :=
  ∃ cs, e = .returned (.tuple #[.agg cs.toArray, .bool (fnd L s).isSome]) ∧ FcR w' ((fnd L s).getD zF) cs ∧ Below w.heap.size w w'

/-- an answer's own four cells are written -/
theorem out4 {w wr : World} {q : Nat} {u0 u1 u2 u3 : Value} (v0 v1 v2 v3 : Value) (hq : w.heap.size ≤ q) (hb : Below w.heap.size w wr) (hB : Blk wr q [u0, u1, u2, u3] 35) :
    Blk ((((wr.setCell ⟨q, 0, none⟩ v0).setCell ⟨q, 1, none⟩ v1).setCell ⟨q, 2, none⟩ v2).setCell ⟨q, 3, none⟩ v3) q [v0, v1, v2, v3] 35 ∧ Below w.heap.size w ((((wr.setCell ⟨q, 0, none⟩ v0).setCell ⟨q, 1, none⟩ v1).setCell ⟨q, 2, none⟩ v2).setCell ⟨q, 3, none⟩ v3) := by
  refine ⟨(((hB.set 0 v0).set 1 v1).set 2 v2).set 3 v3, ?_⟩
  have M : Mods (· = q) wr ((((wr.setCell ⟨q, 0, none⟩ v0).setCell ⟨q, 1, none⟩ v1).setCell ⟨q, 2, none⟩ v2).setCell ⟨q, 3, none⟩ v3) := ((((Mods.refl (· = q) wr).setCell (p := ⟨q, 0, none⟩) (.inl rfl) _).setCell (p := ⟨q, 1, none⟩) (.inl rfl) _).setCell (p := ⟨q, 2, none⟩) (.inl rfl) _).setCell (p := ⟨q, 3, none⟩) (.inl rfl) _
  exact hb.trans (M.below (fun k e => by omega) hb.size)

set_option maxHeartbeats 2000000 in
set_option maxRecDepth 100000 in
theorem find16g (L : List Fc) (s : ByteArray) (a : Option Addr) (n c : Nat) (W w : World) (hW : Below W.heap.size W w) (h : Sl W 4 (FcR W) L (.slice a n c)) :
    Calls Try.prog 16 #[.slice a n c, .string s] w (FindPostG L s W w) := by
  obtain ⟨e1, l1, k1, hkk⟩ := h.at
  unfold maxLen at k1
  have E1 := Lib.hid e1
  have HK := Lib.hid hkk
  clear h e1 hkk
  have HR0 : Hid (Blk (w.alloc (.cells #[.string ⟨#[]⟩, .string ⟨#[]⟩, .slice none 0 0, .slice none 0 0] 35)) w.heap.size [.string ⟨#[]⟩, .string ⟨#[]⟩, .slice none 0 0, .slice none 0 0] 35) := Lib.hid (Blk.new w _ _)
  obtain ⟨w0, HW0⟩ : ∃ x, Hid (x = w.alloc (.cells #[.string ⟨#[]⟩, .string ⟨#[]⟩, .slice none 0 0, .slice none 0 0] 35)) := ⟨_, Lib.hid rfl⟩
  have hB0 : Below w.heap.size w w0 := by rw [HW0.out]; exact below1 w _
  have hBW : Below W.heap.size W w0 := hW.trans (hB0.mono hW.size)
  rw [← HW0.out] at HR0
  go_enter Try.func16, Try.ntmps16
  go_wp2
  rw [← HW0.out]
  clear HW0
  go_loopw [6] (fun i wr => ∃ k : Nat, k ≤ n ∧ i = .int .i64 ((k : Int) - 1) ∧ Hid (fnd L s = fnd (L.take k) s) ∧ wr = w0) (fun i _ => (intOf i + 1).toNat)
  case atStart => exact ⟨n, Nat.le_refl _, by simp, Lib.hid (by rw [List.take_of_length_le (by have := E1.out; omega)]), rfl⟩
  case round =>
    obtain ⟨k, hk1, rfl, HA, rfl⟩ := hrel
    have r0 : wr.cell? ⟨w.heap.size, 0, none⟩ = some (.string ⟨#[]⟩) := HR0.out.cell 0
    have r1 : wr.cell? ⟨w.heap.size, 1, none⟩ = some (.string ⟨#[]⟩) := HR0.out.cell 1
    have r2 : wr.cell? ⟨w.heap.size, 2, none⟩ = some (.slice none 0 0) := HR0.out.cell 2
    have r3 : wr.cell? ⟨w.heap.size, 3, none⟩ = some (.slice none 0 0) := HR0.out.cell 3
    have f0 := HR0.out.frozen 0
    have f1 := HR0.out.frozen 1
    have f2 := HR0.out.frozen 2
    have f3 := HR0.out.frozen 3
    have hl0 := HR0.out.lt
    cases k with
    | zero =>
      have HE : Hid (fnd L s = none) := Lib.hid (by rw [HA.out]; simp [fnd])
      go_wp2
      obtain ⟨hZ, hb4⟩ := out4 (.string ⟨#[]⟩) (.string ⟨#[]⟩) (.slice none 0 0) (.slice none 0 0) (Nat.le_refl _) hB0 HR0.out
      have z0 := hZ.cell 0
      have z1 := hZ.cell 1
      have z2 := hZ.cell 2
      have z3 := hZ.cell 3
      simp only [List.getElem?_cons_zero, List.getElem?_cons_succ] at z0 z1 z2 z3
      refine bodyPost_ret (v := .tuple #[.agg #[.string ⟨#[]⟩, .string ⟨#[]⟩, .slice none 0 0, .slice none 0 0], .bool false]) (by simp [results, Try.results16, go_sem, z0, z1, z2, z3]) rfl ?_
      refine ⟨[.string ⟨#[]⟩, .string ⟨#[]⟩, .slice none 0 0, .slice none 0 0], by rw [HE.out]; rfl, by rw [HE.out]; exact zF_R _, hb4⟩
    | succ j =>
      obtain ⟨x, hx⟩ : ∃ v, L[j]? = some v := ⟨_, List.getElem?_eq_getElem (by have := E1.out; omega)⟩
      obtain ⟨g, o, cs, rfl, hcell, b1, m1, d1, b2, m2, d2, rfl, hf, hm⟩ := HK.out j x hx
      have c0 : wr.cell? ⟨g, o + j * 4, none⟩ = some (.string x.name) := (hBW.cell (World.block_lt_of_cell? _ _ (hcell 0 _ rfl))).trans (hcell 0 _ rfl)
      have hgl : g < wr.heap.size := World.block_lt_of_cell? _ _ c0
      have q1 := (hBW.cell (World.block_lt_of_cell? _ _ (hcell 1 _ rfl))).trans (hcell 1 _ rfl)
      have q2 := (hBW.cell (World.block_lt_of_cell? _ _ (hcell 2 _ rfl))).trans (hcell 2 _ rfl)
      have q3 := (hBW.cell (World.block_lt_of_cell? _ _ (hcell 3 _ rfl))).trans (hcell 3 _ rfl)
      have hj : ((j + 1 : Nat) : Int) - 1 = j := by omega
      rw [hj]
      have HST := Lib.hid (fnd_take (s := s) hx)
      clear hcell hx
      by_cases hn : x.name = s
      · have he := teq hn
        have HE : Hid (fnd L s = some x) := Lib.hid (by rw [HA.out, HST.out, if_pos hn])
        clear hn HA HST
        go_wp2
        obtain ⟨hZ, hb4⟩ := out4 (.string x.name) (.string x.sup) (.slice b1 m1 d1) (.slice b2 m2 d2) (Nat.le_refl _) hB0 HR0.out
        have z0 := hZ.cell 0
        have z1 := hZ.cell 1
        have z2 := hZ.cell 2
        have z3 := hZ.cell 3
        simp only [List.getElem?_cons_zero, List.getElem?_cons_succ] at z0 z1 z2 z3
        refine bodyPost_ret (v := .tuple #[.agg #[.string x.name, .string x.sup, .slice b1 m1 d1, .slice b2 m2 d2], .bool true]) (by simp [results, Try.results16, go_sem, z0, z1, z2, z3]) rfl ?_
        refine ⟨[.string x.name, .string x.sup, .slice b1 m1 d1, .slice b2 m2 d2], by rw [HE.out]; rfl, by rw [HE.out]; exact ⟨b1, m1, d1, b2, m2, d2, rfl, hf, hm⟩, hb4⟩
      · have he := tne hn
        have HA2 : Hid (fnd L s = fnd (L.take j) s) := Lib.hid (by rw [HA.out, HST.out, if_neg hn])
        clear hn HA HST hf hm
        go_wp2
        go_roundw
        case rel => exact ⟨j, by omega, by go_num, HA2, trivial⟩
        case measure => simp [intOf]

theorem find16 (L : List Fc) (s : ByteArray) (a : Option Addr) (n c : Nat) (w : World) (h : Sl w 4 (FcR w) L (.slice a n c)) :
    Calls Try.prog 16 #[.slice a n c, .string s] w (FindPost L s w) := by
  refine (find16g L s a n c w w (Below.refl _ _) h).mono ?_
  rintro e w' ⟨cs, rfl, hF, hb⟩
  exact ⟨cs, rfl, hF.keep (Keeps.of_below hb), hb⟩

set_option maxHeartbeats 1000000 in
theorem in14 (l : List ByteArray) (v : Value) (s : ByteArray) (w : World) (h : Sl w 1 StrR l v) :
    Calls Try.prog 14 #[v, .string s] w fun e w' => e = .returned (.bool (decide (s ∈ l))) ∧ w' = w := by
  obtain ⟨a, c, rfl⟩ := h.form
  obtain ⟨hn, hl, hc, hk⟩ := h.at
  unfold maxLen at hc
  have HK := Lib.hid hk
  clear h hk hn
  go_enter Try.func14, Try.ntmps14
  go_wp2
  go_loopw [9] (fun i wr => ∃ k : Nat, k ≤ l.length ∧ i = .int .i64 k ∧ Hid (s ∉ l.take k) ∧ wr = w) (fun i _ => l.length - (intOf i).toNat)
  case atStart => exact ⟨0, Nat.zero_le _, rfl, Lib.hid (by simp), rfl⟩
  case round =>
    obtain ⟨k, hk1, rfl, HA, rfl⟩ := hrel
    by_cases hlt : k < l.length
    · obtain ⟨g, o, cs, rfl, hcell, rfl⟩ := HK.out k l[k] (List.getElem?_eq_getElem hlt)
      have c0 : wr.cell? ⟨g, o + k, none⟩ = some (.string l[k]) := by have := hcell 0 _ rfl; simpa using this
      have HT : Hid (l.take (k + 1) = l.take k ++ [l[k]]) := Lib.hid (List.take_succ_eq_append_getElem hlt)
      have HM : Hid (l[k] ∈ l) := Lib.hid (List.getElem_mem hlt)
      clear hcell
      generalize l[k] = x at *
      by_cases e : x = s
      · have he := teq e
        have HE : Hid (decide (s ∈ l) = true) := Lib.hid (by rw [← e]; simpa using HM.out)
        clear e
        go_wp2
        go_ret
        exact ⟨by rw [HE.out]; rfl, rfl⟩
      · have he := tne e
        have HA2 : Hid (s ∉ l.take (k + 1)) := Lib.hid (by rw [HT.out, List.mem_append]; intro h; rcases h with h | h; exact HA.out h; simp at h; exact e h.symm)
        clear e
        go_wp2
        go_roundw
        case rel => exact ⟨k + 1, by omega, by go_num, HA2, trivial⟩
        case measure => simp [intOf]; omega
    · have HE : Hid (decide (s ∈ l) = false) := Lib.hid (by have := HA.out; rw [List.take_of_length_le (by omega)] at this; simpa using this)
      go_wp2
      go_ret
      exact ⟨by rw [HE.out]; rfl, rfl⟩
end Go.Proofs.Ytgnkkoeklipmiaa
