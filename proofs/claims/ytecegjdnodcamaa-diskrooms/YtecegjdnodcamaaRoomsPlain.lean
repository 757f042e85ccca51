/-
  What DiskRooms reckons, in plain words.
-/
import Derived.Test.YtecegjdnodcamaaFallsWalk
import Derived.Laws.OwnMore
namespace Go.Proofs.Ytecegjdnodcamaa
open Go.RowKit Go.Maps Go.Sort

/-- a text of n zero bytes -/
def zer (n : Nat) : ByteArray := strOfNums (List.replicate n 0)
theorem zer_size (n : Nat) : (zer n).size = n := by unfold zer; rw [strOfNums_size]; simp
theorem conv_zero {w : World} {g n : Nat} (h : w.ownsRow 0 5 1 (.slice (some ⟨g, 0, none⟩) n n) n (madeCells (Value.int .u8 0).cells (n * 1)).toList) :
    (convert 58 9 (.slice (some ⟨g, 0, none⟩) n n)).run Try.prog w = .ok (.string (zer n)) w := by
  refine run_convert_bytes_arg w 58 5 Try.underlying58 Try.underlying5 g 0 n n (List.replicate n 0) (by simp) (fun i hi => ?_) 9 Try.underlying9
  have := h.cells rfl i (.int .u8 0) (by
    rw [show (Value.int .u8 0).cells = #[.int .u8 0] from rfl, toList_madeCells_one]
    simp [hi])
  rw [show (List.replicate n (0 : Int)).getD i 0 = 0 by simp [List.getD, List.getElem?_replicate]; split <;> rfl]
  have e : ((⟨g, 0, none⟩ : Addr).add i) = ⟨g, 0 + i, none⟩ := by
    unfold Addr.add
    split
    · rename_i e; subst e; rfl
    · rfl
  rw [← e]
  exact this

/-- what is known ahead of each round: hl: the four sizes, or -1; L: the room that is left -/
structure RI (S : DS) (hl : List Int) (L : Int) : Prop where
  len : hl.length = 4
  falls : S.falls = false
  down : S.down = false
  left : L = (S.room : Int) - tot S.now
  at_ : ∀ j, j < 4 → (hl.getD j 0 = -1 ∧ hasF S.now (nk j) = false) ∨ (hl.getD j 0 = ((get S.now (nk j)).size : Int) ∧ hasF S.now (nk j) = true)
/-- the size of what lies there -/
def P0 (h : Int) : Int := if h < 0 then 0 else h
theorem RI.size {S : DS} {hl : List Int} {L : Int} (h : RI S hl L) (j : Nat) (hj : j < 4) : P0 (hl.getD j 0) = ((get S.now (nk j)).size : Int) := by
  rcases h.at_ j hj with ⟨e1, e2⟩ | ⟨e1, e2⟩
  · rw [e1, get_of_not e2]; rfl
  · rw [e1]; unfold P0; rw [if_neg (by omega)]
theorem turn_still {S : DS} (h1 : S.falls = false) (h2 : S.down = false) : turnS S = (true, S) := by
  unfold turnS
  rw [h1, h2]
  simp
theorem addS_cnt (S : DS) (c : Chg) : (addS S c).cnt = S.cnt + 1 := by unfold DS.cnt addS; simp; omega
theorem addS_wt (S : DS) (c : Chg) : (addS S c).wt = S.wt + c.with_.size := by
  show tot S.safe + wt (S.ch ++ [c]) = tot S.safe + wt S.ch + _
  rw [wt_snoc]; omega
theorem getD_set (hl : List Int) (i j : Nat) (x : Int) (hi : i < hl.length) : (hl.set i x).getD j 0 = if i = j then x else hl.getD j 0 := by
  by_cases e : i = j
  · subst e; rw [if_pos rfl, List.getD, List.getElem?_set_self hi]; rfl
  · rw [if_neg e, List.getD, List.getElem?_set_ne e]; rfl

theorem write_fit {S : DS} {hl : List Int} {L : Int} (h : RI S hl L) (hok : S.ok) {j n : Nat} (hj : j < 4) (hf : (n : Int) ≤ L + P0 (hl.getD j 0)) :
    ∃ S1, wrS S (nk j) (zer n) = (0, S1) ∧ RI S1 (hl.set j (n : Int)) (L + (P0 (hl.getD j 0) - n)) ∧ S1.wt = S.wt + n ∧ S1.cnt = S.cnt + 1 := by
  have hs := h.size j hj
  have hg := hok.goodn
  refine ⟨addS S ⟨0, nk j, zer n⟩, ?_, ?_, ?_, addS_cnt _ _⟩
  · unfold wrS
    rw [turn_still h.falls h.down, if_neg (by simp), if_neg (by simp [nk_ok]), if_neg]
    rw [zer_size, ← h.left, ← hs]
    omega
  · have hn : (addS S ⟨0, nk j, zer n⟩).now = putF S.now (nk j) (zer n) := by rw [addS_now]; simp [app]
    refine ⟨by simp [h.len], h.falls, h.down, ?_, ?_⟩
    · rw [hn, tot_put hg, zer_size]
      have h1 := tot_del hg (nk j)
      have h2 := h.left
      show _ = (S.room : Int) - _
      omega
    · intro i hi
      rw [hn, getD_set _ _ _ _ (by rw [h.len]; exact hj)]
      by_cases e : j = i
      · subst e
        rw [if_pos rfl, get_put_same hg, zer_size, has_put_same' hg]
        exact .inr ⟨rfl, rfl⟩
      · have hne : nk i ≠ nk j := fun e' => e (nk_inj (by omega) (by omega) e').symm
        rw [if_neg e, get_put_other hne, has_put_other' hne]
        exact h.at_ i hi
  · rw [addS_wt]; show _ + (zer n).size = _; rw [zer_size]
theorem write_no {S : DS} {hl : List Int} {L : Int} (h : RI S hl L) {j n : Nat} (hj : j < 4) (hf : ¬ (n : Int) ≤ L + P0 (hl.getD j 0)) : wrS S (nk j) (zer n) = (7, S) := by
  have hs := h.size j hj
  unfold wrS
  rw [turn_still h.falls h.down, if_neg (by simp), if_neg (by simp [nk_ok]), if_pos]
  rw [zer_size, ← h.left, ← hs]
  omega
theorem remove_fit {S : DS} {hl : List Int} {L : Int} (h : RI S hl L) (hok : S.ok) {j : Nat} (hj : j < 4) (hf : 0 ≤ hl.getD j 0) :
    ∃ S1, rmS S (nk j) = (0, S1) ∧ RI S1 (hl.set j (-1)) (L + hl.getD j 0) ∧ S1.wt = S.wt ∧ S1.cnt = S.cnt + 1 := by
  have hg := hok.goodn
  obtain ⟨e1, e2⟩ : hl.getD j 0 = ((get S.now (nk j)).size : Int) ∧ hasF S.now (nk j) = true := by
    rcases h.at_ j hj with ⟨e1, e2⟩ | e
    · omega
    · exact e
  refine ⟨addS S ⟨2, nk j, ByteArray.empty⟩, ?_, ?_, ?_, addS_cnt _ _⟩
  · unfold rmS
    rw [turn_still h.falls h.down, if_neg (by simp), if_neg (by simp [e2])]
  · have hn : (addS S ⟨2, nk j, ByteArray.empty⟩).now = delF S.now (nk j) := by rw [addS_now]; simp [app]
    refine ⟨by simp [h.len], h.falls, h.down, ?_, ?_⟩
    · rw [hn]
      have h1 := tot_del hg (nk j)
      have h2 := h.left
      show _ = (S.room : Int) - _
      omega
    · intro i hi
      rw [hn, getD_set _ _ _ _ (by rw [h.len]; exact hj)]
      by_cases e : j = i
      · subst e
        rw [if_pos rfl, has_del_same']
        exact .inl ⟨rfl, rfl⟩
      · have hne : nk i ≠ nk j := fun e' => e (nk_inj (by omega) (by omega) e').symm
        rw [if_neg e, get_del_other hne, has_del_other' hne]
        exact h.at_ i hi
  · rw [addS_wt]; rfl
theorem RI.start (room : Int) (h0 : 0 ≤ room) (h1 : room ≤ 1023) : RI (newS room) [-1, -1, -1, -1] room := by
  refine ⟨rfl, rfl, rfl, ?_, ?_⟩
  · show room = (((min (max room 0) 4194304).toNat : Nat) : Int) - (tot (apps (.map []) []) : Nat)
    have : tot (apps (.map []) []) = 0 := rfl
    omega
  · intro j hj
    refine .inl ⟨?_, rfl⟩
    have : j = 0 ∨ j = 1 ∨ j = 2 ∨ j = 3 := by omega
    rcases this with rfl | rfl | rfl | rfl <;> rfl
theorem RI.bounds {S : DS} {hl : List Int} {L : Int} (h : RI S hl L) (hok : S.ok) : -1099511627776 ≤ L ∧ L ≤ 4194304 := by
  have := hok.totn
  have := hok.room
  have := h.left
  omega
theorem RI.hb {S : DS} {hl : List Int} {L : Int} (h : RI S hl L) (hok : S.ok) {j : Nat} (hj : j < 4) : -1 ≤ hl.getD j 0 ∧ hl.getD j 0 ≤ 1099511627776 := by
  have h1 := tot_del hok.goodn (nk j)
  have := hok.totn
  rcases h.at_ j hj with ⟨e1, e2⟩ | ⟨e1, e2⟩ <;> omega
theorem info5 : (Try.prog.info? 5).map (fun i => (i.zero, i.size, i.bytes)) = some (some (.int .u8 0), 1, 1) := by kernel_rfl

end Go.Proofs.Ytecegjdnodcamaa
