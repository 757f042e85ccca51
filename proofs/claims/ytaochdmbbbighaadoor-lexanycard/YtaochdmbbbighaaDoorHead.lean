/-
  The document's example; tokens that are told, cell by cell.
-/
import Derived.Test.YtaochdmbbbighaaDoorAll
namespace Go.Proofs.YtaochdmbbbighaaDoor
open Go.RowKit

theorem row_cells {w : World} {base e size n : Nat} {v : Value} {xs : List Value} (h : w.ownsRow base e size v n xs) (hn : 0 < n) :
    ∃ g cap, v = .slice (some ⟨g, 0, none⟩) n cap ∧ base ≤ g ∧ g < w.heap.size ∧ n ≤ cap ∧ ∀ (j : Nat) u, xs[j]? = some u → w.cell? ⟨g, j, none⟩ = some u := by
  rcases h.2 with ⟨rfl, h0⟩ | ⟨g, cap, cur, rfl, h3, h4, h5, h6, h7, h8⟩
  · omega
  · refine ⟨g, cap, rfl, h3, heap_some_lt h4, h5, fun j u hu => ?_⟩
    rw [cell_of_row w g j cur _ _ h4]
    rw [← h8] at hu
    by_cases hj : j < n * size
    · rw [List.getElem?_take_of_lt hj] at hu
      simpa using hu
    · rw [List.getElem?_eq_none (by simp; omega)] at hu
      cases hu

/-- the tables of marks and of words stand in memory -/
def Tabs (w : World) : Prop := TabS w 1 marksL ∧ TabS w 2 wordsL ∧ 2 < w.heap.size
theorem Tabs.below {w w' : World} (h : Tabs w) (hb : Below w.heap.size w w') : Tabs w' := ⟨h.1.keep hb, h.2.1.keep hb, Nat.lt_of_lt_of_le h.2.2 hb.size⟩
theorem Tabs.mods {fp : Nat → Prop} {w w' : World} (h : Tabs w) (m : Mods fp w w') (hn : ∀ k, fp k → 2 < k) : Tabs w' :=
  ⟨h.1.mods m (fun e => by have := hn _ e; omega), h.2.1.mods m (fun e => by have := hn _ e; omega), Nat.lt_of_lt_of_le h.2.2 m.size⟩

theorem all_of {s : ByteArray} {l : Bs} (hl : s.data.toList = l) (hs : l.length ≤ 65536) {w : World} (hT : Tabs w) {ts : List (Nat × Tok)} {r : Option (Nat × Nat)} (h : Lx l 0 ts r) :
    Calls Tryd.prog 10 #[.string s] w (AllPost l ts r w) := by
  subst hl
  exact all_any s (by simpa using hs) w hT.1 hT.2.1 hT.2.2 ts r h

def headT : List (Nat × Tok) := [(0, ⟨3, [97], 0⟩), (1, ⟨5, [46], 0⟩), (2, ⟨2, [66, 49], 0⟩), (4, ⟨0, [], 0⟩)]
theorem head_lx : Lx [97, 46, 66, 49] 0 headT none := by
  have h := Lx.fn [97, 46, 66, 49] 5 0 (by decide) (by decide)
  have e : lexF [97, 46, 66, 49] 5 0 = (headT, none) := by decide +kernel
  rw [e] at h
  exact h

set_option maxHeartbeats 400000 in
theorem head_any (w : World) (hT : Tabs w) : Calls Tryd.prog 9 #[] w fun e w' => e = .returned (.bool true) ∧ Below w.heap.size w w' := by
  have HC := Lib.hid (all_any ⟨#[97, 46, 66, 49]⟩ (by decide) w hT.1 hT.2.1 hT.2.2 headT none head_lx)
  go_enter Tryd.func9, Tryd.ntmps9
  go_wp2_with fail
  refine HC.out.mono ?_
  rintro e w1 ⟨hb, v, rfl, hrow⟩
  obtain ⟨g, cap, rfl, hg1, hg2, hg3, hc⟩ := row_cells hrow (by decide)
  have k0 : w1.cell? ⟨g, 0, none⟩ = some (.int .i64 3) := hc 0 _ rfl
  have k10 : w1.cell? ⟨g, 10, none⟩ = some (.int .i64 2) := hc 10 _ rfl
  have k11 : w1.cell? ⟨g, 11, none⟩ = some (.string ⟨#[66, 49]⟩) := hc 11 _ rfl
  have k18 : w1.cell? ⟨g, 18, none⟩ = some (.int .i64 1) := hc 18 _ rfl
  have k19 : w1.cell? ⟨g, 19, none⟩ = some (.int .i64 5) := hc 19 _ rfl
  clear hc hrow
  have hlen : headT.length = 4 := rfl
  rw [hlen]
  clear hlen
  go_wp2_with fail
  go_ret
  exact ⟨rfl, hb.alloc hb.size _⟩
end Go.Proofs.YtaochdmbbbighaaDoor
