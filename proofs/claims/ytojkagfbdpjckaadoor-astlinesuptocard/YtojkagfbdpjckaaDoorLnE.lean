/-
  Statements that are laid on a page: a local; statements one behind the other.
-/
import Derived.Test.YtojkagfbdpjckaaDoorLnD
import Derived.Deep.RegionHeld3
namespace Go.Proofs.YtojkagfbdpjckaaDoor
open Go.RowKit

theorem put2 (B b g : Nat) (l : Bs) (x0 x1 : ByteArray) (w : World) (h : Pg B b (Lib.byteCells l) w) (hg : w.heap[g]? = some (.cells #[.string x0, .string x1] 9 (0, 0))) (hgb : g ≠ b) (hlen : l.length + (x0.data.toList ++ x1.data.toList).length ≤ 140737488355328) (hBw : B ≤ w.heap.size) :
    Calls Tryd.prog 39 #[.pointer (some ⟨b, 0, none⟩), .slice (some ⟨g, 0, none⟩) 2 2] w fun e w' => e = .returned (.tuple #[]) ∧ Lays B b (l ++ (x0.data.toList ++ x1.data.toList)) w w' := by
  have := put_any B b g 2 l [x0, x1] w h hg hgb (by simp [cat] at hlen ⊢; omega) (by simp [maxLen]) hBw
  simpa [cat] using this
theorem put4 (B b g : Nat) (l : Bs) (x0 x1 x2 x3 : ByteArray) (w : World) (h : Pg B b (Lib.byteCells l) w) (hg : w.heap[g]? = some (.cells #[.string x0, .string x1, .string x2, .string x3] 9 (0, 0))) (hgb : g ≠ b) (hlen : l.length + (x0.data.toList ++ x1.data.toList ++ x2.data.toList ++ x3.data.toList).length ≤ 140737488355328) (hBw : B ≤ w.heap.size) :
    Calls Tryd.prog 39 #[.pointer (some ⟨b, 0, none⟩), .slice (some ⟨g, 0, none⟩) 4 4] w fun e w' => e = .returned (.tuple #[]) ∧ Lays B b (l ++ (x0.data.toList ++ x1.data.toList ++ x2.data.toList ++ x3.data.toList)) w w' := by
  have := put_any B b g 4 l [x0, x1, x2, x3] w h hg hgb (by simp [cat] at hlen ⊢; omega) (by simp [maxLen]) hBw
  simpa [cat] using this
theorem put5 (B b g : Nat) (l : Bs) (x0 x1 x2 x3 x4 : ByteArray) (w : World) (h : Pg B b (Lib.byteCells l) w) (hg : w.heap[g]? = some (.cells #[.string x0, .string x1, .string x2, .string x3, .string x4] 9 (0, 0))) (hgb : g ≠ b) (hlen : l.length + (x0.data.toList ++ x1.data.toList ++ x2.data.toList ++ x3.data.toList ++ x4.data.toList).length ≤ 140737488355328) (hBw : B ≤ w.heap.size) :
    Calls Tryd.prog 39 #[.pointer (some ⟨b, 0, none⟩), .slice (some ⟨g, 0, none⟩) 5 5] w fun e w' => e = .returned (.tuple #[]) ∧ Lays B b (l ++ (x0.data.toList ++ x1.data.toList ++ x2.data.toList ++ x3.data.toList ++ x4.data.toList)) w w' := by
  have := put_any B b g 5 l [x0, x1, x2, x3, x4] w h hg hgb (by simp [cat] at hlen ⊢; omega) (by simp [maxLen]) hBw
  simpa [cat] using this
set_option maxHeartbeats 4000000 in
set_option maxRecDepth 100000 in
theorem st_let (W : World) (hpow : Pow W) (b : Nat) (ln co : Int) (name tn : ByteArray) (ta : Bool) (e : List Tree) (th el : List St) (a1 : Option Addr) (n1 c1 : Nat) (a2 : Option Addr) (n2 c2 : Nat) (a3 : Option Addr) (n3 c3 : Nat) (h1 : Sl W 11 (ExR W) e (.slice a1 n1 c1)) :
    SLay W b (.mk 1 ln co name tn ta e th el) (stC 1 ln co name tn ta (.slice a1 n1 c1) (.slice a2 n2 c2) (.slice a3 n3 c3)) := by
  intro deep l w hw hp hlen
  have hz := lay_zero W b
  have hQ := ex_lay W hpow b
  have hk := h1.kids
  have hB := hw.size
  have hlt := hp.lt
  have hgb : w.heap.size ≠ b := by omega
  have htx : sx deep (.mk 1 ln co name tn ta e th el) = tabs deep ++ ([108, 101, 116, 32] ++ (tyB tn ta ++ ([32] ++ (name.data.toList ++ ([32, 61, 32] ++ (nt (e.map tx) 0 ++ [59, 10])))))) := by
    rw [sx]
    rfl
  rw [htx] at hlen ⊢
  simp only [nt_map] at hlen ⊢
  have hl2 : l.length + (deep + (4 + ((tyB tn ta).length + (1 + (name.data.toList.length + (3 + ((tx (e.getD 0 Tree.zero)).length + 2))))))) ≤ 140737488355328 := by
    have h := hlen
    simp only [List.length_append, List.length_cons, List.length_nil, tabs_len] at h
    omega
  have HL := Lib.hid hl2
  clear hlen htx hl2
  unfold stC
  go_enter Tryd.func38, Tryd.ntmps38
  go_wp2_with fail
  refine (tabs49 W.heap.size b l deep _ (hp.alloc _) (by have := HL.out; omega) (by simp; omega)).mono ?_
  rintro e w1 ⟨rfl, hL1⟩
  have hr1 := hL1.row (heap_al1 w _) hgb (by decide)
  have HL1 := Lib.hid (Lays.new hB (below1 w _) hL1)
  have hs1 : w.heap.size + 1 ≤ w1.heap.size := by have := hL1.size; simpa using this
  have hw1 : Below W.heap.size W w1 := hw.trans HL1.out.2.1
  clear hL1
  have HTS := Lib.hid (tyS_bytes tn ta)
  have htz : tn.size ≤ 140737488355328 := by
    have h := HL.out
    have h2 : tn.size ≤ (tyB tn ta).length := by simp only [tyB, List.length_append]; show tn.data.toList.length ≤ _; omega
    omega
  have d0 := cell_row hr1 0 rfl
  have d1 := cell_row hr1 1 rfl
  have d2 := cell_row hr1 2 rfl
  have d3 := cell_row hr1 3 rfl
  have d4 := cell_row hr1 4 rfl
  have d5 := cell_row hr1 5 rfl
  have d6 := cell_row hr1 6 rfl
  have d7 := cell_row hr1 7 rfl
  have d8 := cell_row hr1 8 rfl
  go_wp2_with fail
  clear d0 d1 d2 d3 d4 d5 d6 d7 d8
  refine wp_region_held_drew (S := fun w' => w'.heap[w.heap.size]? = some (.cells #[.int .i64 1, .int .i64 ln, .int .i64 co, .string name, .string tn, .bool ta, .slice a1 n1 c1, .slice a2 n2 c2, .slice a3 n3 c3] 48 (0, 0))) (by kernel_rfl) ?_ (fun hHeld => ?_)
  · exact hr1
  refine wpAnyH_take (i := 0) (v := ?_) rfl (by kernel_rfl) (by kernel_rfl) (by kernel_rfl) (fun _ _ _ h => h) (Or.inl ⟨by rfl, ?_⟩) (by assumption) ?_
  rotate_left
  focus (intro w hSw; have p0 := cell_row hSw 0 rfl; have p1 := cell_row hSw 1 rfl; have p2 := cell_row hSw 2 rfl; have p3 := cell_row hSw 3 rfl; have p4 := cell_row hSw 4 rfl; have p5 := cell_row hSw 5 rfl; have p6 := cell_row hSw 6 rfl; have p7 := cell_row hSw 7 rfl; have p8 := cell_row hSw 8 rfl; go_simp; first | done | with_reducible rfl)
  simp only [Act.put, List.getElem_toArray, List.getElem_cons_zero, List.setIfInBounds_toArray, List.set_cons_zero, List.set_cons_succ]
  refine wpAnyH_take (i := 1) (v := ?_) rfl (by kernel_rfl) (by kernel_rfl) (by kernel_rfl) (fun _ _ _ h => h) (Or.inl ⟨by rfl, ?_⟩) (by assumption) ?_
  rotate_left
  focus (intro w hSw; have p0 := cell_row hSw 0 rfl; have p1 := cell_row hSw 1 rfl; have p2 := cell_row hSw 2 rfl; have p3 := cell_row hSw 3 rfl; have p4 := cell_row hSw 4 rfl; have p5 := cell_row hSw 5 rfl; have p6 := cell_row hSw 6 rfl; have p7 := cell_row hSw 7 rfl; have p8 := cell_row hSw 8 rfl; go_simp; first | done | with_reducible rfl)
  simp only [Act.put, List.getElem_toArray, List.getElem_cons_zero, List.getElem_cons_succ, List.setIfInBounds_toArray, List.set_cons_zero, List.set_cons_succ]
  refine wpAnyH_take (i := 2) (v := ?_) rfl (by kernel_rfl) (by kernel_rfl) (by kernel_rfl) (fun _ _ _ h => h) (Or.inl ⟨by rfl, ?_⟩) (by assumption) ?_
  rotate_left
  focus (intro w hSw; have p0 := cell_row hSw 0 rfl; have p1 := cell_row hSw 1 rfl; have p2 := cell_row hSw 2 rfl; have p3 := cell_row hSw 3 rfl; have p4 := cell_row hSw 4 rfl; have p5 := cell_row hSw 5 rfl; have p6 := cell_row hSw 6 rfl; have p7 := cell_row hSw 7 rfl; have p8 := cell_row hSw 8 rfl; go_simp; first | done | with_reducible rfl)
  simp only [Act.put, List.getElem_toArray, List.getElem_cons_zero, List.getElem_cons_succ, List.setIfInBounds_toArray, List.set_cons_zero, List.set_cons_succ]
  refine wpAnyH_take (i := 4) (v := ?_) rfl (by kernel_rfl) (by kernel_rfl) (by kernel_rfl) (fun _ _ _ h => h) (Or.inl ⟨by rfl, ?_⟩) (by assumption) ?_
  rotate_left
  focus (intro w hSw; have p0 := cell_row hSw 0 rfl; have p1 := cell_row hSw 1 rfl; have p2 := cell_row hSw 2 rfl; have p3 := cell_row hSw 3 rfl; have p4 := cell_row hSw 4 rfl; have p5 := cell_row hSw 5 rfl; have p6 := cell_row hSw 6 rfl; have p7 := cell_row hSw 7 rfl; have p8 := cell_row hSw 8 rfl; go_simp; first | done | with_reducible rfl)
  simp only [Act.put, List.getElem_toArray, List.getElem_cons_zero, List.getElem_cons_succ, List.setIfInBounds_toArray, List.set_cons_zero, List.set_cons_succ]
  refine wpAnyH_take (i := 5) (v := ?_) rfl (by kernel_rfl) (by kernel_rfl) (by kernel_rfl) (fun _ _ _ h => h) (Or.inl ⟨by rfl, ?_⟩) (by assumption) ?_
  rotate_left
  focus (intro w hSw; have p0 := cell_row hSw 0 rfl; have p1 := cell_row hSw 1 rfl; have p2 := cell_row hSw 2 rfl; have p3 := cell_row hSw 3 rfl; have p4 := cell_row hSw 4 rfl; have p5 := cell_row hSw 5 rfl; have p6 := cell_row hSw 6 rfl; have p7 := cell_row hSw 7 rfl; have p8 := cell_row hSw 8 rfl; go_simp; first | done | with_reducible rfl)
  simp only [Act.put, List.getElem_toArray, List.getElem_cons_zero, List.getElem_cons_succ, List.setIfInBounds_toArray, List.set_cons_zero, List.set_cons_succ]
  refine wpAnyH_ready (rs := [3]) (by kernel_rfl) (by simp) ?_
  refine AllReadyH.cons (o := _) rfl (fun K hK => ?_) AllReadyH.nil
  go_simp
  with_reducible refine (type50 tn ta _ htz).mono ?_
  rintro ee wA ⟨rfl, hbA⟩
  have hbx : Below w1.heap.size w1 wA := Below.trans (Below.drew (Below.refl _ _)) hbA
  have hsA := hbx.size
  have hr2 := (hbx.block _ (by omega)).trans hr1
  clear hbA hHeld
  go_simp
  refine hK.out _ _ hr2 (fun hHeld => ?_)
  clear hK K
  try simp only [Act.put, List.getElem_toArray, List.getElem_cons_zero, List.getElem_cons_succ, List.setIfInBounds_toArray, List.set_cons_zero, List.set_cons_succ]
  refine wpAnyH_ready (rs := [6]) (by kernel_rfl) (by simp) ?_
  refine AllReadyH.cons (o := _) rfl (fun K hK => ?_) AllReadyH.nil
  go_simp
  refine hK.out _ _ (((below1 wA (.cells #[.string ⟨#[108, 101, 116, 32]⟩, .string (tyS tn ta), .string ⟨#[32]⟩, .string name, .string ⟨#[32, 61, 32]⟩] 9)).block _ (by omega)).trans hr2) (fun hHeld => ?_)
  clear hK K
  try simp only [Act.put, List.getElem_toArray, List.getElem_cons_zero, List.getElem_cons_succ, List.setIfInBounds_toArray, List.set_cons_zero, List.set_cons_succ]
  refine wpAnyH_ready (rs := [7]) (by kernel_rfl) (by simp) ?_
  refine AllReadyH.cons (o := _) rfl (fun K hK => ?_) AllReadyH.nil
  go_simp
  have HLA := Lib.hid (HL1.out.then hB hbx)
  have hltA := HLA.out.1.lt
  refine (put5 W.heap.size b wA.heap.size _ _ _ _ _ _ _ (HLA.out.1.alloc _) (heap_al1 _ _) (by omega) (by have h := HL.out; have h2 := HTS.out; simp only [List.length_append, List.length_cons, List.length_nil, h2, tabs_len] at h ⊢; omega) (by simp; omega)).mono ?_
  rintro ee w2 ⟨rfl, hL2⟩
  have hr1 := hL2.row hHeld (by omega) (by decide)
  have HL2 := Lib.hid (HLA.out.trans (Lays.new (by omega) (below1 wA _) hL2))
  have hs2 : w.heap.size + 1 ≤ w2.heap.size := by have := hL2.size; simp at this; omega
  have hw2 : Below W.heap.size W w2 := hw.trans HL2.out.2.1
  clear hL2
  go_simp
  refine hK.out _ _ hr1 (fun hHeld => ?_)
  clear hK K
  try simp only [Act.put, List.getElem_toArray, List.getElem_cons_zero, List.getElem_cons_succ, List.setIfInBounds_toArray, List.set_cons_zero, List.set_cons_succ]
  refine wpAnyH_done (by kernel_rfl) ?_ _
  clear hHeld
  have d0 := cell_row hr1 0 rfl
  have d1 := cell_row hr1 1 rfl
  have d2 := cell_row hr1 2 rfl
  have d3 := cell_row hr1 3 rfl
  have d4 := cell_row hr1 4 rfl
  have d5 := cell_row hr1 5 rfl
  have d6 := cell_row hr1 6 rfl
  have d7 := cell_row hr1 7 rfl
  have d8 := cell_row hr1 8 rfl
  go_wp2_with fail
  refine (nth_any W _ e _ hk 0 w2 hw2).mono ?_
  rintro ee w3 ⟨t0, kk, rfl, ht, hcase, hb⟩
  have hok := nt_kid hQ hz hcase
  have HT0 := Lib.hid ht
  clear ht hcase
  have hr1 := (hb.block _ (by omega)).trans hr1
  have HL3 := Lib.hid (HL2.out.then hB hb)
  have hs3 : w.heap.size + 1 ≤ w3.heap.size := by have := hb.size; omega
  have hw3 : Below W.heap.size W w3 := hw.trans HL3.out.2.1
  clear hb
  go_wp2_with fail
  refine (hok _ w3 hw3 HL3.out.1 (by have h := HL.out; have h2 := HTS.out; rw [HT0.out]; simp only [List.length_append, List.length_cons, List.length_nil, h2, tabs_len] at h ⊢; omega)).mono ?_
  rintro ee w4 ⟨rfl, hL4⟩
  have hr1 := hL4.row hr1 hgb (by decide)
  have HL4 := Lib.hid (HL3.out.trans hL4)
  have hs4 : w.heap.size + 1 ≤ w4.heap.size := by have := hL4.size; omega
  have hw4 : Below W.heap.size W w4 := hw.trans HL4.out.2.1
  clear hL4 hok
  go_wp2_with fail
  refine (put1 W.heap.size b w4.heap.size _ ⟨#[59, 10]⟩ _ (HL4.out.1.alloc _) (heap_al1 _ _) (by have := HL4.out.1.lt; omega) (by have h := HL.out; have h2 := HTS.out; rw [HT0.out]; simp only [List.length_append, List.length_cons, List.length_nil, h2, tabs_len] at h ⊢; omega) (by simp; omega)).mono ?_
  rintro e w5 ⟨rfl, hL5⟩
  have hr1 := hL5.row ((below1 w4 _).block _ (by omega) |>.trans hr1) hgb (by decide)
  have HL5 := Lib.hid (HL4.out.trans (Lays.new (by omega) (below1 w4 _) hL5))
  have hs5 : w.heap.size + 1 ≤ w5.heap.size := by have := hL5.size; simp at this; omega
  have hw5 : Below W.heap.size W w5 := hw.trans HL5.out.2.1
  clear hL5
  have hfin := HL5.out
  go_wp2
  go_end0
  refine ⟨rfl, ?_⟩
  rw [HT0.out, HTS.out] at hfin
  simpa only [List.append_assoc, List.cons_append, List.nil_append] using hfin

theorem sxs_app (d : Nat) : ∀ a c : List St, sxs d (a ++ c) = sxs d a ++ sxs d c
  | [], _ => by simp [sxs]
  | s :: r, c => by simp only [List.cons_append, sxs, sxs_app d r c, List.append_assoc]
set_option maxHeartbeats 1000000 in
set_option maxRecDepth 100000 in
theorem all55 (W : World) (b : Nat) (R : St → List Value → Prop) (hR : ∀ s cs, R s cs → SLay W b s cs ∧ ∃ does ln co name tn ta a1 n1 c1 a2 n2 c2 a3 n3 c3, cs = stC does ln co name tn ta (.slice a1 n1 c1) (.slice a2 n2 c2) (.slice a3 n3 c3)) (xs : List St) (v : Value) (hk : Sl W 9 R xs v) : SsLay W b xs v := by
  intro deep l w hd hw hp hlen
  obtain ⟨ka, kc, rfl⟩ := hk.form
  obtain ⟨_, hl, hc, hkk⟩ := hk.at
  unfold maxLen at hc
  have hB := hw.size
  have HK := Lib.hid hkk
  clear hkk hk
  have HS : Hid (∀ k, k ≤ xs.length → sxs deep xs = sxs deep (xs.take k) ++ sxs deep (xs.drop k)) := Lib.hid (fun k hk => by rw [← sxs_app, List.take_append_drop])
  have HLen := Lib.hid hlen
  clear hlen
  go_enter Tryd.func55, Tryd.ntmps55
  go_wp2
  go_loopw [10] (fun i wr => ∃ k : Nat, k ≤ xs.length ∧ i = .int .i64 k ∧ Pg W.heap.size b (Lib.byteCells (l ++ sxs deep (xs.take k))) wr ∧ Below W.heap.size w wr ∧ Lib.OthersKept 5 (some b) w wr) (fun i _ => xs.length - (intOf i).toNat)
  case atStart => exact ⟨0, Nat.zero_le _, rfl, by simpa [sxs] using hp, Below.refl _ _, Lib.OthersKept.refl _ _ _⟩
  case round =>
    obtain ⟨k, hk1, rfl, hL⟩ := hrel
    have HLr : Hid (Lays W.heap.size b (l ++ sxs deep (xs.take k)) w wr) := Lib.hid hL
    clear hL
    have hwr : Below W.heap.size W wr := hw.trans HLr.out.2.1
    have hsr := HLr.out.size
    have hbr := HLr.out.1.lt
    by_cases hlt2 : k < xs.length
    · obtain ⟨g, o, cs, rfl, hcell, hcs⟩ := HK.out k xs[k] (List.getElem?_eq_getElem hlt2)
      obtain ⟨hlay, does, ln, co, name, tn, ta, a1, n1, c1, a2, n2, c2, a3, n3, c3, rfl⟩ := hR _ _ hcs
      have hst : sxs deep (xs.take (k + 1)) = sxs deep (xs.take k) ++ sx deep xs[k] := by
        rw [List.take_succ_eq_append_getElem hlt2, sxs_app]
        simp [sxs]
      have hln : l.length + ((sxs deep (xs.take k)).length + (sx deep xs[k]).length) ≤ 140737488355328 := by
        have h1 := HLen.out
        have h2 := HS.out (k + 1) (by omega)
        rw [h2, hst] at h1
        simp only [List.length_append] at h1
        omega
      have HST := Lib.hid hst
      have HLN := Lib.hid hln
      have HLY := Lib.hid hlay
      clear hst hln hlay hcs
      have k1 := (hwr.cell (World.block_lt_of_cell? _ _ (hcell 1 _ rfl))).trans (hcell 1 _ rfl)
      have k2 := (hwr.cell (World.block_lt_of_cell? _ _ (hcell 2 _ rfl))).trans (hcell 2 _ rfl)
      have k3 := (hwr.cell (World.block_lt_of_cell? _ _ (hcell 3 _ rfl))).trans (hcell 3 _ rfl)
      have k4 := (hwr.cell (World.block_lt_of_cell? _ _ (hcell 4 _ rfl))).trans (hcell 4 _ rfl)
      have k5 := (hwr.cell (World.block_lt_of_cell? _ _ (hcell 5 _ rfl))).trans (hcell 5 _ rfl)
      have k6 := (hwr.cell (World.block_lt_of_cell? _ _ (hcell 6 _ rfl))).trans (hcell 6 _ rfl)
      have k7 := (hwr.cell (World.block_lt_of_cell? _ _ (hcell 7 _ rfl))).trans (hcell 7 _ rfl)
      have k8 := (hwr.cell (World.block_lt_of_cell? _ _ (hcell 8 _ rfl))).trans (hcell 8 _ rfl)
      have k0 : wr.cell? ⟨g, o + k * 9, none⟩ = some (.int .i64 does) := (hwr.cell (World.block_lt_of_cell? _ _ (hcell 0 _ rfl))).trans (hcell 0 _ rfl)
      have hgl : g < wr.heap.size := World.block_lt_of_cell? _ _ k0
      clear hcell
      go_wp2_with fail
      refine (HLY.out deep _ _ (hwr.trans ((below1 wr _).mono (by omega))) (HLr.out.1.alloc _) (by have := HLN.out; rw [List.length_append]; omega)).mono ?_
      rintro ee w2 ⟨rfl, hL2⟩
      have HL2 := Lib.hid (HLr.out.trans (Lays.new (by omega) (below1 wr _) hL2))
      clear hL2
      go_wp2
      go_roundw
      case rel =>
        refine ⟨k + 1, by omega, by go_num, ?_⟩
        have := HL2.out
        rw [HST.out]
        rw [List.append_assoc] at this
        exact this
      case measure => simp [intOf]; omega
    · have HE : Hid (xs.take k = xs) := Lib.hid (List.take_of_length_le (by omega))
      go_wp2
      go_end0
      refine ⟨rfl, ?_⟩
      have := HLr.out
      rw [HE.out] at this
      exact this
end Go.Proofs.YtojkagfbdpjckaaDoor
