/-
  Classes as an archive.
-/
import Derived.Test.YtomlbfkkhhhfkaaDoorCsDec
namespace Go.Proofs.YtomlbfkkhhhfkaaDoor.Fc
open Go.RowKit
set_option linter.unusedVariables false

def arB (f : Fl) : List UInt8 := Pk.textB (flB f)
def arcB (xs : List Fl) : List UInt8 := Pk.encI (xs.length : Int) ++ xs.flatMap arB
theorem arB_le {f : Fl} (h : RightF f) (hn : ∀ z ∈ f.nu, OkI z) : (arB f).length ≤ 50000000009 := by
  unfold arB Pk.textB
  rw [List.length_append]
  have a := fl_le h hn
  have b := Pk.enc_len9 (flB f).length (by omega)
  omega
theorem arcs_le (xs : List Fl) (h : ∀ f ∈ xs, RightF f ∧ ∀ z ∈ f.nu, OkI z) : (xs.flatMap arB).length ≤ xs.length * 50000000009 := by
  induction xs with
  | nil => simp
  | cons x xs ih =>
    have a := arB_le (h x (by simp)).1 (h x (by simp)).2
    have b := ih (fun f hf => h f (by simp [hf]))
    simp only [List.flatMap_cons, List.length_append, List.length_cons]
    omega
theorem all_snk {α : Type} {P : α → Prop} {xs : List α} {k : Nat} {x : α} (hx : xs[k]? = some x) (h : ∀ y ∈ xs.take k, P y) (hp : P x) : ∀ y ∈ xs.take (k + 1), P y := by
  obtain ⟨hk, rfl⟩ := List.getElem?_eq_some_iff.1 hx
  rw [List.take_succ_eq_append_getElem hk]
  intro y hy
  simp only [List.mem_append, List.mem_singleton] at hy
  rcases hy with hy | rfl
  · exact h y hy
  · exact hp
theorem wat_below {base bw : Nat} {w w' : World} {bs : List UInt8} (h : Pk.WAt base bw w bs) (hb : Below w.heap.size w w') : Pk.WAt base bw w' bs := by
  obtain ⟨v, hv, hr⟩ := h
  exact ⟨v, (hb.block bw (lt_of_block hv)).trans hv, row_below (e := 5) (size := 1) hr hb⟩
def ArcV (xs : List Fl) (w : World) (e : Ending) (w' : World) : Prop :=
  ((200 < xs.length ∧ e = .returned (.tuple #[.string ⟨#[]⟩, .int .i64 4])) ∨ (xs.length ≤ 200 ∧ (¬ ∀ f ∈ xs, RightF f) ∧ e = .returned (.tuple #[.string ⟨#[]⟩, .int .i64 1])) ∨
    (xs.length ≤ 200 ∧ (∀ f ∈ xs, RightF f) ∧ e = .returned (.tuple #[.string ⟨(arcB xs).toArray⟩, .int .i64 0]))) ∧ Below w.heap.size w w'
set_option maxHeartbeats 4000000 in
set_option maxRecDepth 100000 in
theorem archive18 (xs : List Fl) (a : Option Addr) (n c : Nat) (w : World) (hs : Sl w 10 (FlR w) xs (.slice a n c)) (hT : TabR w) (hnu : ∀ f ∈ xs, ∀ z ∈ f.nu, OkI z) :
    Calls Tryd.prog 18 #[.slice a n c] w (ArcV xs w) := by
  have h0 : 0 < w.heap.size := by
    have h := hT.pool (k := 0) (by omega)
    exact World.block_lt_of_cell? _ _ h
  obtain ⟨e0, l0, k0, hk0⟩ := hs.at
  unfold maxLen at k0
  have E0 := Lib.hid e0
  have HK0 := Lib.hid hk0
  have HT := Lib.hid hT
  have HNU := Lib.hid hnu
  clear e0 hk0 hs hT hnu
  unfold ArcV
  by_cases hbig : 200 < n
  · have d1 : decide ((200 : Int) < (n : Int)) = true := decide_eq_true (by omega)
    go_enter Tryd.func18, Tryd.ntmps18
    go_wp2_with fail
    all_goals first | (exfalso; omega) | skip
    exact bodyPost_ret (v := .tuple #[.string ⟨#[]⟩, .int .i64 4]) (by simp [results, Tryd.results18, go_sem]) rfl ⟨.inl ⟨by rw [← E0.out]; exact hbig, rfl⟩, Below.refl _ _⟩
  have hn : n ≤ 200 := by omega
  have HNX : Hid (xs.length ≤ 200) := Lib.hid (by rw [← E0.out]; exact hn)
  have d1 : decide ((200 : Int) < (n : Int)) = false := decide_eq_false (by omega)
  obtain ⟨W1, HW1⟩ : ∃ W, Hid (W = (w.alloc (.cells #[.slice none 0 0] 54)).alloc (.cells #[.int .i64 n] 3)) := ⟨_, Lib.hid rfl⟩
  have HA : Hid (Pk.WAt (w.heap.size + 1) w.heap.size W1 []) := Lib.hid (by rw [HW1.out]; exact (Pk.WAt.new _ w).alloc _)
  have HB1 : Hid (Below w.heap.size w W1) := Lib.hid (by rw [HW1.out]; exact below2 w _ _)
  have HS1 : Hid (W1.heap.size = w.heap.size + 2) := Lib.hid (by rw [HW1.out]; simp)
  have HV : Hid (Pk.Vals (w.heap.size + 1) w.heap.size W1 (some ⟨w.heap.size + 1, 0, none⟩) (Pk.ints [(n : Int)])) := Lib.hid (by rw [HW1.out]; exact Pk.vals_new (by simp) (by decide) (by omega))
  have HN := Lib.hid (Pk.num_any (w.heap.size + 1) w.heap.size [(n : Int)] (by simp; omega) (some ⟨w.heap.size + 1, 0, none⟩) 1 [] W1 HA.out (by omega) (by rw [HS1.out]; omega) HV.out (by simp))
  clear HA HV
  go_enter Tryd.func18, Tryd.ntmps18
  go_wp2_with fail
  all_goals first | (exfalso; omega) | skip
  rw [← HW1.out]
  refine HN.out.mono ?_
  rintro e w2 ⟨rfl, hw2, hk2⟩
  have HB2 : Hid (Below w.heap.size w w2) := Lib.hid (HB1.out.trans (hk2.below (by omega) (Nat.le_refl _)))
  have HE2 : Hid ([] ++ Pk.encAll [(n : Int)] = Pk.encI (n : Int)) := Lib.hid (by simp [Pk.encAll])
  have HQ2 : Hid (Pk.WAt (w.heap.size + 1) w.heap.size w2 (Pk.encI (n : Int))) := Lib.hid (by rw [← HE2.out]; exact hw2)
  have HLE : Hid ((Pk.encI (n : Int)).length ≤ 9) := Lib.hid (by unfold Pk.encI; exact Pk.enc_len9 _ (by omega))
  obtain ⟨BW, HBW⟩ : ∃ b, Hid (b = w.heap.size) := ⟨_, Lib.hid rfl⟩
  have hs2 : BW + 1 ≤ w2.heap.size := by have := HS1.out; have := hk2.size; rw [HBW.out]; omega
  rw [← HBW.out] at HQ2 HB2 h0 ⊢
  clear hw2 hk2 HN HB1 HW1 HS1 HE2
  go_wp2
  go_loopw [18] (fun i wr => ∃ k : Nat, k ≤ n ∧ i = .int .i64 k ∧ Hid (Pk.WAt (BW + 1) BW wr (Pk.encI (n : Int) ++ (xs.take k).flatMap arB)) ∧ Hid (∀ f ∈ xs.take k, RightF f) ∧ Hid (Below BW w wr) ∧ BW + 1 ≤ wr.heap.size) (fun i _ => n - (intOf i).toNat)
  case atStart => exact ⟨0, Nat.zero_le _, rfl, Lib.hid (by simpa using HQ2.out), Lib.hid (by intro f hf; simp at hf), HB2, hs2⟩
  case round =>
    clear HQ2 HB2 hs2
    obtain ⟨k, hk, rfl, HWk, HRk, HBR, hsr⟩ := hrel
    by_cases hkl : k < n
    · obtain ⟨x, hx⟩ : ∃ v, xs[k]? = some v := ⟨_, List.getElem?_eq_getElem (by have := E0.out; omega)⟩
      obtain ⟨g, o, cs, rfl, hcell, hfl⟩ := HK0.out k x hx
      have HFL := Lib.hid hfl
      obtain ⟨a8, n8, c8, a9, n9, c9, a1, n1, c1, a2, n2, c2, a3, n3, c3, a4, n4, c4, a5, n5, c5, a0, n0, c0, rfl, _, _, _⟩ := hfl
      have hbr : Below w.heap.size w wr := by have := HBR.out; rw [HBW.out] at this; exact this
      have p0 : wr.cell? ⟨g, o + k * 10, none⟩ = some (.string x.fc.name) := (hbr.cell (World.block_lt_of_cell? _ _ (hcell 0 _ rfl))).trans (hcell 0 _ rfl)
      have p1 : wr.cell? ⟨g, o + k * 10 + 1, none⟩ = some (.string x.fc.sup) := (hbr.cell (World.block_lt_of_cell? _ _ (hcell 1 _ rfl))).trans (hcell 1 _ rfl)
      have p2 : wr.cell? ⟨g, o + k * 10 + 2, none⟩ = some (.slice a8 n8 c8) := (hbr.cell (World.block_lt_of_cell? _ _ (hcell 2 _ rfl))).trans (hcell 2 _ rfl)
      have p3 : wr.cell? ⟨g, o + k * 10 + 3, none⟩ = some (.slice a9 n9 c9) := (hbr.cell (World.block_lt_of_cell? _ _ (hcell 3 _ rfl))).trans (hcell 3 _ rfl)
      have p4 : wr.cell? ⟨g, o + k * 10 + 4, none⟩ = some (.slice a1 n1 c1) := (hbr.cell (World.block_lt_of_cell? _ _ (hcell 4 _ rfl))).trans (hcell 4 _ rfl)
      have p5 : wr.cell? ⟨g, o + k * 10 + 5, none⟩ = some (.slice a2 n2 c2) := (hbr.cell (World.block_lt_of_cell? _ _ (hcell 5 _ rfl))).trans (hcell 5 _ rfl)
      have p6 : wr.cell? ⟨g, o + k * 10 + 6, none⟩ = some (.slice a3 n3 c3) := (hbr.cell (World.block_lt_of_cell? _ _ (hcell 6 _ rfl))).trans (hcell 6 _ rfl)
      have p7 : wr.cell? ⟨g, o + k * 10 + 7, none⟩ = some (.slice a4 n4 c4) := (hbr.cell (World.block_lt_of_cell? _ _ (hcell 7 _ rfl))).trans (hcell 7 _ rfl)
      have p8 : wr.cell? ⟨g, o + k * 10 + 8, none⟩ = some (.slice a5 n5 c5) := (hbr.cell (World.block_lt_of_cell? _ _ (hcell 8 _ rfl))).trans (hcell 8 _ rfl)
      have p9 : wr.cell? ⟨g, o + k * 10 + 9, none⟩ = some (.slice a0 n0 c0) := (hbr.cell (World.block_lt_of_cell? _ _ (hcell 9 _ rfl))).trans (hcell 9 _ rfl)
      have HSN : Hid (Pk.encI (n : Int) ++ (xs.take (k + 1)).flatMap arB = (Pk.encI (n : Int) ++ (xs.take k).flatMap arB) ++ arB x) := Lib.hid (by rw [flat_snoc arB hx, List.append_assoc])
      have HXM := Lib.hid (List.mem_of_getElem? hx)
      have HXK := Lib.hid hx
      have HLk : Hid ((Pk.encI (n : Int) ++ (xs.take k).flatMap arB).length ≤ 10000000010000) := Lib.hid (by
        have h1 := arcs_le (xs.take k) (fun f hf => ⟨HRk.out f hf, HNU.out f (List.mem_of_mem_take hf)⟩)
        have h2 := HLE.out
        rw [List.length_take] at h1
        rw [List.length_append]
        have h3 : min k xs.length * 50000000009 ≤ 200 * 50000000009 := Nat.mul_le_mul_right _ (by omega)
        omega)
      clear hcell hx
      generalize (Pk.encI (n : Int) ++ (xs.take k).flatMap arB) = Q1 at *
      obtain ⟨W5, HW5⟩ : ∃ W, Hid (W = wr.alloc (.cells #[.string x.fc.name, .string x.fc.sup, .slice a8 n8 c8, .slice a9 n9 c9, .slice a1 n1 c1, .slice a2 n2 c2, .slice a3 n3 c3, .slice a4 n4 c4, .slice a5 n5 c5, .slice a0 n0 c0] 35)) := ⟨_, Lib.hid rfl⟩
      have X5 : Hid (Blk W5 wr.heap.size [.string x.fc.name, .string x.fc.sup, .slice a8 n8 c8, .slice a9 n9 c9, .slice a1 n1 c1, .slice a2 n2 c2, .slice a3 n3 c3, .slice a4 n4 c4, .slice a5 n5 c5, .slice a0 n0 c0] 35) := Lib.hid (by rw [HW5.out]; exact Blk.new wr _ 35)
      have HB5 : Hid (Below w.heap.size w W5) := Lib.hid (by rw [HW5.out]; exact bl_al' hbr)
      have HA5 : Hid (Pk.WAt (BW + 1) BW W5 Q1) := Lib.hid (by rw [HW5.out]; exact wat_al HWk.out _)
      have hs5 : BW + 1 ≤ W5.heap.size := by rw [HW5.out]; simp; omega
      go_upto_region 8 with fail
      rw [← HW5.out]
      clear HW5 p0 p1 p2 p3 p4 p5 p6 p7 p8 p9 HWk hbr hsr
      have XX := X5.out
      have q0 := XX.cell 0
      have q1 := XX.cell 1
      have q2 := XX.cell 2
      have q3 := XX.cell 3
      have q4 := XX.cell 4
      have q5 := XX.cell 5
      have q6 := XX.cell 6
      have q7 := XX.cell 7
      have q8 := XX.cell 8
      have q9 := XX.cell 9
      simp only [List.getElem?_cons_succ, List.getElem?_cons_zero] at q0 q1 q2 q3 q4 q5 q6 q7 q8 q9
      clear XX
      go_wp2_with fail
      refine (encode13 x [.string x.fc.name, .string x.fc.sup, .slice a8 n8 c8, .slice a9 n9 c9, .slice a1 n1 c1, .slice a2 n2 c2, .slice a3 n3 c3, .slice a4 n4 c4, .slice a5 n5 c5, .slice a0 n0 c0] W5 (HFL.out.keep (Keeps.of_below HB5.out)) (HT.out.below HB5.out) (HNU.out x HXM.out)).mono ?_
      rintro e w6 ⟨hv, hb6⟩
      have HB6 : Hid (Below w.heap.size w w6) := Lib.hid (HB5.out.trans (hb6.mono HB5.out.size))
      have HA6 : Hid (Pk.WAt (BW + 1) BW w6 Q1) := Lib.hid (wat_below HA5.out hb6)
      have hs6 : BW + 1 ≤ w6.heap.size := Nat.le_trans hs5 hb6.size
      clear hb6 HB5 HA5 hs5 X5 q0 q1 q2 q3 q4 q5 q6 q7 q8 q9
      rcases hv with ⟨hr, rfl⟩ | ⟨hr, rfl⟩
      · have HR := Lib.hid hr
        have HFLE := Lib.hid (fl_le hr (HNU.out x HXM.out))
        obtain ⟨t, HTT⟩ : ∃ t, Hid (t = flB x) := ⟨_, Lib.hid rfl⟩
        rw [← HTT.out] at HFLE ⊢
        clear hr
        obtain ⟨W7, HW7⟩ : ∃ W, Hid (W = w6.alloc (.cells #[.string ⟨t.toArray⟩] 9)) := ⟨_, Lib.hid rfl⟩
        have HA7 : Hid (Pk.WAt (BW + 1) BW W7 Q1) := Lib.hid (by rw [HW7.out]; exact wat_al HA6.out _)
        have HB7 : Hid (Below w.heap.size w W7) := Lib.hid (by rw [HW7.out]; exact bl_al' HB6.out)
        have hs7 : BW + 1 ≤ W7.heap.size := by rw [HW7.out]; simp; omega
        have HV7 : Hid (Pk.Vals (BW + 1) BW W7 (some ⟨w6.heap.size, 0, none⟩) (Pk.strs [t])) := Lib.hid (by rw [HW7.out]; exact Pk.vals_new rfl (by decide) (by omega))
        have HN7 := Lib.hid (Pk.text_any (BW + 1) BW [t] (some ⟨w6.heap.size, 0, none⟩) 1 Q1 W7 HA7.out (by omega) hs7 HV7.out (by simp) (by
          have h1 := HLk.out
          have h2 := HFLE.out
          have h3 := Pk.enc_len9 t.length (by omega)
          simp only [Pk.textAll, Pk.textB, List.flatMap_cons, List.flatMap_nil, List.append_nil, List.length_append]
          omega))
        go_wp2_with fail
        rw [← HW7.out]
        refine HN7.out.mono ?_
        rintro e w8 ⟨rfl, hw8, hk8⟩
        have HW8 : Hid (Pk.WAt (BW + 1) BW w8 (Pk.encI (n : Int) ++ (xs.take (k + 1)).flatMap arB)) := Lib.hid (by
          rw [HSN.out, show arB x = Pk.textAll [t] by rw [HTT.out]; simp [arB, Pk.textAll]]
          exact hw8)
        have HR8 : Hid (∀ f ∈ xs.take (k + 1), RightF f) := Lib.hid (all_snk HXK.out HRk.out HR.out)
        have HB8 : Hid (Below BW w w8) := Lib.hid (by have h := HB7.out; rw [← HBW.out] at h; exact h.trans (hk8.below (by omega) (Nat.le_refl _)))
        have hs8 : BW + 1 ≤ w8.heap.size := Nat.le_trans hs7 hk8.size
        clear hw8 hk8 HW7 HA7 HB7 hs7 HV7 HN7 HA6 HB6 hs6 HSN HXK HXM HRk HR HFL
        go_wp2
        go_roundw
        case rel => exact ⟨k + 1, by omega, by go_num, HW8, HR8, HB8, hs8⟩
        case measure => simp [intOf]; omega
      · have HR := Lib.hid hr
        clear hr
        go_wp2_with fail
        exact bodyPost_ret (v := .tuple #[.string ⟨#[]⟩, .int .i64 1]) (by simp [results, Tryd.results18, go_sem]) rfl ⟨.inr (.inl ⟨HNX.out, fun h => HR.out (h x HXM.out), rfl⟩), HB6.out⟩
    · have HWf : Hid (Pk.WAt (BW + 1) BW wr (arcB xs)) := Lib.hid (by
        have := HWk.out
        rw [List.take_of_length_le (by have := E0.out; omega)] at this
        unfold arcB
        rw [← E0.out]
        exact this)
      have HRf : Hid (∀ f ∈ xs, RightF f) := Lib.hid (by
        have := HRk.out
        rwa [List.take_of_length_le (by have := E0.out; omega)] at this)
      clear HWk HRk
      go_wp2_with fail
      refine (Pk.string_any _ _ _ _ HWf.out).mono ?_
      rintro e w3 ⟨rfl, rfl⟩
      go_wp2
      exact bodyPost_ret (v := .tuple #[.string ⟨(arcB xs).toArray⟩, .int .i64 0]) (by simp [results, Tryd.results18, go_sem]) rfl ⟨.inr (.inr ⟨HNX.out, HRf.out, rfl⟩), by have h := HBR.out; rw [HBW.out] at h; exact h⟩
end Go.Proofs.YtomlbfkkhhhfkaaDoor.Fc
