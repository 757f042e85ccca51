/-
  A method's body; where a field stands in a list.
-/
import Derived.Test.YthimpjfmelmhpaaDoorLkO
import Derived.Sort.Walk0
namespace Go.Proofs.YthimpjfmelmhpaaDoor.Fc
open Go.RowKit
set_option linter.unusedVariables false
set_option linter.unusedSimpArgs false

open Go.Sort
theorem ltS_eq (a b : ByteArray) : ltS a b = decide (a.toList < b.toList) := bytesLess_eq _ _
theorem ltS_irrefl (a : ByteArray) : ltS a a = false := by rw [ltS_eq]; simp [List.lt_irrefl]
theorem ltS_trans {a b c : ByteArray} (h1 : ltS a b = true) (h2 : ltS b c = true) : ltS a c = true := by
  rw [ltS_eq, decide_eq_true_iff] at *
  exact List.lt_trans h1 h2
section
variable {α : Type} (nm : α → ByteArray)
theorem chain_lt (xs : List α) (h : ∀ k x, xs[k]? = some x → ltS (lastN nm xs k) (nm x) = true) : ∀ (j i : Nat) (x y : α), i < j → xs[i]? = some x → xs[j]? = some y → ltS (nm x) (nm y) = true
  | 0, i, x, y, hij, _, _ => by omega
  | j + 1, i, x, y, hij, hx, hy => by
    have hl : j < xs.length := by have := (List.getElem?_eq_some_iff.1 hy).1; omega
    have hz : xs[j]? = some xs[j] := List.getElem?_eq_getElem hl
    have h1 := h (j + 1) y hy
    have h2 : lastN nm xs (j + 1) = nm xs[j] := by simp [lastN, hz]
    rw [h2] at h1
    rcases Nat.lt_succ_iff_lt_or_eq.1 hij with h3 | rfl
    · exact ltS_trans (chain_lt xs h j i x _ h3 hx hz) h1
    · rw [hz] at hx
      cases hx
      exact h1
theorem chain_ne {xs : List α} (h : ∀ k x, xs[k]? = some x → ltS (lastN nm xs k) (nm x) = true) {i j : Nat} {x y : α} (hij : i < j) (hx : xs[i]? = some x) (hy : xs[j]? = some y) : nm x ≠ nm y := fun e => by
  have := chain_lt nm xs h j i x y hij hx hy
  rw [e, ltS_irrefl] at this
  cases this
end
theorem right_ms {f : Fc} (h : RightP f) : ∀ k x, f.ms[k]? = some x → ltS (lastN Sg.name f.ms k) x.name = true := fun k x hx => (h.ms k x hx).1
/-- where the first one of a name stands -/
def ixN {α : Type} (nm : α → ByteArray) : List α → ByteArray → Option Nat
  | [], _ => none
  | x :: r, s => if nm x = s then some 0 else (ixN nm r s).map (· + 1)
theorem ix_at {α : Type} {nm : α → ByteArray} : ∀ {xs : List α} {s : ByteArray} {k : Nat} {x : α}, xs[k]? = some x → nm x = s → (∀ y ∈ xs.take k, nm y ≠ s) → ixN nm xs s = some k
  | [], s, k, x, hx, _, _ => by simp at hx
  | y :: r, s, 0, x, hx, hn, _ => by
    simp at hx
    subst hx
    rw [ixN, if_pos hn]
  | y :: r, s, k + 1, x, hx, hn, ha => by
    rw [ixN, if_neg (ha y (by simp)), ix_at (by simpa using hx) hn (fun z hz => ha z (by simp [hz]))]
    rfl
theorem ix_no {α : Type} {nm : α → ByteArray} : ∀ {xs : List α} {s : ByteArray}, (∀ y ∈ xs, nm y ≠ s) → ixN nm xs s = none
  | [], s, _ => rfl
  | y :: r, s, h => by
    rw [ixN, if_neg (h y (by simp)), ix_no (fun z hz => h z (by simp [hz]))]
    rfl
def zBd : Bd := ⟨0, 0, []⟩
def bdyF (f : Fl) (m : ByteArray) : Option Bd := (ixN Sg.name f.fc.ms m).bind (fun k => f.bd[k]?)
/-- of a right file each method has its own body -/
theorem bdy_right {f : Fl} (h : RightF f) {k : Nat} {m : Sg} (hm : f.fc.ms[k]? = some m) : ∃ b, f.bd[k]? = some b ∧ bdyF f m.name = some b := by
  have hk : k < f.bd.length := by rw [h.ln]; exact (List.getElem?_eq_some_iff.1 hm).1
  refine ⟨f.bd[k], List.getElem?_eq_getElem hk, ?_⟩
  unfold bdyF
  rw [ix_at hm rfl (fun y hy => by
    obtain ⟨i, hi, e⟩ := List.mem_iff_getElem.1 hy
    have hi' : i < k ∧ i < f.fc.ms.length := by rw [List.length_take] at hi; omega
    have hy' : f.fc.ms[i]? = some y := by rw [List.getElem?_eq_getElem hi'.2, ← e]; simp
    exact chain_ne Sg.name (right_ms h.fc) hi'.1 hy' hm)]
  exact List.getElem?_eq_getElem hk
theorem out3 {wr : World} {q : Nat} {u0 u1 u2 : Value} (v0 v1 v2 : Value) (hB : Blk wr q [u0, u1, u2] 54) :
    Blk (((wr.setCell ⟨q, 0, none⟩ v0).setCell ⟨q, 1, none⟩ v1).setCell ⟨q, 2, none⟩ v2) q [v0, v1, v2] 54 ∧ Mods (· = q) wr (((wr.setCell ⟨q, 0, none⟩ v0).setCell ⟨q, 1, none⟩ v1).setCell ⟨q, 2, none⟩ v2) := by
  refine ⟨?_, ?_⟩
  · have h := ((hB.set 0 v0).set 1 v1).set 2 v2
    simpa only [List.set_cons_zero, List.set_cons_succ] using h
  · exact (((Mods.refl (· = q) wr).setCell (p := ⟨q, 0, none⟩) (.inl rfl) v0).setCell (p := ⟨q, 1, none⟩) (.inl rfl) v1).setCell (p := ⟨q, 2, none⟩) (.inl rfl) v2
def BPost (o : Option Bd) (w : World) (e : Ending) (w' : World) : Prop :=
  ∃ a c, e = .returned (.tuple #[.agg #[.int .i64 (o.getD zBd).lo, .int .i64 (o.getD zBd).st, .slice a (o.getD zBd).co.length c], .bool o.isSome]) ∧ Below w.heap.size w w'
set_option maxHeartbeats 4000000 in
set_option maxRecDepth 100000 in
theorem body13 (i : ImS) (sv : Value) (c : Nat) (w : World) (h : Im i sv c w) (s m0 : ByteArray) (hs : s.size ≤ maxLen) (hln : ((flAt i.fs s).getD zFl).bd.length = ((flAt i.fs s).getD zFl).fc.ms.length) :
    Calls Tryd.prog 13 #[.pointer (some ⟨i.im, 0, none⟩), .string s, .string m0] w (BPost (bdyF ((flAt i.fs s).getD zFl) m0) w) := by
  have HF := Lib.hid (file11 i sv c (w.alloc (.cells #[.int .i64 0, .int .i64 0, .slice none 0 0] 54)) (h.bel (below1 w _)) s hs)
  have HR0 : Hid (Blk (w.alloc (.cells #[.int .i64 0, .int .i64 0, .slice none 0 0] 54)) w.heap.size [.int .i64 0, .int .i64 0, .slice none 0 0] 54) := Lib.hid (Blk.new w [.int .i64 0, .int .i64 0, .slice none 0 0] 54)
  have HB0 : Hid (Below w.heap.size w (w.alloc (.cells #[.int .i64 0, .int .i64 0, .slice none 0 0] 54))) := Lib.hid (below1 w _)
  have HLN := Lib.hid hln
  clear h hln
  go_enter Tryd.func13, Tryd.ntmps13
  go_wp2_with fail
  refine HF.out.mono ?_
  rintro e w1 ⟨cs, rfl, hfl, hb1⟩
  generalize (flAt i.fs s).getD zFl = fl at *
  generalize (flAt i.fs s).isSome = fx at *
  obtain ⟨a8, n8, c8, a9, n9, c9, a1, n1, c1, a2, n2, c2, a3, n3, c3, a4, n4, c4, a5, n5, c5, a0, n0, c0, rfl, hfc, hpo, hbd⟩ := hfl
  obtain ⟨_, _, _, _, _, _, he, hf8, hf9⟩ := hfc
  simp only [List.cons.injEq, Value.slice.injEq, true_and, and_true] at he
  obtain ⟨⟨rfl, rfl, rfl⟩, rfl, rfl, rfl⟩ := he
  obtain ⟨e9, l9, q9, hk9⟩ := hf9.at
  obtain ⟨e0, l0, q0, hk0⟩ := hbd.at
  unfold maxLen at q9 q0
  have E9 := Lib.hid e9
  have E0 := Lib.hid e0
  have HK9 := Lib.hid hk9
  have HK0 := Lib.hid hk0
  have HN90 : Hid (n0 = n9) := Lib.hid (by have := HLN.out; omega)
  have hs1 : w.heap.size + 1 ≤ w1.heap.size := by have := hb1.size; simpa using this
  obtain ⟨W1, HW1⟩ : ∃ W1, Hid (W1 = w1.alloc (.cells #[.string fl.fc.name, .string fl.fc.sup, .slice a8 n8 c8, .slice a9 n9 c9, .slice a1 n1 c1, .slice a2 n2 c2, .slice a3 n3 c3, .slice a4 n4 c4, .slice a5 n5 c5, .slice a0 n0 c0] 44)) := ⟨_, Lib.hid rfl⟩
  have HBX : Hid (Blk W1 w1.heap.size [.string fl.fc.name, .string fl.fc.sup, .slice a8 n8 c8, .slice a9 n9 c9, .slice a1 n1 c1, .slice a2 n2 c2, .slice a3 n3 c3, .slice a4 n4 c4, .slice a5 n5 c5, .slice a0 n0 c0] 44) := Lib.hid (by rw [HW1.out]; exact Blk.new w1 [.string fl.fc.name, .string fl.fc.sup, .slice a8 n8 c8, .slice a9 n9 c9, .slice a1 n1 c1, .slice a2 n2 c2, .slice a3 n3 c3, .slice a4 n4 c4, .slice a5 n5 c5, .slice a0 n0 c0] 44)
  have HB1 : Hid (Below w1.heap.size w1 W1) := Lib.hid (by rw [HW1.out]; exact below1 w1 _)
  have HR1 : Hid (Blk W1 w.heap.size [.int .i64 0, .int .i64 0, .slice none 0 0] 54) := Lib.hid ((HR0.out.below hb1).below HB1.out)
  have HBW : Hid (Below w.heap.size w W1) := Lib.hid (HB0.out.trans ((hb1.trans (HB1.out.mono hb1.size)).mono HB0.out.size))
  have hsW := HB1.out.size
  have hxl := HBX.out.lt
  clear HF hf8 hf9 e9 e0 hk9 hk0 hpo hbd hb1 HR0 HB0
  have p3 := HBX.out.cell 3
  simp only [List.getElem?_cons_succ, List.getElem?_cons_zero] at p3
  go_upto_region 2 with fail
  rw [← HW1.out]
  go_wp2
  go_loopw [22] (fun ii wr => ∃ k : Nat, k ≤ n9 ∧ ii = .int .i64 k ∧ Hid (∀ m ∈ fl.fc.ms.take k, m.name ≠ m0) ∧ Below W1.heap.size W1 wr) (fun ii _ => n9 - (intOf ii).toNat)
  case atStart => exact ⟨0, Nat.zero_le _, rfl, Lib.hid (by simp), Below.refl _ _⟩
  case round =>
    obtain ⟨k, hk, rfl, HA, hbr⟩ := hrel
    have hsr := hbr.size
    have HBR := Lib.hid hbr
    have HBZ : Hid (Below w.heap.size w wr) := Lib.hid (HBW.out.trans (hbr.mono HBW.out.size))
    by_cases hlt : k < n9
    · have hk0 : k < n0 := by have := HN90.out; omega
      obtain ⟨m, hm⟩ : ∃ m, fl.fc.ms[k]? = some m := ⟨_, List.getElem?_eq_getElem (by have := E9.out; omega)⟩
      obtain ⟨bd, hbdk⟩ : ∃ bd, fl.bd[k]? = some bd := ⟨_, List.getElem?_eq_getElem (by have := E0.out; omega)⟩
      obtain ⟨g2, o2, cs2, hg2, hcell2, am, nm, cm, rfl, _⟩ := HK9.out k m hm
      obtain ⟨g3, o3, cs3, hg3, hcell3, ac, nc, cc, rfl, hco⟩ := HK0.out k bd hbdk
      have hnc : nc = bd.co.length := hco.at.1
      have hbw1 : Below w1.heap.size w1 wr := HB1.out.trans (hbr.mono hsW)
      cases hg2
      cases hg3
      have k0 : wr.cell? ⟨g2, o2 + k * 5, none⟩ = some (.string m.name) := (hbw1.cell (World.block_lt_of_cell? _ _ (hcell2 0 _ rfl))).trans (hcell2 0 _ rfl)
      have k1 := (hbw1.cell (World.block_lt_of_cell? _ _ (hcell2 1 _ rfl))).trans (hcell2 1 _ rfl)
      have k2 := (hbw1.cell (World.block_lt_of_cell? _ _ (hcell2 2 _ rfl))).trans (hcell2 2 _ rfl)
      have k3 := (hbw1.cell (World.block_lt_of_cell? _ _ (hcell2 3 _ rfl))).trans (hcell2 3 _ rfl)
      have k4 := (hbw1.cell (World.block_lt_of_cell? _ _ (hcell2 4 _ rfl))).trans (hcell2 4 _ rfl)
      have hgl : g2 < wr.heap.size := World.block_lt_of_cell? _ _ k0
      have hbA := below1 wr (.cells #[.string m.name, .bool m.st, .slice am nm cm, .string m.rn, .bool m.ra] 51)
      have d0 : (wr.alloc (.cells #[.string m.name, .bool m.st, .slice am nm cm, .string m.rn, .bool m.ra] 51)).cell? ⟨g3, o3 + k * 3, none⟩ = some (.int .i64 bd.lo) := ((hbw1.trans (hbA.mono (hbw1.size))).cell (World.block_lt_of_cell? _ _ (hcell3 0 _ rfl))).trans (hcell3 0 _ rfl)
      have d1 := ((hbw1.trans (hbA.mono (hbw1.size))).cell (World.block_lt_of_cell? _ _ (hcell3 1 _ rfl))).trans (hcell3 1 _ rfl)
      have d2 := ((hbw1.trans (hbA.mono (hbw1.size))).cell (World.block_lt_of_cell? _ _ (hcell3 2 _ rfl))).trans (hcell3 2 _ rfl)
      have hgl3 : g3 < (wr.alloc (.cells #[.string m.name, .bool m.st, .slice am nm cm, .string m.rn, .bool m.ra] 51)).heap.size := World.block_lt_of_cell? _ _ d0
      have hbx := (HBX.out.below hbr).below hbA
      have b9 := hbx.cell 9
      simp only [List.getElem?_cons_zero, List.getElem?_cons_succ] at b9
      have hrr := (HR1.out.below hbr).below hbA
      have r0 := hrr.cell 0
      have r1 := hrr.cell 1
      have r2 := hrr.cell 2
      simp only [List.getElem?_cons_zero, List.getElem?_cons_succ] at r0 r1 r2
      have f0 := hrr.frozen 0
      have f1 := hrr.frozen 1
      have f2 := hrr.frozen 2
      have hrl := hrr.lt
      have HRR := Lib.hid hrr
      have HBA := Lib.hid hbA
      have HMM := Lib.hid hm
      have HBK := Lib.hid hbdk
      clear hcell2 hcell3 hm hbdk hco hbw1 hbA hbx hrr hbr
      by_cases hn : m.name = m0
      · have tn := teq hn
        have HO : Hid (bdyF fl m0 = some bd) := Lib.hid (by unfold bdyF; rw [ix_at HMM.out hn HA.out]; exact HBK.out)
        subst hnc
        clear hn
        go_wp2
        obtain ⟨hZ, hM⟩ := out3 (.int .i64 bd.lo) (.int .i64 bd.st) (.slice ac bd.co.length cc) HRR.out
        have z0 := hZ.cell 0
        have z1 := hZ.cell 1
        have z2 := hZ.cell 2
        simp only [List.getElem?_cons_zero, List.getElem?_cons_succ] at z0 z1 z2
        have HBF := Lib.hid (HBZ.out.trans ((HBA.out.mono HBZ.out.size).trans (hM.below (B := w.heap.size) (fun k e => by omega) (by simp; omega))))
        refine bodyPost_ret (v := .tuple #[.agg #[.int .i64 bd.lo, .int .i64 bd.st, .slice ac bd.co.length cc], .bool true]) (by simp [results, Tryd.results13, go_sem, z0, z1, z2]) rfl ?_
        exact ⟨ac, cc, by rw [HO.out]; rfl, HBF.out⟩
      · have tn := tne hn
        have HA2 := Lib.hid (all_snoc (P := fun m : Sg => m.name ≠ m0) HMM.out HA.out hn)
        clear hn
        go_wp2
        go_roundw
        case rel => exact ⟨k + 1, by omega, by go_num, HA2, HBR.out.trans ((below1 wr _).mono hsr)⟩
        case measure => simp [intOf]; omega
    · have HO : Hid (bdyF fl m0 = none) := Lib.hid (by unfold bdyF; rw [ix_no (by have h := HA.out; rw [List.take_of_length_le (by have := E9.out; omega)] at h; exact h)]; rfl)
      have hrr := HR1.out.below hbr
      have r0 := hrr.cell 0
      have r1 := hrr.cell 1
      have r2 := hrr.cell 2
      simp only [List.getElem?_cons_zero, List.getElem?_cons_succ] at r0 r1 r2
      have f0 := hrr.frozen 0
      have f1 := hrr.frozen 1
      have f2 := hrr.frozen 2
      have hrl := hrr.lt
      have HRR := Lib.hid hrr
      clear hrr
      go_wp2
      obtain ⟨hZ, hM⟩ := out3 (.int .i64 0) (.int .i64 0) (.slice none 0 0) HRR.out
      have z0 := hZ.cell 0
      have z1 := hZ.cell 1
      have z2 := hZ.cell 2
      simp only [List.getElem?_cons_zero, List.getElem?_cons_succ] at z0 z1 z2
      have HBF := Lib.hid (HBZ.out.trans (hM.below (B := w.heap.size) (fun k e => by omega) HBZ.out.size))
      refine bodyPost_ret (v := .tuple #[.agg #[.int .i64 0, .int .i64 0, .slice none 0 0], .bool false]) (by simp [results, Tryd.results13, go_sem, z0, z1, z2]) rfl ?_
      exact ⟨none, 0, by rw [HO.out]; rfl, HBF.out⟩
end Go.Proofs.YthimpjfmelmhpaaDoor.Fc
