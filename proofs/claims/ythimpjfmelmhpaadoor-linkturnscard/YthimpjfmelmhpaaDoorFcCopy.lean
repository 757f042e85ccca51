/-
  A face that shares no list with another one.
-/
import Derived.Test.YthimpjfmelmhpaaDoorFcClone
import Derived.Deep.RegionHeld
import Derived.Deep.QuietTactic
namespace Go.Proofs.YthimpjfmelmhpaaDoor.Fc
open Go.RowKit
set_option linter.unusedVariables false

/-- A cell that holds a slice is written: types are as they were. -/
theorem tys_set {w : World} {xs : List Ty} {v u : Value} {p : Addr} {a : Option Addr} {n c : Nat} (h : Sl w 2 TyR xs v) (hp : w.cell? p = some (.slice a n c)) : Sl (w.setCell p u) 2 TyR xs v := by
  obtain ⟨a, cap, e, hl, hc, hk⟩ := h
  refine ⟨a, cap, e, hl, hc, fun i t hi => ?_⟩
  obtain ⟨b, o, cs, ea, hcell, hq⟩ := hk i t hi
  refine ⟨b, o, cs, ea, fun j v hv => ?_, hq⟩
  have h1 := hcell j v hv
  rw [World.cell?_setCell_other w _ _ u (fun e' => by
    rw [← e', hp] at h1
    rw [hq] at hv
    have hm := List.mem_of_getElem? hv
    simp at hm
    rcases hm with rfl | rfl <;> simp at h1)]
  exact h1
/-- Fields, too. -/
theorem vrs_set {w : World} {xs : List Vr} {v u : Value} {p : Addr} {a : Option Addr} {n c : Nat} (h : Sl w 3 VrR xs v) (hp : w.cell? p = some (.slice a n c)) : Sl (w.setCell p u) 3 VrR xs v := by
  obtain ⟨a, cap, e, hl, hc, hk⟩ := h
  refine ⟨a, cap, e, hl, hc, fun i t hi => ?_⟩
  obtain ⟨b, o, cs, ea, hcell, hq⟩ := hk i t hi
  refine ⟨b, o, cs, ea, fun j v hv => ?_, hq⟩
  have h1 := hcell j v hv
  rw [World.cell?_setCell_other w _ _ u (fun e' => by
    rw [← e', hp] at h1
    rw [hq] at hv
    have hm := List.mem_of_getElem? hv
    simp at hm
    rcases hm with rfl | rfl | rfl <;> simp at h1)]
  exact h1
/-- The parameters of one method are written. -/
theorem sgs_set {q : Nat → Prop} {w : World} {xs : List Sg} {g n cap k : Nat} {x : Sg} {a : Option Addr} {m c : Nat} (h : Sl w 5 (SgA q w) xs (.slice (some ⟨g, 0, none⟩) n cap)) (hx : xs[k]? = some x) (hs : Sl w 2 TyR x.ps (.slice a m c)) (hq : ∀ ad, a = some ad → m ≠ 0 → q ad.block) :
    Sl (w.setCell ⟨g, k * 5 + 2, none⟩ (.slice a m c)) 5 (SgA q (w.setCell ⟨g, k * 5 + 2, none⟩ (.slice a m c))) xs (.slice (some ⟨g, 0, none⟩) n cap) := by
  obtain ⟨hn, hl, hc, hk⟩ := h.at
  obtain ⟨b, o, cs, ea, hcell, a0, n0, c0, rfl, h0, _⟩ := hk k x hx
  cases ea
  have hp : w.cell? ⟨g, k * 5 + 2, none⟩ = some (.slice a0 n0 c0) := by have := hcell 2 _ rfl; rwa [Nat.zero_add] at this
  refine ⟨some ⟨g, 0, none⟩, cap, by rw [hn], by omega, hc, fun i y hi => ?_⟩
  by_cases e : i = k
  · subst e
    obtain rfl : x = y := Option.some.inj (hx.symm.trans hi)
    refine ⟨g, 0, [.string x.name, .bool x.st, .slice a m c, .string x.rn, .bool x.ra], rfl, fun j v hv => ?_, a, m, c, rfl, tys_set hs hp, hq⟩
    rw [Nat.zero_add]
    by_cases ej : j = 2
    · subst ej
      simp at hv
      subst hv
      exact World.cell?_setCell_same w _ _ (by rw [hp])
    · rw [World.cell?_setCell_other w _ _ _ (fun e' => ej (by have := congrArg Addr.off e'; simp at this; omega))]
      have hj : ([.string x.name, .bool x.st, .slice a0 n0 c0, .string x.rn, .bool x.ra] : List Value)[j]? = some v := by
        match j, ej, hv with
        | 0, _, hv => exact hv
        | 1, _, hv => exact hv
        | 2, ej, _ => exact absurd rfl ej
        | 3, _, hv => exact hv
        | 4, _, hv => exact hv
      have := hcell j v hj
      rwa [Nat.zero_add] at this
  · obtain ⟨b', o', cs', ea', hcell', a1, n1, c1, rfl, h1, h1'⟩ := hk i y hi
    cases ea'
    refine ⟨g, 0, _, rfl, fun j v hv => ?_, a1, n1, c1, rfl, tys_set h1 hp, h1'⟩
    have hj : j < 5 := (List.getElem?_eq_some_iff.1 hv).1
    rw [World.cell?_setCell_other w _ _ _ (fun e' => e (by have := congrArg Addr.off e'; simp at this; omega))]
    exact hcell' j v hv

/-- A face whose lists lie in blocks of this kind. -/
def FcA (Q : Nat → Prop) (W : World) (f : Fc) (cs : List Value) : Prop := ∃ a n c a' n' c', cs = [.string f.name, .string f.sup, .slice a n c, .slice a' n' c'] ∧ Sl W 3 VrR f.fs (.slice a n c) ∧ Sl W 5 (SgA Q W) f.ms (.slice a' n' c') ∧ (∀ ad, a = some ad → n ≠ 0 → Q ad.block) ∧ (∀ ad, a' = some ad → n' ≠ 0 → Q ad.block)
theorem FcA.fc {Q : Nat → Prop} {W : World} {f : Fc} {cs : List Value} (h : FcA Q W f cs) : FcR W f cs := by
  obtain ⟨a, n, c, a', n', c', e, h1, h2, _⟩ := h
  exact ⟨a, n, c, a', n', c', e, h1, h2.mono (Keeps.refl _) (fun _ _ h => ⟨h.sg, h.sg.pl⟩)⟩
theorem sgsA_in {Q : Nat → Prop} {w : World} {xs : List Sg} {v : Value} (h : Sl w 5 (SgA Q w) xs v) : Sl w 5 (SgA (fun b => Q b ∧ b ≠ w.heap.size + 1) w) xs v :=
  h.mono (Keeps.refl _) (fun _ _ h => ⟨by
    obtain ⟨a, n, c, e, h', hq⟩ := h
    exact ⟨a, n, c, e, h', fun ad ha hn => ⟨hq ad ha hn, by have := h'.lt (fun x cs h => ⟨.string x.n, by rw [h]; rfl⟩) ad ha hn; omega⟩⟩, h.sg.pl⟩)

/-- A cell elsewhere that holds a slice is written. -/
theorem sgs_far {q : Nat → Prop} {w : World} {xs : List Sg} {a : Option Addr} {n cap : Nat} {p : Addr} {u : Value} {a0 : Option Addr} {n0 c0 : Nat} (h : Sl w 5 (SgA q w) xs (.slice a n cap)) (hp : w.cell? p = some (.slice a0 n0 c0)) (hne : ∀ ad, a = some ad → ad.block ≠ p.block) : Sl (w.setCell p u) 5 (SgA q (w.setCell p u)) xs (.slice a n cap) := by
  obtain ⟨hn, hl, hc, hk⟩ := h.at
  refine ⟨a, cap, by rw [hn], by omega, hc, fun i y hi => ?_⟩
  obtain ⟨b', o', cs', ea', hcell', a1, n1, c1, rfl, h1, h1'⟩ := hk i y hi
  exact ⟨b', o', _, ea', fun j v hv => (World.cell?_setCell_far w p ⟨b', o' + i * 5 + j, none⟩ u (fun e => hne _ ea' e.symm)).trans (hcell' j v hv), a1, n1, c1, rfl, tys_set h1 hp, h1'⟩

/-- A copy of a face under way. -/
structure CInv (Q : Nat → Prop) (w wr : World) (name sup : ByteArray) (fs : List Vr) (ms : List Sg) (a1 : Option Addr) (n1 c1 : Nat) (a2 : Option Addr) (n2 c2 : Nat) : Prop where
  box : Blk wr w.heap.size [.string name, .string sup, .slice a1 n1 c1, .slice a2 n2 c2] 35
  out : Blk wr (w.heap.size + 1) [.string ⟨#[]⟩, .string ⟨#[]⟩, .slice none 0 0, .slice none 0 0] 35
  fields : Sl wr 3 VrR fs (.slice a1 n1 c1)
  apart : ∀ ad, a1 = some ad → n1 ≠ 0 → Q ad.block ∧ ad.block ≠ w.heap.size + 1
  methods : Sl wr 5 (SgA (fun b => Q b ∧ b ≠ w.heap.size + 1) wr) ms (.slice a2 n2 c2)
  own : ∀ ad, a2 = some ad → ∃ b, ad = ⟨b, 0, none⟩ ∧ w.heap.size + 2 ≤ b ∧ ∃ cur, wr.heap[b]? = some (.cells cur 51 (0, 0))
  bel : Below w.heap.size w wr
theorem CInv.step {Q : Nat → Prop} {w wr w' : World} {name sup : ByteArray} {fs : List Vr} {ms : List Sg} {a1 : Option Addr} {n1 c1 : Nat} {g n2 c2 k : Nat} {x : Sg} {a : Option Addr} {m c : Nat} (h : CInv Q w wr name sup fs ms a1 n1 c1 (some ⟨g, 0, none⟩) n2 c2) (hb : Below wr.heap.size wr w') (hx : ms[k]? = some x) (hs : Sl w' 2 TyR x.ps (.slice a m c)) (hq : ∀ ad, a = some ad → m ≠ 0 → Q ad.block ∧ ad.block ≠ w.heap.size + 1) :
    CInv Q w (w'.setCell ⟨g, k * 5 + 2, none⟩ (.slice a m c)) name sup fs ms a1 n1 c1 (some ⟨g, 0, none⟩) n2 c2 := by
  obtain ⟨b, e, hg, cur, hcur⟩ := h.own _ rfl
  cases e
  have hm := sgsA_keep (Keeps.of_below hb) h.methods
  have hcg : w'.heap[g]? = some (.cells cur 51 (0, 0)) := (hb.block g (lt_of_block hcur)).trans hcur
  have hp : ∃ a0 n0 c0, w'.cell? ⟨g, k * 5 + 2, none⟩ = some (.slice a0 n0 c0) := by
    obtain ⟨_, _, _, hk⟩ := hm.at
    obtain ⟨b, o, cs, ea, hcell, a0, n0, c0, rfl, h0, _⟩ := hk k x hx
    cases ea
    exact ⟨a0, n0, c0, by have := hcell 2 _ rfl; rwa [Nat.zero_add] at this⟩
  obtain ⟨a0, n0, c0, hp⟩ := hp
  have hM : Mods (· = g) w' (w'.setCell ⟨g, k * 5 + 2, none⟩ (.slice a m c)) := (Mods.refl (· = g) _).setCell (p := ⟨g, k * 5 + 2, none⟩) (.inl rfl) _
  refine ⟨(h.box.below hb).keep hM (by omega), (h.out.below hb).keep hM (by omega), vrs_set (vrs_keep (Keeps.of_below hb) h.fields) hp, h.apart, sgs_set hm hx hs hq, fun ad e => ?_, (h.bel.trans (hb.mono h.bel.size)).trans (hM.below (fun k e => by omega) (Nat.le_trans h.bel.size hb.size))⟩
  cases e
  refine ⟨g, rfl, hg, cur.setIfInBounds (k * 5 + 2) (.slice a m c), ?_⟩
  simp [World.setCell, Array.getElem?_modify, hcg]

/-- A slice that doesn't lie in the one block that turns. -/
theorem Sl.off {α : Type} {W w : World} {q m : Nat} {R R' : α → List Value → Prop} {xs : List α} {a : Option Addr} {n c : Nat} (h : Sl W m R xs (.slice a n c)) (hM : Mods (· = q) W w) (hq : ∀ ad, a = some ad → n ≠ 0 → ad.block ≠ q) (hR : ∀ x cs, R x cs → R' x cs) : Sl w m R' xs (.slice a n c) := by
  obtain ⟨hn, hl, hc, hk⟩ := h.at
  refine ⟨a, c, by rw [hn], by omega, hc, fun i x hi => ?_⟩
  obtain ⟨b, o, cs, ea, hcell, hr⟩ := hk i x hi
  have hlen : i < xs.length := (List.getElem?_eq_some_iff.1 hi).1
  refine ⟨b, o, cs, ea, fun j v hv => ?_, hR _ _ hr⟩
  have h1 := hcell j v hv
  have hlt : b < W.heap.size := World.block_lt_of_cell? _ _ h1
  have h2 := hM.block b hlt (hq _ ea (by omega))
  simp only [World.cell?, h2]
  exact h1
theorem CInv.face {Q : Nat → Prop} {w wr w' : World} {name sup : ByteArray} {fs : List Vr} {ms : List Sg} {a1 : Option Addr} {n1 c1 : Nat} {a2 : Option Addr} {n2 c2 : Nat} (h : CInv Q w wr name sup fs ms a1 n1 c1 a2 n2 c2) (hQ : ∀ b, w.heap.size ≤ b → Q b) (hM : Mods (· = w.heap.size + 1) wr w') : FcA Q w' ⟨name, sup, fs, ms⟩ [.string name, .string sup, .slice a1 n1 c1, .slice a2 n2 c2] :=
  ⟨a1, n1, c1, a2, n2, c2, rfl, h.fields.off hM (fun ad e hn => (h.apart ad e hn).2) (fun _ _ h => h), h.methods.off hM (fun ad e _ => by obtain ⟨b, e', hb, _⟩ := h.own ad e; rw [e']; show b ≠ w.heap.size + 1; omega) (fun _ _ h => by
    obtain ⟨a, n, c, e, h1, h2⟩ := h
    exact ⟨a, n, c, e, h1.off hM (fun ad e hn => (h2 ad e hn).2) (fun _ _ h => h), fun ad e hn => (h2 ad e hn).1⟩), fun ad e hn => (h.apart ad e hn).1, fun ad e _ => by obtain ⟨b, e', hb, _⟩ := h.own ad e; rw [e']; exact hQ b (by omega)⟩

set_option maxHeartbeats 2000000 in
theorem clone32 (Q : Nat → Prop) (w : World) (name sup : ByteArray) (fs : List Vr) (ms : List Sg) (a1 : Option Addr) (n1 c1 : Nat) (a2 : Option Addr) (n2 c2 : Nat) (hQ : ∀ b, w.heap.size ≤ b → Q b) (h1 : Sl w 3 VrR fs (.slice a1 n1 c1)) (h2 : Sl w 5 (SgA Q w) ms (.slice a2 n2 c2)) (hl1 : n1 ≤ 1000) (hl2 : n2 ≤ 1000) (hps : ∀ m ∈ ms, m.ps.length ≤ 1000) :
    Calls Tryd.prog 43 #[.agg #[.string name, .string sup, .slice a1 n1 c1, .slice a2 n2 c2]] w fun e w' => ∃ cs, e = .returned (.agg cs.toArray) ∧ FcA Q w' ⟨name, sup, fs, ms⟩ cs ∧ Below w.heap.size w w' := by
  have H1 := Lib.hid h1
  have H2 := Lib.hid (sgsA_in h2)
  have HPS := Lib.hid hps
  clear h1 h2 hps
  go_enter Tryd.func43, Tryd.ntmps43
  go_wp2_with fail
  obtain ⟨w0, HW0⟩ : ∃ x, Hid (x = (w.alloc (.cells #[.string name, .string sup, .slice a1 n1 c1, .slice a2 n2 c2] 35)).alloc (.cells #[.string ⟨#[]⟩, .string ⟨#[]⟩, .slice none 0 0, .slice none 0 0] 35)) := ⟨_, Lib.hid rfl⟩
  have hB0 : Below w.heap.size w w0 := by rw [HW0.out]; exact below2 w _ _
  have hs0 : w0.heap.size = w.heap.size + 2 := by rw [HW0.out]; simp
  have K0 : Blk w0 w.heap.size [.string name, .string sup, .slice a1 n1 c1, .slice a2 n2 c2] 35 := by
    rw [HW0.out]
    exact (Blk.new w [.string name, .string sup, .slice a1 n1 c1, .slice a2 n2 c2] 35).below (below1 _ _)
  have J0 : Blk w0 (w.heap.size + 1) [.string ⟨#[]⟩, .string ⟨#[]⟩, .slice none 0 0, .slice none 0 0] 35 := by
    have := Blk.new (w.alloc (.cells #[.string name, .string sup, .slice a1 n1 c1, .slice a2 n2 c2] 35)) [.string ⟨#[]⟩, .string ⟨#[]⟩, .slice none 0 0, .slice none 0 0] 35
    rw [HW0.out]
    simpa using this
  rw [← HW0.out]
  refine (cloneV_any fs w0 a1 n1 c1 (vrs_keep (Keeps.of_below hB0) H1.out) hl1).mono ?_
  rintro e w1 ⟨a1', c1', rfl, hF, hO, hb1⟩
  have hs1 := hb1.size
  have K1 := K0.below hb1
  have J1 := J0.below hb1
  have hB1 : Below w.heap.size w w1 := hB0.trans (hb1.mono (by omega))
  clear HW0 K0 J0 hB0 hb1
  obtain ⟨x1, HX1⟩ : ∃ x, Hid (x = w1.setCell ⟨w.heap.size, 2, none⟩ (.slice a1' n1 c1')) := ⟨_, Lib.hid rfl⟩
  have p2 : w1.cell? ⟨w.heap.size, 2, none⟩ = some (.slice a1 n1 c1) := K1.cell 2
  have f2 := K1.frozen 2
  have L1 : Blk x1 w.heap.size [.string name, .string sup, .slice a1' n1 c1', .slice a2 n2 c2] 35 := by rw [HX1.out]; exact K1.set 2 _
  have M1 : Mods (· = w.heap.size) w1 x1 := by rw [HX1.out]; exact (Mods.refl (· = w.heap.size) _).setCell (p := ⟨w.heap.size, 2, none⟩) (.inl rfl) _
  have J2 := J1.keep M1 (by omega)
  have hB2 : Below w.heap.size w x1 := hB1.trans (M1.below (fun k e => by omega) hB1.size)
  have G1 : Hid (Sl x1 3 VrR fs (.slice a1' n1 c1')) := Lib.hid (by rw [HX1.out]; exact vrs_set hF p2)
  have hsx : x1.heap.size = w1.heap.size := by rw [HX1.out]; simp [World.setCell]
  have HL1 := Lib.hid L1
  have HJ2 := Lib.hid J2
  have q3 : (w1.setCell ⟨w.heap.size, 2, none⟩ (.slice a1' n1 c1')).cell? ⟨w.heap.size, 3, none⟩ = some (.slice a2 n2 c2) := (K1.set 2 _).cell 3
  have HA1 : Hid (∀ ad, a1' = some ad → n1 ≠ 0 → Q ad.block ∧ ad.block ≠ w.heap.size + 1) := Lib.hid (fun ad e _ => by obtain ⟨b, e', hb, _⟩ := hO ad e; rw [e']; exact ⟨hQ b (by omega), by show b ≠ w.heap.size + 1; omega⟩)
  clear hF K1 J1 J2 L1 M1 hO
  go_wp2_with fail
  rw [← HX1.out]
  refine (cloneS_any (fun b => Q b ∧ b ≠ w.heap.size + 1) ms x1 a2 n2 c2 (sgsA_keep (Keeps.of_below hB2) H2.out) hl2).mono ?_
  rintro e w2 ⟨a2', c2', rfl, hM, hO, hb2⟩
  have hs2 := hb2.size
  have K1 := HL1.out.below hb2
  have J1 := HJ2.out.below hb2
  have p3 : w2.cell? ⟨w.heap.size, 3, none⟩ = some (.slice a2 n2 c2) := K1.cell 3
  have f3 := K1.frozen 3
  have M1 : Mods (· = w.heap.size) w2 (w2.setCell ⟨w.heap.size, 3, none⟩ (.slice a2' n2 c2')) := (Mods.refl (· = w.heap.size) _).setCell (p := ⟨w.heap.size, 3, none⟩) (.inl rfl) _
  have HC : Hid (CInv Q w (w2.setCell ⟨w.heap.size, 3, none⟩ (.slice a2' n2 c2')) name sup fs ms a1' n1 c1' a2' n2 c2') := Lib.hid ⟨K1.set 3 _, J1.keep M1 (by omega), vrs_set (vrs_keep (Keeps.of_below hb2) G1.out) p3, HA1.out, sgs_far hM p3 (fun ad e => by obtain ⟨b, e', hb, _⟩ := hO ad e; rw [e']; show b ≠ w.heap.size; omega), fun ad e => by
    obtain ⟨b, e', hb, cur, hc⟩ := hO ad e
    exact ⟨b, e', by omega, cur, (M1.block b (lt_of_block hc) (by omega)).trans hc⟩, (hB2.trans (hb2.mono hB2.size)).trans (M1.below (fun k e => by omega) (by omega))⟩
  have q3' : (w2.setCell ⟨w.heap.size, 3, none⟩ (.slice a2' n2 c2')).cell? ⟨w.heap.size, 3, none⟩ = some (.slice a2' n2 c2') := (K1.set 3 _).cell 3
  clear hM hO K1 J1 M1 HX1 q3 p2 f2 G1 HL1 HJ2 hB1 hB2 hb2
  go_wp2
  go_loopw [15] (fun i wr => ∃ k : Nat, k ≤ n2 ∧ i = .int .i64 k ∧ Hid (CInv Q w wr name sup fs ms a1' n1 c1' a2' n2 c2')) (fun i _ => n2 - (intOf i).toNat)
  case atStart => exact ⟨0, Nat.zero_le _, rfl, HC⟩
  case round =>
    obtain ⟨k, hk1, rfl, HI⟩ := hrel
    by_cases hlt : k < n2
    · obtain ⟨hn, hl, hc, hkk⟩ := HI.out.methods.at
      unfold maxLen at hc
      obtain ⟨x, hxk⟩ : ∃ x, ms[k]? = some x := ⟨_, List.getElem?_eq_getElem (by omega)⟩
      obtain ⟨g, o', cs, ea, hcell, pa, pn, pc, rfl, hp, _⟩ := hkk k _ hxk
      obtain ⟨g', eg, hg, cur, hcur⟩ := HI.out.own _ ea
      cases eg
      subst ea
      have c3 : wr.cell? ⟨w.heap.size, 3, none⟩ = some (.slice (some ⟨g, 0, none⟩) n2 c2') := HI.out.box.cell 3
      have c2 : wr.cell? ⟨g, k * 5 + 2, none⟩ = some (.slice pa pn pc) := by have := hcell 2 _ rfl; rwa [Nat.zero_add] at this
      have hlb := HI.out.box.lt
      have hlo := HI.out.out.lt
      have hlg : g < wr.heap.size := lt_of_block hcur
      have hgne : g ≠ w.heap.size := by omega
      have HT := Lib.hid (cloneT_any _ wr.drew pa pn pc hp (by obtain ⟨e, _⟩ := hp.at; rw [e]; exact HPS.out _ (List.mem_of_getElem? hxk)))
      have HX := Lib.hid hxk
      clear hcell hkk hp hxk hn
      go_wp2
      refine wp_region_held_drew (S := fun w' => w'.cell? ⟨w.heap.size, 3, none⟩ = some (.slice (some ⟨g, 0, none⟩) n2 c2')) (by kernel_rfl) ?_ (fun hHeld => ?_)
      · exact c3
      refine wpAnyH_take (i := 0) (v := ?_) rfl (by kernel_rfl) (by kernel_rfl) (by kernel_rfl) (fun _ _ _ h => h) (Or.inl ⟨by rfl, ?_⟩) (by assumption) ?_
      rotate_left
      focus (intro w hSw; have hSw2 := hSw; go_simp; first | done | with_reducible rfl)
      simp only [Act.put, List.getElem_toArray, List.getElem_cons_zero, List.setIfInBounds_toArray, List.set_cons_zero, List.set_cons_succ]
      refine wpAnyH_take (i := 1) (v := ?_) rfl (by kernel_rfl) (by kernel_rfl) (by kernel_rfl) (fun _ _ _ h => h) (Or.inl ⟨by rfl, ?_⟩) (by assumption) ?_
      rotate_left
      focus (intro w hSw; have hSw2 := hSw; go_simp; first | done | with_reducible rfl)
      simp only [Act.put, List.getElem_toArray, List.getElem_cons_zero, List.getElem_cons_succ, List.setIfInBounds_toArray, List.set_cons_zero, List.set_cons_succ]
      refine wpAnyH_take (i := 2) (v := ?_) rfl (by kernel_rfl) (by kernel_rfl) (by kernel_rfl) (fun _ _ _ h => h) (Or.inl ⟨by rfl, ?_⟩) (by assumption) ?_
      rotate_left
      focus (intro w hSw; have hSw2 := hSw; go_simp; first | done | with_reducible rfl)
      simp only [Act.put, List.getElem_toArray, List.getElem_cons_zero, List.getElem_cons_succ, List.setIfInBounds_toArray, List.set_cons_zero, List.set_cons_succ]
      refine wpAnyH_take (i := 3) (v := ?_) rfl (by kernel_rfl) (by kernel_rfl) (by kernel_rfl) (fun _ _ _ h => h) (Or.inl ⟨by rfl, ?_⟩) (by assumption) ?_
      rotate_left
      focus (intro w hSw; have hSw2 := hSw; go_simp; first | done | with_reducible rfl)
      simp only [Act.put, List.getElem_toArray, List.getElem_cons_zero, List.getElem_cons_succ, List.setIfInBounds_toArray, List.set_cons_zero, List.set_cons_succ]
      refine wpAnyH_take (i := 4) (v := ?_) rfl (by kernel_rfl) (by kernel_rfl) (by kernel_rfl) (fun _ _ _ h => h) (Or.inl ⟨by rfl, ?_⟩) (by assumption) ?_
      rotate_left
      focus (intro w hSw; have hSw2 := hSw; go_simp; first | done | with_reducible rfl)
      simp only [Act.put, List.getElem_toArray, List.getElem_cons_zero, List.getElem_cons_succ, List.setIfInBounds_toArray, List.set_cons_zero, List.set_cons_succ]
      refine wpAnyH_take (i := 5) (v := ?_) rfl (by kernel_rfl) (by kernel_rfl) (by kernel_rfl) (fun _ _ _ h => h) (Or.inl ⟨by rfl, ?_⟩) (by assumption) ?_
      rotate_left
      focus (intro w hSw; have hSw2 := hSw; go_simp; first | done | with_reducible rfl)
      simp only [Act.put, List.getElem_toArray, List.getElem_cons_zero, List.getElem_cons_succ, List.setIfInBounds_toArray, List.set_cons_zero, List.set_cons_succ]
      refine wpAnyH_take (i := 6) (v := ?_) rfl (by kernel_rfl) (by kernel_rfl) (by kernel_rfl) (fun _ _ _ h => h) (Or.inl ⟨by rfl, ?_⟩) (by assumption) ?_
      rotate_left
      focus (intro w hSw; have hSw2 := hSw; go_simp; first | done | with_reducible rfl)
      simp only [Act.put, List.getElem_toArray, List.getElem_cons_zero, List.getElem_cons_succ, List.setIfInBounds_toArray, List.set_cons_zero, List.set_cons_succ]
      refine wpAnyH_take (i := 7) (v := ?_) rfl (by kernel_rfl) (by kernel_rfl) (by kernel_rfl) (fun _ _ _ h => h) (Or.inl ⟨by rfl, ?_⟩) (by assumption) ?_
      rotate_left
      focus (intro w hSw; have hSw2 := hSw; go_simp; first | done | with_reducible rfl)
      simp only [Act.put, List.getElem_toArray, List.getElem_cons_zero, List.getElem_cons_succ, List.setIfInBounds_toArray, List.set_cons_zero, List.set_cons_succ]
      refine wpAnyH_ready (rs := [8]) (by kernel_rfl) (by simp) ?_
      refine AllReadyH.cons (o := _) rfl (fun K hK => ?_) AllReadyH.nil
      go_simp
      refine hK.out _ _ hHeld (fun hHeld => ?_)
      clear hK K
      try simp only [Act.put, List.getElem_toArray, List.getElem_cons_zero, List.getElem_cons_succ, List.setIfInBounds_toArray, List.set_cons_zero, List.set_cons_succ]
      refine wpAnyH_ready (rs := [9]) (by kernel_rfl) (by simp) ?_
      refine AllReadyH.cons (o := _) rfl (fun K hK => ?_) AllReadyH.nil
      go_simp
      with_reducible refine (HT.out).mono ?_
      rintro e w3 ⟨pa', pc', rfl, hT3, hO3, hb3⟩
      have hb4 : Below wr.heap.size wr w3 := ⟨hb3.os, hb3.tape, hb3.output, hb3.size, hb3.block⟩
      have HO3 : Hid (∀ ad, pa' = some ad → pn ≠ 0 → Q ad.block ∧ ad.block ≠ w.heap.size + 1) := Lib.hid (fun ad e _ => by obtain ⟨b, e', hb, _⟩ := hO3 ad e; have hb' : wr.heap.size ≤ b := hb; rw [e']; exact ⟨hQ b (by omega), by show b ≠ w.heap.size + 1; omega⟩)
      clear hO3
      have r3 := (hb4.cell (p := ⟨w.heap.size, 3, none⟩) hlb).trans c3
      have g3 := (hb4.block g hlg).trans hcur
      have g2 := (hb4.cell (p := ⟨g, k * 5 + 2, none⟩) hlg).trans c2
      have g2f : w3.frozen? ⟨g, k * 5 + 2, none⟩ = false := by simp [World.frozen?, g3]
      have HT3 := Lib.hid hT3
      clear hT3
      go_simp
      refine hK.out _ _ r3 (fun hHeld => ?_)
      clear hK K
      try simp only [Act.put, List.getElem_toArray, List.getElem_cons_zero, List.getElem_cons_succ, List.setIfInBounds_toArray, List.set_cons_zero, List.set_cons_succ]
      refine wpAnyH_take (i := 10) (v := ?_) rfl (by kernel_rfl) (by kernel_rfl) (by kernel_rfl) (fun _ _ _ h => h) (Or.inl ⟨by rfl, ?_⟩) (by assumption) ?_
      rotate_left
      focus (intro w hSw; have hSw2 := hSw; go_simp; first | done | with_reducible rfl)
      simp only [Act.put, List.getElem_toArray, List.getElem_cons_zero, List.getElem_cons_succ, List.setIfInBounds_toArray, List.set_cons_zero, List.set_cons_succ]
      refine wpAnyH_take (i := 11) (v := ?_) rfl (by kernel_rfl) (by kernel_rfl) (by kernel_rfl) (fun _ _ _ h => h) (Or.inl ⟨by rfl, ?_⟩) (by assumption) ?_
      rotate_left
      focus (intro w hSw; have hSw2 := hSw; go_simp; first | done | with_reducible rfl)
      simp only [Act.put, List.getElem_toArray, List.getElem_cons_zero, List.getElem_cons_succ, List.setIfInBounds_toArray, List.set_cons_zero, List.set_cons_succ]
      refine wpAnyH_ready (rs := [12]) (by kernel_rfl) (by simp) ?_
      refine AllReadyH.cons (o := _) rfl (fun K hK => ?_) AllReadyH.nil
      go_simp
      refine hK.out _ _ ((World.cell?_setCell_far w3 ⟨g, k * 5 + 2, none⟩ ⟨w.heap.size, 3, none⟩ _ hgne).trans r3) (fun hHeld => ?_)
      clear hK K
      try simp only [Act.put, List.getElem_toArray, List.getElem_cons_zero, List.getElem_cons_succ, List.setIfInBounds_toArray, List.set_cons_zero, List.set_cons_succ]
      refine wpAnyH_done (by kernel_rfl) ?_ _
      have HC4 := Lib.hid (HI.out.step hb4 HX.out HT3.out HO3.out)
      clear HI HC HT HT3 HO3 r3 g3 g2 hb3 hHeld
      go_wp2
      go_roundw
      case rel => exact ⟨k + 1, by omega, by go_num, HC4⟩
      case measure => simp [intOf]; omega
    · have HB := Lib.hid HI.out.box
      have b0 : wr.cell? ⟨w.heap.size, 0, none⟩ = some (.string name) := HB.out.cell 0
      have b1 : wr.cell? ⟨w.heap.size, 1, none⟩ = some (.string sup) := HB.out.cell 1
      have b2 : wr.cell? ⟨w.heap.size, 2, none⟩ = some (.slice a1' n1 c1') := HB.out.cell 2
      have b3 : wr.cell? ⟨w.heap.size, 3, none⟩ = some (.slice a2' n2 c2') := HB.out.cell 3
      have hlb := HB.out.lt
      have HO := Lib.hid HI.out.out
      have o0 : wr.cell? ⟨w.heap.size + 1, 0, none⟩ = some (.string ⟨#[]⟩) := HO.out.cell 0
      have o1 : wr.cell? ⟨w.heap.size + 1, 1, none⟩ = some (.string ⟨#[]⟩) := HO.out.cell 1
      have o2 : wr.cell? ⟨w.heap.size + 1, 2, none⟩ = some (.slice none 0 0) := HO.out.cell 2
      have o3 : wr.cell? ⟨w.heap.size + 1, 3, none⟩ = some (.slice none 0 0) := HO.out.cell 3
      have g0 := HO.out.frozen 0
      have g1 := HO.out.frozen 1
      have g2 := HO.out.frozen 2
      have g3 := HO.out.frozen 3
      clear HC q3' p3 f3
      go_wp2
      have hB4 := ((((HO.out.set 0 (.string name)).set 1 (.string sup)).set 2 (.slice a1' n1 c1')).set 3 (.slice a2' n2 c2'))
      have M4 : Mods (· = w.heap.size + 1) wr ((((wr.setCell ⟨w.heap.size + 1, 0, none⟩ (.string name)).setCell ⟨w.heap.size + 1, 1, none⟩ (.string sup)).setCell ⟨w.heap.size + 1, 2, none⟩ (.slice a1' n1 c1')).setCell ⟨w.heap.size + 1, 3, none⟩ (.slice a2' n2 c2')) := ((((Mods.refl (· = w.heap.size + 1) wr).setCell (p := ⟨w.heap.size + 1, 0, none⟩) (.inl rfl) _).setCell (p := ⟨w.heap.size + 1, 1, none⟩) (.inl rfl) _).setCell (p := ⟨w.heap.size + 1, 2, none⟩) (.inl rfl) _).setCell (p := ⟨w.heap.size + 1, 3, none⟩) (.inl rfl) _
      have z0 := hB4.cell 0
      have z1 := hB4.cell 1
      have z2 := hB4.cell 2
      have z3 := hB4.cell 3
      simp at z0 z1 z2 z3
      refine bodyPost_ret (v := .agg #[.string name, .string sup, .slice a1' n1 c1', .slice a2' n2 c2']) (by simp [results, Tryd.results43, go_sem, z0, z1, z2, z3]) rfl ?_
      exact ⟨[.string name, .string sup, .slice a1' n1 c1', .slice a2' n2 c2'], rfl, HI.out.face hQ M4, HI.out.bel.trans (M4.below (fun k e => by omega) HI.out.bel.size)⟩
end Go.Proofs.YthimpjfmelmhpaaDoor.Fc
