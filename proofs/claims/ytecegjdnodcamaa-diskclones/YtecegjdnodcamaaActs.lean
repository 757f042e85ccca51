/-
  Acts that come in; few of them.
-/
import Derived.Test.YtecegjdnodcamaaSame
import Derived.Test.YtecegjdnodcamaaOpen
import Derived.Deep.Slices
import Derived.Deep.Strs
namespace Go.Proofs.Ytecegjdnodcamaa
open Go.RowKit Go.ChangeShapes Go.WideShapes

/-- the five cells of an act at an address -/
def ActAt (w : World) (p : Addr) (a : ActD) : Prop :=
  w.cell? p = some (.int .i64 a.K) ∧ w.cell? ⟨p.block, p.off + 1, none⟩ = some (.int .i64 a.N) ∧ w.cell? ⟨p.block, p.off + 2, none⟩ = some (.string a.name) ∧ w.cell? ⟨p.block, p.off + 3, none⟩ = some (.string a.to_) ∧ w.cell? ⟨p.block, p.off + 4, none⟩ = some (.string a.text)
/-- a slice of acts that came in -/
def AArg (w : World) (A : Option Addr) (l : List ActD) : Prop := l = [] ∨ ∃ ad : Addr, A = some ad ∧ ad.block < w.heap.size ∧ ∀ i (h : i < l.length), ActAt w (ad.add (i * 5)) l[i]
theorem ActAt.keep {w w' : World} {p : Addr} {a : ActD} (h : ActAt w p a) (hb : Below w.heap.size w w') (hp : p.block < w.heap.size) : ActAt w' p a :=
  ⟨(hb.cell hp).trans h.1, (hb.cell (p := ⟨p.block, p.off + 1, none⟩) hp).trans h.2.1, (hb.cell (p := ⟨p.block, p.off + 2, none⟩) hp).trans h.2.2.1, (hb.cell (p := ⟨p.block, p.off + 3, none⟩) hp).trans h.2.2.2.1, (hb.cell (p := ⟨p.block, p.off + 4, none⟩) hp).trans h.2.2.2.2⟩
theorem AArg.at_ {w w' : World} {A : Option Addr} {l : List ActD} (h : AArg w A l) (hb : Below w.heap.size w w') (i : Nat) (hi : i < l.length) : ∃ ad, A = some ad ∧ ActAt w' (ad.add (i * 5)) l[i] := by
  rcases h with h | ⟨ad, e, hlt, hc⟩
  · subst h; simp at hi
  · exact ⟨ad, e, (hc i hi).keep hb (by rw [add_block]; exact hlt)⟩
theorem AArg.keep {w w' : World} {A : Option Addr} {l : List ActD} (h : AArg w A l) (hb : Below w.heap.size w w') : AArg w' A l := by
  rcases h with h | ⟨ad, e, hlt, hc⟩
  · exact .inl h
  · exact .inr ⟨ad, e, Nat.lt_of_lt_of_le hlt hb.size, fun i hi => (hc i hi).keep hb (by rw [add_block]; exact hlt)⟩

theorem cells?_five {w : World} {base : Nat} {a : Addr} {cs : List Value} (h : w.cells? base a 5 = some cs) :
    ∃ u x y z t, cs = [u, x, y, z, t] ∧ w.cell? a = some u ∧ w.cell? ⟨a.block, a.off + 1, none⟩ = some x ∧ w.cell? ⟨a.block, a.off + 2, none⟩ = some y ∧ w.cell? ⟨a.block, a.off + 3, none⟩ = some z ∧ w.cell? ⟨a.block, a.off + 4, none⟩ = some t := by
  unfold World.cells? at h
  split at h
  · have e : (List.range 5) = [0, 1, 2, 3, 4] := rfl
    rw [e] at h
    simp only [List.mapM_cons, List.mapM_nil, Option.bind_eq_bind, Option.bind_eq_some_iff, Option.pure_def] at h
    obtain ⟨u, hu, us, ⟨x, hx, xs, ⟨y, hy, ys, ⟨z, hz, zs, ⟨t, ht, ts, hts, h5⟩, h4⟩, h3⟩, h2⟩, h1⟩ := h
    simp only [Option.some.injEq] at hts h5 h4 h3 h2 h1
    subst hts h5 h4 h3 h2 h1
    exact ⟨u, x, y, z, t, rfl, by simpa [Addr.add] using hu, by simpa [Addr.add] using hx, by simpa [Addr.add] using hy, by simpa [Addr.add] using hz, by simpa [Addr.add] using ht⟩
  · cases h

theorem arg_acts {H : Type} {enc : TypeId × Value → H} {w : World} {held : Bool} {fuel : Nat} {A : Option Addr} {len cap : Nat} {x : DataW H × List MemPlace}
    (h : DataW.trod enc Try.prog w 0 (fun _ => true) held fuel 22 [.slice A len cap] = some x) :
    ∃ l : List ActD, l.length = len ∧ AArg w A l ∧ (∀ a ∈ l, a.N ≤ 9223372036854775807 ∧ a.name.size ≤ maxLen ∧ a.to_.size ≤ maxLen ∧ a.text.size ≤ maxLen) ∧ len ≤ maxLen := by
  have hc30 : Try.prog.cellsOf 30 = 5 := by kernel_rfl
  have hc3 : Try.prog.cellsOf 3 = 1 := by kernel_rfl
  have hc9 : Try.prog.cellsOf 9 = 1 := by kernel_rfl
  rcases Deep.open_slice Try.underlying22 h with ⟨hcs, _⟩ | ⟨a, l, c, m, n, D, Pl, hcs, _, hl, hm, hmm, _, hel⟩
  · simp at hcs
    obtain ⟨rfl, rfl, rfl⟩ := hcs
    exact ⟨[], rfl, .inl rfl, by simp, by simp⟩
  · simp at hcs
    obtain ⟨rfl, rfl, rfl⟩ := hcs
    simp only [if_true] at hmm
    have each : ∀ i, i < len → ∃ p : ActD, ActAt w (a.add (i * 5)) p ∧ p.N ≤ 9223372036854775807 ∧ p.name.size ≤ maxLen ∧ p.to_.size ≤ maxLen ∧ p.text.size ≤ maxLen := by
      intro i hi
      obtain ⟨cs', hcs', hd⟩ := hel i (by omega)
      rw [hc30] at hcs'
      obtain ⟨u, v, y, z, t, rfl, h0, h1, h2, h3, h4⟩ := cells?_five hcs'
      obtain ⟨xs, n', _, _, _, hxl, hf⟩ := DataW.trod_struct Try.underlying30 hd
      have t0 : DataW.trod enc Try.prog w 0 (fun _ => true) _ n' 3 (([u, v, y, z, t].drop 0).take (Try.prog.cellsOf 3)) = xs[0]? := hf 0 _ rfl
      have t1 : DataW.trod enc Try.prog w 0 (fun _ => true) _ n' 3 (([u, v, y, z, t].drop 1).take (Try.prog.cellsOf 3)) = xs[1]? := hf 1 _ rfl
      have t2 : DataW.trod enc Try.prog w 0 (fun _ => true) _ n' 9 (([u, v, y, z, t].drop 2).take (Try.prog.cellsOf 9)) = xs[2]? := hf 2 _ rfl
      have t3 : DataW.trod enc Try.prog w 0 (fun _ => true) _ n' 9 (([u, v, y, z, t].drop 3).take (Try.prog.cellsOf 9)) = xs[3]? := hf 3 _ rfl
      have t4 : DataW.trod enc Try.prog w 0 (fun _ => true) _ n' 9 (([u, v, y, z, t].drop 4).take (Try.prog.cellsOf 9)) = xs[4]? := hf 4 _ rfl
      rw [hc3] at t0 t1
      rw [hc9] at t2 t3 t4
      simp only [List.drop_zero, List.take_succ_cons, List.take_zero, List.drop_succ_cons] at t0 t1 t2 t3 t4
      have hx : xs.length = 5 := hxl
      rw [List.getElem?_eq_getElem (show 0 < xs.length by omega)] at t0
      rw [List.getElem?_eq_getElem (show 1 < xs.length by omega)] at t1
      rw [List.getElem?_eq_getElem (show 2 < xs.length by omega)] at t2
      rw [List.getElem?_eq_getElem (show 3 < xs.length by omega)] at t3
      rw [List.getElem?_eq_getElem (show 4 < xs.length by omega)] at t4
      obtain ⟨k0, e0, _, wk⟩ := DataW.trod_int Try.underlying3 t0
      obtain ⟨n0, e1, _, wn⟩ := DataW.trod_int Try.underlying3 t1
      obtain ⟨s2, e2, _, w2⟩ := DataW.trod_string Try.underlying9 t2
      obtain ⟨s3, e3, _, w3⟩ := DataW.trod_string Try.underlying9 t3
      obtain ⟨s4, e4, _, w4⟩ := DataW.trod_string Try.underlying9 t4
      simp only [List.cons.injEq, and_true] at e0 e1 e2 e3 e4
      subst e0 e1 e2 e3 e4
      exact ⟨⟨k0, n0, s2, s3, s4⟩, ⟨h0, h1, h2, h3, h4⟩, (bounds_i64 wn).2, w2, w3, w4⟩
    have : Inhabited ActD := ⟨⟨0, 0, ByteArray.empty, ByteArray.empty, ByteArray.empty⟩⟩
    obtain ⟨f, hf⟩ := Deep.choose_lt each
    refine ⟨(List.range len).map f, by simp, ?_, ?_, by omega⟩
    · rcases Nat.eq_zero_or_pos len with h0 | h0
      · subst h0; exact .inl (by simp)
      · refine .inr ⟨a, rfl, ?_, fun i hi => ?_⟩
        · have := block_lt_of_cell (hf 0 h0).1.1
          rwa [add_block] at this
        · have hi' : i < len := by simpa using hi
          simp only [List.getElem_map, List.getElem_range]
          exact (hf i hi').1
    · intro p hp
      simp only [List.mem_map, List.mem_range] at hp
      obtain ⟨i, hi, rfl⟩ := hp
      exact (hf i hi).2

def shortB (a : ActD) : Bool := decide (a.text.size ≤ 100) && (decide (a.name.size ≤ 100) && decide (a.to_.size ≤ 100))
def fewB (l : List ActD) : Bool := l.all shortB && decide (l.length ≤ 40)

set_option maxHeartbeats 1600000 in
set_option maxRecDepth 100000 in
theorem few_any (l : List ActD) (A : Option Addr) (c : Nat) (w : World) (hA : AArg w A l) (hl : l.length ≤ maxLen) :
    Calls Try.prog 12 #[.slice A l.length c] w fun e w' => e = .returned (.bool (fewB l)) ∧ Below w.heap.size w w' := by
  unfold maxLen at hl
  go_enter Try.func12, Try.ntmps12
  go_wp2
  go_loopw [7] (fun i wr => ∃ k : Nat, i = .int .i64 k ∧ k ≤ l.length ∧ ((l.take k).all shortB = true) ∧ Below w.heap.size w wr) (fun i _ => l.length - (intOf i).toNat)
  case atStart => exact ⟨0, rfl, by omega, by simp, Below.refl _ _⟩
  case round =>
    obtain ⟨k, rfl, hk, hall, hbk⟩ := hrel
    have HALL := Lib.hid hall
    clear hall
    by_cases hkl : k < l.length
    · obtain ⟨ad, rfl, c0, c1, c2, c3, c4⟩ := hA.at_ hbk k hkl
      obtain ⟨a, HP⟩ : ∃ a, Hid (a = l[k]) := ⟨_, Lib.hid rfl⟩
      rw [← HP.out] at c0 c1 c2 c3 c4
      have HBA := Lib.hid (hbk.alloc hbk.size (.cells #[.int .i64 a.K, .int .i64 a.N, .string a.name, .string a.to_, .string a.text] 30))
      have HF : Hid (shortB a = false → fewB l = false) := Lib.hid (fun hf => by
        unfold fewB
        rw [Bool.and_eq_false_iff]
        left
        rw [List.all_eq_false]
        exact ⟨l[k], List.getElem_mem hkl, by rw [← HP.out, hf]; simp⟩)
      have HT : Hid (shortB a = true → (l.take (k + 1)).all shortB = true) := Lib.hid (fun hf => by
        rw [List.take_succ_eq_append_getElem hkl, List.all_append, HALL.out, ← HP.out]
        simp [hf])
      clear hA
      by_cases h1 : 100 < a.text.size
      · have d1 : decide ((100 : Int) < (a.text.size : Int)) = true := decide_eq_true (by omega)
        have HE := Lib.hid (HF.out (by unfold shortB; simp; omega))
        go_wp2
        go_ret
        rw [HE.out]
        exact ⟨rfl, HBA.out⟩
      · have d1 : decide ((100 : Int) < (a.text.size : Int)) = false := decide_eq_false (by omega)
        by_cases h2 : 100 < a.name.size
        · have d2 : decide ((100 : Int) < (a.name.size : Int)) = true := decide_eq_true (by omega)
          have HE := Lib.hid (HF.out (by unfold shortB; simp; omega))
          go_wp2
          go_ret
          rw [HE.out]
          exact ⟨rfl, HBA.out⟩
        · have d2 : decide ((100 : Int) < (a.name.size : Int)) = false := decide_eq_false (by omega)
          by_cases h3 : 100 < a.to_.size
          · have d3 : decide ((100 : Int) < (a.to_.size : Int)) = true := decide_eq_true (by omega)
            have HE := Lib.hid (HF.out (by unfold shortB; simp; omega))
            go_wp2
            go_ret
            rw [HE.out]
            exact ⟨rfl, HBA.out⟩
          · have d3 : decide ((100 : Int) < (a.to_.size : Int)) = false := decide_eq_false (by omega)
            have HE := Lib.hid (HT.out (by unfold shortB; simp; omega))
            go_wp2
            go_roundw
            case rel => exact ⟨k + 1, by go_num, by omega, HE.out, HBA.out⟩
            case measure => simp [intOf]; omega
    · have HF : Hid (fewB l = decide (l.length ≤ 40)) := Lib.hid (by
        have := HALL.out
        rw [List.take_of_length_le (by omega)] at this
        unfold fewB
        rw [this, Bool.true_and])
      go_wp2
      go_ret
      rw [HF.out]
      exact ⟨by congr 2; simp; omega, hbk⟩

theorem few_small {l : List ActD} (h : fewB l = true) (hb : ∀ a ∈ l, a.N ≤ 9223372036854775807) : l.length ≤ 40 ∧ ∀ a ∈ l, a.small := by
  unfold fewB at h
  rw [Bool.and_eq_true, List.all_eq_true] at h
  refine ⟨of_decide_eq_true h.2, fun a ha => ?_⟩
  have := h.1 a ha
  unfold shortB at this
  simp only [Bool.and_eq_true, decide_eq_true_eq] at this
  exact ⟨this.2.1, this.2.2, this.1, hb a ha⟩

end Go.Proofs.Ytecegjdnodcamaa
