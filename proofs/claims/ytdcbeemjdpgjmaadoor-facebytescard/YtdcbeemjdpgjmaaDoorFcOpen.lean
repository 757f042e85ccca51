/-
  Faces as they are read; the table of sha's constants.
-/
import Derived.Test.YtdcbeemjdpgjmaaDoorRows
import Derived.Test.YtdcbeemjdpgjmaaDoorFcHead
import Derived.WalkKit
import Derived.ProofKit
import Derived.OpenShut
import Derived.ShutString
import Derived.ChangeOld
import Derived.Below
import Derived.SizedLaws
import Derived.Lib.LaidTab
import Derived.Deep.Slices
import Derived.Deep.DeepHandedRow
import Derived.Stop.LaidErr
namespace Go.Proofs.YtdcbeemjdpgjmaaDoor.Fc
open Go.ChangeShapes Go.WideShapes Go.ChangeAt Go.RowKit
open Go.ChangeMaps (open_string shut_string)
set_option linter.unusedVariables false

theorem own : ownKnob Tryd.prog.godebug = none := by kernel_rfl
theorem laidOut : laidOutB Tryd.prog = true := by kernel_rfl
theorem gTab : Tryd.prog.globalNamed "kiln/sha.cubeRoots" = some 0 := by kernel_rfl
theorem gTabType : (Tryd.prog.globals[0]?).map (·.type) = some 137 := by kernel_rfl
theorem cells137 : Tryd.prog.cellsOf 137 = 64 := by kernel_rfl
theorem cells81 : Tryd.prog.cellsOf 81 = 1 := by kernel_rfl
def KI : List Int := [1116352408, 1899447441, 3049323471, 3921009573, 961987163, 1508970993, 2453635748, 2870763221, 3624381080, 310598401, 607225278, 1426881987, 1925078388, 2162078206, 2614888103, 3248222580, 3835390401, 4022224774, 264347078, 604807628, 770255983, 1249150122, 1555081692, 1996064986, 2554220882, 2821834349, 2952996808, 3210313671, 3336571891, 3584528711, 113926993, 338241895, 666307205, 773529912, 1294757372, 1396182291, 1695183700, 1986661051, 2177026350, 2456956037, 2730485921, 2820302411, 3259730800, 3345764771, 3516065817, 3600352804, 4094571909, 275423344, 430227734, 506948616, 659060556, 883997877, 958139571, 1322822218, 1537002063, 1747873779, 1955562222, 2024104815, 2227730452, 2361852424, 2428436474, 2756734187, 3204031479, 3329325298]
theorem KI_eq : KI = K.map (fun (n : Nat) => (n : Int)) := by decide
theorem laid_is {H : Type} : (Rows.laid_kiln_sha_cubeRoots : DataW H) = Lib.tabData .u32 KI := rfl
theorem table {W : World} (h : laidMetH Tryd.prog [("kiln/sha.cubeRoots", Rows.laid_kiln_sha_cubeRoots)] W) : Lib.TabIs Tryd.prog W "kiln/sha.cubeRoots" .u32 KI :=
  Lib.tabIs_of_head (rest := []) gTab gTabType Tryd.underlying137 Tryd.underlying81 cells81 cells137 h
theorem roots {W : World} (h : laidMetH Tryd.prog [("kiln/sha.cubeRoots", Rows.laid_kiln_sha_cubeRoots)] W) : RdW 0 W K := by
  intro i hi
  have hl : i < KI.length := hi
  have h1 := (table h).cell gTab i hl
  rw [h1, KI_eq]
  have hk : i < K.length := hi
  simp [List.getD, List.getElem?_eq_getElem hk]

noncomputable def laidWorld (os : Os) : World :=
  { World.holding Tryd.prog os ⟨#[], #[], []⟩ with heap := (World.holding Tryd.prog os ⟨#[], #[], []⟩).heap.modify 0 fun
      | .cells _ t frozen => .cells #[.int .u32 1116352408, .int .u32 1899447441, .int .u32 3049323471, .int .u32 3921009573, .int .u32 961987163, .int .u32 1508970993, .int .u32 2453635748, .int .u32 2870763221, .int .u32 3624381080, .int .u32 310598401, .int .u32 607225278, .int .u32 1426881987, .int .u32 1925078388, .int .u32 2162078206, .int .u32 2614888103, .int .u32 3248222580, .int .u32 3835390401, .int .u32 4022224774, .int .u32 264347078, .int .u32 604807628, .int .u32 770255983, .int .u32 1249150122, .int .u32 1555081692, .int .u32 1996064986, .int .u32 2554220882, .int .u32 2821834349, .int .u32 2952996808, .int .u32 3210313671, .int .u32 3336571891, .int .u32 3584528711, .int .u32 113926993, .int .u32 338241895, .int .u32 666307205, .int .u32 773529912, .int .u32 1294757372, .int .u32 1396182291, .int .u32 1695183700, .int .u32 1986661051, .int .u32 2177026350, .int .u32 2456956037, .int .u32 2730485921, .int .u32 2820302411, .int .u32 3259730800, .int .u32 3345764771, .int .u32 3516065817, .int .u32 3600352804, .int .u32 4094571909, .int .u32 275423344, .int .u32 430227734, .int .u32 506948616, .int .u32 659060556, .int .u32 883997877, .int .u32 958139571, .int .u32 1322822218, .int .u32 1537002063, .int .u32 1747873779, .int .u32 1955562222, .int .u32 2024104815, .int .u32 2227730452, .int .u32 2361852424, .int .u32 2428436474, .int .u32 2756734187, .int .u32 3204031479, .int .u32 3329325298] t frozen
      | o => o }


theorem cells_at {w : World} {base : Nat} {a : Addr} {n : Nat} {cs : List Value} (h : w.cells? base a n = some cs) : cs.length = n ∧ ∀ j v, cs[j]? = some v → w.cell? (a.add j) = some v := by
  unfold World.cells? at h
  split at h
  · have hl : cs.length = n := by simpa using Lib.mapM_length h
    refine ⟨hl, fun j v hv => ?_⟩
    have hj : j < n := by rw [← hl]; exact (List.getElem?_eq_some_iff.1 hv).1
    obtain ⟨b, hb, hf⟩ := Lib.mapM_at h j j (by simp [hj])
    rw [hb] at hv
    cases hv
    exact hf
  · cases h
theorem some_at {α : Type} {xs : List α} {i n : Nat} (h : xs.length = n) (hi : i < n) : ∃ x, xs[i]? = some x := ⟨xs[i], List.getElem?_eq_getElem (by omega)⟩
instance : Inhabited Fc := ⟨⟨⟨#[]⟩, ⟨#[]⟩, [], []⟩⟩

theorem list2 {cs : List Value} (h : cs.length = 2) : ∃ v0 v1, cs = [v0, v1] := by
  match cs, h with
  | [v0, v1], _ => exact ⟨v0, v1, rfl⟩
theorem list3 {cs : List Value} (h : cs.length = 3) : ∃ v0 v1 v2, cs = [v0, v1, v2] := by
  match cs, h with
  | [v0, v1, v2], _ => exact ⟨v0, v1, v2, rfl⟩
theorem list4 {cs : List Value} (h : cs.length = 4) : ∃ v0 v1 v2 v3, cs = [v0, v1, v2, v3] := by
  match cs, h with
  | [v0, v1, v2, v3], _ => exact ⟨v0, v1, v2, v3, rfl⟩
theorem list5 {cs : List Value} (h : cs.length = 5) : ∃ v0 v1 v2 v3 v4, cs = [v0, v1, v2, v3, v4] := by
  match cs, h with
  | [v0, v1, v2, v3, v4], _ => exact ⟨v0, v1, v2, v3, v4, rfl⟩
theorem c4 : Tryd.prog.cellsOf 4 = 1 := by kernel_rfl
theorem c9 : Tryd.prog.cellsOf 9 = 1 := by kernel_rfl
theorem c22 : Tryd.prog.cellsOf 22 = 1 := by kernel_rfl
theorem c23 : Tryd.prog.cellsOf 23 = 1 := by kernel_rfl
theorem c25 : Tryd.prog.cellsOf 25 = 4 := by kernel_rfl
theorem c45 : Tryd.prog.cellsOf 45 = 2 := by kernel_rfl
theorem c66 : Tryd.prog.cellsOf 66 = 1 := by kernel_rfl
theorem c68 : Tryd.prog.cellsOf 68 = 5 := by kernel_rfl
theorem c58 : Tryd.prog.cellsOf 58 = 3 := by kernel_rfl

variable {H : Type} {enc : TypeId × Value → H} {w : World} {held : Bool}

/-- A slice of structs of n cells, each of which is read as a datum. -/
theorem trod_sl {α : Type} [Inhabited α] {t e : TypeId} {n : Nat} {R : α → List Value → Prop} (ht : Tryd.prog.underlying t = some (.slice e)) (hc : Tryd.prog.cellsOf e = n) (hn : 0 < n) {fuel : Nat} {v : Value} {x : DataW H × List MemPlace}
    (ih : ∀ m, m < fuel → ∀ {cs : List Value} {x : DataW H × List MemPlace}, DataW.trod enc Tryd.prog w 0 (fun _ => true) held m e cs = some x → ∃ y, R y cs ∧ cs.length = n)
    (h : DataW.trod enc Tryd.prog w 0 (fun _ => true) held fuel t [v] = some x) : ∃ xs, Sl w n R xs v := by
  rcases DataW.trod_slice ht h with ⟨hcs, _⟩ | ⟨a, len, cap, elems, rest, m, rfl, hcs, _, _, hl, hm, hlen, hel, _, _⟩
  · simp at hcs
    subst hcs
    exact ⟨[], Sl.nil _ _ _⟩
  · simp at hcs
    subst hcs
    rw [hc] at hel
    have each : ∀ i, i < len → ∃ p : α × List Value, (∀ j v, p.2[j]? = some v → w.cell? ((a.add (i * n)).add j) = some v) ∧ R p.1 p.2 ∧ p.2.length = n := by
      intro i hi
      have h1 := hel i hi
      rw [List.getElem?_eq_getElem (by omega)] at h1
      obtain ⟨cs', hcs', hd⟩ := Option.bind_eq_some_iff.1 h1
      obtain ⟨y, hy, hl⟩ := ih m (by omega) hd
      exact ⟨(y, cs'), (cells_at hcs').2, hy, hl⟩
    obtain ⟨f, hf⟩ := Deep.choose_lt each
    refine ⟨(List.range len).map (fun i => (f i).1), some a, cap, by simp, by simpa using hl, hm, fun i t hi => ?_⟩
    have hi' : i < len := by simpa using (List.getElem?_eq_some_iff.1 hi).1
    obtain ⟨hc', hr, hl'⟩ := hf i hi'
    obtain rfl : (f i).1 = t := by simpa [hi'] using hi
    obtain ⟨u, hu⟩ : ∃ u, (f 0).2[0]? = some u := ⟨(f 0).2[0]'(by have := (hf 0 (by omega)).2.2; omega), List.getElem?_eq_getElem _⟩
    have h0 := (hf 0 (by omega)).1 0 u hu
    obtain ⟨b, o, spot⟩ := a
    have hspot : spot = none := by simpa [Addr.add] using World.cell?_spot h0
    subst hspot
    exact ⟨b, o, (f i).2, rfl, fun j v hv => by have := hc' j v hv; rwa [add_plain, add_plain] at this, hr⟩

theorem trod_type {fuel : Nat} {cs : List Value} {x : DataW H × List MemPlace} (h : DataW.trod enc Tryd.prog w 0 (fun _ => true) held fuel 45 cs = some x) : ∃ y, TyR y cs ∧ cs.length = 2 := by
  obtain ⟨xs, n', _, _, hl, hxl, hf⟩ := DataW.trod_struct Tryd.underlying45 h
  rw [c45] at hl
  obtain ⟨v0, v1, rfl⟩ := list2 hl
  have hx : xs.length = 2 := hxl
  obtain ⟨x0, e0⟩ := some_at hx (show 0 < 2 by omega)
  have t0 : DataW.trod enc Tryd.prog w 0 (fun _ => true) held n' 9 (([v0, v1].drop 0).take (Tryd.prog.cellsOf 9)) = xs[0]? := hf 0 _ rfl
  rw [c9, e0] at t0
  obtain ⟨x1, e1⟩ := some_at hx (show 1 < 2 by omega)
  have t1 : DataW.trod enc Tryd.prog w 0 (fun _ => true) held n' 4 (([v0, v1].drop 1).take (Tryd.prog.cellsOf 4)) = xs[1]? := hf 1 _ rfl
  rw [c4, e1] at t1
  obtain ⟨s, e2, _, hs⟩ := DataW.trod_string Tryd.underlying9 t0
  obtain ⟨b, e3, _⟩ := DataW.trod_bool Tryd.underlying4 t1
  simp at e2 e3
  subst e2 e3
  exact ⟨⟨s, b⟩, rfl, rfl⟩

theorem trod_var {fuel : Nat} {cs : List Value} {x : DataW H × List MemPlace} (h : DataW.trod enc Tryd.prog w 0 (fun _ => true) held fuel 58 cs = some x) : ∃ y, VrR y cs ∧ cs.length = 3 := by
  obtain ⟨xs, n', _, _, hl, hxl, hf⟩ := DataW.trod_struct Tryd.underlying58 h
  rw [c58] at hl
  obtain ⟨v0, v1, v2, rfl⟩ := list3 hl
  have hx : xs.length = 2 := hxl
  obtain ⟨x0, e0⟩ := some_at hx (show 0 < 2 by omega)
  have t0 : DataW.trod enc Tryd.prog w 0 (fun _ => true) held n' 9 (([v0, v1, v2].drop 0).take (Tryd.prog.cellsOf 9)) = xs[0]? := hf 0 _ rfl
  rw [c9, e0] at t0
  obtain ⟨x1, e1⟩ := some_at hx (show 1 < 2 by omega)
  have t1 : DataW.trod enc Tryd.prog w 0 (fun _ => true) held n' 45 (([v0, v1, v2].drop 1).take (Tryd.prog.cellsOf 45)) = xs[1]? := hf 1 _ rfl
  rw [c45, e1] at t1
  obtain ⟨s, q0, _, _⟩ := DataW.trod_string Tryd.underlying9 t0
  obtain ⟨⟨a, b⟩, q1, _⟩ := trod_type t1
  simp [TyR] at q0 q1
  obtain ⟨rfl, rfl⟩ := q1
  subst q0
  exact ⟨⟨s, a, b⟩, rfl, rfl⟩

theorem trod_sig {fuel : Nat} {cs : List Value} {x : DataW H × List MemPlace} (h : DataW.trod enc Tryd.prog w 0 (fun _ => true) held fuel 68 cs = some x) : ∃ y, SgR w y cs ∧ cs.length = 5 := by
  obtain ⟨xs, n', _, _, hl, hxl, hf⟩ := DataW.trod_struct Tryd.underlying68 h
  rw [c68] at hl
  obtain ⟨v0, v1, v2, v3, v4, rfl⟩ := list5 hl
  have hx : xs.length = 4 := hxl
  obtain ⟨x0, e0⟩ := some_at hx (show 0 < 4 by omega)
  have t0 : DataW.trod enc Tryd.prog w 0 (fun _ => true) held n' 9 (([v0, v1, v2, v3, v4].drop 0).take (Tryd.prog.cellsOf 9)) = xs[0]? := hf 0 _ rfl
  rw [c9, e0] at t0
  obtain ⟨x1, e1⟩ := some_at hx (show 1 < 4 by omega)
  have t1 : DataW.trod enc Tryd.prog w 0 (fun _ => true) held n' 4 (([v0, v1, v2, v3, v4].drop 1).take (Tryd.prog.cellsOf 4)) = xs[1]? := hf 1 _ rfl
  rw [c4, e1] at t1
  obtain ⟨x2, e2⟩ := some_at hx (show 2 < 4 by omega)
  have t2 : DataW.trod enc Tryd.prog w 0 (fun _ => true) held n' 66 (([v0, v1, v2, v3, v4].drop 2).take (Tryd.prog.cellsOf 66)) = xs[2]? := hf 2 _ rfl
  rw [c66, e2] at t2
  obtain ⟨x3, e3⟩ := some_at hx (show 3 < 4 by omega)
  have t3 : DataW.trod enc Tryd.prog w 0 (fun _ => true) held n' 45 (([v0, v1, v2, v3, v4].drop 3).take (Tryd.prog.cellsOf 45)) = xs[3]? := hf 3 _ rfl
  rw [c45, e3] at t3
  obtain ⟨s, q0, _, _⟩ := DataW.trod_string Tryd.underlying9 t0
  obtain ⟨st, q1, _⟩ := DataW.trod_bool Tryd.underlying4 t1
  obtain ⟨ps, hps⟩ := trod_sl Tryd.underlying66 c45 (by decide) (fun m _ _ _ h => trod_type h) t2
  obtain ⟨⟨a, b⟩, q3, _⟩ := trod_type t3
  obtain ⟨pa, pc, rfl⟩ := hps.form
  simp [TyR] at q0 q1 q3
  obtain ⟨rfl, rfl⟩ := q3
  subst q0 q1
  exact ⟨⟨s, st, ps, a, b⟩, ⟨pa, _, pc, rfl, hps⟩, rfl⟩

theorem trod_face {fuel : Nat} {cs : List Value} {x : DataW H × List MemPlace} (h : DataW.trod enc Tryd.prog w 0 (fun _ => true) held fuel 25 cs = some x) : ∃ y, FcR w y cs ∧ cs.length = 4 := by
  obtain ⟨xs, n', _, _, hl, hxl, hf⟩ := DataW.trod_struct Tryd.underlying25 h
  rw [c25] at hl
  obtain ⟨v0, v1, v2, v3, rfl⟩ := list4 hl
  have hx : xs.length = 4 := hxl
  obtain ⟨x0, e0⟩ := some_at hx (show 0 < 4 by omega)
  have t0 : DataW.trod enc Tryd.prog w 0 (fun _ => true) held n' 9 (([v0, v1, v2, v3].drop 0).take (Tryd.prog.cellsOf 9)) = xs[0]? := hf 0 _ rfl
  rw [c9, e0] at t0
  obtain ⟨x1, e1⟩ := some_at hx (show 1 < 4 by omega)
  have t1 : DataW.trod enc Tryd.prog w 0 (fun _ => true) held n' 9 (([v0, v1, v2, v3].drop 1).take (Tryd.prog.cellsOf 9)) = xs[1]? := hf 1 _ rfl
  rw [c9, e1] at t1
  obtain ⟨x2, e2⟩ := some_at hx (show 2 < 4 by omega)
  have t2 : DataW.trod enc Tryd.prog w 0 (fun _ => true) held n' 22 (([v0, v1, v2, v3].drop 2).take (Tryd.prog.cellsOf 22)) = xs[2]? := hf 2 _ rfl
  rw [c22, e2] at t2
  obtain ⟨x3, e3⟩ := some_at hx (show 3 < 4 by omega)
  have t3 : DataW.trod enc Tryd.prog w 0 (fun _ => true) held n' 23 (([v0, v1, v2, v3].drop 3).take (Tryd.prog.cellsOf 23)) = xs[3]? := hf 3 _ rfl
  rw [c23, e3] at t3
  obtain ⟨s, q0, _, _⟩ := DataW.trod_string Tryd.underlying9 t0
  obtain ⟨u, q1, _, _⟩ := DataW.trod_string Tryd.underlying9 t1
  obtain ⟨fs, hfs⟩ := trod_sl Tryd.underlying22 c58 (by decide) (fun m _ _ _ h => trod_var h) t2
  obtain ⟨ms, hms⟩ := trod_sl Tryd.underlying23 c68 (by decide) (fun m _ _ _ h => trod_sig h) t3
  obtain ⟨fa, fc, rfl⟩ := hfs.form
  obtain ⟨ma, mc, rfl⟩ := hms.form
  simp at q0 q1
  subst q0 q1
  exact ⟨⟨s, u, fs, ms⟩, ⟨fa, _, fc, ma, _, mc, rfl, hfs, hms⟩, rfl⟩


set_option maxRecDepth 100000 in
theorem open_face {r : Reach} {b0 : Nat} {v : Value} {d : DataW H} {p : List MemPlace} (hv : Value.okWide Tryd.prog w r b0 25 v) (h : DataW.Trod enc Tryd.prog w 0 (fun _ => true) held 25 v d p) : ∃ f cs, v = .agg cs.toArray ∧ FcR w f cs := by
  obtain ⟨cs, rfl, hsz⟩ := okWide_struct Tryd.underlying25 hv
  obtain ⟨fuel, hf⟩ := h
  obtain ⟨f, hf, hl⟩ := trod_face hf
  exact ⟨f, cs.toList, by simp, by simpa [Value.cells] using hf⟩
end Go.Proofs.YtdcbeemjdpgjmaaDoor.Fc
