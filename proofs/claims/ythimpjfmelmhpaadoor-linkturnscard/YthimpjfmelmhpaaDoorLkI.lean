/-
  An image of files in memory; which file is of a name; the way up.
-/
import Derived.Test.YthimpjfmelmhpaaDoorLkP
namespace Go.Proofs.YthimpjfmelmhpaaDoor.Fc
open Go.RowKit
set_option linter.unusedVariables false
set_option linter.unusedSimpArgs false

theorem pl_ptr (a : Option Addr) : Pl (.pointer a) := fun _ h => by cases h
theorem FlR.pl {W : World} {f : Fl} {cs : List Value} (h : FlR W f cs) : ∀ v ∈ cs, Pl v := by
  obtain ⟨a8, n8, c8, a9, n9, c9, a1, n1, c1, a2, n2, c2, a3, n3, c3, a4, n4, c4, a5, n5, c5, a0, n0, c0, rfl, _⟩ := h
  intro v hv
  simp only [List.mem_cons, List.not_mem_nil, or_false] at hv
  rcases hv with rfl | rfl | rfl | rfl | rfl | rfl | rfl | rfl | rfl | rfl
  all_goals first | exact pl_str _ | exact pl_slice _ _ _
theorem fls_keep {W w : World} {xs : List Fl} {v : Value} (hw : Keeps W w) (h : Sl W 10 (FlR W) xs v) : Sl w 10 (FlR w) xs v := h.mono hw (fun _ _ h => ⟨h.keep hw, h.pl⟩)
theorem zFl_R (w : World) : FlR w zFl [.string ⟨#[]⟩, .string ⟨#[]⟩, .slice none 0 0, .slice none 0 0, .slice none 0 0, .slice none 0 0, .slice none 0 0, .slice none 0 0, .slice none 0 0, .slice none 0 0] := ⟨none, 0, 0, none, 0, 0, none, 0, 0, none, 0, 0, none, 0, 0, none, 0, 0, none, 0, 0, none, 0, 0, rfl, zF_R w, ⟨Sl.nil _ _ _, Sl.nil _ _ _, Sl.nil _ _ _, Sl.nil _ _ _, Sl.nil _ _ _⟩, Sl.nil _ _ _⟩
theorem zero44 (w : World) : (zeroValue 44).run Tryd.prog w = .ok (.agg #[.string ⟨#[]⟩, .string ⟨#[]⟩, .slice none 0 0, .slice none 0 0, .slice none 0 0, .slice none 0 0, .slice none 0 0, .slice none 0 0, .slice none 0 0, .slice none 0 0]) w := by kernel_rfl
theorem zero3 (w : World) : (zeroValue 3).run Tryd.prog w = .ok (.int .i64 0) w := by kernel_rfl
/-- where an image's pieces lie (G, gv: a world to reckon from: since then only the table and what it has seen have turned) -/
structure ImS where
  W0 : World
  im : Nat
  tb : Nat
  fm : Nat
  B : Nat
  fa : Option Addr
  fc : Nat
  pm : Nat
  fs : List Fl
  G : World
  gv : Value
/-- an image in memory -/
structure Im (i : ImS) (sv : Value) (c : Nat) (w : World) : Prop where
  tab : Tb i.B w i.tb i.fm sv c (faces i.fs)
  blk : Blk w i.im [.pointer (some ⟨i.tb, 0, none⟩), .slice i.fa i.fs.length i.fc, .map (some i.pm)] 65
  fls : Sl w 10 (FlR w) i.fs (.slice i.fa i.fs.length i.fc)
  pls : ∃ g, MAt w i.pm 1000 g ∧ ∀ s, g s = (plc i.fs s).map (fun k : Nat => Value.int .i64 (k : Int))
  imB : i.im < i.B
  pmB : i.pm < i.B
  hB : i.B ≤ w.heap.size
  below : Below i.W0.heap.size i.W0 w
  lo : i.W0.heap.size ≤ i.im
  fmlo : i.W0.heap.size ≤ i.fm
  pmlo : i.W0.heap.size ≤ i.pm
  gst : Stp i.tb i.G i.gv w sv
section
variable {i : ImS} {sv sv' : Value} {c c' : Nat} {w w' : World}
theorem Im.next (h : Im i sv c w) (hT : Tb i.B w' i.tb i.fm sv' c' (faces i.fs)) (hs : Stp i.tb w sv w' sv') : Im i sv' c' w' := by
  have h1 : ∀ k, k < i.B → ¬ (k = i.tb ∨ sv = .map (some k)) := fun k hk e => by
    rcases e with e | e
    · have := h.tab.lo; omega
    · have := h.tab.los k e; omega
  obtain ⟨g, hg, hg2⟩ := h.pls
  have hb := hs.below h.tab h.hB
  exact ⟨hT, h.blk.keep hs.mods (h1 _ h.imB), fls_keep hs.keeps h.fls, ⟨g, hg.keep hs.mods (h1 _ h.pmB), hg2⟩, h.imB, h.pmB, Nat.le_trans h.hB hs.mods.size, h.below.trans (hb.mono (by have := h.lo; have := h.imB; omega)), h.lo, h.fmlo, h.pmlo, h.gst.trans hs⟩
theorem Im.bel (h : Im i sv c w) (hb : Below w.heap.size w w') : Im i sv c w' := by
  obtain ⟨g, hg, hg2⟩ := h.pls
  exact ⟨h.tab.below hb, h.blk.below hb, fls_keep (Keeps.of_below hb) h.fls, ⟨g, hg.keep (fp := fun _ => False) (Mods.of_below hb) id, hg2⟩, h.imB, h.pmB, Nat.le_trans h.hB hb.size, h.below.trans (hb.mono h.below.size), h.lo, h.fmlo, h.pmlo, h.gst.post hb⟩
/-- from here on -/
theorem Im.here (h : Im i sv c w) : Im { i with G := w, gv := sv } sv c w := ⟨h.tab, h.blk, h.fls, h.pls, h.imB, h.pmB, h.hB, h.below, h.lo, h.fmlo, h.pmlo, Stp.refl _ _ _⟩
theorem Im.ptr (h : Im i sv c w) : w.cell? ⟨i.im, 0, none⟩ = some (.pointer (some ⟨i.tb, 0, none⟩)) := h.blk.cell 0
theorem Im.files (h : Im i sv c w) : w.cell? ⟨i.im, 1, none⟩ = some (.slice i.fa i.fs.length i.fc) := h.blk.cell 1
theorem Im.places (h : Im i sv c w) : w.cell? ⟨i.im, 2, none⟩ = some (.map (some i.pm)) := h.blk.cell 2
theorem Im.lt (h : Im i sv c w) : i.im < w.heap.size := h.blk.lt
/-- an answer over an image: some value, and what has turned -/
def IPost (i : ImS) (w : World) (c k : Nat) (r : Value) (e : Ending) (w' : World) : Prop :=
  ∃ sv' c', e = .returned r ∧ Im i sv' c' w' ∧ Keeps w w' ∧ Below i.B w w' ∧ c' ≤ c + k
theorem Im.ends {e : Ending} {r : Value} {k : Nat} (h : Im i sv c w) (hp : TPost i.B i.tb i.fm (faces i.fs) w sv c k r e w') : IPost i w c k r e w' := by
  obtain ⟨sv', c', he, hT, hs, hc⟩ := hp
  exact ⟨sv', c', he, h.next hT hs, hs.keeps, hs.below h.tab h.hB, hc⟩
theorem IPost.pre {w1 : World} {e : Ending} {r : Value} {k : Nat} (hB : i.B ≤ w.heap.size) (hb : Below w.heap.size w w1) (h : IPost i w1 c k r e w') : IPost i w c k r e w' := by
  obtain ⟨sv', c', he, hI, hk, hb2, hc⟩ := h
  exact ⟨sv', c', he, hI, (Keeps.of_below hb).trans hk, (hb.mono hB).trans hb2, hc⟩
end
theorem Im.look {i : ImS} {sv : Value} {c : Nat} {w : World} (h : Im i sv c w) {s : ByteArray} (hs : s.size ≤ maxLen) :
    (Instr.lookup 63 (.map (some i.pm)) (.string s) true).run Tryd.prog w = .ok (.tuple #[((plc i.fs s).map (fun k : Nat => Value.int .i64 (k : Int))).getD (.int .i64 0), .bool (plc i.fs s).isSome]) w := by
  obtain ⟨g, hg, hg2⟩ := h.pls
  have := hg.look Tryd.underlying63 (zero3 w) hs
  rw [hg2 s] at this
  simpa using this
def FilePost (fs : List Fl) (s : ByteArray) (w : World) (e : Ending) (w' : World) : Prop :=
  ∃ cs, e = .returned (.tuple #[.agg cs.toArray, .bool (flAt fs s).isSome]) ∧ FlR w' ((flAt fs s).getD zFl) cs ∧ Below w.heap.size w w'
set_option maxHeartbeats 4000000 in
set_option maxRecDepth 100000 in
theorem file11 (i : ImS) (sv : Value) (c : Nat) (w : World) (h : Im i sv c w) (s : ByteArray) (hs : s.size ≤ maxLen) :
    Calls Tryd.prog 11 #[.pointer (some ⟨i.im, 0, none⟩), .string s] w (FilePost i.fs s w) := by
  have hb0 := below1 w (.cells #[.string ⟨#[]⟩, .string ⟨#[]⟩, .slice none 0 0, .slice none 0 0, .slice none 0 0, .slice none 0 0, .slice none 0 0, .slice none 0 0, .slice none 0 0, .slice none 0 0] 44)
  have hI := h.bel hb0
  have hlk := hI.look hs
  have hp1 := hI.files
  have hp2 := hI.places
  have hil := h.lt
  have hz44 := zero44
  cases hp : plc i.fs s with
  | none =>
    rw [hp] at hlk
    simp only [Option.map_none, Option.getD_none, Option.isSome_none] at hlk
    have HF := Lib.hid (plc_none hp)
    clear hI h hp hb0
    go_enter Tryd.func11, Tryd.ntmps11
    go_wp2
    have hZ := Blk.new w [.string ⟨#[]⟩, .string ⟨#[]⟩, .slice none 0 0, .slice none 0 0, .slice none 0 0, .slice none 0 0, .slice none 0 0, .slice none 0 0, .slice none 0 0, .slice none 0 0] 44
    have z0 := hZ.cell 0
    have z1 := hZ.cell 1
    have z2 := hZ.cell 2
    have z3 := hZ.cell 3
    have z4 := hZ.cell 4
    have z5 := hZ.cell 5
    have z6 := hZ.cell 6
    have z7 := hZ.cell 7
    have z8 := hZ.cell 8
    have z9 := hZ.cell 9
    simp only [List.getElem?_cons_zero, List.getElem?_cons_succ] at z0 z1 z2 z3 z4 z5 z6 z7 z8 z9
    have HB := Lib.hid (below1 w (.cells #[.string ⟨#[]⟩, .string ⟨#[]⟩, .slice none 0 0, .slice none 0 0, .slice none 0 0, .slice none 0 0, .slice none 0 0, .slice none 0 0, .slice none 0 0, .slice none 0 0] 44))
    clear hZ
    generalize hwz : w.alloc (.cells #[.string ⟨#[]⟩, .string ⟨#[]⟩, .slice none 0 0, .slice none 0 0, .slice none 0 0, .slice none 0 0, .slice none 0 0, .slice none 0 0, .slice none 0 0, .slice none 0 0] 44) = wz at *
    clear hwz
    refine bodyPost_ret (v := .tuple #[.agg #[.string ⟨#[]⟩, .string ⟨#[]⟩, .slice none 0 0, .slice none 0 0, .slice none 0 0, .slice none 0 0, .slice none 0 0, .slice none 0 0, .slice none 0 0, .slice none 0 0], .bool false]) (by simp [results, Tryd.results11, go_sem, z0, z1, z2, z3, z4, z5, z6, z7, z8, z9]) rfl ?_
    exact ⟨_, by rw [HF.out]; rfl, by rw [HF.out]; exact zFl_R _, HB.out⟩
  | some k =>
    rw [hp] at hlk
    simp only [Option.map_some, Option.getD_some, Option.isSome_some] at hlk
    obtain ⟨f, hk, hfa⟩ := plc_at hp
    have HF := Lib.hid hfa
    have hkn : k < i.fs.length := (List.getElem?_eq_some_iff.1 hk).1
    obtain ⟨_, hl, hc, hkk⟩ := h.fls.at
    obtain ⟨g, o, cs, hga, hcell, hfl⟩ := hkk k f hk
    unfold maxLen at hc
    obtain ⟨a8, n8, c8, a9, n9, c9, a1, n1, c1, a2, n2, c2, a3, n3, c3, a4, n4, c4, a5, n5, c5, a0, n0, c0, rfl, _⟩ := id hfl
    rw [hga] at hp1
    have hw0 : w.cell? ⟨g, o + k * 10, none⟩ = some (.string f.fc.name) := hcell 0 _ rfl
    have hgl2 : g < w.heap.size := World.block_lt_of_cell? _ _ hw0
    have k0 : (w.alloc (.cells #[.string ⟨#[]⟩, .string ⟨#[]⟩, .slice none 0 0, .slice none 0 0, .slice none 0 0, .slice none 0 0, .slice none 0 0, .slice none 0 0, .slice none 0 0, .slice none 0 0] 44)).cell? ⟨g, o + k * 10, none⟩ = some (.string f.fc.name) := (hb0.cell hgl2).trans hw0
    have k1 := (hb0.cell (World.block_lt_of_cell? _ _ (hcell 1 _ rfl))).trans (hcell 1 _ rfl)
    have k2 := (hb0.cell (World.block_lt_of_cell? _ _ (hcell 2 _ rfl))).trans (hcell 2 _ rfl)
    have k3 := (hb0.cell (World.block_lt_of_cell? _ _ (hcell 3 _ rfl))).trans (hcell 3 _ rfl)
    have k4 := (hb0.cell (World.block_lt_of_cell? _ _ (hcell 4 _ rfl))).trans (hcell 4 _ rfl)
    have k5 := (hb0.cell (World.block_lt_of_cell? _ _ (hcell 5 _ rfl))).trans (hcell 5 _ rfl)
    have k6 := (hb0.cell (World.block_lt_of_cell? _ _ (hcell 6 _ rfl))).trans (hcell 6 _ rfl)
    have k7 := (hb0.cell (World.block_lt_of_cell? _ _ (hcell 7 _ rfl))).trans (hcell 7 _ rfl)
    have k8 := (hb0.cell (World.block_lt_of_cell? _ _ (hcell 8 _ rfl))).trans (hcell 8 _ rfl)
    have k9 := (hb0.cell (World.block_lt_of_cell? _ _ (hcell 9 _ rfl))).trans (hcell 9 _ rfl)
    have hgl : g < (w.alloc (.cells #[.string ⟨#[]⟩, .string ⟨#[]⟩, .slice none 0 0, .slice none 0 0, .slice none 0 0, .slice none 0 0, .slice none 0 0, .slice none 0 0, .slice none 0 0, .slice none 0 0] 44)).heap.size := World.block_lt_of_cell? _ _ k0
    clear hw0
    have HR := Lib.hid hfl
    clear hI h hp hk hkk hcell hfa hfl hb0
    go_enter Tryd.func11, Tryd.ntmps11
    go_wp2
    have hZ := Blk.new w [.string f.fc.name, .string f.fc.sup, .slice a8 n8 c8, .slice a9 n9 c9, .slice a1 n1 c1, .slice a2 n2 c2, .slice a3 n3 c3, .slice a4 n4 c4, .slice a5 n5 c5, .slice a0 n0 c0] 44
    have z0 := hZ.cell 0
    have z1 := hZ.cell 1
    have z2 := hZ.cell 2
    have z3 := hZ.cell 3
    have z4 := hZ.cell 4
    have z5 := hZ.cell 5
    have z6 := hZ.cell 6
    have z7 := hZ.cell 7
    have z8 := hZ.cell 8
    have z9 := hZ.cell 9
    simp only [List.getElem?_cons_zero, List.getElem?_cons_succ] at z0 z1 z2 z3 z4 z5 z6 z7 z8 z9
    have HB := Lib.hid (below1 w (.cells #[.string f.fc.name, .string f.fc.sup, .slice a8 n8 c8, .slice a9 n9 c9, .slice a1 n1 c1, .slice a2 n2 c2, .slice a3 n3 c3, .slice a4 n4 c4, .slice a5 n5 c5, .slice a0 n0 c0] 44))
    clear hZ
    generalize hwz : w.alloc (.cells #[.string f.fc.name, .string f.fc.sup, .slice a8 n8 c8, .slice a9 n9 c9, .slice a1 n1 c1, .slice a2 n2 c2, .slice a3 n3 c3, .slice a4 n4 c4, .slice a5 n5 c5, .slice a0 n0 c0] 44) = wz at *
    clear hwz
    refine bodyPost_ret (v := .tuple #[.agg #[.string f.fc.name, .string f.fc.sup, .slice a8 n8 c8, .slice a9 n9 c9, .slice a1 n1 c1, .slice a2 n2 c2, .slice a3 n3 c3, .slice a4 n4 c4, .slice a5 n5 c5, .slice a0 n0 c0], .bool true]) (by simp [results, Tryd.results11, go_sem, z0, z1, z2, z3, z4, z5, z6, z7, z8, z9]) rfl ?_
    exact ⟨_, by rw [HF.out]; rfl, by rw [HF.out]; exact HR.out.keep (Keeps.of_below HB.out), HB.out⟩
end Go.Proofs.YthimpjfmelmhpaaDoor.Fc
