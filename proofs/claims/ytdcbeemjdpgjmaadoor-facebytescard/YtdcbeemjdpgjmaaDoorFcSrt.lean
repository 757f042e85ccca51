/-
  slices.SortStableFunc of a few fields, of a few methods, in memory.
-/
import Derived.Test.YtdcbeemjdpgjmaaDoorFcSorted
import Derived.Test.YtdcbeemjdpgjmaaDoorFcLay
namespace Go.Proofs.YtdcbeemjdpgjmaaDoor.Fc
open Go.RowKit Go.Lib Go.Sort
set_option linter.unusedVariables false

/-- of what was there nothing has turned but a slice's own block -/
def ModsOf (a : Option Addr) (w w' : World) : Prop := Mods (fun k => ∃ ad, a = some ad ∧ ad.block = k) w w'
theorem own_blk {B : Nat} {w : World} {e : TypeId} {b : Nat} (h : Own B w e (some ⟨b, 0, none⟩)) : ∀ i, w.frozen? ⟨b, i, none⟩ = false := fun i => by
  obtain ⟨b', e1, _, cur, h2⟩ := h _ rfl
  cases e1
  simp [World.frozen?, h2]
theorem own_sorted {α : Type} [Inhabited α] {enc : α → List Value} {k : Nat} {B blk m : Nat} {w : World} {e : TypeId} {d : Array α} {os : Array Obj} (h : Own B w e (some ⟨blk, 0, none⟩)) : Own B (sortWorldK enc k w blk 0 m d os) e (some ⟨blk, 0, none⟩) := fun ad ha => by
  obtain ⟨b, e1, h1, cur, h2⟩ := h ad ha
  cases ha
  cases e1
  refine ⟨blk, rfl, h1, putCells id 0 (flatK enc k d) cur, ?_⟩
  have hg : blk < w.heap.size := lt_of_block h2
  unfold sortWorldK putRowK
  rw [heap_grow_old _ _ (by simpa using hg)]
  simp [putRow, mapBlock, Sort.ahead, Array.getElem?_modify, h2, onCells]

theorem sort_gen {α : Type} [Inhabited α] (enc : α → List Value) (k : Nat) (hk0 : 0 < k) (hk : ∀ x, (enc x).length = k) (cf : α → α → Int) (hw : SWO (ltOf cf)) (F G T : Nat) (e : TypeId)
    (hins : ∀ (blk off cap : Nat) (d : Array α) (w : World), HoldsK enc k w blk off d → blk < w.heap.size → d.size ≤ 19 → Calls Tryd.prog F #[.slice (some ⟨blk, off, none⟩) d.size cap, .int .i64 0, .int .i64 d.size, .func (.func G) #[] #[]] w fun e w' => e = .returned (.tuple #[]) ∧ ∃ n os, w' = sortWorldK enc k w blk off n (Sort.insertionSort (ltOf cf) d 0 d.size) os)
    (hnil : ∀ (a : Option Addr) (cap : Nat) (w : World), Calls Tryd.prog F #[.slice a 0 cap, .int .i64 0, .int .i64 0, .func (.func G) #[] #[]] w fun e w' => e = .returned (.tuple #[]) ∧ w = w')
    (hsort : ∀ (a : Option Addr) (n cap : Nat) (w : World) (hn : n ≤ 19) (Q : World → Prop), (Calls Tryd.prog F #[.slice a n cap, .int .i64 0, .int .i64 n, .func (.func G) #[] #[]] w fun e w' => e = .returned (.tuple #[]) ∧ Q w') → Calls Tryd.prog T #[.slice a n cap, .func (.func G) #[] #[]] w fun e w' => e = .returned (.tuple #[]) ∧ Q w')
    (xs : List α) (a : Option Addr) (n c B : Nat) (w : World) (h : Sl w k (fun x cs => cs = enc x) xs (.slice a n c)) (hn : n ≤ 19) (hO : Own B w e a) :
    Calls Tryd.prog T #[.slice a n c, .func (.func G) #[] #[]] w fun e' w' => e' = .returned (.tuple #[]) ∧ (Sl w' k (fun x cs => cs = enc x) (srt cf xs) (.slice a n c) ∧ Own B w' e a ∧ ModsOf a w w') := by
  refine hsort a n c w hn _ ?_
  obtain ⟨hxl, hnc, hcm, _⟩ := h.at
  rcases Nat.eq_zero_or_pos n with rfl | hpos
  · refine (hnil a c w).mono ?_
    rintro e' w' ⟨rfl, rfl⟩
    have hx : xs = [] := List.eq_nil_of_length_eq_zero hxl.symm
    subst hx
    have hs : srt cf ([] : List α) = [] := List.eq_nil_of_length_eq_zero (srt_len hw [])
    rw [hs]
    exact ⟨rfl, h, hO, Mods.refl _ _⟩
  · obtain ⟨ad, rfl⟩ : ∃ ad, a = some ad := by
      obtain ⟨_, _, _, hkk⟩ := h.at
      obtain ⟨b, o, cs, ea, _⟩ := hkk 0 xs[0] (List.getElem?_eq_getElem (by omega))
      exact ⟨_, ea⟩
    obtain ⟨b, e1, h1, cur, h2⟩ := hO ad rfl
    subst e1
    subst hxl
    have hH := holdsK_of_sl hk0 hk h (own_blk hO)
    have := hins b 0 c xs.toArray w hH (lt_of_block h2) (by simpa using hn)
    rw [List.size_toArray] at this
    refine this.mono ?_
    rintro e' w' ⟨rfl, m, os, rfl⟩
    have hsz : (Sort.insertionSort (ltOf cf) xs.toArray 0 xs.length).size = xs.length := by
      have := srt_len hw xs
      simpa [srt] using this
    refine ⟨rfl, ?_, own_sorted hO, ?_⟩
    · have hd := holdsK_sortWorldK_c enc k w b 0 xs.toArray (Sort.insertionSort (ltOf cf) xs.toArray 0 xs.length) m os hH (lt_of_block h2) (by rw [hsz]; simp)
      have := sl_of_holdsK (c := c) hk hd hsz hnc hcm
      unfold srt
      rw [List.size_toArray]
      exact this
    · exact (mods_sorted (Sort.insertionSort (ltOf cf) xs.toArray 0 xs.length) m os).weak (fun i _ e => ⟨_, rfl, e.symm⟩)
theorem sortV (xs : List Vr) (a : Option Addr) (n c B : Nat) (w : World) (h : Sl w 3 VrR xs (.slice a n c)) (hn : n ≤ 19) (hO : Own B w 58 a) :
    Calls Tryd.prog 54 #[.slice a n c, .func (.func 55) #[] #[]] w fun e' w' => e' = .returned (.tuple #[]) ∧ (Sl w' 3 VrR (srt cfV xs) (.slice a n c) ∧ Own B w' 58 a ∧ ModsOf a w w') :=
  sort_gen encV 3 (by decide) (fun _ => rfl) cfV swoV 80 55 54 58 ins80 ins80_nil sort54 xs a n c B w h hn hO
def GpR (x : SgP) (cs : List Value) : Prop := cs = encG x
theorem sortG (xs : List SgP) (a : Option Addr) (n c B : Nat) (w : World) (h : Sl w 5 GpR xs (.slice a n c)) (hn : n ≤ 19) (hO : Own B w 68 a) :
    Calls Tryd.prog 57 #[.slice a n c, .func (.func 58) #[] #[]] w fun e' w' => e' = .returned (.tuple #[]) ∧ (Sl w' 5 GpR (srt cfG xs) (.slice a n c) ∧ Own B w' 68 a ∧ ModsOf a w w') :=
  sort_gen encG 5 (by decide) (fun _ => rfl) cfG swoG 82 58 57 68 ins82 ins82_nil sort57 xs a n c B w h hn hO
end Go.Proofs.YtdcbeemjdpgjmaaDoor.Fc
