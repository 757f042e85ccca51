/-
  What is sorted, in memory; and that two of one list are one.
-/
import Derived.Test.YtdcbeemjdpgjmaaDoorFcSort
import Derived.Sort.LotA
namespace Go.Proofs.YtdcbeemjdpgjmaaDoor.Fc
open Go.RowKit Go.Lib Go.Sort
set_option linter.unusedVariables false
section
variable {α : Type} [Inhabited α] {enc : α → List Value} {k : Nat} {w : World} {xs : List α} {blk o n c : Nat}
theorem holdsK_of_sl (hk0 : 0 < k) (hk : ∀ x, (enc x).length = k) (h : Sl w k (fun x cs => cs = enc x) xs (.slice (some ⟨blk, o, none⟩) n c)) (hf : ∀ i, w.frozen? ⟨blk, i, none⟩ = false) : HoldsK enc k w blk o xs.toArray := by
  obtain ⟨hn, _, _, hkk⟩ := h.at
  intro j hj
  rw [size_flatK, List.size_toArray] at hj
  refine ⟨?_, hf _⟩
  have hi : j / k < xs.length := Nat.div_lt_of_lt_mul (by rw [Nat.mul_comm]; exact hj)
  rw [get_flatK _ _ _ _ (by rw [List.size_toArray]; exact hj)]
  obtain ⟨b, o', cs, ea, hc, rfl⟩ := hkk (j / k) xs[j / k] (List.getElem?_eq_getElem hi)
  cases ea
  have hm : j % k < (enc xs[j / k]).length := by rw [hk]; exact Nat.mod_lt _ hk0
  have := hc (j % k) _ (List.getElem?_eq_getElem hm)
  have e : o + j / k * k + j % k = o + j := by have := Nat.div_add_mod j k; rw [Nat.mul_comm] at this; omega
  rw [e] at this
  rw [this]
  have e2 : xs.toArray[j / k]! = xs[j / k] := by simp [hi]
  rw [e2]
  simp [hm]
theorem sl_of_holdsK {d : Array α} (hk : ∀ x, (enc x).length = k) (h : HoldsK enc k w blk o d) (hn : d.size = n) (h1 : n ≤ c) (h2 : c ≤ maxLen) : Sl w k (fun x cs => cs = enc x) d.toList (.slice (some ⟨blk, o, none⟩) n c) := by
  refine ⟨some ⟨blk, o, none⟩, c, by simp [hn], by simp [hn]; exact h1, h2, fun i x hi => ⟨blk, o, enc x, rfl, fun j v hv => ?_, rfl⟩⟩
  have hid : i < d.size := by have := (List.getElem?_eq_some_iff.1 hi).1; simpa using this
  have hx : d[i]! = x := by
    have := (List.getElem?_eq_some_iff.1 hi).2
    simp at this
    simp [hid, this]
  have hj : j < (enc x).length := (List.getElem?_eq_some_iff.1 hv).1
  have := (h.cell hid (show j < k by rw [← hk x]; exact hj)).1
  rw [this, hx]
  have e := (List.getElem?_eq_some_iff.1 hv).2
  simp [hj, e]
theorem mods_sorted (d : Array α) (m : Nat) (os : Array Obj) : Mods (· = blk) w (sortWorldK enc k w blk o m d os) := by
  refine ⟨rfl, rfl, rfl, by simp [sortWorldK, putRowK], fun i hi hne => ?_⟩
  unfold sortWorldK putRowK
  rw [heap_grow_old _ _ (by simpa using hi)]
  have : blk ≠ i := fun e => hne e.symm
  simp [putRow, mapBlock, Sort.ahead, Array.getElem?_modify, this]
end

/-! ### the order of names -/
theorem ltS_eq (a b : ByteArray) : ltS a b = decide (a.toList < b.toList) := bytesLess_eq _ _
theorem ltS_irrefl (a : ByteArray) : ltS a a = false := by rw [ltS_eq]; simp [List.lt_irrefl]
theorem ltS_trans {a b c : ByteArray} (h1 : ltS a b = true) (h2 : ltS b c = true) : ltS a c = true := by
  rw [ltS_eq, decide_eq_true_iff] at *
  exact List.lt_trans h1 h2
theorem ltS_total {a b : ByteArray} (h1 : ltS a b = false) (h2 : ltS b a = false) : a = b := by
  rw [ltS_eq, decide_eq_false_iff_not] at *
  have h : a.toList = b.toList := List.le_antisymm (List.not_lt.1 h2) (List.not_lt.1 h1)
  rw [ByteArray.toList_eq, ByteArray.toList_eq] at h
  cases a; cases b
  simp at h
  rw [h]
theorem ltS_ntrans {a b c : ByteArray} (h1 : ltS a b = false) (h2 : ltS b c = false) : ltS a c = false := by
  rw [ltS_eq, decide_eq_false_iff_not] at *
  exact List.not_lt.2 (List.le_trans (List.not_lt.1 h2) (List.not_lt.1 h1))
theorem cmpS_lt (a b : ByteArray) : decide (cmpS a b < 0) = ltS a b := by
  unfold cmpS
  cases h : ltS a b with
  | true => simp
  | false =>
    simp only [Bool.false_eq_true, if_false]
    split <;> simp
theorem ltV (x y : Vr) : ltOf cfV x y = ltS x.name y.name := cmpS_lt _ _
theorem ltG (x y : SgP) : ltOf cfG x y = ltS x.1.name y.1.name := cmpS_lt _ _
theorem swoV : SWO (ltOf cfV) := ⟨fun x => by rw [ltV]; exact ltS_irrefl _, fun x y z => by rw [ltV, ltV, ltV]; exact ltS_trans, fun x y z => by rw [ltV, ltV, ltV]; exact ltS_ntrans⟩
theorem swoG : SWO (ltOf cfG) := ⟨fun x => by rw [ltG]; exact ltS_irrefl _, fun x y z => by rw [ltG, ltG, ltG]; exact ltS_trans, fun x y z => by rw [ltG, ltG, ltG]; exact ltS_ntrans⟩

/-- sorted, as the program sorts -/
def srt {α : Type} [Inhabited α] (cf : α → α → Int) (xs : List α) : List α := (Sort.insertionSort (ltOf cf) xs.toArray 0 xs.toArray.size).toList
section
variable {α : Type} [Inhabited α] {cf : α → α → Int}
theorem srt_facts (h : SWO (ltOf cf)) (xs : List α) : (srt cf xs).Perm xs ∧ (srt cf xs).length = xs.length ∧ (srt cf xs).Pairwise (fun x y => ltOf cf y x = false) := by
  obtain ⟨⟨h1, _, h3⟩, h4⟩ := insertionSort_holds h xs.toArray 0 xs.toArray.size (Nat.zero_le _) (Nat.le_refl _)
  unfold srt
  generalize Sort.insertionSort (ltOf cf) xs.toArray 0 xs.toArray.size = D at *
  have e1 : D.extract 0 xs.toArray.size = D := by rw [← h1]; simp
  rw [e1] at h3
  refine ⟨by simpa using h3, by rw [Array.length_toList, h1]; simp, ?_⟩
  rw [List.pairwise_iff_getElem]
  intro i j hi hj hij
  have hj' : j < D.size := by simpa using hj
  have hi' : i < D.size := by omega
  have := h4 i j (Nat.zero_le _) hij (by rw [← h1]; exact hj')
  simpa [hi', hj'] using this
theorem srt_len (h : SWO (ltOf cf)) (xs : List α) : (srt cf xs).length = xs.length := (srt_facts h xs).2.1
/-- of two lists of the same ones, each of another name, the sorted ones are one -/
theorem srt_perm (h : SWO (ltOf cf)) {xs ys : List α} (hp : xs.Perm ys) (hd : ∀ x ∈ xs, ∀ y ∈ xs, ltOf cf x y = false → ltOf cf y x = false → x = y) : srt cf xs = srt cf ys := by
  obtain ⟨p1, _, s1⟩ := srt_facts h xs
  obtain ⟨p2, _, s2⟩ := srt_facts h ys
  exact List.Perm.eq_of_pairwise (fun a b ha hb h1 h2 => hd a (p1.mem_iff.1 ha) b (hp.mem_iff.2 (p2.mem_iff.1 hb)) h2 h1) s1 s2 (p1.trans (hp.trans p2.symm))
end
end Go.Proofs.YtdcbeemjdpgjmaaDoor.Fc
