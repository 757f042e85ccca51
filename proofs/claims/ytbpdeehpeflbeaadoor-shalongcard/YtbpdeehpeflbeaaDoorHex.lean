/-
  Hex.
-/
import Derived.Test.YtbpdeehpeflbeaaDoorSum
namespace Go.Proofs.YtbpdeehpeflbeaaDoor
open Go.RowKit

def HX : List Nat := [48, 49, 50, 51, 52, 53, 54, 55, 56, 57, 97, 98, 99, 100, 101, 102]
/-- 64 bytes in block b -/
def OAt (b : Nat) (w : World) (l : List Nat) : Prop := w.heap[b]? = some (.cells (l.map U8).toArray 40 (0, 0)) ∧ l.length = 64

theorem OAt.cell {b : Nat} {w : World} {l : List Nat} (h : OAt b w l) (i : Nat) (hi : i < 64) : w.cell? ⟨b, i, none⟩ = some (.int .u8 ((l.getD i 0 : Nat) : Int)) := by
  have hl := h.2
  have e : w.cell? ⟨b, i, none⟩ = (l.map U8)[i]? := by simp [World.cell?, h.1]
  rw [e]
  simp [U8, List.getElem?_eq_getElem (show i < l.length by omega), List.getD]
theorem OAt.frozen {b : Nat} {w : World} {l : List Nat} (h : OAt b w l) (i : Nat) : w.frozen? ⟨b, i, none⟩ = false := by simp [World.frozen?, h.1]
theorem OAt.set_ {b : Nat} {w : World} {l : List Nat} (h : OAt b w l) (i v : Nat) : OAt b (w.setCell ⟨b, i, none⟩ (.int .u8 (v : Int))) (l.set i v) := by
  refine ⟨?_, by simpa using h.2⟩
  rw [heap_set w b i _ _ _ h.1, List.map_set]
  rfl
theorem DAt.far {b : Nat} {w : World} {l : List Nat} (h : DAt b w l) {p : Addr} (hp : b ≠ p.block) (v : Value) : DAt b (w.setCell p v) l := ⟨(Below.heap_setCell w p v b hp).trans h.1, h.2⟩
def hk (D : List Nat) (k : Nat) : List Nat := hexOf (D.take k) ++ List.replicate (64 - 2 * k) 0
theorem hexOf_length (D : List Nat) : (hexOf D).length = 2 * D.length := by
  induction D with
  | nil => rfl
  | cons a D ih => unfold hexOf at ih ⊢; rw [List.flatMap_cons, List.length_append, ih]; simp; omega
theorem hk_length (D : List Nat) (k : Nat) (h : D.length = 32) (hk' : k ≤ 32) : (hk D k).length = 64 := by
  unfold hk
  rw [List.length_append, hexOf_length, List.length_take, List.length_replicate]
  omega
theorem hk_set (D : List Nat) (k : Nat) (h : D.length = 32) (hk' : k < 32) : ((hk D k).set (2 * k) (HX.getD (D.getD k 0 / 16) 0)).set (2 * k + 1) (HX.getD (D.getD k 0 % 16) 0) = hk D (k + 1) := by
  unfold hk
  have hl : (hexOf (D.take k)).length = 2 * k := by rw [hexOf_length, List.length_take]; omega
  rw [List.set_append_right _ _ (by omega), List.set_append_right _ _ (by omega), hl, Nat.sub_self, show 2 * k + 1 - 2 * k = 1 by omega, show 64 - 2 * k = (64 - 2 * (k + 1)) + 1 + 1 by omega, List.replicate_succ, List.replicate_succ,
    List.set_cons_zero, List.set_cons_succ, List.set_cons_zero, List.take_succ_eq_append_getElem (show k < D.length by omega)]
  have hg : D[k] = D.getD k 0 := by simp [List.getD, List.getElem?_eq_getElem (show k < D.length by omega)]
  rw [hg]
  unfold hexOf
  rw [List.flatMap_append]
  simp [HX]

theorem byte_at (l : List UInt8) (x : Nat) (h : x < (⟨l.toArray⟩ : ByteArray).size) : (⟨l.toArray⟩ : ByteArray)[x].toNat = (l.map (·.toNat)).getD x 0 := by
  have h' : x < l.length := by simpa [ByteArray.size] using h
  simp [List.getD, List.getElem?_eq_getElem h', ByteArray.getElem_eq_getElem_data]
theorem hexOf_lt (D : List Nat) : ∀ x ∈ hexOf D, x < 256 := by
  have h : ∀ i, HX.getD i 0 < 256 := bytes_getD HX (by decide)
  intro x hx
  unfold hexOf at hx
  obtain ⟨c, _, hc⟩ := List.mem_flatMap.1 hx
  simp only [List.mem_cons, List.not_mem_nil, or_false] at hc
  rcases hc with rfl | rfl
  · exact h _
  · exact h _
/-- the text of digits -/
def strOf (l : List Nat) : ByteArray := ⟨(l.map (fun n => UInt8.ofNat n)).toArray⟩

set_option maxHeartbeats 1600000 in
set_option maxRecDepth 100000 in
theorem hex_any (w : World) (D : List Nat) (hD : D.length = 32) (hD2 : ∀ x ∈ D, x < 256) :
    Calls Tryd.prog 11 #[.agg (D.map U8).toArray] w fun e w' => e = .returned (.string (strOf (hexOf D))) ∧ Below w.heap.size w w' := by
  obtain ⟨Z, hZ, HZ⟩ : ∃ Z : Array Value, (#[Value.int IntKind.u8 0, Value.int IntKind.u8 0, Value.int IntKind.u8 0, Value.int IntKind.u8 0, Value.int IntKind.u8 0, Value.int IntKind.u8 0, Value.int IntKind.u8 0, Value.int IntKind.u8 0, Value.int IntKind.u8 0, Value.int IntKind.u8 0, Value.int IntKind.u8 0, Value.int IntKind.u8 0, Value.int IntKind.u8 0, Value.int IntKind.u8 0, Value.int IntKind.u8 0, Value.int IntKind.u8 0, Value.int IntKind.u8 0, Value.int IntKind.u8 0, Value.int IntKind.u8 0, Value.int IntKind.u8 0, Value.int IntKind.u8 0, Value.int IntKind.u8 0, Value.int IntKind.u8 0, Value.int IntKind.u8 0, Value.int IntKind.u8 0, Value.int IntKind.u8 0, Value.int IntKind.u8 0, Value.int IntKind.u8 0, Value.int IntKind.u8 0, Value.int IntKind.u8 0, Value.int IntKind.u8 0, Value.int IntKind.u8 0, Value.int IntKind.u8 0, Value.int IntKind.u8 0, Value.int IntKind.u8 0, Value.int IntKind.u8 0, Value.int IntKind.u8 0, Value.int IntKind.u8 0, Value.int IntKind.u8 0, Value.int IntKind.u8 0, Value.int IntKind.u8 0, Value.int IntKind.u8 0, Value.int IntKind.u8 0, Value.int IntKind.u8 0, Value.int IntKind.u8 0, Value.int IntKind.u8 0, Value.int IntKind.u8 0, Value.int IntKind.u8 0, Value.int IntKind.u8 0, Value.int IntKind.u8 0, Value.int IntKind.u8 0, Value.int IntKind.u8 0, Value.int IntKind.u8 0, Value.int IntKind.u8 0, Value.int IntKind.u8 0, Value.int IntKind.u8 0, Value.int IntKind.u8 0, Value.int IntKind.u8 0, Value.int IntKind.u8 0, Value.int IntKind.u8 0, Value.int IntKind.u8 0, Value.int IntKind.u8 0, Value.int IntKind.u8 0, Value.int IntKind.u8 0] : Array Value) = Z ∧ Hid (Z = ((List.replicate 64 0).map U8).toArray) := ⟨_, rfl, Lib.hid rfl⟩
  obtain ⟨C, HC⟩ : ∃ C, Hid (C = (D.map U8).toArray) := ⟨_, Lib.hid rfl⟩
  rw [← HC.out]
  go_enter Tryd.func11, Tryd.ntmps11
  go_wp2
  obtain ⟨db, HDB⟩ : ∃ db, Hid (db = w.heap.size) := ⟨_, Lib.hid rfl⟩
  rw [← HDB.out]
  obtain ⟨ob, HOB⟩ : ∃ ob, Hid (ob = db + 1) := ⟨_, Lib.hid rfl⟩
  rw [← HOB.out]
  have hne : db ≠ ob := by rw [HOB.out]; omega
  have hwo : w.heap.size ≤ ob := by rw [HOB.out, HDB.out]; omega
  go_loopw [5] (fun i wr => ∃ k : Nat, i = .int .i64 k ∧ k ≤ 32 ∧ Hid (OAt ob wr (hk D k)) ∧ Hid (DAt db wr D) ∧ Below w.heap.size w wr) (fun i _ => 32 - (intOf i).toNat)
  case atStart =>
    refine ⟨0, rfl, by omega, Lib.hid ⟨?_, ?_⟩, Lib.hid ⟨?_, hD⟩, ((Below.refl _ _).alloc (Nat.le_refl _) _).alloc (by simp) _⟩
    · have h1 := heap_alloc_new (w.alloc (.cells C 24)) (.cells Z 40)
      rw [World.size_alloc] at h1
      rw [HOB.out, HDB.out, h1, HZ.out]
      rfl
    · exact hk_length D 0 hD (by omega)
    · rw [HDB.out, Below.heap_alloc _ _ _ (by simp), heap_alloc_new, HC.out]
  case round =>
    clear hZ
    obtain ⟨k, rfl, hk', HO, HD, hb⟩ := hrel
    by_cases hkl : k < 32
    · have cd := HD.out.cell k hkl
      have c0 := HO.out.cell (2 * k) (by omega)
      have f0 := HO.out.frozen (2 * k)
      have c1 := HO.out.cell (2 * k + 1) (by omega)
      have f1 := HO.out.frozen (2 * k + 1)
      obtain ⟨d, HDD⟩ : ∃ d, Hid (d = D.getD k 0) := ⟨_, Lib.hid rfl⟩
      obtain ⟨y0, HY0⟩ : ∃ y, Hid (y = (hk D k).getD (2 * k) 0) := ⟨_, Lib.hid rfl⟩
      obtain ⟨y1, HY1⟩ : ∃ y, Hid (y = (hk D k).getD (2 * k + 1) 0) := ⟨_, Lib.hid rfl⟩
      rw [← HDD.out] at cd
      rw [← HY0.out] at c0
      rw [← HY1.out] at c1
      have hd : d < 256 := by rw [HDD.out]; exact bytes_getD D hD2 k
      have j1 : (d : Int) / 16 < 16 := by omega
      have j2 : (0 : Int) ≤ (d : Int) / 16 := by omega
      go_wp2
      obtain ⟨e0, HE0⟩ : ∃ e0, Hid (e0 = HX.getD (d / 16) 0) := ⟨_, Lib.hid rfl⟩
      obtain ⟨e1, HE1⟩ : ∃ e1, Hid (e1 = HX.getD (d % 16) 0) := ⟨_, Lib.hid rfl⟩
      rw [byte_at [48, 49, 50, 51, 52, 53, 54, 55, 56, 57, 97, 98, 99, 100, 101, 102] (d / 16), byte_at [48, 49, 50, 51, 52, 53, 54, 55, 56, 57, 97, 98, 99, 100, 101, 102] (d % 16)]
      rw [show ([48, 49, 50, 51, 52, 53, 54, 55, 56, 57, 97, 98, 99, 100, 101, 102] : List UInt8).map (·.toNat) = HX from rfl, ← HE0.out, ← HE1.out]
      refine ⟨⟨k + 1, by go_num, by omega, Lib.hid ?_, Lib.hid ((HD.out.far hne _).far hne _), (hb.setCell hwo _).setCell hwo _⟩, by simp [intOf]; omega⟩
      rw [← hk_set D k hD hkl, ← HDD.out, ← HE0.out, ← HE1.out]
      exact (HO.out.set_ (2 * k) e0).set_ (2 * k + 1) e1
    · obtain rfl : k = 32 := by omega
      have hhk : hk D 32 = hexOf D := by
        unfold hk
        rw [List.take_of_length_le (by omega)]
        simp
      have hll : (hexOf D).length = 64 := by rw [hexOf_length, hD]
      have hcv : (convert 35 9 (.slice (some ⟨ob, 0, none⟩) 64 64)).run Tryd.prog wr = .ok (.string (strOf (hexOf D))) wr := by
        have h1 := run_convert_bytes_back (P := Tryd.prog) wr 35 9 5 ⟨ob, 0, none⟩ 64 ((hexOf D).map (fun n => UInt8.ofNat n)) Tryd.underlying35 Tryd.underlying5 Tryd.underlying9 ?_
        · rw [List.length_map, hll] at h1
          exact h1
        · intro j hj
          have hj' : j < (hexOf D).length := by simpa using hj
          have h2 := HO.out.cell j (by omega)
          rw [hhk] at h2
          have h3 : Addr.add ⟨ob, 0, none⟩ j = ⟨ob, j, none⟩ := by simp [Addr.add]; intro h; exact h.symm
          rw [h3, h2]
          have h4 := hexOf_lt D (hexOf D)[j] (List.getElem_mem _)
          simp [List.getD, List.getElem?_eq_getElem hj', Nat.mod_eq_of_lt h4]
      obtain ⟨X, HXX⟩ : ∃ X, Hid (X = strOf (hexOf D)) := ⟨_, Lib.hid rfl⟩
      rw [← HXX.out] at hcv
      clear hhk hll
      go_wp2
      go_ret
      exact ⟨by rw [HXX.out]; rfl, hb⟩

end Go.Proofs.YtbpdeehpeflbeaaDoor
