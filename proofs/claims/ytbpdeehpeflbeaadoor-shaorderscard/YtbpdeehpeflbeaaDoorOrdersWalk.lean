/-
  The walk of ShaOrders.
-/
import Derived.Test.YtbpdeehpeflbeaaDoorOrder
import Derived.Deep.RegionHeld3
namespace Go.Proofs.YtbpdeehpeflbeaaDoor
open Go.RowKit

theorem DAt.keep {b : Nat} {w w' : World} {l : List Nat} (h : DAt b w l) (hb : Below w.heap.size w w') : DAt b w' l := ⟨(hb.block b (lt_of_block h.1)).trans h.1, h.2⟩
/-- the text of a digest's bytes -/
theorem conv_any {b : Nat} {w : World} {D : List Nat} (h : DAt b w D) (h2 : ∀ x ∈ D, x < 256) : (convert 35 9 (.slice (some ⟨b, 0, none⟩) 32 32)).run Tryd.prog w = .ok (.string (strOf D)) w := by
  have h1 := run_convert_bytes_back (P := Tryd.prog) w 35 9 5 ⟨b, 0, none⟩ 32 (D.map (fun n => UInt8.ofNat n)) Tryd.underlying35 Tryd.underlying5 Tryd.underlying9 ?_
  · rw [List.length_map, h.2] at h1
    exact h1
  · intro j hj
    have hj' : j < D.length := by simpa using hj
    have hl := h.2
    have h2' := h.cell j (by omega)
    have h3 : Addr.add ⟨b, 0, none⟩ j = ⟨b, j, none⟩ := by simp [Addr.add]; intro h; exact h.symm
    rw [h3, h2']
    have h4 := h2 D[j] (List.getElem_mem _)
    simp [List.getD, List.getElem?_eq_getElem hj', Nat.mod_eq_of_lt h4]
theorem load_any {b : Nat} {w : World} {D : List Nat} (h : DAt b w D) : (Instr.loadAt 24 (.pointer (some ⟨b, 0, none⟩))).run Tryd.prog w = .ok (.agg (D.map U8).toArray) w :=
  run_loadAt_mid w b 0 24 (D.map U8) _ h.range Tryd.underlying24 rfl (by rw [List.length_map, h.2]; exact info24)

/-- the program, its table of types behind a letter: so the walk takes a load of a whole digest by the facts at hand, and doesn't lay it open -/
noncomputable def pw (T : Array TypeInfo) : Program := { Tryd.prog with types := T }
theorem pw_eq : pw Tryd.prog.types = Tryd.prog := rfl
theorem name11 : (Tryd.f11.name == "runtime.NumGoroutine") = false := by kernel_rfl
theorem body11 : Tryd.f11.body.isNone = false := by kernel_rfl
theorem enter11 (args : Array Value) (w : World) : (callFunc 11 args).run Tryd.prog w = .ok (.enter 11 args) w := by
  have h1 : Tryd.f11.name ≠ "runtime.NumGoroutine" := by simpa using name11
  have h2 : Tryd.f11.body ≠ none := by
    intro h
    have := body11
    rw [h] at this
    simp at this
  obtain ⟨c, hc⟩ := Option.ne_none_iff_exists'.1 h2
  simp [callFunc, Tryd.func11, h1, hc]
/-- both digests stand where they stood -/
def St (w : World) (ba bb : Nat) (A B : List Nat) (w' : World) : Prop := DAt ba w' A ∧ DAt bb w' B ∧ Below w.heap.size w w'
theorem St.drew {w : World} {ba bb : Nat} {A B : List Nat} {w' : World} (h : St w ba bb A B w') : St w ba bb A B w'.drew := ⟨h.1, h.2.1, h.2.2.drew⟩
theorem St.keep {w : World} {ba bb : Nat} {A B : List Nat} {w' w'' : World} (h : St w ba bb A B w') (hb : Below w'.heap.size w' w'') : St w ba bb A B w'' :=
  ⟨h.1.keep hb, h.2.1.keep hb, h.2.2.trans (hb.mono h.2.2.size)⟩
theorem St.below {w : World} {ba bb : Nat} {A B : List Nat} {w' : World} (h : St w ba bb A B w') : Below w.heap.size w w' := h.2.2
theorem strOf_toList (l : List Nat) : (strOf l).toList = by8 l := by
  have h : (strOf l).toList = (strOf l).data.toList := ByteArray.toList_eq _
  rw [h]
  simp [strOf, by8]

set_option maxHeartbeats 1600000 in
set_option maxRecDepth 100000 in
theorem orders_any (w : World) (A B : List Nat) (hA : A.length = 32) (hB : B.length = 32) (hA2 : ∀ x ∈ A, x < 256) (hB2 : ∀ x ∈ B, x < 256) (hK : RdW 0 w K) :
    Calls Tryd.prog 7 #[.agg (A.map U8).toArray, .agg (B.map U8).toArray] w fun e w' => e = .returned (.bool true) ∧ Below w.heap.size w w' := by
  have h0 : 0 < w.heap.size := block_lt_of_cell (hK 0 (by omega))
  obtain ⟨CA, HCA⟩ : ∃ C, Hid (C = A.map U8) := ⟨_, Lib.hid rfl⟩
  obtain ⟨CB, HCB⟩ : ∃ C, Hid (C = B.map U8) := ⟨_, Lib.hid rfl⟩
  rw [← HCA.out, ← HCB.out]
  obtain ⟨w0, HW0⟩ : ∃ w0, Hid (w0 = (w.alloc (.cells CA.toArray 24)).alloc (.cells CB.toArray 24)) := ⟨_, Lib.hid rfl⟩
  have HDA : Hid (DAt w.heap.size w0 A) := by
    refine Lib.hid ⟨?_, hA⟩
    rw [HW0.out, Below.heap_alloc _ _ _ (by simp), heap_alloc_new, HCA.out]
  have HDB : Hid (DAt (w.heap.size + 1) w0 B) := by
    refine Lib.hid ⟨?_, hB⟩
    have h1 := heap_alloc_new (w.alloc (.cells CA.toArray 24)) (.cells CB.toArray 24)
    rw [World.size_alloc] at h1
    rw [HW0.out, h1, HCB.out]
  have hb0 : Below w.heap.size w w0 := by rw [HW0.out]; exact ((Below.refl _ _).alloc (Nat.le_refl _) _).alloc (by simp) _
  have hK0 : RdW 0 w0 K := fun i hi => (hb0.cell (by exact h0)).trans (hK i hi)
  go_enter Tryd.func7, Tryd.ntmps7
  go_wp2_with fail
  rw [← HW0.out]
  refine (head_any w0 hK0).mono ?_
  rintro e w1 ⟨rfl, hb1⟩
  have HDA1 := Lib.hid (HDA.out.keep hb1)
  have HDB1 := Lib.hid (HDB.out.keep hb1)
  obtain ⟨ba, HBA⟩ : ∃ b, Hid (b = w.heap.size) := ⟨_, Lib.hid rfl⟩
  obtain ⟨bb, HBB⟩ : ∃ b, Hid (b = w.heap.size + 1) := ⟨_, Lib.hid rfl⟩
  rw [← HBA.out] at HDA1
  rw [← HBB.out] at HDB1
  rw [← HBB.out, ← HBA.out]
  obtain ⟨XA, HXA⟩ : ∃ X, Hid (X = strOf A) := ⟨_, Lib.hid rfl⟩
  obtain ⟨XB, HXB⟩ : ∃ X, Hid (X = strOf B) := ⟨_, Lib.hid rfl⟩
  have hcA : (convert 35 9 (.slice (some ⟨ba, 0, none⟩) 32 32)).run Tryd.prog w1 = .ok (.string XA) w1 := by rw [HXA.out]; exact conv_any HDA1.out hA2
  have hcB : (convert 35 9 (.slice (some ⟨bb, 0, none⟩) 32 32)).run Tryd.prog w1 = .ok (.string XB) w1 := by rw [HXB.out]; exact conv_any HDB1.out hB2
  have hb01 : Below w.heap.size w w1 := hb0.trans (hb1.mono hb0.size)
  go_wp2
  obtain ⟨YA, HYA⟩ : ∃ X, Hid (X = strOf (hexOf A)) := ⟨_, Lib.hid rfl⟩
  obtain ⟨YB, HYB⟩ : ∃ X, Hid (X = strOf (hexOf B)) := ⟨_, Lib.hid rfl⟩
  obtain ⟨l1, e1, e2⟩ : ∃ l1, Op.bytesLess YA.toList YB.toList = l1 ∧ Op.bytesLess XA.toList XB.toList = l1 := by
    refine ⟨_, rfl, ?_⟩
    rw [HXA.out, HXB.out, HYA.out, HYB.out, strOf_toList, strOf_toList, strOf_toList, strOf_toList]
    exact (less_hex A B hA2 hB2).symm
  obtain ⟨l2, e3, e4⟩ : ∃ l2, (YA.toList == YB.toList) = l2 ∧ ∀ w, (Op.equalIn 10000 24 (.agg CA.toArray) (.agg CB.toArray)).run Tryd.prog w = .ok l2 w := by
    refine ⟨_, rfl, fun w => ?_⟩
    rw [HCA.out, HCB.out, HYA.out, HYB.out, strOf_toList, strOf_toList, eq_hex A B hA2 hB2]
    exact eq_any A B hA hB hA2 hB2 w
  have hxA : ∀ w, Calls Tryd.prog 11 #[.agg CA.toArray] w fun e w' => e = .returned (.string YA) ∧ Below w.heap.size w w' := by rw [HCA.out, HYA.out]; exact fun w => hex_any w A hA hA2
  have hxB : ∀ w, Calls Tryd.prog 11 #[.agg CB.toArray] w fun e w' => e = .returned (.string YB) ∧ Below w.heap.size w w' := by rw [HCB.out, HYB.out]; exact fun w => hex_any w B hB hB2
  obtain ⟨N, HN⟩ : ∃ N, Hid (N = 32) := ⟨_, Lib.hid rfl⟩
  have hAg : ∀ w, (isAgg 24).run Tryd.prog w = .ok true w := fun w => by simp [isAgg, run_underlying Tryd.underlying24]
  have hSz : ∀ w, (sizeOf 24).run Tryd.prog w = .ok N w := by
    intro w
    have h : (Tryd.prog.info? 24).map (·.size) = some 32 := info24
    cases hi : Tryd.prog.info? 24 with
    | none => simp [hi] at h
    | some i =>
      simp [hi] at h
      rw [HN.out]
      simp [sizeOf, typeInfo, hi, h]
  have hlA : ∀ w', St w ba bb A B w' → (loadCellsFrom ⟨ba, 0, none⟩ 0 N #[]).run Tryd.prog w' = .ok CA.toArray w' := by
    intro w' h
    rw [HCA.out, HN.out, show (32 : Nat) = (A.map U8).length by rw [List.length_map, hA]]
    exact run_loadCells_list (P := Tryd.prog) w' ⟨ba, 0, none⟩ (A.map U8) (fun j v hv => by
      have h3 : Addr.add ⟨ba, 0, none⟩ j = ⟨ba, 0 + j, none⟩ := by simp [Addr.add]; intro h; exact h.symm
      rw [h3]
      exact h.1.range j v hv)
  have hlB : ∀ w', St w ba bb A B w' → (loadCellsFrom ⟨bb, 0, none⟩ 0 N #[]).run Tryd.prog w' = .ok CB.toArray w' := by
    intro w' h
    rw [HCB.out, HN.out, show (32 : Nat) = (B.map U8).length by rw [List.length_map, hB]]
    exact run_loadCells_list (P := Tryd.prog) w' ⟨bb, 0, none⟩ (B.map U8) (fun j v hv => by
      have h3 : Addr.add ⟨bb, 0, none⟩ j = ⟨bb, 0 + j, none⟩ := by simp [Addr.add]; intro h; exact h.symm
      rw [h3]
      exact h.2.1.range j v hv)
  have hst : St w ba bb A B w1 := ⟨HDA1.out, HDB1.out, hb01⟩
  clear hcA hcB hb01 hb0 hK hK0 hb1
  have hu4 := Tryd.underlying4
  have hf11 := enter11
  have hgd : Tryd.prog.eqGuardType Tryd.prog.depth 24 = false := by kernel_rfl
  have hu9 := Tryd.underlying9
  obtain ⟨T, HT⟩ : ∃ T, Hid (T = Tryd.prog.types) := ⟨_, Lib.hid rfl⟩
  have HPP : Hid (pw T = Tryd.prog) := by rw [HT.out]; exact Lib.hid pw_eq
  rw [← HPP.out] at hlA hlB hxA hxB e4 hu4 hu9 hAg hSz hf11 hgd
  rw [← HPP.out]
  go_region_held3 (fun w' => St w ba bb A B w')
    (first | assumption | exact St.drew (by assumption) | exact St.keep (by assumption) (by assumption))
    (first
      | (go_at_call 11; (with_reducible refine (hxA _).mono ?_); rintro e w' ⟨rfl, hbq⟩)
      | (go_at_call 11; (with_reducible refine (hxB _).mono ?_); rintro e w' ⟨rfl, hbq⟩))
  go_wp2
  go_ret
  exact ⟨rfl, St.below (by assumption)⟩

end Go.Proofs.YtbpdeehpeflbeaaDoor
