/-
  The state's start.
-/
import Derived.Test.YtbpdeehpeflbeaaDoorFinish
namespace Go.Proofs.YtbpdeehpeflbeaaDoor
open Go.RowKit

theorem info43 : (Tryd.prog.info? 43).map (·.size) = some 74 := by kernel_rfl
def st0 : List Value := stL H0 (List.replicate 64 0) 0 0
theorem st0_one : ∀ v ∈ st0, v.oneCell' = true := by
  intro v hv
  unfold st0 stL at hv
  rcases List.mem_append.1 hv with h | h
  · exact U32_one _ v h
  · rcases List.mem_append.1 h with h | h
    · exact U8_one _ v h
    · simp at h
      rcases h with rfl | rfl <;> rfl
def Z43 : Array Value := (stL (List.replicate 8 0) (List.replicate 64 0) 0 0).toArray
theorem zero43' : (Tryd.prog.info? 43).bind (·.zero) = some (.agg Z43) := by kernel_rfl
theorem run_zero43 (w : World) : (zeroValue 43).run Tryd.prog w = .ok (.agg Z43) w := by
  have h := zero43'
  cases hi : Tryd.prog.info? 43 with
  | none => simp [hi] at h
  | some i =>
    simp only [hi, Option.bind_some] at h
    simp [zeroValue, typeInfo, hi, h]
theorem built39 : Tryd.prog.built 39 [(0, .int .u32 1779033703), (1, .int .u32 3144134277), (2, .int .u32 1013904242), (3, .int .u32 2773480762), (4, .int .u32 1359893119), (5, .int .u32 2600822924), (6, .int .u32 528734635), (7, .int .u32 1541459225)] = some (H0.map U32).toArray := by kernel_rfl
theorem built43 : Tryd.prog.built 43 [(0, .agg (H0.map U32).toArray)] = some st0.toArray := by kernel_rfl

theorem wpList_build_as {P : Program} {ops : Array Oper} {rest : List Oper} {o : Oper} {a : Act} {w : World} {Q : Exit → Act → World → Prop} (hg : o.guard = none) (t : TypeId) (parts : Array (Nat × Operand)) (ho : o.op = .build t parts)
    (ps : List (Nat × Value)) (hp : (parts.map fun (i, x) => (i, a.eval x)).toList = ps) (cells : Array Value) (hf : P.built t ps = some cells)
    (h : wpList P ops Q rest (a.put o.dst (.agg cells)) w) : wpList P ops Q (o :: rest) a w := by
  refine wpList_build hg t parts ho (by rw [hp, hf]; rfl) ?_
  rw [hp, hf]
  exact h

set_option maxHeartbeats 200000 in
set_option maxRecDepth 100000 in
theorem start_any (w : World) :
    Calls Tryd.prog 13 #[] w fun e w' => e = .returned (.agg st0.toArray) ∧ Below w.heap.size w w' := by
  obtain ⟨Z, hZ, HZ⟩ : ∃ Z, (∀ w, (zeroValue 43).run Tryd.prog w = .ok (.agg Z) w) ∧ Hid (Z.size = 74) := ⟨Z43, run_zero43, Lib.hid (by kernel_rfl)⟩
  obtain ⟨A, HA, HA2, HBB⟩ : ∃ A, Hid (Tryd.prog.built 39 [(0, .int .u32 1779033703), (1, .int .u32 3144134277), (2, .int .u32 1013904242), (3, .int .u32 2773480762), (4, .int .u32 1359893119), (5, .int .u32 2600822924), (6, .int .u32 528734635), (7, .int .u32 1541459225)] = some A) ∧ Hid (Tryd.prog.built 43 [(0, .agg A)] = some st0.toArray) ∧ True := ⟨_, Lib.hid built39, Lib.hid built43, trivial⟩
  obtain ⟨B, HB⟩ : ∃ B, Hid (B = st0) := ⟨_, Lib.hid rfl⟩
  rw [← HB.out] at HA2 ⊢
  have hBl : B.length = 74 := by rw [HB.out]; kernel_rfl
  have HBL := Lib.hid hBl
  have HI2 : Hid ((Tryd.prog.info? 43).map (·.size) = some B.toArray.size) := by rw [List.size_toArray, hBl]; exact info43
  have HI : Hid ((Tryd.prog.info? 43).map (·.size) = some B.length) := by rw [hBl]; exact info43
  have hall : B.toArray.all (·.oneCell') = true := by rw [HB.out]; exact all_oneCell_toArray st0_one
  have hthere : (w.alloc (.cells Z 43)).there w.heap.size 0 B.toArray.size := by rw [show B.toArray.size = 74 by rw [List.size_toArray]; exact HBL.out]; exact there_new w Z 43 74 HZ.out
  have HRD : Hid ((loadVar 43 ⟨w.heap.size, 0, none⟩).run Tryd.prog ((w.alloc (.cells Z 43)).setCells w.heap.size 0 B) = .ok (.agg B.toArray) ((w.alloc (.cells Z 43)).setCells w.heap.size 0 B)) := Lib.hid
    (run_loadVar_mid _ _ _ _ _ _ (World.rangeAt_setCells_same _ _ _ _ (by have := hthere; simpa using this)) Tryd.underlying43 rfl HI.out)
  have HBe : Hid (Below w.heap.size w ((w.alloc (.cells Z 43)).setCells w.heap.size 0 B)) := Lib.hid (below_setCells (Nat.le_refl _) _ _ _ ((Below.refl _ _).alloc (Nat.le_refl _) _))
  clear hBl
  go_enter Tryd.func13, Tryd.ntmps13
  go_wp2_with (first
    | ((with_reducible refine wpList_build_as rfl 39 _ rfl [(0, .int .u32 1779033703), (1, .int .u32 3144134277), (2, .int .u32 1013904242), (3, .int .u32 2773480762), (4, .int .u32 1359893119), (5, .int .u32 2600822924), (6, .int .u32 528734635), (7, .int .u32 1541459225)] ?hp A HA.out ?_); (case hp => simp only [List.map_toArray, List.map_cons, List.map_nil]; rfl))
    | ((with_reducible refine wpList_build_as rfl 43 _ rfl [(0, .agg A)] ?hp B.toArray HA2.out ?_); (case hp => simp only [List.map_toArray, List.map_cons, List.map_nil]; rfl))
    | (with_reducible refine wpList_store_mid rfl 43 (.tmp 0) (.tmp 2) rfl w.heap.size 0 B.toArray rfl rfl hthere HI2.out hall ?_))
  exact bodyPost_ret (v := .agg B.toArray) (results_cell1 Tryd.results13 rfl HRD.out) rfl ⟨rfl, HBe.out⟩

end Go.Proofs.YtbpdeehpeflbeaaDoor
