/-
  How long a class's text is, by how much is in it.
-/
import Derived.Test.YtojkagfbdpjckaaDoorLnJ
namespace Go.Proofs.YtojkagfbdpjckaaDoor

/-- How much is in members, and in a class. -/
def vsB : List Vr → Nat
  | [] => 0
  | v :: r => 1 + v.name.size + v.tn.size + vsB r
def mtB (m : Mt) : Nat := 1 + m.name.size + m.rn.size + vsB m.params + stBs m.body
def msB : List Mt → Nat
  | [] => 0
  | m :: r => mtB m + msB r
def clB (name sup : ByteArray) (fs : List Vr) (ms : List Mt) : Nat := 1 + name.size + sup.size + vsB fs + msB ms
theorem ty_le (tn : ByteArray) (ta : Bool) : (tyB tn ta).length ≤ tn.size + 2 := by
  unfold tyB
  rw [List.length_append]
  have : tn.data.toList.length = tn.size := rfl
  cases ta <;> simp <;> omega
theorem vx_le (v : Vr) : (vx v).length ≤ 3 + v.name.size + v.tn.size := by
  have h1 := ty_le v.tn v.ta
  have e1 : v.name.data.toList.length = v.name.size := rfl
  unfold vx
  simp only [List.length_append, List.length_cons, List.length_nil, e1]
  omega
theorem vs_le : ∀ vs : List Vr, 2 * (vs.map vx).length + total (vs.map vx) ≤ 5 * vsB vs
  | [] => by simp [total]
  | v :: r => by
    have h1 := vx_le v
    have h2 := vs_le r
    rw [List.map_cons, total, List.length_cons, vsB]
    omega
theorem fields_le : ∀ vs : List Vr, (vs.flatMap (fun f => [9, 102, 105, 101, 108, 100, 32] ++ (vx f ++ [59, 10]))).length ≤ 12 * vsB vs
  | [] => by simp
  | v :: r => by
    have h1 := vx_le v
    have h2 := fields_le r
    rw [List.flatMap_cons, List.length_append, vsB]
    simp only [List.length_append, List.length_cons, List.length_nil]
    omega
theorem mx_le (m : Mt) (K : Nat) (ho : okSs m.body) (hK : 2 + mtB m ≤ K) : (mx m).length ≤ (100 + 3 * K) * mtB m := by
  have h1 := ty_le m.rn m.ra
  have h2 := cm_len (m.params.map vx)
  have h3 := vs_le m.params
  unfold mtB at hK ⊢
  have h4 := sxs_B m.body 2 K ho (by omega)
  have h5 := mul_three (100 + 3 * K) 60 (stBs m.body) 0 _ 0 h4 (by omega) (by omega) (by omega) m.name.size m.rn.size (vsB m.params)
  simp only [Nat.add_zero] at h5
  have e1 : m.name.data.toList.length = m.name.size := rfl
  have e2 : (if m.static then [115, 116, 97, 116, 105, 99, 32] else [] : Bs).length ≤ 7 := by cases m.static <;> decide
  unfold mx
  simp only [lst, List.length_append, List.length_cons, List.length_nil, e1]
  omega
theorem ms_le : ∀ (ms : List Mt) (K : Nat), (∀ m ∈ ms, okSs m.body) → 2 + msB ms ≤ K → (ms.flatMap mx).length ≤ (100 + 3 * K) * msB ms
  | [], _, _, _ => by simp
  | m :: r, K, ho, hK => by
    rw [msB] at hK
    have h1 := mx_le m K (ho m (by simp)) (by omega)
    have h2 := ms_le r K (fun m hm => ho m (by simp [hm])) (by omega)
    rw [List.flatMap_cons, List.length_append, msB, Nat.mul_add]
    omega
theorem cx_le (name sup : ByteArray) (fs : List Vr) (ms : List Mt) (K : Nat) (ho : ∀ m ∈ ms, okSs m.body) (hK : 2 + clB name sup fs ms ≤ K) : (cx name sup fs ms).length ≤ (100 + 3 * K) * clB name sup fs ms := by
  unfold clB at hK ⊢
  have h1 := fields_le fs
  have h2 := ms_le ms K ho (by omega)
  have h3 := mul_three (100 + 3 * K) 40 (msB ms) 0 _ 0 h2 (by omega) (by omega) (by omega) name.size sup.size (vsB fs)
  simp only [Nat.add_zero] at h3
  have e1 : name.data.toList.length = name.size := rfl
  have e2 : sup.data.toList.length = sup.size := rfl
  have e3 : (if sup.size = 0 then [] else [32, 101, 120, 116, 101, 110, 100, 115, 32] ++ sup.data.toList : Bs).length ≤ 9 + sup.size := by
    split
    · simp
    · simp only [List.length_append, List.length_cons, List.length_nil, e2]; omega
  unfold cx
  simp only [List.length_append, List.length_cons, List.length_nil, e1]
  omega
/-- How long all names are. -/
theorem vn_le : ∀ vs : List Vr, (vn vs).length ≤ vsB vs
  | [] => by simp [vn]
  | v :: r => by
    have h := vn_le r
    have e1 : v.name.data.toList.length = v.name.size := rfl
    have e2 : v.tn.data.toList.length = v.tn.size := rfl
    unfold vn at h ⊢
    rw [List.flatMap_cons, vsB]
    simp only [List.length_append, e1, e2]
    omega
theorem mn_le : ∀ ms : List Mt, (ms.flatMap mn).length ≤ msB ms
  | [] => by simp
  | m :: r => by
    have h := mn_le r
    have h1 := vn_le m.params
    have e1 : m.name.data.toList.length = m.name.size := rfl
    have e2 : m.rn.data.toList.length = m.rn.size := rfl
    rw [List.flatMap_cons, msB, mtB]
    simp only [mn, List.length_append, e1, e2]
    omega
end Go.Proofs.YtojkagfbdpjckaaDoor
