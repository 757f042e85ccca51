/-
  Two digests.
-/
import Derived.Test.YtdcbeemjdpgjmaaDoorShSum
import Derived.Stop.BytesEq
namespace Go.Proofs.YtdcbeemjdpgjmaaDoor
open Go.RowKit

theorem shaOf_length (l : List Nat) : (shaOf l).length = 32 := digestOf_length _
theorem shaOf_lt (l : List Nat) : ∀ x ∈ shaOf l, x < 256 := by
  intro x hx
  unfold shaOf digestOf at hx
  obtain ⟨i, _, rfl⟩ := List.mem_map.1 hx
  exact Nat.mod_lt _ (by omega)
theorem all1 (S : ByteArray) : allOf [S] = bsOf S := by simp [allOf]

theorem cells_of (D : List Nat) (h : ∀ x ∈ D, x < 256) : D.map U8 = (D.map (fun n => UInt8.ofNat n)).map Extern.Stop.cell := by
  rw [List.map_map]
  refine List.map_congr_left fun x hx => ?_
  have := h x hx
  simp [U8, Extern.Stop.cell, Nat.mod_eq_of_lt this]
theorem size5 (w : World) : (sizeOf 5).run Tryd.prog w = .ok 1 w := by
  have h : (Tryd.prog.info? 5).map (·.size) = some 1 := by kernel_rfl
  cases hi : Tryd.prog.info? 5 with
  | none => simp [hi] at h
  | some i =>
    simp [hi] at h
    simp [sizeOf, typeInfo, hi, h]
/-- two digests -/
theorem eq_any (D E : List Nat) (hD : D.length = 32) (hE : E.length = 32) (h1 : ∀ x ∈ D, x < 256) (h2 : ∀ x ∈ E, x < 256) (w : World) :
    (Op.equalIn 10000 35 (.agg (D.map U8).toArray) (.agg (E.map U8).toArray)).run Tryd.prog w = .ok (D.map (fun n => UInt8.ofNat n) == E.map (fun n => UInt8.ofNat n)) w := by
  rw [cells_of D h1, cells_of E h2]
  exact run_equalIn_bytes w 9998 35 5 32 Tryd.underlying35 Tryd.underlying5 size5 _ _ (by simpa using hD) (by simpa using hE)
theorem eq_same (D : List Nat) (hD : D.length = 32) (h1 : ∀ x ∈ D, x < 256) (w : World) :
    (Op.equalIn 10000 35 (.agg (D.map U8).toArray) (.agg (D.map U8).toArray)).run Tryd.prog w = .ok true w := by
  rw [eq_any D D hD hD h1 h1 w]
  simp

end Go.Proofs.YtdcbeemjdpgjmaaDoor
