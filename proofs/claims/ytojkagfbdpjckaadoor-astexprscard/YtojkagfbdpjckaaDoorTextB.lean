/-
  The statement's own text of an expression, kind by kind.
-/
import Derived.Test.YtojkagfbdpjckaaDoorClos
import Derived.Deep.RegionHeld3
namespace Go.Proofs.YtojkagfbdpjckaaDoor
open Go.RowKit

set_option maxHeartbeats 2000000 in
set_option maxRecDepth 100000 in
theorem text_k12 (W : World) (Q : Tree → Value → Prop) (hQ : ∀ t kk, t.ok → Q t kk → TextOK W t kk) (ln co num : Int) (name tn : ByteArray) (ta : Bool) (kids : List Tree) (fn : ByteArray) (fa : Bool) (ow : ByteArray) (ka : Option Addr) (kn kc : Nat) (hk : Kids W Q kids (.slice ka kn kc)) : TextOK W (.mk 12 ln co num name tn ta kids fn fa ow) (.slice ka kn kc) := by
  intro u hw hlen
  have hB := hw.size
  obtain ⟨Z0, eZ0⟩ : ∃ Z : ByteArray, Z = ⟨(nt (kids.map tx) 0).toArray⟩ := ⟨_, rfl⟩
  obtain ⟨Z1, eZ1⟩ : ∃ Z : ByteArray, Z = ⟨(nt (kids.map tx) 1).toArray⟩ := ⟨_, rfl⟩
  have sZ0 : Z0.size = (nt (kids.map tx) 0).length := by rw [eZ0]; rfl
  have sZ1 : Z1.size = (nt (kids.map tx) 1).length := by rw [eZ1]; rfl
  have hE : (⟨(tx (.mk 12 ln co num name tn ta kids fn fa ow)).toArray⟩ : ByteArray) = Z0 ++ ⟨#[91]⟩ ++ Z1 ++ ⟨#[93]⟩ := by
    rw [tx_mk, eZ0, eZ1]
    exact ba_eq (by simp [txk, pair])
  have hsz : Z0.size + 1 + Z1.size + 1 ≤ 140737488355328 := by
    have h := congrArg ByteArray.size hE
    simp only [ByteArray.size_append] at h
    have q0 : (⟨#[91]⟩ : ByteArray).size = 1 := rfl
    have q1 : (⟨#[93]⟩ : ByteArray).size = 1 := rfl
    have h2 : (⟨(tx (.mk 12 ln co num name tn ta kids fn fa ow)).toArray⟩ : ByteArray).size = (tx (.mk 12 ln co num name tn ta kids fn fa ow)).length := rfl
    omega
  rw [hE]
  have HK0 : Hid (∀ x, Below (u.heap.size + 1) (u.alloc (.cells #[.int .i64 12, .int .i64 ln, .int .i64 co, .int .i64 num, .string name, .string tn, .bool ta, .slice ka kn kc, .string fn, .bool fa, .string ow] 29)) x → Calls Tryd.prog 30 #[.int .i64 0, .pointer (some ⟨u.heap.size, 0, none⟩)] x fun e w' => e = .returned (.string Z0) ∧ Below x.heap.size x w') := Lib.hid (fun x hx => by
    rw [eZ0]
    exact clos30 W Q hQ kids ka kn kc hk u.heap.size _ 0 (by omega) x ((hw.trans ((below1 u _).mono hB)).trans (hx.mono (by omega))) ((hx.block _ (by omega)).trans (heap_al1 _ _)) rfl (by omega))
  have HK1 : Hid (∀ x, Below (u.heap.size + 1) (u.alloc (.cells #[.int .i64 12, .int .i64 ln, .int .i64 co, .int .i64 num, .string name, .string tn, .bool ta, .slice ka kn kc, .string fn, .bool fa, .string ow] 29)) x → Calls Tryd.prog 30 #[.int .i64 1, .pointer (some ⟨u.heap.size, 0, none⟩)] x fun e w' => e = .returned (.string Z1) ∧ Below x.heap.size x w') := Lib.hid (fun x hx => by
    rw [eZ1]
    exact clos30 W Q hQ kids ka kn kc hk u.heap.size _ 1 (by omega) x ((hw.trans ((below1 u _).mono hB)).trans (hx.mono (by omega))) ((hx.block _ (by omega)).trans (heap_al1 _ _)) rfl (by omega))
  have z2 : ¬ 9223372036854775807 < Z0.size + 1 := by omega
  have z3 : ¬ 9223372036854775807 < Z0.size + 1 + Z1.size := by omega
  have z4 : ¬ 9223372036854775807 < Z0.size + 1 + Z1.size + 1 := by omega
  clear hE hlen hk hQ hsz eZ0 sZ0 eZ1 sZ1
  unfold exprV exprC
  go_enter Tryd.func11, Tryd.ntmps11
  go_wp2_with fail
  refine (HK0.out _ (Below.refl _ _)).mono ?_
  rintro e y0 ⟨rfl, hy0⟩
  have hx0 : Below (u.heap.size + 1) (u.alloc (.cells #[.int .i64 12, .int .i64 ln, .int .i64 co, .int .i64 num, .string name, .string tn, .bool ta, .slice ka kn kc, .string fn, .bool fa, .string ow] 29)) y0 := by simpa using hy0
  have hs0 : u.heap.size + 1 ≤ y0.heap.size := by have := hx0.size; simpa using this
  clear hy0
  go_wp2_with fail
  refine (HK1.out _ hx0).mono ?_
  rintro e y1 ⟨rfl, hy1⟩
  have hx1 : Below (u.heap.size + 1) (u.alloc (.cells #[.int .i64 12, .int .i64 ln, .int .i64 co, .int .i64 num, .string name, .string tn, .bool ta, .slice ka kn kc, .string fn, .bool fa, .string ow] 29)) y1 := hx0.trans (hy1.mono hs0)
  clear hy1
  go_wp2
  go_ret
  exact ⟨rfl, (below1 u _).trans (hx1.mono (by omega))⟩
set_option maxHeartbeats 2000000 in
set_option maxRecDepth 100000 in
theorem text_k13 (W : World) (Q : Tree → Value → Prop) (hQ : ∀ t kk, t.ok → Q t kk → TextOK W t kk) (ln co num : Int) (name tn : ByteArray) (ta : Bool) (kids : List Tree) (fn : ByteArray) (fa : Bool) (ow : ByteArray) (ka : Option Addr) (kn kc : Nat) (hk : Kids W Q kids (.slice ka kn kc)) : TextOK W (.mk 13 ln co num name tn ta kids fn fa ow) (.slice ka kn kc) := by
  intro u hw hlen
  have hB := hw.size
  obtain ⟨Z0, eZ0⟩ : ∃ Z : ByteArray, Z = ⟨(nt (kids.map tx) 0).toArray⟩ := ⟨_, rfl⟩
  have sZ0 : Z0.size = (nt (kids.map tx) 0).length := by rw [eZ0]; rfl
  have hE : (⟨(tx (.mk 13 ln co num name tn ta kids fn fa ow)).toArray⟩ : ByteArray) = Z0 ++ ⟨#[46, 108, 101, 110, 103, 116, 104]⟩ := by
    rw [tx_mk, eZ0]
    exact ba_eq (by simp [txk, Go.Proofs.YtojkagfbdpjckaaDoor.one])
  have hsz : Z0.size + 7 ≤ 140737488355328 := by
    have h := congrArg ByteArray.size hE
    simp only [ByteArray.size_append] at h
    have q0 : (⟨#[46, 108, 101, 110, 103, 116, 104]⟩ : ByteArray).size = 7 := rfl
    have h2 : (⟨(tx (.mk 13 ln co num name tn ta kids fn fa ow)).toArray⟩ : ByteArray).size = (tx (.mk 13 ln co num name tn ta kids fn fa ow)).length := rfl
    omega
  rw [hE]
  have HK0 : Hid (∀ x, Below (u.heap.size + 1) (u.alloc (.cells #[.int .i64 13, .int .i64 ln, .int .i64 co, .int .i64 num, .string name, .string tn, .bool ta, .slice ka kn kc, .string fn, .bool fa, .string ow] 29)) x → Calls Tryd.prog 30 #[.int .i64 0, .pointer (some ⟨u.heap.size, 0, none⟩)] x fun e w' => e = .returned (.string Z0) ∧ Below x.heap.size x w') := Lib.hid (fun x hx => by
    rw [eZ0]
    exact clos30 W Q hQ kids ka kn kc hk u.heap.size _ 0 (by omega) x ((hw.trans ((below1 u _).mono hB)).trans (hx.mono (by omega))) ((hx.block _ (by omega)).trans (heap_al1 _ _)) rfl (by omega))
  have z2 : ¬ 9223372036854775807 < Z0.size + 7 := by omega
  clear hE hlen hk hQ hsz eZ0 sZ0
  unfold exprV exprC
  go_enter Tryd.func11, Tryd.ntmps11
  go_wp2_with fail
  refine (HK0.out _ (Below.refl _ _)).mono ?_
  rintro e y0 ⟨rfl, hy0⟩
  have hx0 : Below (u.heap.size + 1) (u.alloc (.cells #[.int .i64 13, .int .i64 ln, .int .i64 co, .int .i64 num, .string name, .string tn, .bool ta, .slice ka kn kc, .string fn, .bool fa, .string ow] 29)) y0 := by simpa using hy0
  have hs0 : u.heap.size + 1 ≤ y0.heap.size := by have := hx0.size; simpa using this
  clear hy0
  go_wp2
  go_ret
  exact ⟨rfl, (below1 u _).trans (hx0.mono (by omega))⟩
set_option maxHeartbeats 2000000 in
set_option maxRecDepth 100000 in
theorem text_k14 (W : World) (Q : Tree → Value → Prop) (hQ : ∀ t kk, t.ok → Q t kk → TextOK W t kk) (ln co num : Int) (name tn : ByteArray) (ta : Bool) (kids : List Tree) (fn : ByteArray) (fa : Bool) (ow : ByteArray) (ka : Option Addr) (kn kc : Nat) (hk : Kids W Q kids (.slice ka kn kc)) : TextOK W (.mk 14 ln co num name tn ta kids fn fa ow) (.slice ka kn kc) := by
  intro u hw hlen
  have hB := hw.size
  obtain ⟨Z0, eZ0⟩ : ∃ Z : ByteArray, Z = ⟨(nt (kids.map tx) 0).toArray⟩ := ⟨_, rfl⟩
  have sZ0 : Z0.size = (nt (kids.map tx) 0).length := by rw [eZ0]; rfl
  have hE : (⟨(tx (.mk 14 ln co num name tn ta kids fn fa ow)).toArray⟩ : ByteArray) = ⟨#[40, 45]⟩ ++ Z0 ++ ⟨#[41]⟩ := by
    rw [tx_mk, eZ0]
    exact ba_eq (by simp [txk, Go.Proofs.YtojkagfbdpjckaaDoor.one])
  have hsz : 2 + Z0.size + 1 ≤ 140737488355328 := by
    have h := congrArg ByteArray.size hE
    simp only [ByteArray.size_append] at h
    have q0 : (⟨#[40, 45]⟩ : ByteArray).size = 2 := rfl
    have q1 : (⟨#[41]⟩ : ByteArray).size = 1 := rfl
    have h2 : (⟨(tx (.mk 14 ln co num name tn ta kids fn fa ow)).toArray⟩ : ByteArray).size = (tx (.mk 14 ln co num name tn ta kids fn fa ow)).length := rfl
    omega
  rw [hE]
  have HK0 : Hid (∀ x, Below (u.heap.size + 1) (u.alloc (.cells #[.int .i64 14, .int .i64 ln, .int .i64 co, .int .i64 num, .string name, .string tn, .bool ta, .slice ka kn kc, .string fn, .bool fa, .string ow] 29)) x → Calls Tryd.prog 30 #[.int .i64 0, .pointer (some ⟨u.heap.size, 0, none⟩)] x fun e w' => e = .returned (.string Z0) ∧ Below x.heap.size x w') := Lib.hid (fun x hx => by
    rw [eZ0]
    exact clos30 W Q hQ kids ka kn kc hk u.heap.size _ 0 (by omega) x ((hw.trans ((below1 u _).mono hB)).trans (hx.mono (by omega))) ((hx.block _ (by omega)).trans (heap_al1 _ _)) rfl (by omega))
  have z2 : ¬ 9223372036854775807 < 2 + Z0.size := by omega
  have z3 : ¬ 9223372036854775807 < 2 + Z0.size + 1 := by omega
  clear hE hlen hk hQ hsz eZ0 sZ0
  unfold exprV exprC
  go_enter Tryd.func11, Tryd.ntmps11
  go_wp2_with fail
  refine (HK0.out _ (Below.refl _ _)).mono ?_
  rintro e y0 ⟨rfl, hy0⟩
  have hx0 : Below (u.heap.size + 1) (u.alloc (.cells #[.int .i64 14, .int .i64 ln, .int .i64 co, .int .i64 num, .string name, .string tn, .bool ta, .slice ka kn kc, .string fn, .bool fa, .string ow] 29)) y0 := by simpa using hy0
  have hs0 : u.heap.size + 1 ≤ y0.heap.size := by have := hx0.size; simpa using this
  clear hy0
  go_wp2
  go_ret
  exact ⟨rfl, (below1 u _).trans (hx0.mono (by omega))⟩
set_option maxHeartbeats 2000000 in
set_option maxRecDepth 100000 in
theorem text_k15 (W : World) (Q : Tree → Value → Prop) (hQ : ∀ t kk, t.ok → Q t kk → TextOK W t kk) (ln co num : Int) (name tn : ByteArray) (ta : Bool) (kids : List Tree) (fn : ByteArray) (fa : Bool) (ow : ByteArray) (ka : Option Addr) (kn kc : Nat) (hk : Kids W Q kids (.slice ka kn kc)) : TextOK W (.mk 15 ln co num name tn ta kids fn fa ow) (.slice ka kn kc) := by
  intro u hw hlen
  have hB := hw.size
  obtain ⟨Z0, eZ0⟩ : ∃ Z : ByteArray, Z = ⟨(nt (kids.map tx) 0).toArray⟩ := ⟨_, rfl⟩
  have sZ0 : Z0.size = (nt (kids.map tx) 0).length := by rw [eZ0]; rfl
  have hE : (⟨(tx (.mk 15 ln co num name tn ta kids fn fa ow)).toArray⟩ : ByteArray) = ⟨#[40, 33]⟩ ++ Z0 ++ ⟨#[41]⟩ := by
    rw [tx_mk, eZ0]
    exact ba_eq (by simp [txk, Go.Proofs.YtojkagfbdpjckaaDoor.one])
  have hsz : 2 + Z0.size + 1 ≤ 140737488355328 := by
    have h := congrArg ByteArray.size hE
    simp only [ByteArray.size_append] at h
    have q0 : (⟨#[40, 33]⟩ : ByteArray).size = 2 := rfl
    have q1 : (⟨#[41]⟩ : ByteArray).size = 1 := rfl
    have h2 : (⟨(tx (.mk 15 ln co num name tn ta kids fn fa ow)).toArray⟩ : ByteArray).size = (tx (.mk 15 ln co num name tn ta kids fn fa ow)).length := rfl
    omega
  rw [hE]
  have HK0 : Hid (∀ x, Below (u.heap.size + 1) (u.alloc (.cells #[.int .i64 15, .int .i64 ln, .int .i64 co, .int .i64 num, .string name, .string tn, .bool ta, .slice ka kn kc, .string fn, .bool fa, .string ow] 29)) x → Calls Tryd.prog 30 #[.int .i64 0, .pointer (some ⟨u.heap.size, 0, none⟩)] x fun e w' => e = .returned (.string Z0) ∧ Below x.heap.size x w') := Lib.hid (fun x hx => by
    rw [eZ0]
    exact clos30 W Q hQ kids ka kn kc hk u.heap.size _ 0 (by omega) x ((hw.trans ((below1 u _).mono hB)).trans (hx.mono (by omega))) ((hx.block _ (by omega)).trans (heap_al1 _ _)) rfl (by omega))
  have z2 : ¬ 9223372036854775807 < 2 + Z0.size := by omega
  have z3 : ¬ 9223372036854775807 < 2 + Z0.size + 1 := by omega
  clear hE hlen hk hQ hsz eZ0 sZ0
  unfold exprV exprC
  go_enter Tryd.func11, Tryd.ntmps11
  go_wp2_with fail
  refine (HK0.out _ (Below.refl _ _)).mono ?_
  rintro e y0 ⟨rfl, hy0⟩
  have hx0 : Below (u.heap.size + 1) (u.alloc (.cells #[.int .i64 15, .int .i64 ln, .int .i64 co, .int .i64 num, .string name, .string tn, .bool ta, .slice ka kn kc, .string fn, .bool fa, .string ow] 29)) y0 := by simpa using hy0
  have hs0 : u.heap.size + 1 ≤ y0.heap.size := by have := hx0.size; simpa using this
  clear hy0
  go_wp2
  go_ret
  exact ⟨rfl, (below1 u _).trans (hx0.mono (by omega))⟩
set_option maxHeartbeats 2000000 in
set_option maxRecDepth 100000 in
theorem text_k16 (W : World) (Q : Tree → Value → Prop) (hQ : ∀ t kk, t.ok → Q t kk → TextOK W t kk) (ln co num : Int) (name tn : ByteArray) (ta : Bool) (kids : List Tree) (fn : ByteArray) (fa : Bool) (ow : ByteArray) (ka : Option Addr) (kn kc : Nat) (hk : Kids W Q kids (.slice ka kn kc)) : TextOK W (.mk 16 ln co num name tn ta kids fn fa ow) (.slice ka kn kc) := by
  intro u hw hlen
  have hB := hw.size
  obtain ⟨Z0, eZ0⟩ : ∃ Z : ByteArray, Z = ⟨(nt (kids.map tx) 0).toArray⟩ := ⟨_, rfl⟩
  obtain ⟨Z1, eZ1⟩ : ∃ Z : ByteArray, Z = ⟨(nt (kids.map tx) 1).toArray⟩ := ⟨_, rfl⟩
  have sZ0 : Z0.size = (nt (kids.map tx) 0).length := by rw [eZ0]; rfl
  have sZ1 : Z1.size = (nt (kids.map tx) 1).length := by rw [eZ1]; rfl
  have hE : (⟨(tx (.mk 16 ln co num name tn ta kids fn fa ow)).toArray⟩ : ByteArray) = ⟨#[40]⟩ ++ Z0 ++ ⟨#[32]⟩ ++ name ++ ⟨#[32]⟩ ++ Z1 ++ ⟨#[41]⟩ := by
    rw [tx_mk, eZ0, eZ1]
    exact ba_eq (by simp [txk, pair])
  have hsz : 1 + Z0.size + 1 + name.size + 1 + Z1.size + 1 ≤ 140737488355328 := by
    have h := congrArg ByteArray.size hE
    simp only [ByteArray.size_append] at h
    have q0 : (⟨#[32]⟩ : ByteArray).size = 1 := rfl
    have q1 : (⟨#[40]⟩ : ByteArray).size = 1 := rfl
    have q2 : (⟨#[41]⟩ : ByteArray).size = 1 := rfl
    have h2 : (⟨(tx (.mk 16 ln co num name tn ta kids fn fa ow)).toArray⟩ : ByteArray).size = (tx (.mk 16 ln co num name tn ta kids fn fa ow)).length := rfl
    omega
  rw [hE]
  have HK0 : Hid (∀ x, Below (u.heap.size + 1) (u.alloc (.cells #[.int .i64 16, .int .i64 ln, .int .i64 co, .int .i64 num, .string name, .string tn, .bool ta, .slice ka kn kc, .string fn, .bool fa, .string ow] 29)) x → Calls Tryd.prog 30 #[.int .i64 0, .pointer (some ⟨u.heap.size, 0, none⟩)] x fun e w' => e = .returned (.string Z0) ∧ Below x.heap.size x w') := Lib.hid (fun x hx => by
    rw [eZ0]
    exact clos30 W Q hQ kids ka kn kc hk u.heap.size _ 0 (by omega) x ((hw.trans ((below1 u _).mono hB)).trans (hx.mono (by omega))) ((hx.block _ (by omega)).trans (heap_al1 _ _)) rfl (by omega))
  have HK1 : Hid (∀ x, Below (u.heap.size + 1) (u.alloc (.cells #[.int .i64 16, .int .i64 ln, .int .i64 co, .int .i64 num, .string name, .string tn, .bool ta, .slice ka kn kc, .string fn, .bool fa, .string ow] 29)) x → Calls Tryd.prog 30 #[.int .i64 1, .pointer (some ⟨u.heap.size, 0, none⟩)] x fun e w' => e = .returned (.string Z1) ∧ Below x.heap.size x w') := Lib.hid (fun x hx => by
    rw [eZ1]
    exact clos30 W Q hQ kids ka kn kc hk u.heap.size _ 1 (by omega) x ((hw.trans ((below1 u _).mono hB)).trans (hx.mono (by omega))) ((hx.block _ (by omega)).trans (heap_al1 _ _)) rfl (by omega))
  have z2 : ¬ 9223372036854775807 < 1 + Z0.size := by omega
  have z3 : ¬ 9223372036854775807 < 1 + Z0.size + 1 := by omega
  have z4 : ¬ 9223372036854775807 < 1 + Z0.size + 1 + name.size := by omega
  have z5 : ¬ 9223372036854775807 < 1 + Z0.size + 1 + name.size + 1 := by omega
  have z6 : ¬ 9223372036854775807 < 1 + Z0.size + 1 + name.size + 1 + Z1.size := by omega
  have z7 : ¬ 9223372036854775807 < 1 + Z0.size + 1 + name.size + 1 + Z1.size + 1 := by omega
  clear hE hlen hk hQ hsz eZ0 sZ0 eZ1 sZ1
  unfold exprV exprC
  go_enter Tryd.func11, Tryd.ntmps11
  go_wp2
  refine wp_region_held_drew (S := fun w' => Below (u.heap.size + 1) (u.alloc (.cells #[.int .i64 16, .int .i64 ln, .int .i64 co, .int .i64 num, .string name, .string tn, .bool ta, .slice ka kn kc, .string fn, .bool fa, .string ow] 29)) w') (by kernel_rfl) ?_ (fun hHeld => ?_)
  · exact Below.drew (Below.refl _ _)
  refine wpAnyH_take (i := 0) (v := ?_) rfl (by kernel_rfl) (by kernel_rfl) (by kernel_rfl) (fun _ _ _ h => h) (Or.inl ⟨by rfl, ?_⟩) (by assumption) ?_
  rotate_left
  focus (intro w hSw; have r0 : w.heap[u.heap.size]? = some (.cells #[.int .i64 16, .int .i64 ln, .int .i64 co, .int .i64 num, .string name, .string tn, .bool ta, .slice ka kn kc, .string fn, .bool fa, .string ow] 29 (0, 0)) := (hSw.block _ (by omega)).trans (heap_al1 _ _); have p0 : w.cell? ⟨u.heap.size, 0, none⟩ = some (.int .i64 16) := cell_row r0 0 rfl; have p1 : w.cell? ⟨u.heap.size, 1, none⟩ = some (.int .i64 ln) := cell_row r0 1 rfl; have p2 : w.cell? ⟨u.heap.size, 2, none⟩ = some (.int .i64 co) := cell_row r0 2 rfl; have p3 : w.cell? ⟨u.heap.size, 3, none⟩ = some (.int .i64 num) := cell_row r0 3 rfl; have p4 : w.cell? ⟨u.heap.size, 4, none⟩ = some (.string name) := cell_row r0 4 rfl; have p5 : w.cell? ⟨u.heap.size, 5, none⟩ = some (.string tn) := cell_row r0 5 rfl; have p6 : w.cell? ⟨u.heap.size, 6, none⟩ = some (.bool ta) := cell_row r0 6 rfl; have p7 : w.cell? ⟨u.heap.size, 7, none⟩ = some (.slice ka kn kc) := cell_row r0 7 rfl; have p8 : w.cell? ⟨u.heap.size, 8, none⟩ = some (.string fn) := cell_row r0 8 rfl; have p9 : w.cell? ⟨u.heap.size, 9, none⟩ = some (.bool fa) := cell_row r0 9 rfl; have p10 : w.cell? ⟨u.heap.size, 10, none⟩ = some (.string ow) := cell_row r0 10 rfl; go_simp; first | done | with_reducible rfl)
  simp only [Act.put, List.getElem_toArray, List.getElem_cons_zero, List.setIfInBounds_toArray, List.set_cons_zero, List.set_cons_succ]
  refine wpAnyH_take (i := 4) (v := ?_) rfl (by kernel_rfl) (by kernel_rfl) (by kernel_rfl) (fun _ _ _ h => h) (Or.inl ⟨by rfl, ?_⟩) (by assumption) ?_
  rotate_left
  focus (intro w hSw; have r0 : w.heap[u.heap.size]? = some (.cells #[.int .i64 16, .int .i64 ln, .int .i64 co, .int .i64 num, .string name, .string tn, .bool ta, .slice ka kn kc, .string fn, .bool fa, .string ow] 29 (0, 0)) := (hSw.block _ (by omega)).trans (heap_al1 _ _); have p0 : w.cell? ⟨u.heap.size, 0, none⟩ = some (.int .i64 16) := cell_row r0 0 rfl; have p1 : w.cell? ⟨u.heap.size, 1, none⟩ = some (.int .i64 ln) := cell_row r0 1 rfl; have p2 : w.cell? ⟨u.heap.size, 2, none⟩ = some (.int .i64 co) := cell_row r0 2 rfl; have p3 : w.cell? ⟨u.heap.size, 3, none⟩ = some (.int .i64 num) := cell_row r0 3 rfl; have p4 : w.cell? ⟨u.heap.size, 4, none⟩ = some (.string name) := cell_row r0 4 rfl; have p5 : w.cell? ⟨u.heap.size, 5, none⟩ = some (.string tn) := cell_row r0 5 rfl; have p6 : w.cell? ⟨u.heap.size, 6, none⟩ = some (.bool ta) := cell_row r0 6 rfl; have p7 : w.cell? ⟨u.heap.size, 7, none⟩ = some (.slice ka kn kc) := cell_row r0 7 rfl; have p8 : w.cell? ⟨u.heap.size, 8, none⟩ = some (.string fn) := cell_row r0 8 rfl; have p9 : w.cell? ⟨u.heap.size, 9, none⟩ = some (.bool fa) := cell_row r0 9 rfl; have p10 : w.cell? ⟨u.heap.size, 10, none⟩ = some (.string ow) := cell_row r0 10 rfl; go_simp; first | done | with_reducible rfl)
  simp only [Act.put, List.getElem_toArray, List.getElem_cons_zero, List.getElem_cons_succ, List.setIfInBounds_toArray, List.set_cons_zero, List.set_cons_succ]
  refine wpAnyH_take (i := 5) (v := ?_) rfl (by kernel_rfl) (by kernel_rfl) (by kernel_rfl) (fun _ _ _ h => h) (Or.inl ⟨by rfl, ?_⟩) (by assumption) ?_
  rotate_left
  focus (intro w hSw; have r0 : w.heap[u.heap.size]? = some (.cells #[.int .i64 16, .int .i64 ln, .int .i64 co, .int .i64 num, .string name, .string tn, .bool ta, .slice ka kn kc, .string fn, .bool fa, .string ow] 29 (0, 0)) := (hSw.block _ (by omega)).trans (heap_al1 _ _); have p0 : w.cell? ⟨u.heap.size, 0, none⟩ = some (.int .i64 16) := cell_row r0 0 rfl; have p1 : w.cell? ⟨u.heap.size, 1, none⟩ = some (.int .i64 ln) := cell_row r0 1 rfl; have p2 : w.cell? ⟨u.heap.size, 2, none⟩ = some (.int .i64 co) := cell_row r0 2 rfl; have p3 : w.cell? ⟨u.heap.size, 3, none⟩ = some (.int .i64 num) := cell_row r0 3 rfl; have p4 : w.cell? ⟨u.heap.size, 4, none⟩ = some (.string name) := cell_row r0 4 rfl; have p5 : w.cell? ⟨u.heap.size, 5, none⟩ = some (.string tn) := cell_row r0 5 rfl; have p6 : w.cell? ⟨u.heap.size, 6, none⟩ = some (.bool ta) := cell_row r0 6 rfl; have p7 : w.cell? ⟨u.heap.size, 7, none⟩ = some (.slice ka kn kc) := cell_row r0 7 rfl; have p8 : w.cell? ⟨u.heap.size, 8, none⟩ = some (.string fn) := cell_row r0 8 rfl; have p9 : w.cell? ⟨u.heap.size, 9, none⟩ = some (.bool fa) := cell_row r0 9 rfl; have p10 : w.cell? ⟨u.heap.size, 10, none⟩ = some (.string ow) := cell_row r0 10 rfl; go_simp; first | done | with_reducible rfl)
  simp only [Act.put, List.getElem_toArray, List.getElem_cons_zero, List.getElem_cons_succ, List.setIfInBounds_toArray, List.set_cons_zero, List.set_cons_succ]
  refine wpAnyH_take (i := 8) (v := ?_) rfl (by kernel_rfl) (by kernel_rfl) (by kernel_rfl) (fun _ _ _ h => h) (Or.inl ⟨by rfl, ?_⟩) (by assumption) ?_
  rotate_left
  focus (intro w hSw; have r0 : w.heap[u.heap.size]? = some (.cells #[.int .i64 16, .int .i64 ln, .int .i64 co, .int .i64 num, .string name, .string tn, .bool ta, .slice ka kn kc, .string fn, .bool fa, .string ow] 29 (0, 0)) := (hSw.block _ (by omega)).trans (heap_al1 _ _); have p0 : w.cell? ⟨u.heap.size, 0, none⟩ = some (.int .i64 16) := cell_row r0 0 rfl; have p1 : w.cell? ⟨u.heap.size, 1, none⟩ = some (.int .i64 ln) := cell_row r0 1 rfl; have p2 : w.cell? ⟨u.heap.size, 2, none⟩ = some (.int .i64 co) := cell_row r0 2 rfl; have p3 : w.cell? ⟨u.heap.size, 3, none⟩ = some (.int .i64 num) := cell_row r0 3 rfl; have p4 : w.cell? ⟨u.heap.size, 4, none⟩ = some (.string name) := cell_row r0 4 rfl; have p5 : w.cell? ⟨u.heap.size, 5, none⟩ = some (.string tn) := cell_row r0 5 rfl; have p6 : w.cell? ⟨u.heap.size, 6, none⟩ = some (.bool ta) := cell_row r0 6 rfl; have p7 : w.cell? ⟨u.heap.size, 7, none⟩ = some (.slice ka kn kc) := cell_row r0 7 rfl; have p8 : w.cell? ⟨u.heap.size, 8, none⟩ = some (.string fn) := cell_row r0 8 rfl; have p9 : w.cell? ⟨u.heap.size, 9, none⟩ = some (.bool fa) := cell_row r0 9 rfl; have p10 : w.cell? ⟨u.heap.size, 10, none⟩ = some (.string ow) := cell_row r0 10 rfl; go_simp; first | done | with_reducible rfl)
  simp only [Act.put, List.getElem_toArray, List.getElem_cons_zero, List.getElem_cons_succ, List.setIfInBounds_toArray, List.set_cons_zero, List.set_cons_succ]
  refine wpAnyH_ready (rs := [1]) (by kernel_rfl) (by simp) ?_
  refine AllReadyH.cons (o := _) rfl (fun K hK => ?_) AllReadyH.nil
  go_simp
  with_reducible refine (HK0.out _ hHeld).mono ?_
  rintro e x1 ⟨rfl, hx1⟩
  go_simp
  refine hK.out _ _ (hHeld.trans (hx1.mono (Nat.le_trans (Nat.le_of_eq (by simp)) hHeld.size))) (fun hHeld => ?_)
  clear hK K
  try simp only [Act.put, List.getElem_toArray, List.getElem_cons_zero, List.getElem_cons_succ, List.setIfInBounds_toArray, List.set_cons_zero, List.set_cons_succ]
  refine wpAnyH_take (i := 2) (v := ?_) rfl (by kernel_rfl) (by kernel_rfl) (by kernel_rfl) (fun _ _ _ h => h) (Or.inl ⟨by rfl, ?_⟩) (by assumption) ?_
  rotate_left
  focus (intro w hSw; have r0 : w.heap[u.heap.size]? = some (.cells #[.int .i64 16, .int .i64 ln, .int .i64 co, .int .i64 num, .string name, .string tn, .bool ta, .slice ka kn kc, .string fn, .bool fa, .string ow] 29 (0, 0)) := (hSw.block _ (by omega)).trans (heap_al1 _ _); have p0 : w.cell? ⟨u.heap.size, 0, none⟩ = some (.int .i64 16) := cell_row r0 0 rfl; have p1 : w.cell? ⟨u.heap.size, 1, none⟩ = some (.int .i64 ln) := cell_row r0 1 rfl; have p2 : w.cell? ⟨u.heap.size, 2, none⟩ = some (.int .i64 co) := cell_row r0 2 rfl; have p3 : w.cell? ⟨u.heap.size, 3, none⟩ = some (.int .i64 num) := cell_row r0 3 rfl; have p4 : w.cell? ⟨u.heap.size, 4, none⟩ = some (.string name) := cell_row r0 4 rfl; have p5 : w.cell? ⟨u.heap.size, 5, none⟩ = some (.string tn) := cell_row r0 5 rfl; have p6 : w.cell? ⟨u.heap.size, 6, none⟩ = some (.bool ta) := cell_row r0 6 rfl; have p7 : w.cell? ⟨u.heap.size, 7, none⟩ = some (.slice ka kn kc) := cell_row r0 7 rfl; have p8 : w.cell? ⟨u.heap.size, 8, none⟩ = some (.string fn) := cell_row r0 8 rfl; have p9 : w.cell? ⟨u.heap.size, 9, none⟩ = some (.bool fa) := cell_row r0 9 rfl; have p10 : w.cell? ⟨u.heap.size, 10, none⟩ = some (.string ow) := cell_row r0 10 rfl; go_simp; first | done | with_reducible rfl)
  simp only [Act.put, List.getElem_toArray, List.getElem_cons_zero, List.getElem_cons_succ, List.setIfInBounds_toArray, List.set_cons_zero, List.set_cons_succ]
  refine wpAnyH_take (i := 3) (v := ?_) rfl (by kernel_rfl) (by kernel_rfl) (by kernel_rfl) (fun _ _ _ h => h) (Or.inl ⟨by rfl, ?_⟩) (by assumption) ?_
  rotate_left
  focus (intro w hSw; have r0 : w.heap[u.heap.size]? = some (.cells #[.int .i64 16, .int .i64 ln, .int .i64 co, .int .i64 num, .string name, .string tn, .bool ta, .slice ka kn kc, .string fn, .bool fa, .string ow] 29 (0, 0)) := (hSw.block _ (by omega)).trans (heap_al1 _ _); have p0 : w.cell? ⟨u.heap.size, 0, none⟩ = some (.int .i64 16) := cell_row r0 0 rfl; have p1 : w.cell? ⟨u.heap.size, 1, none⟩ = some (.int .i64 ln) := cell_row r0 1 rfl; have p2 : w.cell? ⟨u.heap.size, 2, none⟩ = some (.int .i64 co) := cell_row r0 2 rfl; have p3 : w.cell? ⟨u.heap.size, 3, none⟩ = some (.int .i64 num) := cell_row r0 3 rfl; have p4 : w.cell? ⟨u.heap.size, 4, none⟩ = some (.string name) := cell_row r0 4 rfl; have p5 : w.cell? ⟨u.heap.size, 5, none⟩ = some (.string tn) := cell_row r0 5 rfl; have p6 : w.cell? ⟨u.heap.size, 6, none⟩ = some (.bool ta) := cell_row r0 6 rfl; have p7 : w.cell? ⟨u.heap.size, 7, none⟩ = some (.slice ka kn kc) := cell_row r0 7 rfl; have p8 : w.cell? ⟨u.heap.size, 8, none⟩ = some (.string fn) := cell_row r0 8 rfl; have p9 : w.cell? ⟨u.heap.size, 9, none⟩ = some (.bool fa) := cell_row r0 9 rfl; have p10 : w.cell? ⟨u.heap.size, 10, none⟩ = some (.string ow) := cell_row r0 10 rfl; go_simp; first | done | with_reducible rfl)
  simp only [Act.put, List.getElem_toArray, List.getElem_cons_zero, List.getElem_cons_succ, List.setIfInBounds_toArray, List.set_cons_zero, List.set_cons_succ]
  refine wpAnyH_take (i := 6) (v := ?_) rfl (by kernel_rfl) (by kernel_rfl) (by kernel_rfl) (fun _ _ _ h => h) (Or.inl ⟨by rfl, ?_⟩) (by assumption) ?_
  rotate_left
  focus (intro w hSw; have r0 : w.heap[u.heap.size]? = some (.cells #[.int .i64 16, .int .i64 ln, .int .i64 co, .int .i64 num, .string name, .string tn, .bool ta, .slice ka kn kc, .string fn, .bool fa, .string ow] 29 (0, 0)) := (hSw.block _ (by omega)).trans (heap_al1 _ _); have p0 : w.cell? ⟨u.heap.size, 0, none⟩ = some (.int .i64 16) := cell_row r0 0 rfl; have p1 : w.cell? ⟨u.heap.size, 1, none⟩ = some (.int .i64 ln) := cell_row r0 1 rfl; have p2 : w.cell? ⟨u.heap.size, 2, none⟩ = some (.int .i64 co) := cell_row r0 2 rfl; have p3 : w.cell? ⟨u.heap.size, 3, none⟩ = some (.int .i64 num) := cell_row r0 3 rfl; have p4 : w.cell? ⟨u.heap.size, 4, none⟩ = some (.string name) := cell_row r0 4 rfl; have p5 : w.cell? ⟨u.heap.size, 5, none⟩ = some (.string tn) := cell_row r0 5 rfl; have p6 : w.cell? ⟨u.heap.size, 6, none⟩ = some (.bool ta) := cell_row r0 6 rfl; have p7 : w.cell? ⟨u.heap.size, 7, none⟩ = some (.slice ka kn kc) := cell_row r0 7 rfl; have p8 : w.cell? ⟨u.heap.size, 8, none⟩ = some (.string fn) := cell_row r0 8 rfl; have p9 : w.cell? ⟨u.heap.size, 9, none⟩ = some (.bool fa) := cell_row r0 9 rfl; have p10 : w.cell? ⟨u.heap.size, 10, none⟩ = some (.string ow) := cell_row r0 10 rfl; go_simp; first | done | with_reducible rfl)
  simp only [Act.put, List.getElem_toArray, List.getElem_cons_zero, List.getElem_cons_succ, List.setIfInBounds_toArray, List.set_cons_zero, List.set_cons_succ]
  refine wpAnyH_take (i := 7) (v := ?_) rfl (by kernel_rfl) (by kernel_rfl) (by kernel_rfl) (fun _ _ _ h => h) (Or.inl ⟨by rfl, ?_⟩) (by assumption) ?_
  rotate_left
  focus (intro w hSw; have r0 : w.heap[u.heap.size]? = some (.cells #[.int .i64 16, .int .i64 ln, .int .i64 co, .int .i64 num, .string name, .string tn, .bool ta, .slice ka kn kc, .string fn, .bool fa, .string ow] 29 (0, 0)) := (hSw.block _ (by omega)).trans (heap_al1 _ _); have p0 : w.cell? ⟨u.heap.size, 0, none⟩ = some (.int .i64 16) := cell_row r0 0 rfl; have p1 : w.cell? ⟨u.heap.size, 1, none⟩ = some (.int .i64 ln) := cell_row r0 1 rfl; have p2 : w.cell? ⟨u.heap.size, 2, none⟩ = some (.int .i64 co) := cell_row r0 2 rfl; have p3 : w.cell? ⟨u.heap.size, 3, none⟩ = some (.int .i64 num) := cell_row r0 3 rfl; have p4 : w.cell? ⟨u.heap.size, 4, none⟩ = some (.string name) := cell_row r0 4 rfl; have p5 : w.cell? ⟨u.heap.size, 5, none⟩ = some (.string tn) := cell_row r0 5 rfl; have p6 : w.cell? ⟨u.heap.size, 6, none⟩ = some (.bool ta) := cell_row r0 6 rfl; have p7 : w.cell? ⟨u.heap.size, 7, none⟩ = some (.slice ka kn kc) := cell_row r0 7 rfl; have p8 : w.cell? ⟨u.heap.size, 8, none⟩ = some (.string fn) := cell_row r0 8 rfl; have p9 : w.cell? ⟨u.heap.size, 9, none⟩ = some (.bool fa) := cell_row r0 9 rfl; have p10 : w.cell? ⟨u.heap.size, 10, none⟩ = some (.string ow) := cell_row r0 10 rfl; go_simp; first | done | with_reducible rfl)
  simp only [Act.put, List.getElem_toArray, List.getElem_cons_zero, List.getElem_cons_succ, List.setIfInBounds_toArray, List.set_cons_zero, List.set_cons_succ]
  refine wpAnyH_ready (rs := [9]) (by kernel_rfl) (by simp) ?_
  refine AllReadyH.cons (o := _) rfl (fun K hK => ?_) AllReadyH.nil
  go_simp
  with_reducible refine (HK1.out _ hHeld).mono ?_
  rintro e x9 ⟨rfl, hx9⟩
  go_simp
  refine hK.out _ _ (hHeld.trans (hx9.mono (Nat.le_trans (Nat.le_of_eq (by simp)) hHeld.size))) (fun hHeld => ?_)
  clear hK K
  try simp only [Act.put, List.getElem_toArray, List.getElem_cons_zero, List.getElem_cons_succ, List.setIfInBounds_toArray, List.set_cons_zero, List.set_cons_succ]
  refine wpAnyH_take (i := 10) (v := ?_) rfl (by kernel_rfl) (by kernel_rfl) (by kernel_rfl) (fun _ _ _ h => h) (Or.inl ⟨by rfl, ?_⟩) (by assumption) ?_
  rotate_left
  focus (intro w hSw; have r0 : w.heap[u.heap.size]? = some (.cells #[.int .i64 16, .int .i64 ln, .int .i64 co, .int .i64 num, .string name, .string tn, .bool ta, .slice ka kn kc, .string fn, .bool fa, .string ow] 29 (0, 0)) := (hSw.block _ (by omega)).trans (heap_al1 _ _); have p0 : w.cell? ⟨u.heap.size, 0, none⟩ = some (.int .i64 16) := cell_row r0 0 rfl; have p1 : w.cell? ⟨u.heap.size, 1, none⟩ = some (.int .i64 ln) := cell_row r0 1 rfl; have p2 : w.cell? ⟨u.heap.size, 2, none⟩ = some (.int .i64 co) := cell_row r0 2 rfl; have p3 : w.cell? ⟨u.heap.size, 3, none⟩ = some (.int .i64 num) := cell_row r0 3 rfl; have p4 : w.cell? ⟨u.heap.size, 4, none⟩ = some (.string name) := cell_row r0 4 rfl; have p5 : w.cell? ⟨u.heap.size, 5, none⟩ = some (.string tn) := cell_row r0 5 rfl; have p6 : w.cell? ⟨u.heap.size, 6, none⟩ = some (.bool ta) := cell_row r0 6 rfl; have p7 : w.cell? ⟨u.heap.size, 7, none⟩ = some (.slice ka kn kc) := cell_row r0 7 rfl; have p8 : w.cell? ⟨u.heap.size, 8, none⟩ = some (.string fn) := cell_row r0 8 rfl; have p9 : w.cell? ⟨u.heap.size, 9, none⟩ = some (.bool fa) := cell_row r0 9 rfl; have p10 : w.cell? ⟨u.heap.size, 10, none⟩ = some (.string ow) := cell_row r0 10 rfl; go_simp; first | done | with_reducible rfl)
  simp only [Act.put, List.getElem_toArray, List.getElem_cons_zero, List.getElem_cons_succ, List.setIfInBounds_toArray, List.set_cons_zero, List.set_cons_succ]
  refine wpAnyH_take (i := 11) (v := ?_) rfl (by kernel_rfl) (by kernel_rfl) (by kernel_rfl) (fun _ _ _ h => h) (Or.inl ⟨by rfl, ?_⟩) (by assumption) ?_
  rotate_left
  focus (intro w hSw; have r0 : w.heap[u.heap.size]? = some (.cells #[.int .i64 16, .int .i64 ln, .int .i64 co, .int .i64 num, .string name, .string tn, .bool ta, .slice ka kn kc, .string fn, .bool fa, .string ow] 29 (0, 0)) := (hSw.block _ (by omega)).trans (heap_al1 _ _); have p0 : w.cell? ⟨u.heap.size, 0, none⟩ = some (.int .i64 16) := cell_row r0 0 rfl; have p1 : w.cell? ⟨u.heap.size, 1, none⟩ = some (.int .i64 ln) := cell_row r0 1 rfl; have p2 : w.cell? ⟨u.heap.size, 2, none⟩ = some (.int .i64 co) := cell_row r0 2 rfl; have p3 : w.cell? ⟨u.heap.size, 3, none⟩ = some (.int .i64 num) := cell_row r0 3 rfl; have p4 : w.cell? ⟨u.heap.size, 4, none⟩ = some (.string name) := cell_row r0 4 rfl; have p5 : w.cell? ⟨u.heap.size, 5, none⟩ = some (.string tn) := cell_row r0 5 rfl; have p6 : w.cell? ⟨u.heap.size, 6, none⟩ = some (.bool ta) := cell_row r0 6 rfl; have p7 : w.cell? ⟨u.heap.size, 7, none⟩ = some (.slice ka kn kc) := cell_row r0 7 rfl; have p8 : w.cell? ⟨u.heap.size, 8, none⟩ = some (.string fn) := cell_row r0 8 rfl; have p9 : w.cell? ⟨u.heap.size, 9, none⟩ = some (.bool fa) := cell_row r0 9 rfl; have p10 : w.cell? ⟨u.heap.size, 10, none⟩ = some (.string ow) := cell_row r0 10 rfl; go_simp; first | done | with_reducible rfl)
  simp only [Act.put, List.getElem_toArray, List.getElem_cons_zero, List.getElem_cons_succ, List.setIfInBounds_toArray, List.set_cons_zero, List.set_cons_succ]
  refine wpAnyH_take (i := 12) (v := ?_) rfl (by kernel_rfl) (by kernel_rfl) (by kernel_rfl) (fun _ _ _ h => h) (Or.inl ⟨by rfl, ?_⟩) (by assumption) ?_
  rotate_left
  focus (intro w hSw; have r0 : w.heap[u.heap.size]? = some (.cells #[.int .i64 16, .int .i64 ln, .int .i64 co, .int .i64 num, .string name, .string tn, .bool ta, .slice ka kn kc, .string fn, .bool fa, .string ow] 29 (0, 0)) := (hSw.block _ (by omega)).trans (heap_al1 _ _); have p0 : w.cell? ⟨u.heap.size, 0, none⟩ = some (.int .i64 16) := cell_row r0 0 rfl; have p1 : w.cell? ⟨u.heap.size, 1, none⟩ = some (.int .i64 ln) := cell_row r0 1 rfl; have p2 : w.cell? ⟨u.heap.size, 2, none⟩ = some (.int .i64 co) := cell_row r0 2 rfl; have p3 : w.cell? ⟨u.heap.size, 3, none⟩ = some (.int .i64 num) := cell_row r0 3 rfl; have p4 : w.cell? ⟨u.heap.size, 4, none⟩ = some (.string name) := cell_row r0 4 rfl; have p5 : w.cell? ⟨u.heap.size, 5, none⟩ = some (.string tn) := cell_row r0 5 rfl; have p6 : w.cell? ⟨u.heap.size, 6, none⟩ = some (.bool ta) := cell_row r0 6 rfl; have p7 : w.cell? ⟨u.heap.size, 7, none⟩ = some (.slice ka kn kc) := cell_row r0 7 rfl; have p8 : w.cell? ⟨u.heap.size, 8, none⟩ = some (.string fn) := cell_row r0 8 rfl; have p9 : w.cell? ⟨u.heap.size, 9, none⟩ = some (.bool fa) := cell_row r0 9 rfl; have p10 : w.cell? ⟨u.heap.size, 10, none⟩ = some (.string ow) := cell_row r0 10 rfl; go_simp; first | done | with_reducible rfl)
  simp only [Act.put, List.getElem_toArray, List.getElem_cons_zero, List.getElem_cons_succ, List.setIfInBounds_toArray, List.set_cons_zero, List.set_cons_succ]
  refine wpAnyH_done (by kernel_rfl) ?_ _
  go_wp2
  go_ret
  exact ⟨rfl, (below1 u _).trans (hHeld.mono (by omega))⟩
end Go.Proofs.YtojkagfbdpjckaaDoor
