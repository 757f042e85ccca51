/-
  Digits have the order of their bytes. Plain facts.
-/
import Derived.Test.YtbpdeehpeflbeaaDoorHead
namespace Go.Proofs.YtbpdeehpeflbeaaDoor

def by8 (l : List Nat) : List UInt8 := l.map (fun n => UInt8.ofNat n)
def hx (i : Nat) : UInt8 := UInt8.ofNat (HX.getD i 0)
theorem hx_lt : ∀ i : Fin 16, ∀ j : Fin 16, decide (hx i < hx j) = decide (i.val < j.val) := by decide
theorem hx_eq : ∀ i : Fin 16, ∀ j : Fin 16, (hx i == hx j) = decide (i.val = j.val) := by decide
theorem by8_hex (a : Nat) (A : List Nat) : by8 (hexOf (a :: A)) = hx (a / 16) :: hx (a % 16) :: by8 (hexOf A) := by
  unfold by8 hexOf
  rw [List.flatMap_cons, List.map_append]
  rfl
theorem byte_lt (a b : Nat) (ha : a < 256) (hb : b < 256) : decide (UInt8.ofNat a < UInt8.ofNat b) = decide (a < b) := by
  have h1 : (UInt8.ofNat a).toNat = a := by simp [Nat.mod_eq_of_lt ha]
  have h2 : (UInt8.ofNat b).toNat = b := by simp [Nat.mod_eq_of_lt hb]
  rw [decide_eq_decide, UInt8.lt_iff_toNat_lt, h1, h2]
theorem byte_eq (a b : Nat) (ha : a < 256) (hb : b < 256) : (UInt8.ofNat a == UInt8.ofNat b) = decide (a = b) := by
  have h1 : (UInt8.ofNat a).toNat = a := by simp [Nat.mod_eq_of_lt ha]
  have h2 : (UInt8.ofNat b).toNat = b := by simp [Nat.mod_eq_of_lt hb]
  rw [Bool.eq_iff_iff, beq_iff_eq, decide_eq_true_iff, ← UInt8.toNat_inj, h1, h2]
theorem less_hex : ∀ (A B : List Nat), (∀ x ∈ A, x < 256) → (∀ x ∈ B, x < 256) → Op.bytesLess (by8 (hexOf A)) (by8 (hexOf B)) = Op.bytesLess (by8 A) (by8 B)
  | [], [], _, _ => rfl
  | [], b :: B, _, _ => by rw [by8_hex]; rfl
  | a :: A, [], _, _ => by rw [by8_hex]; rfl
  | a :: A, b :: B, h1, h2 => by
    have ha := h1 a (by simp)
    have hb := h2 b (by simp)
    have ih := less_hex A B (fun x hx => h1 x (by simp [hx])) (fun x hx => h2 x (by simp [hx]))
    have e1 := hx_lt ⟨a / 16, by omega⟩ ⟨b / 16, by omega⟩
    have e2 := hx_lt ⟨a % 16, by omega⟩ ⟨b % 16, by omega⟩
    have e3 := hx_eq ⟨a / 16, by omega⟩ ⟨b / 16, by omega⟩
    have e4 := hx_eq ⟨a % 16, by omega⟩ ⟨b % 16, by omega⟩
    simp only at e1 e2 e3 e4
    rw [by8_hex, by8_hex]
    show (decide (hx (a / 16) < hx (b / 16)) || (hx (a / 16) == hx (b / 16) && (decide (hx (a % 16) < hx (b % 16)) || (hx (a % 16) == hx (b % 16) && Op.bytesLess (by8 (hexOf A)) (by8 (hexOf B)))))) =
      (decide (UInt8.ofNat a < UInt8.ofNat b) || (UInt8.ofNat a == UInt8.ofNat b && Op.bytesLess (by8 A) (by8 B)))
    rw [e1, e2, e3, e4, ih, byte_lt a b ha hb, byte_eq a b ha hb]
    cases Op.bytesLess (by8 A) (by8 B)
    · rw [Bool.eq_iff_iff]
      simp
      omega
    · rw [Bool.eq_iff_iff]
      simp
      omega
theorem eq_hex : ∀ (A B : List Nat), (∀ x ∈ A, x < 256) → (∀ x ∈ B, x < 256) → (by8 (hexOf A) == by8 (hexOf B)) = (by8 A == by8 B)
  | [], [], _, _ => rfl
  | [], b :: B, _, _ => by rw [by8_hex]; rfl
  | a :: A, [], _, _ => by rw [by8_hex]; rfl
  | a :: A, b :: B, h1, h2 => by
    have ha := h1 a (by simp)
    have hb := h2 b (by simp)
    have ih := eq_hex A B (fun x hx => h1 x (by simp [hx])) (fun x hx => h2 x (by simp [hx]))
    have e3 := hx_eq ⟨a / 16, by omega⟩ ⟨b / 16, by omega⟩
    have e4 := hx_eq ⟨a % 16, by omega⟩ ⟨b % 16, by omega⟩
    simp only at e3 e4
    rw [by8_hex, by8_hex]
    show (hx (a / 16) == hx (b / 16) && (hx (a % 16) == hx (b % 16) && (by8 (hexOf A) == by8 (hexOf B)))) = (UInt8.ofNat a == UInt8.ofNat b && (by8 A == by8 B))
    rw [e3, e4, ih, byte_eq a b ha hb]
    cases (by8 A == by8 B)
    · simp
    · rw [Bool.eq_iff_iff]
      simp
      omega

end Go.Proofs.YtbpdeehpeflbeaaDoor
