/-
  How long the texts of statements are, by how much is in them.
-/
import Derived.Test.YtojkagfbdpjckaaDoorLine
namespace Go.Proofs.YtojkagfbdpjckaaDoor

theorem txk_le2 (kind num : Int) (h0 : -9223372036854775808 ≤ num) (h1 : num ≤ 9223372036854775807) (name tn : Bs) (ks : List Bs) : (txk kind num name tn ks).length ≤ 40 + name.length + tn.length + (2 * ks.length + total ks) := by
  have i1 := Lib.itoa_length_le num h0 h1
  have i2 := nt0_le ks
  have i3 := nt01_le ks
  have i4 := cm_len ks
  have i5 := cm_len (ks.drop 1)
  have i6 := total_drop ks
  have i7 : (ks.drop 1).length ≤ ks.length := by simp
  unfold txk
  repeat' (with_reducible apply ite_len)
  all_goals (try simp only [one, pair, lst, nul, List.length_append, List.length_cons, List.length_nil])
  all_goals omega
mutual
/-- How much is in an expression. -/
def trB : Tree → Nat
  | .mk _ _ _ _ name tn _ ks _ _ _ => 1 + name.size + tn.size + trBs ks
def trBs : List Tree → Nat
  | [] => 0
  | t :: ts => trB t + trBs ts
end
mutual
theorem tx_B : ∀ t : Tree, oks t → (tx t).length + 2 ≤ 50 * trB t
  | .mk kind ln co num name tn ta ks fn fa ow, h => by
    obtain ⟨hok, hks⟩ := (by rw [oks] at h; exact h : _ ∧ okss ks)
    have h1 := txs_B ks hks
    have h2 := txk_le2 kind num hok.1 hok.2 name.data.toList tn.data.toList (txs ks)
    have e1 : name.data.toList.length = name.size := rfl
    have e2 : tn.data.toList.length = tn.size := rfl
    rw [tx, trB]
    omega
theorem txs_B : ∀ ts : List Tree, okss ts → total (txs ts) + 2 * (txs ts).length ≤ 50 * trBs ts
  | [], _ => by simp [txs, total]
  | t :: ts, h => by
    have h' : oks t ∧ okss ts := by rw [okss] at h; exact h
    have h1 := tx_B t h'.1
    have h2 := txs_B ts h'.2
    rw [txs, trBs, total, List.length_cons]
    omega
end
mutual
/-- How much is in a statement. -/
def stB : St → Nat
  | .mk _ _ _ name tn _ e th el => 1 + name.size + tn.size + trBs e + stBs th + stBs el
def stBs : List St → Nat
  | [] => 0
  | s :: r => stB s + stBs r
end
mutual
/-- All numbers of a statement's expressions are numbers of 64 bits. -/
def okS : St → Prop
  | .mk _ _ _ _ _ _ e th el => okss e ∧ okSs th ∧ okSs el
def okSs : List St → Prop
  | [] => True
  | s :: r => okS s ∧ okSs r
end
theorem sxk_le (does : Int) (name tn : ByteArray) (ta : Bool) (ks : List Bs) (d n : Nat) (t e : Bs) : (sxk does name tn ta ks d n t e).length ≤ 40 + 2 * d + name.size + tn.size + total ks + t.length + e.length := by
  have i2 := nt0_le ks
  have i3 := nt01_le ks
  have e1 : name.data.toList.length = name.size := rfl
  have e2 : (tyB tn ta).length ≤ tn.size + 2 := by
    unfold tyB
    rw [List.length_append]
    have : tn.data.toList.length = tn.size := rfl
    cases ta <;> simp <;> omega
  have e3 : (tabs d).length = d := List.length_replicate
  have e4 : (if n = 0 then [] else tabs d ++ ([125, 32, 101, 108, 115, 101, 32, 123, 10] ++ e)).length ≤ d + 9 + e.length := by
    split
    · simp
    · simp only [List.length_append, List.length_cons, List.length_nil, e3]; omega
  unfold sxk
  repeat' (with_reducible apply ite_len)
  all_goals (simp only [blk, List.length_append, List.length_cons, List.length_nil, e1, e3])
  all_goals omega
theorem mul_three (C a b c x y : Nat) (h1 : x ≤ C * b) (h2 : y ≤ C * c) (h3 : a ≤ C) (hc : 100 ≤ C) (n t r : Nat) : a + n + t + 50 * r + x + y ≤ C * (1 + n + t + r + b + c) := by
  have q1 : n ≤ C * n := Nat.le_mul_of_pos_left n (by omega)
  have q2 : t ≤ C * t := Nat.le_mul_of_pos_left t (by omega)
  have q3 : 50 * r ≤ C * r := Nat.mul_le_mul_right r (by omega)
  simp only [Nat.mul_add, Nat.mul_one]
  omega
mutual
theorem sx_B : ∀ (s : St) (d K : Nat), okS s → d + stB s ≤ K → (sx d s).length ≤ (100 + 3 * K) * stB s
  | .mk does ln co name tn ta e th el, d, K, h, hK => by
    have h' : okss e ∧ okSs th ∧ okSs el := by rw [okS] at h; exact h
    rw [stB] at hK
    have h1 := sxs_B th (d + 1) K h'.2.1 (by omega)
    have h2 := sxs_B el (d + 1) K h'.2.2 (by omega)
    have h3 := sxk_le does name tn ta (e.map tx) d el.length (sxs (d + 1) th) (sxs (d + 1) el)
    have h4 := txs_B e h'.1
    rw [txs_map] at h4
    have h5 := mul_three (100 + 3 * K) (40 + 3 * d) (stBs th) (stBs el) _ _ h1 h2 (by omega) (by omega) name.size tn.size (trBs e)
    have e3 : (tabs d).length = d := List.length_replicate
    rw [sx, stB, List.length_append, e3]
    omega
theorem sxs_B : ∀ (ss : List St) (d K : Nat), okSs ss → d + stBs ss ≤ K → (sxs d ss).length ≤ (100 + 3 * K) * stBs ss
  | [], _, _, _, _ => by simp [sxs]
  | s :: r, d, K, h, hK => by
    have h' : okS s ∧ okSs r := by rw [okSs] at h; exact h
    rw [stBs] at hK
    have h1 := sx_B s d K h'.1 (by omega)
    have h2 := sxs_B r d K h'.2 (by omega)
    rw [sxs, stBs, List.length_append, Nat.mul_add]
    omega
end
end Go.Proofs.YtojkagfbdpjckaaDoor
