/-
  Expressions that have few parts, and how long their texts are.
-/
import Derived.Test.YtojkagfbdpjckaaDoorMem
import Derived.Lib.ItoaLen
namespace Go.Proofs.YtojkagfbdpjckaaDoor

mutual
def few : Tree → Nat → Bool
  | .mk _ _ _ _ name tn _ kids _ _ _, d => decide (d ≤ 10) && decide (kids.length ≤ 5) && decide (name.size ≤ 40) && decide (tn.size ≤ 40) && fews kids (d + 1)
def fews : List Tree → Nat → Bool
  | [], _ => true
  | t :: ts, d => few t d && fews ts d
end
theorem fews_all : ∀ (ts : List Tree) (d : Nat), fews ts d = ts.all (fun t => few t d)
  | [], _ => rfl
  | t :: ts, d => by rw [fews, fews_all ts d]; rfl
theorem few_mk (kind ln co num : Int) (name tn : ByteArray) (ta : Bool) (kids : List Tree) (fn : ByteArray) (fa : Bool) (ow : ByteArray) (d : Nat) : few (.mk kind ln co num name tn ta kids fn fa ow) d = (decide (d ≤ 10) && decide (kids.length ≤ 5) && decide (name.size ≤ 40) && decide (tn.size ≤ 40) && kids.all (fun t => few t (d + 1))) := by
  rw [few, fews_all]

def total : List Bs → Nat
  | [] => 0
  | a :: r => a.length + total r
theorem total_le (B : Nat) : ∀ (ks : List Bs), (∀ k ∈ ks, k.length ≤ B) → total ks ≤ ks.length * B
  | [], _ => by simp [total]
  | a :: r, h => by
    have h1 := h a (by simp)
    have h2 := total_le B r (fun k hk => h k (by simp [hk]))
    simp only [total, List.length_cons, Nat.succ_mul]
    omega
theorem nt0_le (ks : List Bs) : (nt ks 0).length ≤ 4 + total ks := by
  cases ks with
  | nil => simp [nt, nul]
  | cons a r => simp [nt, total]; omega
theorem nt01_le (ks : List Bs) : (nt ks 0).length + (nt ks 1).length ≤ 8 + total ks := by
  match ks with
  | [] => simp [nt, nul]
  | [a] => simp [nt, nul, total]; omega
  | a :: b :: r => simp [nt, total]; omega
theorem cm_len (ks : List Bs) : (cm ks).length ≤ 2 * ks.length + total ks := by
  have key : ∀ r : List Bs, (r.flatMap (fun x => [44, 32] ++ x)).length = 2 * r.length + total r := by
    intro r
    induction r with
    | nil => rfl
    | cons a r ih => simp only [List.flatMap_cons, List.length_append, ih, total, List.length_cons, List.length_nil]; omega
  cases ks with
  | nil => simp [cm]
  | cons a r => simp only [cm, List.length_append, key, total, List.length_cons]; omega
theorem total_drop (ks : List Bs) : (nt ks 0).length + total (ks.drop 1) ≤ 4 + total ks := by
  cases ks with
  | nil => simp [nt, nul, total]
  | cons a r => simp [nt, total]
theorem ite_len {c : Prop} [Decidable c] {a b : Bs} {n : Nat} (ha : a.length ≤ n) (hb : b.length ≤ n) : (if c then a else b).length ≤ n := by split <;> assumption
theorem txk_le (kind num : Int) (h0 : -9223372036854775808 ≤ num) (h1 : num ≤ 9223372036854775807) (name tn : Bs) (hn : name.length ≤ 40) (ht : tn.length ≤ 40) (ks : List Bs) (hk : ks.length ≤ 5) : (txk kind num name tn ks).length ≤ 200 + total ks := by
  have i1 := Lib.itoa_length_le num h0 h1
  have i2 := nt0_le ks
  have i3 := nt01_le ks
  have i4 := cm_len ks
  have i5 := cm_len (ks.drop 1)
  have i6 := total_drop ks
  have i7 : (ks.drop 1).length ≤ 5 := by simp; omega
  unfold txk
  repeat' (with_reducible apply ite_len)
  all_goals (try simp only [one, pair, lst, nul, List.length_append, List.length_cons, List.length_nil])
  all_goals omega
mutual
/-- All numbers of an expression are numbers of 64 bits. -/
def oks : Tree → Prop
  | .mk kind ln co num name tn ta kids fn fa ow => (Tree.mk kind ln co num name tn ta kids fn fa ow).ok ∧ okss kids
def okss : List Tree → Prop
  | [] => True
  | t :: ts => oks t ∧ okss ts
end
theorem okss_iff : ∀ ts, okss ts ↔ ∀ t ∈ ts, oks t
  | [] => by simp [okss]
  | t :: ts => by rw [okss, okss_iff ts]; simp
theorem oks_kids {t : Tree} (h : oks t) : t.ok ∧ ∀ k ∈ t.kids, oks k := by
  cases t
  rw [oks, okss_iff] at h
  exact h
theorem oks_mk {t : Tree} (h : t.ok) (hk : ∀ k ∈ t.kids, oks k) : oks t := by
  cases t
  rw [oks, okss_iff]
  exact ⟨h, hk⟩
theorem kin_oks {W : World} : ∀ {d : Nat} {ks : List Tree} {k : Value}, Kin W d ks k → ∀ t ∈ ks, oks t
  | 0, ks, k, h, t, ht => by
    obtain ⟨a, cap, e, hl, hc, hk⟩ := h
    obtain ⟨i, hi⟩ := List.mem_iff_getElem?.1 ht
    obtain ⟨_, _, _, _, _, _, _, hq⟩ := hk i t hi
    exact hq.elim
  | d + 1, ks, k, h, t, ht => by
    obtain ⟨a, cap, e, hl, hc, hk⟩ := h
    obtain ⟨i, hi⟩ := List.mem_iff_getElem?.1 ht
    obtain ⟨_, _, kk, _, _, _, hok, hq⟩ := hk i t hi
    exact oks_mk hok (kin_oks (d := d) hq)
theorem tx_le : ∀ (m : Nat) (t : Tree) (d : Nat), m + d = 11 → oks t → few t d = true → (tx t).length ≤ 200 * 6 ^ m
  | 0, t, d, hm, _, hf => by
    cases t
    rw [few_mk, show d = 11 by omega] at hf
    simp at hf
  | m + 1, t, d, hm, ho, hf => by
    obtain ⟨hok, hks⟩ := oks_kids ho
    obtain ⟨kind, ln, co, num, name, tn, ta, kids, fn, fa, ow⟩ := t
    rw [few_mk] at hf
    simp only [Bool.and_eq_true, decide_eq_true_eq, List.all_eq_true] at hf
    obtain ⟨⟨⟨⟨h1, h2⟩, h3⟩, h4⟩, h5⟩ := hf
    rw [tx_mk]
    have hb : ∀ k ∈ kids.map tx, k.length ≤ 200 * 6 ^ m := by
      intro k hk
      obtain ⟨t, ht, rfl⟩ := List.mem_map.1 hk
      exact tx_le m t (d + 1) (by omega) (hks t ht) (h5 t ht)
    have h6 := total_le _ _ hb
    have h7 := txk_le kind num hok.1 hok.2 name.data.toList tn.data.toList h3 h4 (kids.map tx) (by simpa using h2)
    rw [List.length_map] at h6
    have h8 : kids.length * (200 * 6 ^ m) ≤ 5 * (200 * 6 ^ m) := Nat.mul_le_mul_right _ h2
    have h9 : 1 ≤ 6 ^ m := Nat.one_le_pow _ _ (by omega)
    rw [Nat.pow_succ]
    omega
theorem tx_few {t : Tree} (ho : oks t) (hf : few t 0 = true) : (tx t).length ≤ 72559411200 := tx_le 11 t 0 rfl ho hf
end Go.Proofs.YtojkagfbdpjckaaDoor
