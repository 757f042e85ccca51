/-
  Expressions as trees, and their texts, over lists of bytes.
-/
import Derived.Lib.ItoaNum
namespace Go.Proofs.YtojkagfbdpjckaaDoor

abbrev Bs := List UInt8

/-- An expression: its kind, where it is, its number, its name, its type, its kids, and what the checker says. -/
inductive Tree where
  | mk (kind ln co num : Int) (name tn : ByteArray) (ta : Bool) (kids : List Tree) (fn : ByteArray) (fa : Bool) (ow : ByteArray)

def Tree.kids : Tree → List Tree | .mk _ _ _ _ _ _ _ ks _ _ _ => ks
def Tree.zero : Tree := .mk 0 0 0 0 ⟨#[]⟩ ⟨#[]⟩ false [] ⟨#[]⟩ false ⟨#[]⟩

def nul : Bs := [110, 117, 108, 108]
/-- Texts with commas between them. -/
def cm : List Bs → Bs
  | [] => []
  | a :: r => a ++ r.flatMap (fun x => [44, 32] ++ x)
def nt (ks : List Bs) (i : Nat) : Bs := ks.getD i nul
def one (a b : Bs) (ks : List Bs) : Bs := a ++ nt ks 0 ++ b
def pair (a b c : Bs) (ks : List Bs) : Bs := a ++ nt ks 0 ++ b ++ nt ks 1 ++ c
def lst (ks : List Bs) : Bs := [40] ++ cm ks ++ [41]
/-- The text of an expression, by those of its kids. -/
def txk (kind num : Int) (name tn : Bs) (ks : List Bs) : Bs :=
  if kind = 1 then Lib.itoa num
  else if kind = 2 then [116, 114, 117, 101]
  else if kind = 3 then [102, 97, 108, 115, 101]
  else if kind = 5 then [116, 104, 105, 115]
  else if kind = 6 then name
  else if kind = 7 then one [] ([46] ++ name) ks
  else if kind = 8 then one [] ([46] ++ name) ks ++ lst (ks.drop 1)
  else if kind = 9 then tn ++ [46] ++ name ++ lst ks
  else if kind = 10 then [40, 110, 101, 119, 32] ++ tn ++ [41]
  else if kind = 11 then one ([110, 101, 119, 32] ++ tn ++ [91]) [93] ks
  else if kind = 12 then pair [] [91] [93] ks
  else if kind = 13 then one [] [46, 108, 101, 110, 103, 116, 104] ks
  else if kind = 14 then one [40, 45] [41] ks
  else if kind = 15 then one [40, 33] [41] ks
  else if kind = 16 then pair [40] ([32] ++ name ++ [32]) [41] ks
  else if kind = 17 then pair [40] [32, 38, 38, 32] [41] ks
  else if kind = 18 then pair [40] [32, 124, 124, 32] [41] ks
  else if kind = 19 then one [40] ([32, 97, 115, 32] ++ tn ++ [41]) ks
  else if kind = 20 then one [40] ([32, 105, 115, 32] ++ tn ++ [41]) ks
  else nul

mutual
def tx : Tree → Bs
  | .mk kind _ _ num name tn _ ks _ _ _ => txk kind num name.data.toList tn.data.toList (txs ks)
def txs : List Tree → List Bs
  | [] => []
  | t :: ts => tx t :: txs ts
end
theorem txs_map : ∀ ts, txs ts = ts.map tx
  | [] => rfl
  | t :: ts => by rw [txs, txs_map ts]; rfl
theorem tx_zero : tx Tree.zero = nul := rfl
theorem tx_mk (kind ln co num : Int) (name tn : ByteArray) (ta : Bool) (kids : List Tree) (fn : ByteArray) (fa : Bool) (ow : ByteArray) : tx (.mk kind ln co num name tn ta kids fn fa ow) = txk kind num name.data.toList tn.data.toList (kids.map tx) := by
  rw [tx, txs_map]
theorem nt_map (ks : List Tree) (i : Nat) : nt (ks.map tx) i = tx (ks.getD i Tree.zero) := by
  unfold nt
  rw [← tx_zero]
  simp [List.getD_eq_getElem?_getD]
theorem cm_snoc (ks : List Bs) (k : Nat) (h : k < ks.length) : cm (ks.take (k + 1)) = cm (ks.take k) ++ ((if k = 0 then [] else [44, 32]) ++ ks[k]) := by
  cases ks with
  | nil => simp at h
  | cons a r =>
    cases k with
    | zero => simp [cm]
    | succ k =>
      have hk : k < r.length := by simpa using h
      simp only [List.take_succ_cons, cm, List.getElem_cons_succ]
      rw [List.take_succ_eq_append_getElem hk, List.flatMap_append]
      simp
theorem cm_take_le (ks : List Bs) (k : Nat) : (cm (ks.take k)).length ≤ (cm ks).length := by
  cases ks with
  | nil => simp [cm]
  | cons a r =>
    cases k with
    | zero => simp [cm]
    | succ k =>
      simp only [List.take_succ_cons, cm, List.length_append]
      have h : r = r.take k ++ r.drop k := (List.take_append_drop k r).symm
      conv => rhs; rw [h, List.flatMap_append, List.length_append]
      omega
end Go.Proofs.YtojkagfbdpjckaaDoor
