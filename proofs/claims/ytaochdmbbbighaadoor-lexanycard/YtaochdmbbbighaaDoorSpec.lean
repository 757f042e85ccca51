/-
  Tokens of a text, in plain words: lists of bytes.
-/
import Init
namespace Go.Proofs.YtaochdmbbbighaaDoor

abbrev Bs := List UInt8

def isUp (c : UInt8) : Bool := decide (65 ≤ (c.toNat : Int)) && decide ((c.toNat : Int) ≤ 90)
def isLo (c : UInt8) : Bool := decide (97 ≤ (c.toNat : Int)) && decide ((c.toNat : Int) ≤ 122)
def isDg (c : UInt8) : Bool := decide (48 ≤ (c.toNat : Int)) && decide ((c.toNat : Int) ≤ 57)
def inNm (c : UInt8) : Bool := isUp c || isLo c || isDg c || ((c.toNat : Int) == 95)

/-- a token: its kind, its text, its number -/
structure Tok where
  kind : Nat
  text : Bs
  num : Nat
deriving DecidableEq

def marksL : List Bs := [[61, 61], [33, 61], [60, 61], [38, 38], [124, 124], [43], [45], [42], [47], [37], [60], [61], [33], [40], [41], [91], [93], [123], [125], [59], [44], [46]]
def wordsL : List Bs := [[97, 115], [98, 111, 111, 108], [99, 108, 97, 115, 115], [101, 108, 115, 101], [101, 120, 116, 101, 110, 100, 115], [102, 97, 108, 115, 101], [102, 105, 101, 108, 100], [105, 102], [105, 110, 116], [105, 115], [108, 101, 110, 103, 116, 104], [108, 101, 116], [109, 101, 116, 104, 111, 100], [110, 101, 119], [110, 117, 108, 108], [112, 114, 105, 110, 116], [114, 101, 116, 117, 114, 110], [115, 116, 97, 116, 105, 99], [116, 104, 105, 115], [116, 114, 117, 101], [119, 104, 105, 108, 101]]
def isWd (s : Bs) : Bool := wordsL.any (· == s)

/-- a name: the token, or an error (4: too long) -/
def nameT (k : Nat) (s : Bs) : Tok × Nat := if 40 < s.length then (⟨0, [], 0⟩, 4) else (⟨if isWd s then 1 else k, s, 0⟩, 0)
/-- a number's value, if it is never above 2^58 -/
def numV : Nat → Bs → Option Nat
  | n, [] => some n
  | n, c :: r => if 288230376151711744 < 10 * n + (c.toNat - 48) then none else numV (10 * n + (c.toNat - 48)) r
def numT (s : Bs) : Tok × Nat := match numV 0 s with
  | some n => (⟨4, s, n⟩, 0)
  | none => (⟨0, [], 0⟩, 22)
def markT (s : Bs) : Tok × Nat := match marksL.find? (fun m => m.isPrefixOf s) with
  | some m => (⟨5, m, 0⟩, 0)
  | none => (⟨0, [], 0⟩, 20)
/-- the token with which a text begins, and an error -/
def first : Bs → Tok × Nat
  | [] => (⟨0, [], 0⟩, 0)
  | c :: r => if isUp c then nameT 2 ((c :: r).takeWhile inNm) else if isLo c then nameT 3 ((c :: r).takeWhile inNm) else if isDg c then numT ((c :: r).takeWhile isDg) else markT (c :: r)

def blank (c : UInt8) : Bool := c == 10 || c == 32 || c == 9 || c == 13
/-- how many bytes stand ahead of the next token; in a remark, or not -/
def skipN : Bool → Bs → Nat
  | _, [] => 0
  | true, c :: r => if c == 10 then 1 + skipN false r else 1 + skipN true r
  | false, c :: r => if blank c then 1 + skipN false r else if c == 47 && r.head? == some 47 then 1 + skipN true r else 0
/-- how many bytes a remark has -/
def remN (l : Bs) : Nat := (l.takeWhile (· != 10)).length

theorem skipN_le (b : Bool) (l : Bs) : skipN b l ≤ l.length := by
  induction l generalizing b with
  | nil => cases b <;> simp [skipN]
  | cons c r ih =>
    have h1 := ih true
    have h2 := ih false
    cases b
    · simp only [skipN, List.length_cons]
      split
      · omega
      · split <;> omega
    · simp only [skipN, List.length_cons]
      split <;> omega

theorem remN_le (l : Bs) : remN l ≤ l.length := (List.takeWhile_sublist _).length_le

theorem skipN_rem (l : Bs) : skipN true l = remN l + skipN false (l.drop (remN l)) := by
  induction l with
  | nil => simp [skipN, remN]
  | cons c r ih =>
    by_cases h : c = 10
    · subst h
      have e : remN ((10 : UInt8) :: r) = 0 := by simp [remN]
      rw [e]
      simp [skipN, blank]
    · have e : remN (c :: r) = remN r + 1 := by simp [remN, h]
      rw [e]
      simp only [skipN, List.drop_succ_cons]
      rw [if_neg (by simpa using h), ih]
      omega

theorem skipN_slash (r : Bs) : skipN false (47 :: 47 :: r) = remN (47 :: 47 :: r) + skipN false ((47 :: 47 :: r).drop (remN (47 :: 47 :: r))) := by
  have e : remN ((47 : UInt8) :: 47 :: r) = remN (47 :: r) + 1 := by simp [remN]
  have h := skipN_rem (47 :: r)
  have g : skipN false (47 :: 47 :: r) = 1 + skipN true (47 :: r) := rfl
  rw [e, g, h, List.drop_succ_cons]
  omega

/-- where the line began, of a text so far -/
def brk : Bs → Nat → Nat → Nat
  | [], _, f => f
  | c :: r, i, f => brk r (i + 1) (if c == 10 then i + 1 else f)
theorem brk_append (a b : Bs) (i f : Nat) : brk (a ++ b) i f = brk b (i + a.length) (brk a i f) := by
  induction a generalizing i f with
  | nil => simp [brk]
  | cons c r ih => simp only [List.cons_append, brk, List.length_cons]; rw [ih]; congr 1; omega
theorem brk_le (a : Bs) (i f : Nat) (h : f ≤ i) : brk a i f ≤ i + a.length := by
  induction a generalizing i f with
  | nil => simpa [brk] using h
  | cons c r ih =>
    simp only [brk, List.length_cons]
    have := ih (i + 1) (if c == 10 then i + 1 else f) (by split <;> omega)
    omega
def lineOf (p : Bs) : Nat := 1 + p.count 10
def fromOf (p : Bs) : Nat := brk p 0 0
theorem fromOf_le (p : Bs) : fromOf p ≤ p.length := by have := brk_le p 0 0 (Nat.le_refl _); simpa [fromOf] using this
theorem fromOf_snoc (p : Bs) (c : UInt8) : fromOf (p ++ [c]) = if c == 10 then p.length + 1 else fromOf p := by unfold fromOf; rw [brk_append]; simp [brk]
theorem lineOf_snoc (p : Bs) (c : UInt8) : lineOf (p ++ [c]) = lineOf p + if c == 10 then 1 else 0 := by
  unfold lineOf
  rw [List.count_append, List.count_singleton]
  omega
theorem brk_none (a : Bs) (i f : Nat) (h : (10 : UInt8) ∉ a) : brk a i f = f := by
  induction a generalizing i f with
  | nil => rfl
  | cons c r ih =>
    simp only [List.mem_cons, not_or] at h
    simp only [brk]
    rw [ih _ _ h.2, if_neg (by simpa using fun e => h.1 e.symm)]
theorem fromOf_none (p a : Bs) (h : (10 : UInt8) ∉ a) : fromOf (p ++ a) = fromOf p := by unfold fromOf; rw [brk_append, brk_none _ _ _ h]
theorem lineOf_none (p a : Bs) (h : (10 : UInt8) ∉ a) : lineOf (p ++ a) = lineOf p := by unfold lineOf; rw [List.count_append, List.count_eq_zero.2 h]; omega
theorem takeWhile_take (p : UInt8 → Bool) (l : Bs) : l.take (l.takeWhile p).length = l.takeWhile p := by
  induction l with
  | nil => rfl
  | cons c r ih => by_cases h : p c = true <;> simp [h, ih]
theorem takeWhile_all (p : UInt8 → Bool) (l : Bs) : ∀ c ∈ l.takeWhile p, p c = true := by
  induction l with
  | nil => simp
  | cons c r ih =>
    by_cases h : p c = true
    · simp only [List.takeWhile_cons, h, if_true, List.mem_cons]
      rintro x (rfl | hx)
      · exact h
      · exact ih x hx
    · simp [h]
theorem rem_no (l : Bs) : (10 : UInt8) ∉ l.take (remN l) := by
  unfold remN
  rw [takeWhile_take]
  intro h
  have := takeWhile_all _ _ _ h
  simp at this

/-- where a byte stands -/
def posL (s : Bs) (o : Nat) : Nat := lineOf (s.take o)
def posC (s : Bs) (o : Nat) : Nat := o - fromOf (s.take o) + 1

/-- the tokens of a text from a place on, each with its place; and the fault, with its place -/
def lexF (s : Bs) : Nat → Nat → List (Nat × Tok) × Option (Nat × Nat)
  | 0, _ => ([], none)
  | n + 1, o =>
    let p := o + skipN false (s.drop o)
    let f := first (s.drop p)
    if f.2 ≠ 0 then ([], some (f.2, p))
    else if f.1.kind = 0 then ([(p, f.1)], none)
    else let r := lexF s n (p + f.1.text.length); ((p, f.1) :: r.1, r.2)

/-- the same, as a relation -/
inductive Lx (s : Bs) : Nat → List (Nat × Tok) → Option (Nat × Nat) → Prop
  | bad (o p : Nat) (hp : p = o + skipN false (s.drop o)) (t : Tok) (e : Nat) (h : first (s.drop p) = (t, e)) (he : e ≠ 0) : Lx s o [] (some (e, p))
  | fin (o p : Nat) (hp : p = o + skipN false (s.drop o)) (t : Tok) (h : first (s.drop p) = (t, 0)) (hk : t.kind = 0) : Lx s o [(p, t)] none
  | more (o p : Nat) (hp : p = o + skipN false (s.drop o)) (t : Tok) (h : first (s.drop p) = (t, 0)) (hk : t.kind ≠ 0) (ts : List (Nat × Tok)) (r : Option (Nat × Nat)) (hr : Lx s (p + t.text.length) ts r) : Lx s o ((p, t) :: ts) r

end Go.Proofs.YtaochdmbbbighaaDoor
