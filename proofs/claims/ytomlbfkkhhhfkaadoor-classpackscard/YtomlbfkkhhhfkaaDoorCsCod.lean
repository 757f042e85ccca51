/-
  Files as bytes, and back: plain facts.
-/
import Derived.Test.YtomlbfkkhhhfkaaDoorCsHead
namespace Go.Proofs.YtomlbfkkhhhfkaaDoor.Fc
open Pk
set_option linter.unusedVariables false

theorem bl_len (s : ByteArray) : (bl s).length = s.size := Array.length_toList
theorem good_len {n : ByteArray} (h : goodB n = true) : n.size ≤ 40 := by
  unfold goodB Fc.intB boolB at h
  simp only [Bool.or_eq_true, Bool.and_eq_true, decide_eq_true_eq, beq_iff_eq] at h
  have e : n.toList.length = n.size := by rw [ByteArray.toList_eq]; rfl
  rcases h with (h | h) | h
  · rw [h] at e; simp at e; omega
  · rw [h] at e; simp at e; omega
  · omega
theorem class_len {n : ByteArray} (h : classB n = true) : n.size ≤ 40 := by
  unfold classB at h
  simp only [Bool.and_eq_true, decide_eq_true_eq] at h
  omega
theorem okS40 {s : ByteArray} (h : s.size ≤ 40) : OkS 40 s := ⟨by rw [bl_len]; omega, by rw [bl_len]; omega⟩
theorem right_ok {f : Fc} (h : RightP f) : OkF 40 200 f := by
  have h1 := h.nf; have h2 := h.nm
  refine ⟨okS40 (class_len h.name), okS40 (by rcases h.sup with h | h; omega; exact class_len h), ⟨⟨by omega, by omega⟩, fun x hx => ?_⟩, ⟨⟨by omega, by omega⟩, fun m hm => ?_⟩⟩
  · obtain ⟨k, hk⟩ := List.mem_iff_getElem?.1 hx
    obtain ⟨_, a, b⟩ := h.fs k x hk
    exact ⟨okS40 a, okS40 (good_len b), trivial⟩
  · obtain ⟨k, hk⟩ := List.mem_iff_getElem?.1 hm
    obtain ⟨_, a, b, c, d⟩ := h.ms k m hk
    exact ⟨okS40 a, trivial, ⟨okS40 (good_len b), trivial⟩, ⟨by omega, by omega⟩, fun t ht => ⟨okS40 (good_len (d t ht)), trivial⟩⟩

/-- p reads what e laid, of what is ok, and goes on behind it -/
structure Bk {α : Type} (p : St → α × St) (e : α → List UInt8) (ok : α → Prop) : Prop where
  back : ∀ x r, ok x → p ⟨e x ++ r, false⟩ = (x, ⟨r, false⟩)
  len : ∀ st, (p st).2.s.length ≤ st.s.length
theorem Cod.bk {α : Type} {p : St → α × St} {e : α → List UInt8} {ok : α → Prop} (h : Cod p e ok) : Bk p e ok := ⟨h.back, h.len⟩
section
variable {α β γ : Type} {p : St → α × St} {e : α → List UInt8} {ok : α → Prop} {q : St → β × St} {e' : β → List UInt8} {ok' : β → Prop}
theorem Bk.seq2 (hp : Bk p e ok) (hq : Bk q e' ok') (f : α → β → γ) (g1 : γ → α) (g2 : γ → β) (fg : ∀ x, f (g1 x) (g2 x) = x) :
    Bk (Fc.seq2 p q f) (fun x => e (g1 x) ++ e' (g2 x)) (fun x => ok (g1 x) ∧ ok' (g2 x)) where
  back := fun x r h => by
    unfold Fc.seq2
    rw [List.append_assoc, hp.back _ _ h.1]
    simp only
    rw [hq.back _ _ h.2]
    simp only [fg]
  len := fun st => Nat.le_trans (hq.len _) (hp.len st)
theorem bk_len (hp : Bk p e ok) (k : Nat) (st : St) : (rdN p k st).2.s.length ≤ st.s.length := by
  induction k with
  | zero => exact Nat.le_refl _
  | succ k ih => exact Nat.le_trans (hp.len _) ih
theorem bk_back (hp : Bk p e ok) (xs : List α) (hx : ∀ x ∈ xs, ok x) : ∀ k, k ≤ xs.length → ∀ r, rdN p k ⟨(xs.take k).flatMap e ++ r, false⟩ = (xs.take k, ⟨r, false⟩) := by
  intro k
  induction k with
  | zero => intro _ r; simp [rdN]
  | succ k ih =>
    intro hk r
    have ht : xs.take (k + 1) = xs.take k ++ [xs[k]] := List.take_succ_eq_append_getElem hk
    rw [ht, List.flatMap_append, List.flatMap_singleton, List.append_assoc]
    unfold rdN
    rw [ih (by omega)]
    simp only
    rw [hp.back _ _ (hx _ (List.getElem_mem hk))]
theorem Bk.many (hp : Bk p e ok) (he : ∀ x, 1 ≤ (e x).length) (most : Int) :
    Bk (rdMany p most) (manyB e) (fun xs => (xs.length < 9223372036854775808 ∧ (xs.length : Int) ≤ max most 0) ∧ ∀ x ∈ xs, ok x) where
  back := fun xs r h => by
    unfold rdMany manyB
    have hf := flat_len he xs
    rw [List.append_assoc, rMany_enc _ h.1.1 _ h.1.2 _ (by rw [List.length_append]; omega)]
    simp only
    have := bk_back hp xs h.2 xs.length (Nat.le_refl _) r
    rw [List.take_length] at this
    exact this
  len := fun st => Nat.le_trans (bk_len hp _ _) (rMany_len st most)
end

/-! ### numbers -/
theorem rNum_int (n : Int) (h0 : 0 ≤ n) (most : Int) (hm : n ≤ most) (hb : most < 9223372036854775808) (r : List UInt8) : rNum ⟨encI n ++ r, false⟩ most = (n.toNat, ⟨r, false⟩) := by
  unfold encI
  exact rNum_enc n.toNat (by omega) most (by omega) r
def OkI (n : Int) : Prop := -9223372036854775808 ≤ n ∧ n ≤ 9223372036854775807
theorem bk_int : Bk rInt Pk.intB OkI where
  back := fun n r h => by
    have hz := zig_lt n h.1 h.2
    have h1 : rNum ⟨Pk.intB n ++ r, false⟩ 4294967295 = (zig n / 4294967296, ⟨enc (zig n % 4294967296) ++ r, false⟩) := by
      unfold Pk.intB
      rw [List.append_assoc]
      exact rNum_enc _ (by omega) _ (by omega) _
    have h2 : rNum ⟨enc (zig n % 4294967296) ++ r, false⟩ 4294967295 = (zig n % 4294967296, ⟨r, false⟩) := rNum_enc _ (by omega) _ (by omega) _
    unfold rInt
    rw [h1]
    simp only
    rw [h2]
    simp only [Bool.false_eq_true, if_false, Prod.mk.injEq, and_true]
    rw [show zig n / 4294967296 * 4294967296 + zig n % 4294967296 = zig n by omega, zag_zig]
  len := fun st => by
    unfold rInt
    have h1 := rNum_len st 4294967295
    have h2 := rNum_len (rNum st 4294967295).2 4294967295
    split <;> (simp only; omega)
theorem intB_pos (n : Int) : 1 ≤ (Pk.intB n).length := by have := enc_pos (zig n / 4294967296); unfold Pk.intB; rw [List.length_append]; omega
theorem sB_pos (s : ByteArray) : 1 ≤ (sB s).length := textB_pos _

/-! ### fields, methods, instructions, bodies -/
def fdB (x : Fd) : List UInt8 := sB x.2 ++ vrB x.1
def rdFd : St → Fd × St := Fc.seq2 (rdS 40) (rdVr 40) (fun c v => (v, c))
def OkFd (x : Fd) : Prop := OkS 40 x.2 ∧ OkV 40 x.1
theorem bk_fd : Bk rdFd fdB OkFd := (cod_s 40).bk.seq2 (cod_vr 40).bk (fun c v => ((v, c) : Fd)) Prod.snd Prod.fst (fun _ => rfl)
theorem fdB_pos (x : Fd) : 1 ≤ (fdB x).length := by have := sB_pos x.2; unfold fdB; rw [List.length_append]; omega
def mtF (x : Mt) : Fc := ⟨x.2, ⟨#[]⟩, [], [x.1]⟩
def mtB (x : Mt) : List UInt8 := fcB (mtF x)
def rdMt (st : St) : Mt × St := (((rdFc 40 200 st).1.ms.headD ⟨⟨#[]⟩, false, [], ⟨#[]⟩, false⟩, (rdFc 40 200 st).1.name), (rdFc 40 200 st).2)
theorem bk_mt : Bk rdMt mtB (fun x => OkF 40 200 (mtF x)) where
  back := fun x r h => by
    unfold rdMt mtB
    rw [(cod_fc 40 200).back _ _ h]
    rfl
  len := fun st => (cod_fc 40 200).len st
theorem mtB_pos (x : Mt) : 1 ≤ (mtB x).length := by have := sB_pos x.2; unfold mtB fcB mtF; simp only [List.length_append]; omega
def inB (x : Int × Int) : List UInt8 := encI x.1 ++ (if poolN (kd x.1) = 0 then [] else encI x.2)
def rdIn (st : St) : (Int × Int) × St :=
  if poolN (rNum st 32).1 = 0 then ((((rNum st 32).1 : Nat), 0), (rNum st 32).2) else
    ((((rNum st 32).1 : Nat), ((rNum (rNum st 32).2 16384).1 : Nat)), (rNum (rNum st 32).2 16384).2)
def OkIn (x : Int × Int) : Prop := 0 ≤ x.1 ∧ x.1 ≤ 32 ∧ if poolN (kd x.1) = 0 then x.2 = 0 else 0 ≤ x.2 ∧ x.2 ≤ 16384
theorem kd_toNat {c : Int} (h0 : 0 ≤ c) (h1 : c ≤ 32) : kd c = c.toNat := by
  unfold kd; split
  · rfl
  · omega
theorem bk_in : Bk rdIn inB OkIn where
  back := fun x r h => by
    obtain ⟨c, a⟩ := x
    obtain ⟨h0, h1, h2⟩ := h
    simp only at h0 h1 h2
    unfold rdIn inB
    rw [kd_toNat h0 h1] at h2 ⊢
    simp only
    rw [List.append_assoc, rNum_int c h0 32 h1 (by omega)]
    simp only
    by_cases hp : poolN c.toNat = 0
    · rw [if_pos hp] at h2 ⊢
      rw [if_pos hp, h2, Int.toNat_of_nonneg h0]
      rfl
    · rw [if_neg hp] at h2 ⊢
      rw [if_neg hp, rNum_int a h2.1 16384 h2.2 (by omega)]
      simp only
      rw [Int.toNat_of_nonneg h0, Int.toNat_of_nonneg h2.1]
  len := fun st => by
    unfold rdIn
    have h1 := rNum_len st 32
    have h2 := rNum_len (rNum st 32).2 16384
    split <;> (simp only; omega)
theorem encI_pos (n : Int) : 1 ≤ (encI n).length := enc_pos _
theorem inB_pos (x : Int × Int) : 1 ≤ (inB x).length := by have := encI_pos x.1; unfold inB; rw [List.length_append]; omega
def bdB (b : Bd) : List UInt8 := encI b.lo ++ (encI b.st ++ manyB inB b.co)
def rdBd (st : St) : Bd × St :=
  (⟨((rNum st 401).1 : Nat), ((rNum (rNum st 401).2 1000).1 : Nat), (rdMany rdIn 16384 (rNum (rNum st 401).2 1000).2).1⟩, (rdMany rdIn 16384 (rNum (rNum st 401).2 1000).2).2)
def OkBd (b : Bd) : Prop := (0 ≤ b.lo ∧ b.lo ≤ 401) ∧ (0 ≤ b.st ∧ b.st ≤ 1000) ∧ b.co.length ≤ 16384 ∧ ∀ x ∈ b.co, OkIn x
theorem bk_bd : Bk rdBd bdB OkBd where
  back := fun b r h => by
    obtain ⟨lo, st, co⟩ := b
    obtain ⟨⟨h0, h1⟩, ⟨h2, h3⟩, h4, h5⟩ := h
    simp only at h0 h1 h2 h3 h4 h5
    unfold rdBd bdB
    simp only [List.append_assoc]
    rw [rNum_int lo h0 401 h1 (by omega)]
    simp only
    rw [rNum_int st h2 1000 h3 (by omega)]
    simp only
    rw [(bk_in.many inB_pos 16384).back co r ⟨⟨by omega, by omega⟩, h5⟩]
    simp only
    rw [Int.toNat_of_nonneg h0, Int.toNat_of_nonneg h2]
  len := fun st => by
    unfold rdBd
    have h1 := rNum_len st 401
    have h2 := rNum_len (rNum st 401).2 1000
    have h3 := (bk_in.many inB_pos 16384).len (rNum (rNum st 401).2 1000).2
    simp only
    omega

/-! ### pools, files -/
def poB (f : Fl) : List UInt8 := manyB Pk.intB f.nu ++ (manyB sB f.cl ++ (manyB tyB f.ty ++ (manyB fdB f.fd ++ manyB mtB f.mt)))
def flB (f : Fl) : List UInt8 := fcB f.fc ++ (poB f ++ f.bd.flatMap bdB)
abbrev rdNu : St → List Int × St := rdMany rInt 16384
abbrev rdCl : St → List ByteArray × St := rdMany (rdS 40) 16384
abbrev rdTs : St → List Ty × St := rdMany (rdTy 40) 16384
abbrev rdFs : St → List Fd × St := rdMany rdFd 16384
abbrev rdMs : St → List Mt × St := rdMany rdMt 16384
/-- a pool, read -/
structure Po where
  nu : List Int
  cl : List ByteArray
  ty : List Ty
  fd : List Fd
  mt : List Mt
def rdPo : St → Po × St := Fc.seq2 rdNu (Fc.seq2 rdCl (Fc.seq2 rdTs (Fc.seq2 rdFs rdMs Prod.mk) Prod.mk) Prod.mk) (fun a r => ⟨a, r.1, r.2.1, r.2.2.1, r.2.2.2⟩)
def pB (f : Po) : List UInt8 := manyB Pk.intB f.nu ++ (manyB sB f.cl ++ (manyB tyB f.ty ++ (manyB fdB f.fd ++ manyB mtB f.mt)))
def Mx {α : Type} (ok : α → Prop) (xs : List α) : Prop := (xs.length < 9223372036854775808 ∧ (xs.length : Int) ≤ max 16384 0) ∧ ∀ x ∈ xs, ok x
def OkPo (f : Po) : Prop := Mx OkI f.nu ∧ Mx (OkS 40) f.cl ∧ Mx (OkT 40) f.ty ∧ Mx OkFd f.fd ∧ Mx (fun x => OkF 40 200 (mtF x)) f.mt
theorem bk_po : Bk rdPo pB OkPo :=
  (bk_int.many intB_pos 16384).seq2 (((cod_s 40).bk.many sB_pos 16384).seq2 (((cod_ty 40).bk.many tyB_pos 16384).seq2 ((bk_fd.many fdB_pos 16384).seq2 (bk_mt.many mtB_pos 16384) Prod.mk Prod.fst Prod.snd (fun _ => rfl)) Prod.mk Prod.fst Prod.snd (fun _ => rfl)) Prod.mk Prod.fst Prod.snd (fun _ => rfl))
    (fun a r => (⟨a, r.1, r.2.1, r.2.2.1, r.2.2.2⟩ : Po)) Po.nu (fun f => (f.cl, f.ty, f.fd, f.mt)) (fun _ => rfl)
/-- a file, read -/
def rdFl (st : St) : Fl × St :=
  let a := rdFc 40 200 st
  let b := rdPo a.2
  let c := rdN rdBd a.1.ms.length b.2
  (⟨a.1, b.1.nu, b.1.cl, b.1.ty, b.1.fd, b.1.mt, c.1⟩, c.2)
theorem right_in {x : Int × Int} {M : Int} (h : rightB (kd x.1) x.2 M = true) (hM : M ≤ 16384) : OkIn x := by
  unfold rightB at h
  rw [Bool.and_eq_true, decide_eq_true_eq] at h
  have hk : 1 ≤ x.1 ∧ x.1 ≤ 32 := by
    by_cases hk : 1 ≤ x.1 ∧ x.1 ≤ 32
    · exact hk
    · exact absurd (kd_out hk) h.1
  refine ⟨by omega, hk.2, ?_⟩
  have h2 := h.2
  split
  · rename_i hp; rw [if_pos hp, decide_eq_true_eq] at h2; exact h2
  · rename_i hp; rw [if_neg hp, Bool.and_eq_true, decide_eq_true_eq, decide_eq_true_eq] at h2; omega
theorem many_le {n1 n2 n3 n4 n5 n6 : Nat} {lo p : Int} (h1 : n1 ≤ 16384) (h2 : n2 ≤ 16384) (h3 : n3 ≤ 16384) (h4 : n4 ≤ 16384) (h5 : n5 ≤ 16384) (h6 : n6 ≤ 16384) (hl : lo ≤ 401) : manyN n1 n2 n3 n4 n5 lo n6 p ≤ 16384 := by
  unfold manyN
  repeat' split
  all_goals omega
def Fl.po (f : Fl) : Po := ⟨f.nu, f.cl, f.ty, f.fd, f.mt⟩
theorem right_po {f : Fl} (h : PoolP f) (hn : ∀ z ∈ f.nu, OkI z) : OkPo f.po := by
  obtain ⟨h1, ⟨h2, g2⟩, ⟨h3, g3⟩, ⟨h4, g4⟩, ⟨h5, g5⟩⟩ := h
  refine ⟨⟨⟨by show f.nu.length < _; omega, by show (f.nu.length : Int) ≤ _; omega⟩, hn⟩, ⟨⟨by show f.cl.length < _; omega, by show (f.cl.length : Int) ≤ _; omega⟩, fun x hx => (right_ok (g2 x hx)).1⟩, ⟨⟨by show f.ty.length < _; omega, by show (f.ty.length : Int) ≤ _; omega⟩, fun x hx => ⟨okS40 (good_len (g3 x hx)), trivial⟩⟩, ⟨⟨by show f.fd.length < _; omega, by show (f.fd.length : Int) ≤ _; omega⟩, fun x hx => ?_⟩, ⟨⟨by show f.mt.length < _; omega, by show (f.mt.length : Int) ≤ _; omega⟩, fun x hx => right_ok (g5 x hx)⟩⟩
  have := right_ok (g4 x hx)
  exact ⟨this.1, this.2.2.1.2 x.1 (by simp)⟩
theorem right_bd {f : Fl} (h : RightF f) : ∀ b ∈ f.bd, OkBd b := by
  intro b hb
  obtain ⟨i, hi⟩ := List.mem_iff_getElem?.1 hb
  have hl := (List.getElem?_eq_some_iff.1 hi).1
  have hln := h.ln
  have hr := h.bd i (f.fc.ms[i]'(by omega)) b (List.getElem?_eq_getElem _) hi
  obtain ⟨p1, ⟨p2, _⟩, ⟨p3, _⟩, ⟨p4, _⟩, ⟨p5, _⟩⟩ := h.po
  have hc := hr.co
  have a1 := hr.l1; have a2 := hr.l2; have a3 := hr.s1; have a4 := hr.s2
  refine ⟨⟨by omega, by omega⟩, ⟨by omega, by omega⟩, hc.2.1, fun x hx => right_in (hc.2.2 x hx) (many_le p1 p2 p3 p4 p5 hc.2.1 (by omega))⟩
/-- a right file is read back -/
theorem fl_back {f : Fl} (h : RightF f) (hn : ∀ z ∈ f.nu, OkI z) (r : List UInt8) : rdFl ⟨flB f ++ r, false⟩ = (f, ⟨r, false⟩) := by
  unfold rdFl flB
  rw [List.append_assoc, (cod_fc 40 200).back f.fc _ (right_ok h.fc)]
  simp only
  rw [List.append_assoc, show poB f = pB f.po from rfl, bk_po.back f.po _ (right_po h.po hn)]
  simp only
  have := bk_back bk_bd f.bd (right_bd h) f.bd.length (Nat.le_refl _) r
  rw [List.take_length] at this
  rw [← h.ln, this]
  rfl
theorem fl_len (st : St) : (rdFl st).2.s.length ≤ st.s.length :=
  Nat.le_trans (bk_len bk_bd _ _) (Nat.le_trans (bk_po.len _) ((cod_fc 40 200).len st))
/-- two right files of which one's bytes begin the other's are one -/
theorem fl_inj {f g : Fl} (hf : RightF f) (hg : RightF g) (nf : ∀ z ∈ f.nu, OkI z) (ng : ∀ z ∈ g.nu, OkI z) {r r' : List UInt8} (h : flB f ++ r = flB g ++ r') : f = g ∧ r = r' := by
  have h1 := fl_back hf nf r
  rw [h, fl_back hg ng r'] at h1
  exact ⟨(congrArg Prod.fst h1).symm, (congrArg (fun z => z.2.s) h1).symm⟩
end Go.Proofs.YtomlbfkkhhhfkaaDoor.Fc
