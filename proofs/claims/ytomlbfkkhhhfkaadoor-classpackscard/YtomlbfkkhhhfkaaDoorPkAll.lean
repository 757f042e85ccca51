/-
  Plain facts on numbers as bytes: seven bits each byte, the lowest ones first. Nothing of the program is named here.
  Plain facts on numbers read from bytes: the number at the beginning of a text, in its one form, and how many bytes it has.
  What is known of a Writer in memory, and what a call that writes to it leaves alone.
  The Writer's lay: the bytes of one number behind what was laid.
  The Writer's Num and String.
  pack's first: the number at the beginning of a text.
  The Reader: what each of its calls tells, and what is left behind it.
  The Reader's Num, Flag, Many, Text, Int, Done.
  The Reader's Flag, Many, Text, Int, Done; those of a nil Reader; signed.
  Numbers with signs: unsigned, signed, the Reader's Int.
  The Writer's add, Text, Flag, Int.
  The Writer's Flag, Int; pack's Read; the statements' head.
-/
import Derived.Test.YtomlbfkkhhhfkaaDoorProg
import Derived.WalkKit
import Derived.Maps.AppendAt
import Derived.Lib.Hide
import Derived.Lib.AppendStr
namespace Go.Proofs.YtomlbfkkhhhfkaaDoor.Pk

/-- seven bits each byte, with fuel -/
def encF : Nat → Nat → List UInt8
  | 0, n => [UInt8.ofNat n]
  | f + 1, n => if 127 < n then UInt8.ofNat (n % 128 + 128) :: encF f (n / 128) else [UInt8.ofNat n]

theorem encF_more (f : Nat) : ∀ g n : Nat, n < f → n < g → encF f n = encF g n := by
  induction f with
  | zero => intro g n h; omega
  | succ f ih =>
    intro g n h1 h2
    cases g with
    | zero => omega
    | succ g =>
      unfold encF
      by_cases hn : 127 < n
      · rw [if_pos hn, if_pos hn, ih g (n / 128) (by omega) (by omega)]
      · rw [if_neg hn, if_neg hn]

/-- a number as bytes -/
def enc (n : Nat) : List UInt8 := encF (n + 1) n

theorem enc_big {n : Nat} (h : 127 < n) : enc n = UInt8.ofNat (n % 128 + 128) :: enc (n / 128) := by
  show encF (n + 1) n = _
  rw [encF, if_pos h]
  unfold enc
  rw [encF_more n (n / 128 + 1) (n / 128) (by omega) (by omega)]

theorem enc_small {n : Nat} (h : ¬ 127 < n) : enc n = [UInt8.ofNat n] := by
  show encF (n + 1) n = _
  rw [encF, if_neg h]

theorem enc_pos (n : Nat) : 1 ≤ (enc n).length := by
  by_cases h : 127 < n
  · rw [enc_big h]; simp
  · rw [enc_small h]; simp

theorem enc_len (k : Nat) : ∀ n, n < 128 ^ k → 1 ≤ k → (enc n).length ≤ k := by
  induction k with
  | zero => intro n _ h; omega
  | succ k ih =>
    intro n hn _
    by_cases h : 127 < n
    · rw [enc_big h]
      by_cases hk : k = 0
      · subst hk; simp at hn; omega
      · have := ih (n / 128) (by rw [Nat.pow_succ] at hn; omega) (by omega)
        simp; omega
    · rw [enc_small h]; simp

theorem enc_len9 (n : Nat) (h : n < 9223372036854775808) : (enc n).length ≤ 9 :=
  enc_len 9 n (by omega) (by omega)

end Go.Proofs.YtomlbfkkhhhfkaaDoor.Pk
namespace Go.Proofs.YtomlbfkkhhhfkaaDoor.Pk

def decF : Nat → List UInt8 → Option (Nat × Nat)
  | 0, _ => none
  | _ + 1, [] => none
  | f + 1, c :: s => if c.toNat < 128 then some (c.toNat, 1) else
    match decF f s with
    | none => none
    | some (m, k) => if m = 0 then none else some (c.toNat - 128 + 128 * m, k + 1)

/-- the number at the beginning of a text, in nine bytes at most -/
def dec (s : List UInt8) : Option (Nat × Nat) := decF 9 s

/-- what has been read so far, joined to what is read behind it -/
def fin (i n : Nat) : Option (Nat × Nat) → Option (Nat × Nat)
  | none => none
  | some (m, k) => if m = 0 ∧ 0 < i then none else some (n + 128 ^ i * m, i + k)

theorem fin_zero (d : Option (Nat × Nat)) : fin 0 0 d = d := by
  rcases d with _ | ⟨m, k⟩ <;> simp [fin]

theorem fin_more (i n f : Nat) (c : UInt8) (s : List UInt8) (hc : 128 ≤ c.toNat) :
    fin i n (decF (f + 1) (c :: s)) = fin (i + 1) (n + 128 ^ i * (c.toNat - 128)) (decF f s) := by
  rw [decF, if_neg (by omega)]
  rcases decF f s with _ | ⟨m, k⟩
  · rfl
  · by_cases hm : m = 0
    · simp [fin, hm]
    · simp only [hm, if_false, fin, false_and]
      rw [if_neg (by omega), Nat.mul_add, Nat.pow_succ, Nat.mul_assoc, ← Nat.add_assoc, show i + (k + 1) = i + 1 + k from by omega]

theorem fin_last (i n f : Nat) (c : UInt8) (s : List UInt8) (hc : c.toNat < 128) :
    fin i n (decF (f + 1) (c :: s)) = if c.toNat = 0 ∧ 0 < i then none else some (n + 128 ^ i * c.toNat, i + 1) := by
  rw [decF, if_pos hc]; rfl

theorem fin_none (i n : Nat) (s : List UInt8) : fin i n (decF 0 s) = none := rfl
theorem fin_nil (i n f : Nat) : fin i n (decF f []) = none := by cases f <;> rfl

theorem toNat_ofNat (k : Nat) (h : k < 256) : (UInt8.ofNat k).toNat = k := by simp [Nat.mod_eq_of_lt h]

theorem decF_enc (f : Nat) : ∀ n, n < 128 ^ f → 1 ≤ f → ∀ r, decF f (enc n ++ r) = some (n, (enc n).length) := by
  induction f with
  | zero => intro n _ h; omega
  | succ f ih =>
    intro n hn _ r
    by_cases h : 127 < n
    · rw [enc_big h, List.cons_append, decF, toNat_ofNat _ (by omega), if_neg (by omega)]
      by_cases hf : f = 0
      · subst hf; simp at hn; omega
      · rw [ih (n / 128) (by rw [Nat.pow_succ] at hn; omega) (by omega) r]
        simp only
        rw [if_neg (by omega)]
        simp
        omega
    · rw [enc_small h, List.cons_append, decF, toNat_ofNat _ (by omega), if_pos (by omega)]
      simp

theorem dec_enc (n : Nat) (h : n < 9223372036854775808) (r : List UInt8) : dec (enc n ++ r) = some (n, (enc n).length) := decF_enc 9 n (by omega) (by omega) r

theorem decF_sound (f : Nat) : ∀ s n k, decF f s = some (n, k) → n < 128 ^ f ∧ k = (enc n).length ∧ s = enc n ++ s.drop k := by
  induction f with
  | zero => intro s n k h; simp [decF] at h
  | succ f ih =>
    intro s n k h
    cases s with
    | nil => simp [decF] at h
    | cons c s =>
      rw [decF] at h
      by_cases hc : c.toNat < 128
      · rw [if_pos hc] at h
        simp only [Option.some.injEq, Prod.mk.injEq] at h
        obtain ⟨rfl, rfl⟩ := h
        have hp : 0 < 128 ^ f := Nat.pow_pos (by omega)
        refine ⟨by rw [Nat.pow_succ]; omega, by rw [enc_small (by omega)]; rfl, ?_⟩
        rw [enc_small (by omega)]
        simp
      · rw [if_neg hc] at h
        rcases hd : decF f s with _ | ⟨m, j⟩
        · rw [hd] at h; simp at h
        · rw [hd] at h
          simp only at h
          by_cases hm : m = 0
          · rw [if_pos hm] at h; simp at h
          · rw [if_neg hm] at h
            simp only [Option.some.injEq, Prod.mk.injEq] at h
            obtain ⟨rfl, rfl⟩ := h
            obtain ⟨h1, h2, h3⟩ := ih s m j hd
            have hc2 : c.toNat < 256 := c.toNat_lt
            have hbig : 127 < c.toNat - 128 + 128 * m := by omega
            have hdiv : (c.toNat - 128 + 128 * m) / 128 = m := by omega
            have hmod : (c.toNat - 128 + 128 * m) % 128 + 128 = c.toNat := by omega
            refine ⟨by rw [Nat.pow_succ]; omega, by rw [enc_big hbig, hdiv, List.length_cons, ← h2], ?_⟩
            rw [enc_big hbig, hdiv, hmod, List.drop_succ_cons, List.cons_append, ← h3]
            simp

theorem dec_sound (s : List UInt8) (n k : Nat) (h : dec s = some (n, k)) : n < 9223372036854775808 ∧ k = (enc n).length ∧ s = enc n ++ s.drop k := by
  have := decF_sound 9 s n k h
  exact ⟨by omega, this.2⟩

end Go.Proofs.YtomlbfkkhhhfkaaDoor.Pk
namespace Go.Proofs.YtomlbfkkhhhfkaaDoor.Pk
open Go.RowKit

/-- a byte as a value -/
def B8 (c : UInt8) : Value := .int .u8 (c.toNat : Int)

/-- a slice of bytes of the call's own that holds just these bytes -/
def Row (base : Nat) (w : World) (v : Value) (bs : List UInt8) : Prop := w.ownsRow base 5 1 v bs.length (bs.map B8)

/-- the Writer in block bw has laid just these bytes; its row lies from base on -/
def WAt (base bw : Nat) (w : World) (bs : List UInt8) : Prop :=
  ∃ v, w.heap[bw]? = some (.cells #[v] 54 (0, 0)) ∧ Row base w v bs

/-- block k is no row of bytes -/
def NB (w : World) (k : Nat) : Prop := ∀ cs f, w.heap[k]? ≠ some (.cells cs 5 f)
theorem NB.of {w w' : World} {k : Nat} (h : NB w k) (e : w'.heap[k]? = w.heap[k]?) : NB w' k := fun cs f => by rw [e]; exact h cs f
theorem Row.nb {base : Nat} {w : World} {v : Value} {bs : List UInt8} (h : Row base w v bs) : ∀ k, v.ownBlock = some k → ¬ NB w k := by
  intro k hk hn
  rcases h.2 with ⟨rfl, _⟩ | ⟨g, cap, cur, rfl, _, hh, _⟩
  · simp [Value.ownBlock] at hk
  · simp [Value.ownBlock] at hk
    subst hk
    exact hn cur (0, 0) hh

/-- below base nothing but block bw has turned, and from base on no block that is no row of bytes -/
structure Kp (base bw : Nat) (w w' : World) : Prop where
  os : w'.os = w.os
  tape : w'.tape = w.tape
  output : w'.output = w.output
  size : w.heap.size ≤ w'.heap.size
  block : ∀ k, k < base → k ≠ bw → w'.heap[k]? = w.heap[k]?
  other : ∀ k, k < w.heap.size → k ≠ bw → NB w k → w'.heap[k]? = w.heap[k]?

theorem Kp.refl (base bw : Nat) (w : World) : Kp base bw w w := ⟨rfl, rfl, rfl, Nat.le_refl _, fun _ _ _ => rfl, fun _ _ _ _ => rfl⟩
theorem Kp.trans {base bw : Nat} {a b c : World} (h : Kp base bw a b) (k : Kp base bw b c) : Kp base bw a c :=
  ⟨k.os.trans h.os, k.tape.trans h.tape, k.output.trans h.output, Nat.le_trans h.size k.size, fun i h1 h2 => (k.block i h1 h2).trans (h.block i h1 h2),
    fun i h1 h2 h3 => (k.other i (Nat.lt_of_lt_of_le h1 h.size) h2 (h3.of (h.other i h1 h2 h3))).trans (h.other i h1 h2 h3)⟩
theorem Kp.of_below {base bw : Nat} {a b : World} (h : Below a.heap.size a b) (hb : base ≤ a.heap.size) : Kp base bw a b := ⟨h.os, h.tape, h.output, h.size, fun k hk _ => h.block k (by omega), fun k hk _ _ => h.block k hk⟩
theorem Kp.of_grown {base bw : Nat} {a b : World} {row : Option Nat} (hg : a.grownBy b row) (hb : base ≤ a.heap.size) (h1 : ∀ k, row = some k → base ≤ k) (h2 : ∀ k, row = some k → ¬ NB a k) : Kp base bw a b :=
  ⟨hg.os, hg.tape, hg.output, hg.size, fun k hk _ => hg.block k (by omega) (fun e => by have := h1 k e.symm; omega), fun k hk _ hn => hg.block k hk (fun e => h2 k e.symm hn)⟩
theorem Kp.setCell {base bw : Nat} {a w : World} (h : Kp base bw a w) (i : Nat) (u : Value) : Kp base bw a (w.setCell ⟨bw, i, none⟩ u) :=
  h.trans ⟨rfl, rfl, rfl, by simp [World.setCell], fun k _ hk => Below.heap_setCell _ _ _ _ hk, fun k _ hk _ => Below.heap_setCell _ _ _ _ hk⟩

end Go.Proofs.YtomlbfkkhhhfkaaDoor.Pk
namespace Go.Proofs.YtomlbfkkhhhfkaaDoor.Pk
open Go.RowKit

theorem byte_info : (Tryd.prog.info? 5).map (fun i => (i.zero, i.size, i.bytes)) = some (some (.int .u8 0), 1, 1) := by kernel_rfl

theorem wraps_i64 (n : Int) (h₀ : 0 ≤ n) (h₁ : n < 2 ^ 63) : IntKind.i64.wrap n = n := by rw [IntKind.wrap_i64]; omega
theorem i64_and127 (m : Nat) (h : m < 9223372036854775808) : bits .and .i64 (m : Int) 127 = ((m % 128 : Nat) : Int) := by
  have := bits_mask .i64 63 (by decide) wraps_i64 7 (by decide) (m : Int) (by omega) (by omega)
  simpa using this
theorem u8_or128' (y : Nat) (h : y < 128) : bits .or .u8 (y : Int) 128 = ((y + 128 : Nat) : Int) := by
  have h1 := u8_or_nat y 128 (by omega) (by omega)
  have h2 : y ||| 128 = y + 128 := by rw [Nat.or_comm, nat_join 7 128 y (by decide) (by omega)]; omega
  rw [h2] at h1
  exact h1
theorem ofNat_byte (k : Nat) (h : k < 256) : ((UInt8.ofNat k).toNat : Int) = (k : Int) := by
  simp [Nat.mod_eq_of_lt h]
theorem byte_more (m : Nat) (h : m < 9223372036854775808) : bits .or .u8 (bits .and .i64 (m : Int) 127 % 256) 128 = ((UInt8.ofNat (m % 128 + 128)).toNat : Int) := by
  rw [i64_and127 m h, ofNat_byte _ (by omega), show ((m % 128 : Nat) : Int) % 256 = ((m % 128 : Nat) : Int) from by omega, u8_or128' _ (by omega)]

theorem row_form {w : World} {base n : Nat} {e : TypeId} {size : Nat} {v : Value} {xs : List Value} (h : w.ownsRow base e size v n xs) (hn : 0 < n) : ∃ g cap, v = .slice (some ⟨g, 0, none⟩) n cap := by
  rcases h.2 with ⟨_, h0⟩ | ⟨g, cap, _, hv, _⟩
  · omega
  · exact ⟨g, cap, hv⟩

/-- one byte more, laid by append and stored into the Writer's field -/
theorem WAt.more {base bw : Nat} {w w1 : World} {bs : List UInt8} {v v' : Value} {c : UInt8} {o : Obj} (hv : w.heap[bw]? = some (.cells #[v] 54 (0, 0))) (hrow : Row base w v bs) (hlt : bw < base) (hb : base ≤ w.heap.size)
    (hown : w1.ownsRow base 5 1 v' (bs.length + 1) (bs.map B8 ++ [B8 c])) (hg : (w.alloc o).grownBy w1 v.ownBlock) :
    WAt base bw (w1.setCell ⟨bw, 0, none⟩ v') (bs ++ [c]) ∧ Kp base bw w (w1.setCell ⟨bw, 0, none⟩ v') ∧ w1.cell? ⟨bw, 0, none⟩ = some v ∧ w1.frozen? ⟨bw, 0, none⟩ = false := by
  have hbw : w1.heap[bw]? = some (.cells #[v] 54 (0, 0)) := by
    rw [hg.block bw (by simp; omega) (fun e => by have := (World.ownsRow.lt hrow) bw e.symm; omega), Below.heap_alloc _ _ _ (by omega)]; exact hv
  have hk : Kp base bw w w1 := by
    have h0 : Kp base bw w (w.alloc o) := Kp.of_below ((Below.refl _ _).alloc (Nat.le_refl _) o) hb
    exact h0.trans (Kp.of_grown hg (by simp; omega) (fun k hk => ((World.ownsRow.lt hrow) k hk).1) (fun k hk hn => Row.nb (World.ownsRow.alloc hrow o) k hk hn))
  refine ⟨⟨v', one_setCell hbw, ?_⟩, hk.setCell 0 v', cell_of_one hbw, free_of_one hbw⟩
  unfold Row
  have := ownsRow_setCell_below hown (a := ⟨bw, 0, none⟩) hlt v'
  simpa using this

set_option maxHeartbeats 800000 in
set_option maxRecDepth 100000 in
theorem lay_any (base bw : Nat) (n : Nat) (hn : n < 9223372036854775808) (bs : List UInt8) (w : World) (hw : WAt base bw w bs) (hlt : bw < base) (hb : base ≤ w.heap.size)
    (hlen : bs.length + (enc n).length ≤ 140737488355328) :
    Calls Tryd.prog 46 #[.pointer (some ⟨bw, 0, none⟩), .int .i64 n] w fun e w' => e = .returned (.tuple #[]) ∧ WAt base bw w' (bs ++ enc n) ∧ Kp base bw w w' := by
  obtain ⟨i0, hi, hz0, hz1, hz2⟩ := info_parts byte_info
  go_enter Tryd.func46, Tryd.ntmps46
  go_wp2
  go_loopw [1] (fun s wr => ∃ (m : Nat) (bs' : List UInt8), s = .int .i64 m ∧ m ≤ n ∧ WAt base bw wr bs' ∧ bs' ++ enc m = bs ++ enc n ∧ Kp base bw w wr) (fun s _ => (intOf s).toNat)
  case atStart => exact ⟨n, bs, rfl, Nat.le_refl _, hw, rfl, Kp.refl _ _ _⟩
  case round =>
    obtain ⟨m, bs', rfl, hm, ⟨v, hv, hrow⟩, heq, hk⟩ := hrel
    have hc := cell_of_one hv
    have HB : Hid (base ≤ wr.heap.size) := Nat.le_trans hb hk.size
    have HL : Hid (bs'.length + (enc m).length ≤ 140737488355328) := by
      have := congrArg List.length heq
      simp only [List.length_append] at this
      show _ ≤ _
      omega
    have HE : Hid (bs' ++ enc m = bs ++ enc n) := heq
    have HV : Hid (wr.heap[bw]? = some (.cells #[v] 54 (0, 0))) := hv
    clear heq hv
    by_cases hgt : 127 < m
    · obtain ⟨c, HC, HM⟩ : ∃ c : UInt8, Hid (c = UInt8.ofNat (m % 128 + 128)) ∧ Hid (bits .or .u8 (bits .and .i64 (m : Int) 127 % 256) 128 = (c.toNat : Int)) := ⟨_, rfl, byte_more m (by omega)⟩
      go_wp2_with (at_builtin; refine wpList_append_own _ rfl (.tmp 16) (.tmp 21) 52 rfl base 5 i0 (.int .u8 0) 1 1 Tryd.underlying52 hi hz0 hz1 hz2 rfl (by decide) v bs'.length (bs'.map B8) rfl (hrow.alloc _) ⟨wr.heap.size, 0, none⟩ 1 1 [B8 c] rfl rfl ?c1 ?c2 ?c3 ?c4 ?c5 ?_)
      case c1 =>
        intro j u hj
        match j, hj with
        | 0, hj => simp at hj; subst hj; simp [Addr.add, B8, HM.out]
      case c2 => intro u hu; simp at hu; subst hu; rfl
      case c3 => have := HL.out; have := enc_pos m; unfold maxLen; omega
      case c4 => have := HL.out; have := enc_pos m; omega
      case c5 => have := HB.out; simp; omega
      intro v' w1 hown' hgrow _
      obtain ⟨g, cap, hv'⟩ := row_form hown' (by omega)
      subst hv'
      obtain ⟨hw', hk', hcl, hfr⟩ := WAt.more HV.out hrow hlt HB.out hown' hgrow
      clear hown' hgrow hrow
      go_wp2
      go_roundw
      case rel => exact ⟨m / 128, bs' ++ [c], by go_num, by omega, hw', by rw [List.append_assoc, List.singleton_append, HC.out, ← enc_big hgt]; exact HE.out, hk.trans hk'⟩
      case measure => simp [intOf]; omega
    · obtain ⟨c, HC, HM⟩ : ∃ c : UInt8, Hid (c = UInt8.ofNat m) ∧ Hid ((m : Int) = (c.toNat : Int)) := ⟨_, rfl, by show _ = _; rw [ofNat_byte _ (by omega)]⟩
      go_wp2_with (at_builtin; refine wpList_append_own _ rfl (.tmp 29) (.tmp 32) 52 rfl base 5 i0 (.int .u8 0) 1 1 Tryd.underlying52 hi hz0 hz1 hz2 rfl (by decide) v bs'.length (bs'.map B8) rfl (hrow.alloc _) ⟨wr.heap.size, 0, none⟩ 1 1 [B8 c] rfl rfl ?d1 ?d2 ?d3 ?d4 ?d5 ?_)
      case d1 =>
        intro j u hj
        match j, hj with
        | 0, hj => simp at hj; subst hj; simp [Addr.add, B8, HM.out]
      case d2 => intro u hu; simp at hu; subst hu; rfl
      case d3 => have := HL.out; have := enc_pos m; unfold maxLen; omega
      case d4 => have := HL.out; have := enc_pos m; omega
      case d5 => have := HB.out; simp; omega
      intro v' w1 hown' hgrow _
      obtain ⟨g, cap, hv'⟩ := row_form hown' (by omega)
      subst hv'
      obtain ⟨hw', hk', hcl, hfr⟩ := WAt.more HV.out hrow hlt HB.out hown' hgrow
      clear hown' hgrow hrow
      go_wp2
      go_end0
      refine ⟨rfl, ?_, hk.trans hk'⟩
      rw [← HE.out, enc_small hgt, ← HC.out]
      exact hw'

set_option maxHeartbeats 800000 in
set_option maxRecDepth 100000 in
theorem lay_neg (base bw : Nat) (a : Int) (ha : a < 0) (bs : List UInt8) (w : World) (hw : WAt base bw w bs) (hlt : bw < base) (hb : base ≤ w.heap.size)
    (hlen : bs.length + 1 ≤ 140737488355328) :
    Calls Tryd.prog 46 #[.pointer (some ⟨bw, 0, none⟩), .int .i64 a] w fun e w' => e = .returned (.tuple #[]) ∧ WAt base bw w' (bs ++ [0]) ∧ Kp base bw w w' := by
  obtain ⟨i0, hi, hz0, hz1, hz2⟩ := info_parts byte_info
  obtain ⟨v, hv, hrow⟩ := hw
  have hc := cell_of_one hv
  have HV := Lib.hid hv
  clear hv
  go_enter Tryd.func46, Tryd.ntmps46
  go_wp2
  go_loopw [1] (fun s wr => s = .int .i64 0 ∧ wr = w) (fun s _ => (intOf s).toNat)
  case atStart => exact ⟨rfl, rfl⟩
  case round =>
    obtain ⟨rfl, rfl⟩ := hrel
    go_wp2_with (at_builtin; refine wpList_append_own _ rfl (.tmp 29) (.tmp 32) 52 rfl base 5 i0 (.int .u8 0) 1 1 Tryd.underlying52 hi hz0 hz1 hz2 rfl (by decide) v bs.length (bs.map B8) rfl (hrow.alloc _) ⟨wr.heap.size, 0, none⟩ 1 1 [B8 0] rfl rfl ?d1 ?d2 ?d3 ?d4 ?d5 ?_)
    case d1 =>
      intro j u hj
      match j, hj with
      | 0, hj => simp at hj; subst hj; simp [Addr.add, B8]
    case d2 => intro u hu; simp at hu; subst hu; rfl
    case d3 => unfold maxLen; omega
    case d4 => omega
    case d5 => simp; omega
    intro v' w1 hown' hgrow _
    obtain ⟨g, cap, hv'⟩ := row_form hown' (by omega)
    subst hv'
    obtain ⟨hw', hk', hcl, hfr⟩ := WAt.more HV.out hrow hlt hb hown' hgrow
    clear hown' hgrow hrow
    go_wp2
    go_end0
    exact ⟨rfl, hw', hk'⟩

/-- the bytes of a number, those below nought as nought -/
def encI (a : Int) : List UInt8 := enc a.toNat
theorem encI_len (a : Int) (h : a ≤ 9223372036854775807) : (encI a).length ≤ 9 := enc_len9 _ (by omega)

theorem lay_int (base bw : Nat) (a : Int) (hmin : -9223372036854775808 ≤ a) (hmax : a ≤ 9223372036854775807) (bs : List UInt8) (w : World) (hw : WAt base bw w bs) (hlt : bw < base) (hb : base ≤ w.heap.size)
    (hlen : bs.length + 9 ≤ 140737488355328) :
    Calls Tryd.prog 46 #[.pointer (some ⟨bw, 0, none⟩), .int .i64 a] w fun e w' => e = .returned (.tuple #[]) ∧ WAt base bw w' (bs ++ encI a) ∧ Kp base bw w w' := by
  rcases Int.lt_or_le a 0 with h | h
  · have he : encI a = [0] := by unfold encI; rw [show a.toNat = 0 from by omega]; rfl
    rw [he]
    exact lay_neg base bw a h bs w hw hlt hb (by omega)
  · obtain ⟨n, rfl⟩ := Int.eq_ofNat_of_zero_le h
    have := enc_len9 n (by omega)
    exact lay_any base bw n (by omega) bs w hw hlt hb (by omega)

end Go.Proofs.YtomlbfkkhhhfkaaDoor.Pk
namespace Go.Proofs.YtomlbfkkhhhfkaaDoor.Pk
open Go.RowKit

theorem Kp.cell {base bw : Nat} {w w' : World} (h : Kp base bw w w') {p : Addr} (h1 : p.block < base) (h2 : p.block ≠ bw) : w'.cell? p = w.cell? p := World.cell?_of_block (w := w) (h.block p.block h1 h2)

theorem add_block (a : Addr) (n : Nat) : (a.add n).block = a.block := by unfold Addr.add; split <;> rfl

/-- a slice that holds these values, one cell each, in a block below base, or in one that is no row of bytes, that isn't bw -/
def Vals (base bw : Nat) (w : World) (A : Option Addr) (xs : List Value) : Prop :=
  xs = [] ∨ ∃ ad : Addr, A = some ad ∧ (ad.block < base ∨ ad.block < w.heap.size ∧ NB w ad.block) ∧ ad.block ≠ bw ∧ ∀ i (h : i < xs.length), w.cell? (ad.add i) = some xs[i]

theorem Vals.keep {base bw : Nat} {w w' : World} {A : Option Addr} {xs : List Value} (h : Vals base bw w A xs) (hk : Kp base bw w w') : Vals base bw w' A xs := by
  rcases h with h | ⟨ad, h1, h2, h3, h4⟩
  · exact .inl h
  · rcases h2 with h2 | ⟨h2, h5⟩
    · exact .inr ⟨ad, h1, .inl h2, h3, fun i hi => by rw [hk.cell (by rw [add_block]; exact h2) (by rw [add_block]; exact h3)]; exact h4 i hi⟩
    · have e := hk.other _ h2 h3 h5
      exact .inr ⟨ad, h1, .inr ⟨Nat.lt_of_lt_of_le h2 hk.size, h5.of e⟩, h3, fun i hi => by rw [World.cell?_of_block (w := w) (by rw [add_block]; exact e)]; exact h4 i hi⟩

def ints (zs : List Int) : List Value := zs.map (Value.int .i64)
def encAll (zs : List Int) : List UInt8 := zs.flatMap encI
theorem encAll_snoc (zs : List Int) (k : Nat) (h : k < zs.length) : encAll (zs.take (k + 1)) = encAll (zs.take k) ++ encI zs[k] := by
  unfold encAll; rw [List.take_succ_eq_append_getElem h, List.flatMap_append, List.flatMap_singleton]
theorem encAll_len (zs : List Int) (h : ∀ z ∈ zs, z ≤ 9223372036854775807) : (encAll zs).length ≤ 9 * zs.length := by
  induction zs with
  | nil => simp [encAll]
  | cons z zs ih =>
    have h1 := encI_len z (h z (by simp))
    have h2 := ih (fun z hz => h z (by simp [hz]))
    simp only [encAll, List.flatMap_cons, List.length_append, List.length_cons] at *
    omega

set_option maxHeartbeats 800000 in
set_option maxRecDepth 100000 in
theorem num_any (base bw : Nat) (zs : List Int) (hz : ∀ z ∈ zs, -9223372036854775808 ≤ z ∧ z ≤ 9223372036854775807) (A : Option Addr) (c : Nat) (bs : List UInt8) (w : World) (hw : WAt base bw w bs) (hlt : bw < base) (hb : base ≤ w.heap.size)
    (hA : Vals base bw w A (ints zs)) (hlen : bs.length + 9 * zs.length ≤ 140737488355328) :
    Calls Tryd.prog 19 #[.pointer (some ⟨bw, 0, none⟩), .slice A zs.length c] w fun e w' => e = .returned (.pointer (some ⟨bw, 0, none⟩)) ∧ WAt base bw w' (bs ++ encAll zs) ∧ Kp base bw w w' := by
  go_enter Tryd.func19, Tryd.ntmps19
  go_wp2
  go_loopw [9] (fun s wr => ∃ k : Nat, s = .int .i64 k ∧ k ≤ zs.length ∧ WAt base bw wr (bs ++ encAll (zs.take k)) ∧ Kp base bw w wr) (fun s _ => zs.length - (intOf s).toNat)
  case atStart => exact ⟨0, rfl, by omega, by simpa [encAll] using hw, Kp.refl _ _ _⟩
  case round =>
    obtain ⟨k, rfl, hk, hw1, hk1⟩ := hrel
    by_cases hkl : k < zs.length
    · obtain ⟨ad, rfl, hc⟩ : ∃ ad, A = some ad ∧ wr.cell? (ad.add k) = some (.int .i64 zs[k]) := by
        rcases hA.keep hk1 with h | ⟨ad, h1, h2, h3, h4⟩
        · simp [ints] at h; subst h; simp at hkl
        · exact ⟨ad, h1, by have := h4 k (by simpa [ints] using hkl); simpa [ints] using this⟩
      have HL : Hid ((bs ++ encAll (zs.take k)).length + 9 ≤ 140737488355328) := by
        have h1 := encAll_len (zs.take k) (fun z h => (hz z (List.mem_of_mem_take h)).2)
        have h2 := List.length_take_le k zs
        show _ ≤ _
        simp only [List.length_append]
        omega
      have HZ := hz zs[k] (List.getElem_mem hkl)
      have HS := Lib.hid (encAll_snoc zs k hkl)
      clear hA
      go_wp2_with (go_at_call 46; refine (lay_int base bw zs[k] HZ.1 HZ.2 _ wr hw1 hlt (Nat.le_trans hb hk1.size) HL.out).mono ?_; rintro e w2 ⟨rfl, hw2, hk2⟩)
      go_roundw
      case rel => exact ⟨k + 1, by go_num, by omega, by rw [HS.out, ← List.append_assoc]; exact hw2, hk1.trans hk2⟩
      case measure => simp [intOf]; omega
    · go_wp2
      go_ret
      refine ⟨rfl, ?_, hk1⟩
      rw [List.take_of_length_le (by omega)] at hw1
      exact hw1

set_option maxRecDepth 100000 in
theorem run_string (w : World) (base : Nat) (v : Value) (bs : List UInt8) (h : Row base w v bs) : (convert 52 9 v).run Tryd.prog w = .ok (.string ⟨bs.toArray⟩) w := by
  rcases h.2 with ⟨rfl, h0⟩ | ⟨g, cap, cur, rfl, hg, hh, hn, hm, hs, ht⟩
  · have : bs = [] := List.eq_nil_of_length_eq_zero h0
    subst this
    exact run_convert_bytes_nil w 52 5 Tryd.underlying52 Tryd.underlying5 0 0 9 Tryd.underlying9
  · have := run_convert_bytes_arg (P := Tryd.prog) w 52 5 Tryd.underlying52 Tryd.underlying5 g 0 bs.length cap (bs.map fun c => (c.toNat : Int)) (by simp) (by
      intro i hi
      have := World.ownsRow.cellAt (j := i) h (by omega)
      rw [Nat.zero_add, this]
      simp [hi, B8]) 9 Tryd.underlying9
    rw [this]
    congr 2
    unfold strOfNums
    simp [Function.comp_def]

set_option maxHeartbeats 800000 in
theorem string_any (base bw : Nat) (bs : List UInt8) (w : World) (hw : WAt base bw w bs) :
    Calls Tryd.prog 21 #[.pointer (some ⟨bw, 0, none⟩)] w fun e w' => e = .returned (.string ⟨bs.toArray⟩) ∧ w = w' := by
  obtain ⟨v, hv, hrow⟩ := hw
  have hc := cell_of_one hv
  have hr := run_string w base v bs hrow
  clear hv hrow
  go_enter Tryd.func21, Tryd.ntmps21
  go_wp2
  go_ret
  exact ⟨rfl, rfl⟩

end Go.Proofs.YtomlbfkkhhhfkaaDoor.Pk
namespace Go.Proofs.YtomlbfkkhhhfkaaDoor.Pk
open Go.RowKit

def decN (d : Option (Nat × Nat)) : Nat := match d with | none => 0 | some (n, _) => n
def decK (d : Option (Nat × Nat)) : Nat := match d with | none => 0 | some (_, k) => k

theorem wraps63 (n : Int) (h₀ : 0 ≤ n) (h₁ : n < 2 ^ 63) : IntKind.i64.wrap n = n := by rw [IntKind.wrap_i64]; omega
theorem wrap64_nat (n : Nat) (h : n < 9223372036854775808) : wrap64 (n : Int) = (n : Int) := by
  have := wraps63 (n : Int) (by omega) (by omega)
  rwa [IntWalk.i64_left] at this
theorem pow128 (i : Nat) : (128 : Nat) ^ i = 2 ^ (7 * i) := by rw [Nat.pow_mul]
theorem and127_nat (c : Nat) (hc : c < 256) : bits .and .u8 (c : Int) 127 = ((c % 128 : Nat) : Int) := by
  have h := u8_and_nat c 127 hc (by omega)
  rw [nat_mask7] at h
  exact h
theorem and128_yes (c : Nat) (hc : c < 256) (h : 128 ≤ c) : (bits .and .u8 (c : Int) 128 != 0) = true := by
  have h1 := u8_and_nat c 128 hc (by omega)
  have h2 := nat_bit 7 c
  rw [show (2 : Nat) ^ 7 = 128 from rfl] at h2
  rw [h2] at h1
  have h3 : bits .and .u8 (c : Int) 128 = ((c / 128 % 2 * 128 : Nat) : Int) := h1
  rw [h3, bne_iff_ne]
  omega
theorem and128_no (c : Nat) (h : c < 128) : (bits .and .u8 (c : Int) 128 != 0) = false := by
  have h1 := u8_and_nat c 128 (by omega) (by omega)
  have h2 := nat_bit 7 c
  rw [show (2 : Nat) ^ 7 = 128 from rfl] at h2
  rw [h2] at h1
  have h3 : bits .and .u8 (c : Int) 128 = ((c / 128 % 2 * 128 : Nat) : Int) := h1
  rw [h3, show c / 128 % 2 * 128 = 0 from by omega]
  rfl
theorem or_step (c i n : Nat) (hc : c < 256) (hi : i ≤ 8) (hn : n < 128 ^ i) :
    bits .or .i64 (n : Int) (wrap64 (wrap64 (bits .and .u8 (c : Int) 127) * 2 ^ (7 * i))) = ((n + 128 ^ i * (c % 128) : Nat) : Int) := by
  rw [and127_nat c hc, wrap64_nat _ (by omega)]
  have hp : (2 : Nat) ^ (7 * i) ≤ 2 ^ 56 := Nat.pow_le_pow_right (by omega) (by omega)
  have hx : c % 128 * 2 ^ (7 * i) ≤ 127 * 2 ^ 56 := Nat.mul_le_mul (by omega) hp
  have hcast : ((c % 128 : Nat) : Int) * 2 ^ (7 * i) = ((c % 128 * 2 ^ (7 * i) : Nat) : Int) := by simp
  rw [hcast, wrap64_nat _ (by omega)]
  rw [pow128] at hn ⊢
  have hor := (bits_nat .i64 63 (by decide) wraps63 n (c % 128 * 2 ^ (7 * i)) (by omega) (by omega)).2
  rw [hor, Nat.or_comm, nat_join (7 * i) _ n (Nat.mul_mod_left _ _) hn, Nat.add_comm, Nat.mul_comm]
theorem or_zero : bits .or .i64 0 (wrap64 (wrap64 (bits .and .u8 0 127))) = 0 := by
  have := or_step 0 0 0 (by omega) (by omega) (by omega)
  simpa using this
theorem drop_bytes (s : ByteArray) (i : Nat) (h : i < s.size) : s.data.toList.drop i = s[i] :: s.data.toList.drop (i + 1) := by
  rw [List.drop_eq_getElem_cons (by simpa using h)]
  rfl

set_option maxHeartbeats 800000 in
set_option maxRecDepth 100000 in
theorem first_any (s : ByteArray) (hs : s.size ≤ maxLen) (w : World) :
    Calls Tryd.prog 98 #[.string s] w fun e w' => e = .returned (.tuple #[.int .i64 (decN (dec s.data.toList)), .int .i64 (decK (dec s.data.toList))]) ∧ w = w' := by
  unfold maxLen at hs
  obtain ⟨L, hL1, hL2, hL3, hmn⟩ : ∃ L : Nat, L ≤ 9 ∧ L ≤ s.size ∧ (L < 9 → s.size ≤ L) ∧ (if (9 : Int) < (s.size : Int) then (9 : Int) else (s.size : Int)) = (L : Int) := by
    by_cases h : 9 < s.size
    · exact ⟨9, by omega, by omega, by omega, by rw [if_pos (by omega)]; rfl⟩
    · exact ⟨s.size, by omega, by omega, by omega, by rw [if_neg (by omega)]⟩
  go_enter Tryd.func98, Tryd.ntmps98
  go_wp2
  go_loop [4, 9] (fun t u => ∃ i n : Nat, u = .int .i64 i ∧ t = .int .i64 n ∧ i ≤ L ∧ n < 128 ^ i ∧ fin i n (decF (9 - i) (s.data.toList.drop i)) = dec s.data.toList) (fun _ u => 9 - (intOf u).toNat)
  case atStart => exact ⟨0, 0, rfl, rfl, by omega, by simp, by simp [fin_zero]; rfl⟩
  case round =>
    obtain ⟨i, n, rfl, rfl, hi, hn, heq⟩ := hrel
    have HE := Lib.hid heq
    clear heq
    by_cases hlt : i < L
    · have hil : i < s.size := by omega
      have HD := Lib.hid (drop_bytes s i hil)
      have hcb : s[i].toNat < 256 := s[i].toNat_lt
      by_cases hc : 128 ≤ s[i].toNat
      · have hb := and128_yes s[i].toNat hcb hc
        have HV := Lib.hid (or_step s[i].toNat i n hcb (by omega) hn)
        have HF := Lib.hid (fin_more i n (8 - i) s[i] (s.data.toList.drop (i + 1)) hc)
        have HP : Hid (n + 128 ^ i * (s[i].toNat % 128) < 128 ^ (i + 1)) := by
          show _ < _
          have h1 : s[i].toNat % 128 ≤ 127 := by omega
          have h2 := Nat.mul_le_mul_left (128 ^ i) h1
          rw [Nat.pow_succ]
          omega
        go_wp2
        go_round
        case rel =>
          refine ⟨i + 1, n + 128 ^ i * (s[i].toNat % 128), by go_num, by rw [HV.out], by omega, HP.out, ?_⟩
          rw [← HE.out, HD.out, show 9 - i = (8 - i) + 1 from by omega, HF.out, show 9 - (i + 1) = 8 - i from by omega, show s[i].toNat % 128 = s[i].toNat - 128 from by omega]
        case measure => simp [intOf]; omega
      · have hb := and128_no s[i].toNat (by omega)
        have HV := Lib.hid (or_step s[i].toNat i n hcb (by omega) hn)
        have HF := Lib.hid (fin_last i n (8 - i) s[i] (s.data.toList.drop (i + 1)) (by omega))
        by_cases hz : s[i].toNat = 0
        · by_cases hi0 : 0 < i
          · have HR : Hid (dec s.data.toList = none) := by
              show _ = _
              rw [← HE.out, HD.out, show 9 - i = (8 - i) + 1 from by omega, HF.out, if_pos ⟨hz, hi0⟩]
            go_wp2
            go_ret2
            rw [HR.out]
            exact ⟨rfl, rfl⟩
          · obtain rfl : i = 0 := by omega
            obtain rfl : n = 0 := by simpa using hn
            have HR : Hid (dec s.data.toList = some (0, 1)) := by
              show _ = _
              rw [← HE.out, HD.out, show 9 - 0 = (8 - 0) + 1 from by omega, HF.out, if_neg (by omega), hz]
            clear HV HF
            go_wp2
            go_ret2
            rw [HR.out, or_zero]
            exact ⟨rfl, rfl⟩
        · have HR : Hid (dec s.data.toList = some (n + 128 ^ i * s[i].toNat, i + 1)) := by
            show _ = _
            rw [← HE.out, HD.out, show 9 - i = (8 - i) + 1 from by omega, HF.out, if_neg (by omega)]
          go_wp2
          go_ret2
          rw [HR.out, HV.out, show s[i].toNat % 128 = s[i].toNat from by omega]
          exact ⟨by simp [decN, decK], rfl⟩
    · have HR : Hid (dec s.data.toList = none) := by
        show _ = _
        rw [← HE.out]
        by_cases h9 : i = 9
        · subst h9; exact fin_none _ _ _
        · rw [List.drop_of_length_le (by simp; omega)]; exact fin_nil _ _ _
      go_wp2
      go_ret2
      rw [HR.out]
      exact ⟨rfl, rfl⟩
end Go.Proofs.YtomlbfkkhhhfkaaDoor.Pk
namespace Go.Proofs.YtomlbfkkhhhfkaaDoor.Pk
open Go.RowKit

/-- a Reader's state: the bytes that are left, and whether there was an error -/
structure St where
  s : List UInt8
  bad : Bool

/-- the Reader in block br is in this state -/
def RAt (br : Nat) (w : World) (st : St) : Prop := w.heap[br]? = some (.cells #[.string ⟨st.s.toArray⟩, .bool st.bad] 120 (0, 0))

/-- nothing but block br has turned, and nothing is new -/
structure On (br : Nat) (w w' : World) : Prop where
  os : w'.os = w.os
  tape : w'.tape = w.tape
  output : w'.output = w.output
  size : w'.heap.size = w.heap.size
  block : ∀ k, k ≠ br → w'.heap[k]? = w.heap[k]?

theorem On.refl (br : Nat) (w : World) : On br w w := ⟨rfl, rfl, rfl, rfl, fun _ _ => rfl⟩
theorem On.trans {br : Nat} {a b c : World} (h : On br a b) (k : On br b c) : On br a c :=
  ⟨k.os.trans h.os, k.tape.trans h.tape, k.output.trans h.output, k.size.trans h.size, fun i hi => (k.block i hi).trans (h.block i hi)⟩
theorem On.setCell {br : Nat} {a w : World} (h : On br a w) (i : Nat) (u : Value) : On br a (w.setCell ⟨br, i, none⟩ u) :=
  h.trans ⟨rfl, rfl, rfl, by simp [World.setCell], fun k hk => Below.heap_setCell _ _ _ _ hk⟩
theorem On.below {br B : Nat} {w w' : World} (h : On br w w') (hB : B ≤ br) : Below B w w' := ⟨h.os, h.tape, h.output, by rw [h.size]; exact Nat.le_refl _, fun k hk => h.block k (by omega)⟩
theorem On.kp {br base : Nat} {w w' : World} (h : On br w w') : Kp base br w w' := ⟨h.os, h.tape, h.output, by rw [h.size]; exact Nat.le_refl _, fun k _ hk => h.block k hk, fun k _ hk _ => h.block k hk⟩

section
variable {br : Nat} {w : World} {st : St}
theorem RAt.c0 (h : RAt br w st) : w.cell? ⟨br, 0, none⟩ = some (.string ⟨st.s.toArray⟩) := by unfold RAt at h; simp [World.cell?, h]
theorem RAt.c1 (h : RAt br w st) : w.cell? ⟨br, 1, none⟩ = some (.bool st.bad) := by unfold RAt at h; simp [World.cell?, h]
theorem RAt.f0 (h : RAt br w st) (i : Nat) : w.frozen? ⟨br, i, none⟩ = false := by unfold RAt at h; simp [World.frozen?, h]
theorem RAt.set0 (h : RAt br w st) (s : List UInt8) : RAt br (w.setCell ⟨br, 0, none⟩ (.string ⟨s.toArray⟩)) ⟨s, st.bad⟩ := by
  unfold RAt at h ⊢
  simp [World.setCell, Array.getElem?_modify, h]
theorem RAt.set1 (h : RAt br w st) (b : Bool) : RAt br (w.setCell ⟨br, 1, none⟩ (.bool b)) ⟨st.s, b⟩ := by
  unfold RAt at h ⊢
  simp [World.setCell, Array.getElem?_modify, h]
end

set_option maxHeartbeats 400000 in
theorem ok_any (br : Nat) (st : St) (w : World) (h : RAt br w st) :
    Calls Tryd.prog 75 #[.pointer (some ⟨br, 0, none⟩)] w fun e w' => e = .returned (.bool (!st.bad)) ∧ w = w' := by
  have h1 := h.c1
  clear h
  go_enter Tryd.func75, Tryd.ntmps75
  go_wp2
  go_ret
  exact ⟨rfl, rfl⟩

theorem ok_nil (w : World) : Calls Tryd.prog 75 #[.pointer none] w fun e w' => e = .returned (.bool false) ∧ w = w' := by
  go_enter Tryd.func75, Tryd.ntmps75
  go_wp2
  go_ret
  exact ⟨rfl, rfl⟩

set_option maxHeartbeats 400000 in
theorem fail_any (br : Nat) (st : St) (w : World) (h : RAt br w st) :
    Calls Tryd.prog 76 #[.pointer (some ⟨br, 0, none⟩)] w fun e w' => e = .returned (.tuple #[]) ∧ RAt br w' ⟨[], true⟩ ∧ On br w w' := by
  have h0 := h.c0
  have h1 := h.c1
  have h2 := h.f0 0
  have h3 := h.f0 1
  have H := Lib.hid h
  clear h
  go_enter Tryd.func76, Tryd.ntmps76
  go_wp2
  go_end0
  exact ⟨rfl, (H.out.set0 []).set1 true, ((On.refl _ _).setCell 0 _).setCell 1 _⟩

def rNum (st : St) (most : Int) : Nat × St :=
  if st.bad then (0, st) else
    match dec st.s with
    | none => (0, ⟨[], true⟩)
    | some (n, k) => if max most 0 < (n : Int) then (0, ⟨[], true⟩) else (n, ⟨st.s.drop k, false⟩)

end Go.Proofs.YtomlbfkkhhhfkaaDoor.Pk
namespace Go.Proofs.YtomlbfkkhhhfkaaDoor.Pk
open Go.RowKit

theorem cut_bytes (l : List UInt8) (a b : Nat) : (⟨l.toArray⟩ : ByteArray).extract a b = ⟨((l.drop a).take (b - a)).toArray⟩ := by
  apply ByteArray.ext
  simp [List.extract_eq_take_drop]
theorem drop_cut (l : List UInt8) (k : Nat) : (⟨l.toArray⟩ : ByteArray).extract k l.length = ⟨(l.drop k).toArray⟩ := by
  rw [cut_bytes, List.take_of_length_le (by simp)]
theorem max_form (a : Int) : (if a < 0 then (0 : Int) else a) = max a 0 := by omega

set_option maxHeartbeats 800000 in
set_option maxRecDepth 100000 in
theorem rnum_any (br : Nat) (st : St) (most : Int) (w : World) (h : RAt br w st) (hs : st.s.length ≤ 140737488355328) :
    Calls Tryd.prog 74 #[.pointer (some ⟨br, 0, none⟩), .int .i64 most] w fun e w' => e = .returned (.int .i64 ((rNum st most).1 : Nat)) ∧ RAt br w' (rNum st most).2 ∧ On br w w' := by
  have H := Lib.hid h
  have h0 := h.c0
  have h2 := h.f0 0
  clear h
  rcases hb : st.bad with _ | _
  · rcases hd : dec st.s with _ | ⟨n, k⟩
    · have hr : rNum st most = (0, ⟨[], true⟩) := by unfold rNum; rw [hb, hd]; rfl
      rw [hr]
      have HD := Lib.hid hd
      have HB := Lib.hid hb
      clear hd hb hr
      go_enter Tryd.func74, Tryd.ntmps74
      go_wp2_with fail
      refine (ok_any br st w H.out).mono ?_
      rintro e w' ⟨rfl, rfl⟩
      rw [HB.out]
      go_wp2_with fail
      refine (first_any _ (by unfold maxLen; simp [ByteArray.size]; omega) w).mono ?_
      rintro e w' ⟨rfl, rfl⟩
      simp only [HD.out, decN, decK]
      go_wp2_with fail
      refine (fail_any br st w H.out).mono ?_
      rintro e w' ⟨rfl, hw', hon⟩
      go_wp2
      go_ret
      exact ⟨rfl, hw', hon⟩
    · obtain ⟨hn, hk, hsp⟩ := dec_sound _ _ _ hd
      have hk1 : 1 ≤ k := by rw [hk]; exact enc_pos n
      have hkl : k ≤ st.s.length := by
        have := congrArg List.length hsp
        simp only [List.length_append, List.length_drop] at this
        omega
      clear hk hsp
      by_cases hm : max most 0 < (n : Int)
      · have hr : rNum st most = (0, ⟨[], true⟩) := by unfold rNum; rw [hb, hd]; simp only [hm, if_true]; rfl
        rw [hr]
        have HD := Lib.hid hd
        have HB := Lib.hid hb
        obtain ⟨M, hM, hmx⟩ : ∃ M, M < (n : Int) ∧ (if most < 0 then (0 : Int) else most) = M := ⟨_, by rw [max_form]; exact hm, rfl⟩
        clear hd hb hr hm
        go_enter Tryd.func74, Tryd.ntmps74
        go_wp2_with fail
        refine (ok_any br st w H.out).mono ?_
        rintro e w' ⟨rfl, rfl⟩
        rw [HB.out]
        go_wp2_with fail
        refine (first_any _ (by unfold maxLen; simp [ByteArray.size]; omega) w).mono ?_
        rintro e w' ⟨rfl, rfl⟩
        simp only [HD.out, decN, decK]
        go_wp2_with fail
        refine (fail_any br st w H.out).mono ?_
        rintro e w' ⟨rfl, hw', hon⟩
        go_wp2
        go_ret
        exact ⟨rfl, hw', hon⟩
      · have hr : rNum st most = (n, ⟨st.s.drop k, false⟩) := by unfold rNum; rw [hb, hd]; simp only [hm, if_false]; rfl
        rw [hr]
        have HD := Lib.hid hd
        have HB := Lib.hid hb
        obtain ⟨M, hM, hmx⟩ : ∃ M, decide (M < (n : Int)) = false ∧ (if most < 0 then (0 : Int) else most) = M := ⟨_, by rw [max_form]; exact decide_eq_false hm, rfl⟩
        have hk0 : ((k : Int) == 0) = false := beq_eq_false_iff_ne.2 (by omega)
        clear hd hb hr hm
        go_enter Tryd.func74, Tryd.ntmps74
        go_wp2_with fail
        refine (ok_any br st w H.out).mono ?_
        rintro e w' ⟨rfl, rfl⟩
        rw [HB.out]
        go_wp2_with fail
        refine (first_any _ (by unfold maxLen; simp [ByteArray.size]; omega) w).mono ?_
        rintro e w' ⟨rfl, rfl⟩
        simp only [HD.out, decN, decK]
        go_wp2
        go_ret
        rw [drop_cut]
        refine ⟨rfl, ?_, (On.refl _ _).setCell 0 _⟩
        have := H.out.set0 (st.s.drop k)
        rw [HB.out] at this
        exact this
  · have hr : rNum st most = (0, st) := by unfold rNum; rw [hb]; rfl
    rw [hr]
    have HB := Lib.hid hb
    clear hr hb
    go_enter Tryd.func74, Tryd.ntmps74
    go_wp2_with fail
    refine (ok_any br st w H.out).mono ?_
    rintro e w' ⟨rfl, rfl⟩
    rw [HB.out]
    go_wp2
    go_ret
    exact ⟨rfl, H.out, On.refl _ _⟩

end Go.Proofs.YtomlbfkkhhhfkaaDoor.Pk
namespace Go.Proofs.YtomlbfkkhhhfkaaDoor.Pk
open Go.RowKit

def rFlag (st : St) : Bool × St := (decide ((rNum st 1).1 = 1), (rNum st 1).2)
def rMany (st : St) (most : Int) : Nat × St :=
  if (rNum st most).2.bad = false ∧ (rNum st most).2.s.length < (rNum st most).1 then (0, ⟨[], true⟩) else rNum st most
def rText (st : St) (most : Int) : List UInt8 × St :=
  if (rMany st most).2.bad then ([], (rMany st most).2) else
    ((rMany st most).2.s.take (rMany st most).1, ⟨(rMany st most).2.s.drop (rMany st most).1, false⟩)

theorem rNum_len (st : St) (most : Int) : (rNum st most).2.s.length ≤ st.s.length := by
  unfold rNum
  split
  · simp
  · split
    · simp
    · split <;> simp
theorem rNum_lt (st : St) (most : Int) : (rNum st most).1 < 9223372036854775808 := by
  unfold rNum
  split
  · simp
  · split
    · simp
    · rename_i n k hd
      split
      · simp
      · exact (dec_sound _ _ _ hd).1
theorem rNum_bad (st : St) (most : Int) (h : (rNum st most).2.bad = true) : (rNum st most).1 = 0 := by
  unfold rNum at h ⊢
  split
  · rfl
  · rename_i hb
    rw [if_neg hb] at h
    split
    · rfl
    · rename_i n k hd
      rw [hd] at h
      simp only at h
      split
      · rfl
      · rename_i hm
        rw [if_neg hm] at h
        simp at h
theorem rMany_len (st : St) (most : Int) : (rMany st most).2.s.length ≤ st.s.length := by
  unfold rMany
  split
  · simp
  · exact rNum_len _ _

set_option maxHeartbeats 400000 in
theorem rflag_any (br : Nat) (st : St) (w : World) (h : RAt br w st) (hs : st.s.length ≤ 140737488355328) :
    Calls Tryd.prog 99 #[.pointer (some ⟨br, 0, none⟩)] w fun e w' => e = .returned (.bool (rFlag st).1) ∧ RAt br w' (rFlag st).2 ∧ On br w w' := by
  have C := Lib.hid (rnum_any br st 1 w h hs)
  unfold rFlag
  generalize rNum st 1 = r at *
  obtain ⟨n, st1⟩ := r
  clear h
  simp only at C ⊢
  have hn : (decide (n = 1)) = ((n : Int) == 1) := by
    by_cases h1 : n = 1
    · subst h1; rfl
    · rw [decide_eq_false h1, eq_comm, beq_eq_false_iff_ne]; omega
  rw [hn]
  clear hn
  go_enter Tryd.func99, Tryd.ntmps99
  go_wp2_with fail
  refine C.out.mono ?_
  rintro e w' ⟨rfl, hw, ho⟩
  go_wp2
  go_ret
  exact ⟨rfl, hw, ho⟩

set_option maxHeartbeats 400000 in
theorem rmany_any (br : Nat) (st : St) (most : Int) (w : World) (h : RAt br w st) (hs : st.s.length ≤ 140737488355328) :
    Calls Tryd.prog 43 #[.pointer (some ⟨br, 0, none⟩), .int .i64 most] w fun e w' => e = .returned (.int .i64 ((rMany st most).1 : Nat)) ∧ RAt br w' (rMany st most).2 ∧ On br w w' := by
  have C := Lib.hid (rnum_any br st most w h hs)
  unfold rMany
  have hlt := rNum_lt st most
  have hle := rNum_len st most
  have hbd := rNum_bad st most
  generalize rNum st most = r at *
  obtain ⟨n, s1, b1⟩ := r
  simp only at hlt hle hbd C ⊢
  clear h
  cases b1
  · clear hbd
    by_cases hn : s1.length < n
    · rw [if_pos ⟨rfl, hn⟩]
      go_enter Tryd.func43, Tryd.ntmps43
      go_wp2_with fail
      refine C.out.mono ?_
      rintro e w1 ⟨rfl, hw, ho⟩
      have H1 := Lib.hid hw
      have h0 := hw.c0
      clear hw
      go_wp2_with fail
      refine (ok_any br _ w1 H1.out).mono ?_
      rintro e w' ⟨rfl, rfl⟩
      simp only [Bool.not_false]
      go_wp2_with fail
      refine (fail_any br _ w1 H1.out).mono ?_
      rintro e w' ⟨rfl, hw', hon⟩
      go_wp2
      go_ret
      exact ⟨rfl, hw', ho.trans hon⟩
    · rw [if_neg (by simp; omega)]
      have hn' : decide (s1.length < n) = false := decide_eq_false (by omega)
      go_enter Tryd.func43, Tryd.ntmps43
      go_wp2_with fail
      refine C.out.mono ?_
      rintro e w1 ⟨rfl, hw, ho⟩
      have H1 := Lib.hid hw
      have h0 := hw.c0
      clear hw
      go_wp2_with fail
      refine (ok_any br _ w1 H1.out).mono ?_
      rintro e w' ⟨rfl, rfl⟩
      simp only [Bool.not_false]
      go_wp2
      go_ret
      exact ⟨rfl, H1.out, ho⟩
  · have := hbd rfl
    subst this
    rw [if_neg (by simp)]
    clear hbd
    go_enter Tryd.func43, Tryd.ntmps43
    go_wp2_with fail
    refine C.out.mono ?_
    rintro e w1 ⟨rfl, hw, ho⟩
    have H1 := Lib.hid hw
    clear hw
    go_wp2_with fail
    refine (ok_any br _ w1 H1.out).mono ?_
    rintro e w' ⟨rfl, rfl⟩
    simp only [Bool.not_true]
    go_wp2
    go_ret
    exact ⟨rfl, H1.out, ho⟩

set_option maxHeartbeats 400000 in
theorem rtext_any (br : Nat) (st : St) (most : Int) (w : World) (h : RAt br w st) (hs : st.s.length ≤ 140737488355328) :
    Calls Tryd.prog 44 #[.pointer (some ⟨br, 0, none⟩), .int .i64 most] w fun e w' => e = .returned (.string ⟨(rText st most).1.toArray⟩) ∧ RAt br w' (rText st most).2 ∧ On br w w' := by
  have C := Lib.hid (rmany_any br st most w h hs)
  unfold rText
  have hle := rMany_len st most
  have hfit : (rMany st most).2.bad = false → (rMany st most).1 ≤ (rMany st most).2.s.length := by
    unfold rMany
    split
    · simp
    · intro hb
      rename_i hn
      rcases Nat.lt_or_ge (rNum st most).2.s.length (rNum st most).1 with h' | h'
      · exact absurd ⟨hb, h'⟩ hn
      · exact h'
  generalize rMany st most = r at *
  obtain ⟨n, s1, b1⟩ := r
  simp only at hle C hfit ⊢
  clear h
  cases b1
  · have hn := hfit rfl
    clear hfit
    simp only [Bool.false_eq_true, if_false]
    go_enter Tryd.func44, Tryd.ntmps44
    go_wp2_with fail
    refine C.out.mono ?_
    rintro e w1 ⟨rfl, hw, ho⟩
    have H1 := Lib.hid hw
    have h0 := hw.c0
    have f0 := hw.f0 0
    clear hw
    go_wp2_with fail
    refine (ok_any br _ w1 H1.out).mono ?_
    rintro e w' ⟨rfl, rfl⟩
    simp only [Bool.not_false]
    go_wp2
    go_ret
    rw [drop_cut, cut_bytes]
    exact ⟨rfl, H1.out.set0 (s1.drop n), ho.trans ((On.refl _ _).setCell 0 _)⟩
  · clear hfit
    simp only [if_true]
    go_enter Tryd.func44, Tryd.ntmps44
    go_wp2_with fail
    refine C.out.mono ?_
    rintro e w1 ⟨rfl, hw, ho⟩
    have H1 := Lib.hid hw
    clear hw
    go_wp2_with fail
    refine (ok_any br _ w1 H1.out).mono ?_
    rintro e w' ⟨rfl, rfl⟩
    simp only [Bool.not_true]
    go_wp2
    go_ret
    exact ⟨rfl, H1.out, ho⟩

def rDone (st : St) : Int := if st.bad = false ∧ st.s = [] then 0 else 2

set_option maxHeartbeats 400000 in
theorem done_any (br : Nat) (st : St) (w : World) (h : RAt br w st) :
    Calls Tryd.prog 45 #[.pointer (some ⟨br, 0, none⟩)] w fun e w' => e = .returned (.int .i64 (rDone st)) ∧ w = w' := by
  have h0 := h.c0
  have H := Lib.hid h
  clear h
  obtain ⟨s, b⟩ := st
  unfold rDone
  cases b
  · cases s with
    | nil =>
      rw [if_pos ⟨rfl, rfl⟩]
      go_enter Tryd.func45, Tryd.ntmps45
      go_wp2_with fail
      refine (ok_any br _ w H.out).mono ?_
      rintro e w' ⟨rfl, rfl⟩
      simp only [Bool.not_false]
      go_wp2
      go_ret
      exact ⟨rfl, rfl⟩
    | cons c s =>
      rw [if_neg (by simp)]
      go_enter Tryd.func45, Tryd.ntmps45
      go_wp2_with fail
      refine (ok_any br _ w H.out).mono ?_
      rintro e w' ⟨rfl, rfl⟩
      simp only [Bool.not_false]
      go_wp2
      go_ret
      exact ⟨rfl, rfl⟩
  · rw [if_neg (by simp)]
    go_enter Tryd.func45, Tryd.ntmps45
    go_wp2_with fail
    refine (ok_any br _ w H.out).mono ?_
    rintro e w' ⟨rfl, rfl⟩
    simp only [Bool.not_true]
    go_wp2
    go_ret
    exact ⟨rfl, rfl⟩

theorem rnum_nil (most : Int) (w : World) : Calls Tryd.prog 74 #[.pointer none, .int .i64 most] w fun e w' => e = .returned (.int .i64 0) ∧ w = w' := by
  go_enter Tryd.func74, Tryd.ntmps74
  go_wp2_with (go_at_call 75; refine (ok_nil _).mono ?_; rintro e w' ⟨rfl, rfl⟩)
  go_ret
  exact ⟨rfl, rfl⟩
theorem rflag_nil (w : World) : Calls Tryd.prog 99 #[.pointer none] w fun e w' => e = .returned (.bool false) ∧ w = w' := by
  go_enter Tryd.func99, Tryd.ntmps99
  go_wp2_with (go_at_call 74; refine (rnum_nil _ _).mono ?_; rintro e w' ⟨rfl, rfl⟩)
  go_ret
  exact ⟨rfl, rfl⟩
theorem rmany_nil (most : Int) (w : World) : Calls Tryd.prog 43 #[.pointer none, .int .i64 most] w fun e w' => e = .returned (.int .i64 0) ∧ w = w' := by
  go_enter Tryd.func43, Tryd.ntmps43
  go_wp2_with (first | (go_at_call 74; refine (rnum_nil _ _).mono ?_; rintro e w' ⟨rfl, rfl⟩) | (go_at_call 75; refine (ok_nil _).mono ?_; rintro e w' ⟨rfl, rfl⟩))
  go_ret
  exact ⟨rfl, rfl⟩
theorem rtext_nil (most : Int) (w : World) : Calls Tryd.prog 44 #[.pointer none, .int .i64 most] w fun e w' => e = .returned (.string ⟨#[]⟩) ∧ w = w' := by
  go_enter Tryd.func44, Tryd.ntmps44
  go_wp2_with (first | (go_at_call 43; refine (rmany_nil _ _).mono ?_; rintro e w' ⟨rfl, rfl⟩) | (go_at_call 75; refine (ok_nil _).mono ?_; rintro e w' ⟨rfl, rfl⟩))
  go_ret
  exact ⟨rfl, rfl⟩
theorem done_nil (w : World) : Calls Tryd.prog 45 #[.pointer none] w fun e w' => e = .returned (.int .i64 2) ∧ w = w' := by
  go_enter Tryd.func45, Tryd.ntmps45
  go_wp2_with (go_at_call 75; refine (ok_nil _).mono ?_; rintro e w' ⟨rfl, rfl⟩)
  go_ret
  exact ⟨rfl, rfl⟩

end Go.Proofs.YtomlbfkkhhhfkaaDoor.Pk
namespace Go.Proofs.YtomlbfkkhhhfkaaDoor.Pk
open Go.RowKit

/-- twice n, or, below nought, -2n - 1 -/
def zig (n : Int) : Nat := if n < 0 then (-2 * n - 1).toNat else (2 * n).toNat
def zag (u : Nat) : Int := if u % 2 = 1 then -((u / 2 : Nat) : Int) - 1 else ((u / 2 : Nat) : Int)
theorem zag_zig (n : Int) : zag (zig n) = n := by
  unfold zag zig
  split
  · rw [if_pos (by omega)]; omega
  · rw [if_neg (by omega)]; omega
theorem zig_zag (u : Nat) : zig (zag u) = u := by
  unfold zag zig
  split
  · rw [if_pos (by omega)]; omega
  · rw [if_neg (by omega)]; omega
theorem zig_lt (n : Int) (h1 : -9223372036854775808 ≤ n) (h2 : n ≤ 9223372036854775807) : zig n < 18446744073709551616 := by
  unfold zig; split <;> omega

theorem ret_int {k : IntKind} {a b : Int} (h : a = b) : Ending.returned (.int k a) = .returned (.int k b) := by rw [h]
theorem zig_neg (n : Int) (h : n < 0) (h1 : -9223372036854775808 ≤ n) : IntKind.u64.wrap (IntKind.u64.wrap (-IntKind.u64.wrap (2 * IntKind.u64.wrap n)) - 1) = ((zig n : Nat) : Int) := by
  unfold zig
  rw [if_pos h]
  simp only [IntKind.wrap_u64]
  omega

set_option maxHeartbeats 400000 in
theorem unsigned_any (n : Int) (h1 : -9223372036854775808 ≤ n) (h2 : n ≤ 9223372036854775807) (w : World) :
    Calls Tryd.prog 70 #[.int .i64 n] w fun e w' => e = .returned (.int .u64 (zig n : Nat)) ∧ w = w' := by
  by_cases h : n < 0
  · go_enter Tryd.func70, Tryd.ntmps70
    go_wp2
    go_ret
    exact ⟨ret_int (zig_neg n h h1), rfl⟩
  · go_enter Tryd.func70, Tryd.ntmps70
    go_wp2
    go_ret
    exact ⟨ret_int (by unfold zig; rw [if_neg (by omega)]; omega), rfl⟩

set_option maxHeartbeats 400000 in
theorem signed_any (u : Nat) (h1 : u < 18446744073709551616) (w : World) :
    Calls Tryd.prog 101 #[.int .u64 u] w fun e w' => e = .returned (.int .i64 (zag u)) ∧ w = w' := by
  by_cases h : u % 2 = 1
  · have hb : ((u : Int) % 2 == 1) = true := beq_iff_eq.2 (by omega)
    go_enter Tryd.func101, Tryd.ntmps101
    go_wp2
    go_ret
    exact ⟨ret_int (by unfold zag; rw [if_pos h]; omega), rfl⟩
  · have hb : ((u : Int) % 2 == 1) = false := beq_eq_false_iff_ne.2 (by omega)
    go_enter Tryd.func101, Tryd.ntmps101
    go_wp2
    go_ret
    exact ⟨ret_int (by unfold zag; rw [if_neg h]; omega), rfl⟩

/-- the number with a sign, of two numbers below 2^32 -/
def rInt (st : St) : Int × St :=
  if (rNum (rNum st 4294967295).2 4294967295).2.bad then (0, (rNum (rNum st 4294967295).2 4294967295).2) else
    (zag ((rNum st 4294967295).1 * 4294967296 + (rNum (rNum st 4294967295).2 4294967295).1), (rNum (rNum st 4294967295).2 4294967295).2)

theorem rNum_most (st : St) (most : Nat) : (rNum st most).1 ≤ most := by
  unfold rNum
  split
  · simp
  · split
    · simp
    · split
      · simp
      · simp only; omega

theorem join32 (u l : Nat) (hu : u ≤ 4294967295) (hl : l ≤ 4294967295) : bits .or .u64 ((u : Int) * 4294967296) (l : Int) = ((u * 4294967296 + l : Nat) : Int) := by
  have h := u64_or_nat (u * 4294967296) l (by omega) (by omega)
  rw [nat_join 32 _ l (by omega) (by omega)] at h
  rw [← h]
  congr 1

set_option maxHeartbeats 400000 in
theorem rint_any (br : Nat) (st : St) (w : World) (h : RAt br w st) (hs : st.s.length ≤ 140737488355328) :
    Calls Tryd.prog 87 #[.pointer (some ⟨br, 0, none⟩)] w fun e w' => e = .returned (.int .i64 (rInt st).1) ∧ RAt br w' (rInt st).2 ∧ On br w w' := by
  have C := Lib.hid (rnum_any br st 4294967295 w h hs)
  unfold rInt
  have hle := rNum_len st 4294967295
  have hm := rNum_most st 4294967295
  have he : rNum st ((4294967295 : Nat) : Int) = rNum st 4294967295 := rfl
  rw [he] at hm
  clear he
  generalize rNum st 4294967295 = r at *
  obtain ⟨u, st1⟩ := r
  simp only at hle hm C ⊢
  have D := Lib.hid (fun w1 (h : RAt br w1 st1) => rnum_any br st1 4294967295 w1 h (by omega))
  have hm2 := rNum_most st1 4294967295
  have he : rNum st1 ((4294967295 : Nat) : Int) = rNum st1 4294967295 := rfl
  rw [he] at hm2
  clear he
  generalize rNum st1 4294967295 = r at *
  obtain ⟨l, s2, b2⟩ := r
  simp only at hm2 D ⊢
  clear h
  have HJ := Lib.hid (join32 u l hm hm2)
  cases b2
  · simp only [Bool.false_eq_true, if_false]
    go_enter Tryd.func87, Tryd.ntmps87
    go_wp2_with fail
    refine C.out.mono ?_
    rintro e w1 ⟨rfl, hw, ho⟩
    go_wp2_with fail
    refine (D.out w1 hw).mono ?_
    rintro e w2 ⟨rfl, hw2, ho2⟩
    have H2 := Lib.hid hw2
    clear hw hw2
    go_wp2_with fail
    refine (ok_any br _ w2 H2.out).mono ?_
    rintro e w' ⟨rfl, rfl⟩
    simp only [Bool.not_false]
    go_wp2_with fail
    rw [HJ.out]
    refine (signed_any _ (by omega) w2).mono ?_
    rintro e w' ⟨rfl, rfl⟩
    go_wp2
    go_ret
    exact ⟨rfl, H2.out, ho.trans ho2⟩
  · simp only [if_true]
    go_enter Tryd.func87, Tryd.ntmps87
    go_wp2_with fail
    refine C.out.mono ?_
    rintro e w1 ⟨rfl, hw, ho⟩
    go_wp2_with fail
    refine (D.out w1 hw).mono ?_
    rintro e w2 ⟨rfl, hw2, ho2⟩
    have H2 := Lib.hid hw2
    clear hw hw2
    go_wp2_with fail
    refine (ok_any br _ w2 H2.out).mono ?_
    rintro e w' ⟨rfl, rfl⟩
    simp only [Bool.not_true]
    go_wp2
    go_ret
    exact ⟨rfl, H2.out, ho.trans ho2⟩

end Go.Proofs.YtomlbfkkhhhfkaaDoor.Pk
namespace Go.Proofs.YtomlbfkkhhhfkaaDoor.Pk
open Go.RowKit

theorem row_shape {w : World} {base n : Nat} {e : TypeId} {size : Nat} {v : Value} {xs : List Value} (h : w.ownsRow base e size v n xs) : ∃ A m c, v = .slice A m c := by
  rcases h.2 with ⟨h0, _⟩ | ⟨g, cap, _, hv, _⟩
  · exact ⟨_, _, _, h0⟩
  · exact ⟨_, _, _, hv⟩

theorem WAt.added {base bw : Nat} {w w1 : World} {bs t : List UInt8} {v v' : Value} (hv : w.heap[bw]? = some (.cells #[v] 54 (0, 0))) (hrow : Row base w v bs) (hlt : bw < base) (hb : base ≤ w.heap.size)
    (hown : w1.ownsRow base 5 1 v' (bs.length + t.length) (bs.map B8 ++ t.map B8)) (hg : w.grownBy w1 v.ownBlock) :
    WAt base bw (w1.setCell ⟨bw, 0, none⟩ v') (bs ++ t) ∧ Kp base bw w (w1.setCell ⟨bw, 0, none⟩ v') ∧ w1.cell? ⟨bw, 0, none⟩ = some v ∧ w1.frozen? ⟨bw, 0, none⟩ = false := by
  have hbw : w1.heap[bw]? = some (.cells #[v] 54 (0, 0)) := by
    rw [hg.block bw (by omega) (fun e => by have := (World.ownsRow.lt hrow) bw e.symm; omega)]; exact hv
  have hk : Kp base bw w w1 := Kp.of_grown hg hb (fun k hk => ((World.ownsRow.lt hrow) k hk).1) (fun k hk hn => Row.nb hrow k hk hn)
  refine ⟨⟨v', one_setCell hbw, ?_⟩, hk.setCell 0 v', cell_of_one hbw, free_of_one hbw⟩
  unfold Row
  have := ownsRow_setCell_below hown (a := ⟨bw, 0, none⟩) hlt v'
  simpa using this

set_option maxHeartbeats 400000 in
theorem add_any (base bw : Nat) (t : List UInt8) (bs : List UInt8) (w : World) (hw : WAt base bw w bs) (hlt : bw < base) (hb : base ≤ w.heap.size)
    (hlen : bs.length + t.length ≤ 140737488355328) :
    Calls Tryd.prog 47 #[.pointer (some ⟨bw, 0, none⟩), .string ⟨t.toArray⟩] w fun e w' => e = .returned (.tuple #[]) ∧ WAt base bw w' (bs ++ t) ∧ Kp base bw w w' := by
  obtain ⟨i0, hi, hz0, hz1, hz2⟩ := info_parts byte_info
  obtain ⟨v, hv, hrow⟩ := hw
  have hc := cell_of_one hv
  have HV := Lib.hid hv
  have hst : (⟨t.toArray⟩ : ByteArray).size = t.length := by simp [ByteArray.size]
  have HT := Lib.hid hst
  have HN : Hid (Lib.strCells ⟨t.toArray⟩ = t.map B8) := rfl
  clear hv hst
  go_enter Tryd.func47, Tryd.ntmps47
  go_wp2_with (at_builtin; refine Lib.wpList_append_own_string _ rfl (.tmp 10) (.tmp 11) 52 9 rfl base 5 i0 Tryd.underlying52 Tryd.underlying9 hi hz0 hz1 hz2 v bs.length (bs.map B8) rfl hrow ⟨t.toArray⟩ rfl (by rw [HT.out]; unfold maxLen; omega) (by rw [HT.out]; omega) hb ?_)
  intro v' w1 hown' hgrow _
  rw [HN.out] at hown'
  obtain ⟨hw', hk', hcl, hfr⟩ := WAt.added HV.out hrow hlt hb hown' hgrow
  obtain ⟨A, m, c, hv'⟩ := row_shape hown'
  subst hv'
  clear hown' hgrow hrow
  go_wp2
  go_end0
  exact ⟨rfl, hw', hk'⟩

/-- a text as bytes: how many, and these -/
def textB (t : List UInt8) : List UInt8 := enc t.length ++ t
def strs (ts : List (List UInt8)) : List Value := ts.map fun t => .string ⟨t.toArray⟩
def textAll (ts : List (List UInt8)) : List UInt8 := ts.flatMap textB
theorem textAll_snoc (ts : List (List UInt8)) (k : Nat) (h : k < ts.length) : textAll (ts.take (k + 1)) = textAll (ts.take k) ++ textB ts[k] := by
  unfold textAll; rw [List.take_succ_eq_append_getElem h, List.flatMap_append, List.flatMap_singleton]
theorem textAll_take (ts : List (List UInt8)) (k : Nat) : (textAll (ts.take k)).length ≤ (textAll ts).length := by
  have : textAll ts = textAll (ts.take k) ++ textAll (ts.drop k) := by unfold textAll; rw [← List.flatMap_append, List.take_append_drop]
  rw [this]; simp

set_option maxHeartbeats 800000 in
set_option maxRecDepth 100000 in
theorem text_any (base bw : Nat) (ts : List (List UInt8)) (A : Option Addr) (c : Nat) (bs : List UInt8) (w : World) (hw : WAt base bw w bs) (hlt : bw < base) (hb : base ≤ w.heap.size)
    (hA : Vals base bw w A (strs ts)) (hts : ts.length < 9223372036854775807) (hlen : bs.length + (textAll ts).length + 9 ≤ 140737488355328) :
    Calls Tryd.prog 20 #[.pointer (some ⟨bw, 0, none⟩), .slice A ts.length c] w fun e w' => e = .returned (.pointer (some ⟨bw, 0, none⟩)) ∧ WAt base bw w' (bs ++ textAll ts) ∧ Kp base bw w w' := by
  go_enter Tryd.func20, Tryd.ntmps20
  go_wp2
  go_loopw [9] (fun s wr => ∃ k : Nat, s = .int .i64 k ∧ k ≤ ts.length ∧ WAt base bw wr (bs ++ textAll (ts.take k)) ∧ Kp base bw w wr) (fun s _ => ts.length - (intOf s).toNat)
  case atStart => exact ⟨0, rfl, by omega, by simpa [textAll] using hw, Kp.refl _ _ _⟩
  case round =>
    obtain ⟨k, rfl, hk, hw1, hk1⟩ := hrel
    by_cases hkl : k < ts.length
    · obtain ⟨t, HT⟩ : ∃ t, Hid (t = ts[k]) := ⟨ts[k], Lib.hid rfl⟩
      obtain ⟨ad, rfl, hc⟩ : ∃ ad, A = some ad ∧ wr.cell? (ad.add k) = some (.string ⟨t.toArray⟩) := by
        rcases hA.keep hk1 with h | ⟨ad, h1, h2, h3, h4⟩
        · simp [strs] at h; subst h; simp at hkl
        · exact ⟨ad, h1, by have := h4 k (by simpa [strs] using hkl); rw [HT.out]; simpa [strs] using this⟩
      have HS := Lib.hid (textAll_snoc ts k hkl)
      have HL : Hid ((bs ++ textAll (ts.take k)).length + (enc t.length).length + t.length ≤ 140737488355328) ∧ Hid ((bs ++ textAll (ts.take k)).length + 9 ≤ 140737488355328) ∧ t.length < 140737488355328 := by
        have h1 := textAll_take ts (k + 1)
        have h2 := congrArg List.length HS.out
        rw [← HT.out] at h2
        simp only [textB, List.length_append] at h2
        have h3 := enc_pos t.length
        refine ⟨?_, ?_, by omega⟩ <;> (show _ ≤ _; simp only [List.length_append]; omega)
      obtain ⟨HL1, HL2, htl⟩ := HL
      have hst : (⟨t.toArray⟩ : ByteArray).size = t.length := by simp [ByteArray.size]
      clear hA
      go_wp2_with fail
      refine (lay_int base bw _ (by omega) (by omega) _ wr hw1 hlt (Nat.le_trans hb hk1.size) HL2.out).mono ?_
      rintro e w2 ⟨rfl, hw2, hk2⟩
      have HB2 : Hid (base ≤ w2.heap.size) := Nat.le_trans hb (Nat.le_trans hk1.size hk2.size)
      go_wp2_with fail
      refine (add_any base bw t _ w2 hw2 hlt HB2.out (by simpa [encI, Nat.add_assoc] using HL1.out)).mono ?_
      rintro e w3 ⟨rfl, hw3, hk3⟩
      go_wp2
      go_roundw
      case rel =>
        refine ⟨k + 1, by go_num, by omega, ?_, hk1.trans (hk2.trans hk3)⟩
        rw [HS.out, ← HT.out]
        simpa [textB, encI, List.append_assoc] using hw3
      case measure => simp [intOf]; omega
    · go_wp2
      go_ret
      refine ⟨rfl, ?_, hk1⟩
      rw [List.take_of_length_le (by omega)] at hw1
      exact hw1

end Go.Proofs.YtomlbfkkhhhfkaaDoor.Pk
namespace Go.Proofs.YtomlbfkkhhhfkaaDoor.Pk
open Go.RowKit

def flagB (b : Bool) : UInt8 := if b then 1 else 0
def bools (fs : List Bool) : List Value := fs.map Value.bool
theorem take_map_snoc {α β : Type} (f : α → β) (fs : List α) (k : Nat) (h : k < fs.length) : (fs.take (k + 1)).map f = (fs.take k).map f ++ [f fs[k]] := by
  rw [List.take_succ_eq_append_getElem h, List.map_append]; rfl

set_option maxHeartbeats 800000 in
set_option maxRecDepth 100000 in
theorem flag_any (base bw : Nat) (fs : List Bool) (A : Option Addr) (c : Nat) (bs : List UInt8) (w : World) (hw : WAt base bw w bs) (hlt : bw < base) (hb : base ≤ w.heap.size)
    (hA : Vals base bw w A (bools fs)) (hlen : bs.length + fs.length + 9 ≤ 140737488355328) :
    Calls Tryd.prog 40 #[.pointer (some ⟨bw, 0, none⟩), .slice A fs.length c] w fun e w' => e = .returned (.pointer (some ⟨bw, 0, none⟩)) ∧ WAt base bw w' (bs ++ fs.map flagB) ∧ Kp base bw w w' := by
  go_enter Tryd.func40, Tryd.ntmps40
  go_wp2
  go_loopw [9] (fun s wr => ∃ k : Nat, s = .int .i64 k ∧ k ≤ fs.length ∧ WAt base bw wr (bs ++ (fs.take k).map flagB) ∧ Kp base bw w wr) (fun s _ => fs.length - (intOf s).toNat)
  case atStart => exact ⟨0, rfl, by omega, by simpa using hw, Kp.refl _ _ _⟩
  case round =>
    obtain ⟨k, rfl, hk, hw1, hk1⟩ := hrel
    by_cases hkl : k < fs.length
    · obtain ⟨f, HT⟩ : ∃ f, Hid (f = fs[k]) := ⟨fs[k], Lib.hid rfl⟩
      obtain ⟨ad, rfl, hc⟩ : ∃ ad, A = some ad ∧ wr.cell? (ad.add k) = some (.bool f) := by
        rcases hA.keep hk1 with h | ⟨ad, h1, h2, h3, h4⟩
        · simp [bools] at h; subst h; simp at hkl
        · exact ⟨ad, h1, by have := h4 k (by simpa [bools] using hkl); rw [HT.out]; simpa [bools] using this⟩
      have HS := Lib.hid (take_map_snoc flagB fs k hkl)
      have HL : Hid ((bs ++ (fs.take k).map flagB).length + 9 ≤ 140737488355328) := by
        show _ ≤ _
        simp only [List.length_append, List.length_map, List.length_take]
        omega
      have HB : Hid (base ≤ wr.heap.size) := Nat.le_trans hb hk1.size
      clear hA
      cases f
      · go_wp2_with fail
        refine (lay_int base bw _ (by omega) (by omega) _ wr hw1 hlt HB.out HL.out).mono ?_
        rintro e w2 ⟨rfl, hw2, hk2⟩
        go_wp2
        go_roundw
        case rel => exact ⟨k + 1, by go_num, by omega, by rw [HS.out, ← HT.out, ← List.append_assoc]; exact hw2, hk1.trans hk2⟩
        case measure => simp [intOf]; omega
      · go_wp2_with fail
        refine (lay_int base bw _ (by omega) (by omega) _ wr hw1 hlt HB.out HL.out).mono ?_
        rintro e w2 ⟨rfl, hw2, hk2⟩
        go_wp2
        go_roundw
        case rel => exact ⟨k + 1, by go_num, by omega, by rw [HS.out, ← HT.out, ← List.append_assoc]; exact hw2, hk1.trans hk2⟩
        case measure => simp [intOf]; omega
    · go_wp2
      go_ret
      refine ⟨rfl, ?_, hk1⟩
      rw [List.take_of_length_le (by omega)] at hw1
      exact hw1

/-- a number with a sign as bytes -/
def intB (n : Int) : List UInt8 := enc (zig n / 4294967296) ++ enc (zig n % 4294967296)
def intAll (zs : List Int) : List UInt8 := zs.flatMap intB
theorem intB_len (n : Int) (h1 : -9223372036854775808 ≤ n) (h2 : n ≤ 9223372036854775807) : (intB n).length ≤ 18 := by
  have := zig_lt n h1 h2
  have a := enc_len9 (zig n / 4294967296) (by omega)
  have b := enc_len9 (zig n % 4294967296) (by omega)
  unfold intB
  rw [List.length_append]
  omega
theorem intAll_snoc (zs : List Int) (k : Nat) (h : k < zs.length) : intAll (zs.take (k + 1)) = intAll (zs.take k) ++ intB zs[k] := by
  unfold intAll; rw [List.take_succ_eq_append_getElem h, List.flatMap_append, List.flatMap_singleton]
theorem intAll_len (zs : List Int) (h : ∀ z ∈ zs, -9223372036854775808 ≤ z ∧ z ≤ 9223372036854775807) : (intAll zs).length ≤ 18 * zs.length := by
  induction zs with
  | nil => simp [intAll]
  | cons z zs ih =>
    have h1 := intB_len z (h z (by simp)).1 (h z (by simp)).2
    have h2 := ih (fun z hz => h z (by simp [hz]))
    simp only [intAll, List.flatMap_cons, List.length_append, List.length_cons] at *
    omega
theorem and32 (u : Nat) (h : u < 18446744073709551616) : bits .and .u64 (u : Int) 4294967295 = ((u % 4294967296 : Nat) : Int) := by
  have h1 := u64_and_nat u 4294967295 h (by omega)
  rw [nat_mask32] at h1
  exact h1

set_option maxHeartbeats 800000 in
set_option maxRecDepth 100000 in
theorem wint_any (base bw : Nat) (zs : List Int) (hz : ∀ z ∈ zs, -9223372036854775808 ≤ z ∧ z ≤ 9223372036854775807) (A : Option Addr) (c : Nat) (bs : List UInt8) (w : World) (hw : WAt base bw w bs) (hlt : bw < base) (hb : base ≤ w.heap.size)
    (hA : Vals base bw w A (ints zs)) (hlen : bs.length + 18 * zs.length ≤ 140737488355328) :
    Calls Tryd.prog 38 #[.pointer (some ⟨bw, 0, none⟩), .slice A zs.length c] w fun e w' => e = .returned (.pointer (some ⟨bw, 0, none⟩)) ∧ WAt base bw w' (bs ++ intAll zs) ∧ Kp base bw w w' := by
  go_enter Tryd.func38, Tryd.ntmps38
  go_wp2
  go_loopw [10] (fun s wr => ∃ k : Nat, s = .int .i64 k ∧ k ≤ zs.length ∧ WAt base bw wr (bs ++ intAll (zs.take k)) ∧ Kp base bw w wr) (fun s _ => zs.length - (intOf s).toNat)
  case atStart => exact ⟨0, rfl, by omega, by simpa [intAll] using hw, Kp.refl _ _ _⟩
  case round =>
    obtain ⟨k, rfl, hk, hw1, hk1⟩ := hrel
    by_cases hkl : k < zs.length
    · have HZ := hz zs[k] (List.getElem_mem hkl)
      obtain ⟨z, HT⟩ : ∃ z, Hid (z = zs[k]) := ⟨zs[k], Lib.hid rfl⟩
      rw [← HT.out] at HZ
      obtain ⟨ad, rfl, hc⟩ : ∃ ad, A = some ad ∧ wr.cell? (ad.add k) = some (.int .i64 z) := by
        rcases hA.keep hk1 with h | ⟨ad, h1, h2, h3, h4⟩
        · simp [ints] at h; subst h; simp at hkl
        · exact ⟨ad, h1, by have := h4 k (by simpa [ints] using hkl); rw [HT.out]; simpa [ints] using this⟩
      have HS := Lib.hid (intAll_snoc zs k hkl)
      have HL : Hid ((bs ++ intAll (zs.take k)).length + 18 ≤ 140737488355328) := by
        have h1 := intAll_len (zs.take k) (fun z h => hz z (List.mem_of_mem_take h))
        have h2 : (zs.take k).length = k := by rw [List.length_take]; omega
        show _ ≤ _
        simp only [List.length_append]
        omega
      have HB : Hid (base ≤ wr.heap.size) := Nat.le_trans hb hk1.size
      clear hA
      obtain ⟨u, hu, HU⟩ : ∃ u, u < 18446744073709551616 ∧ Hid (u = zig z) := ⟨zig z, zig_lt z HZ.1 HZ.2, Lib.hid rfl⟩
      have HA := Lib.hid (and32 u hu)
      go_wp2_with fail
      refine (unsigned_any z HZ.1 HZ.2 wr).mono ?_
      rintro e w' ⟨rfl, rfl⟩
      rw [← HU.out]
      go_wp2_with fail
      refine (lay_int base bw _ (by omega) (by omega) _ wr hw1 hlt HB.out (by have := HL.out; omega)).mono ?_
      rintro e w2 ⟨rfl, hw2, hk2⟩
      have HB2 : Hid (base ≤ w2.heap.size) := Nat.le_trans HB.out hk2.size
      have HE1 : Hid (encI ((u : Int) / 4294967296) = enc (u / 4294967296)) := by show _ = _; unfold encI; congr 1
      have HE2 : Hid (encI ((u % 4294967296 : Nat) : Int) = enc (u % 4294967296)) := by show _ = _; unfold encI; congr 1
      go_wp2_with fail
      rw [HA.out, wrap64_nat _ (by omega)]
      refine (lay_int base bw _ (by omega) (by omega) _ w2 hw2 hlt HB2.out (by have h1 := HL.out; have h2 := enc_len9 (u / 4294967296) (by omega); rw [HE1.out, List.length_append]; omega)).mono ?_
      rintro e w3 ⟨rfl, hw3, hk3⟩
      go_wp2
      go_roundw
      case rel =>
        refine ⟨k + 1, by go_num, by omega, ?_, hk1.trans (hk2.trans hk3)⟩
        rw [HE1.out, HE2.out] at hw3
        rw [HS.out, ← HT.out]
        unfold intB
        rw [← HU.out, ← List.append_assoc, ← List.append_assoc]
        exact hw3
      case measure => simp [intOf]; omega
    · go_wp2
      go_ret
      refine ⟨rfl, ?_, hk1⟩
      rw [List.take_of_length_le (by omega)] at hw1
      exact hw1

theorem read_any (s : List UInt8) (w : World) :
    Calls Tryd.prog 37 #[.string ⟨s.toArray⟩] w fun e w' => e = .returned (.pointer (some ⟨w.heap.size, 0, none⟩)) ∧ w' = w.alloc (.cells #[.string ⟨s.toArray⟩, .bool false] 120) := by
  go_enter Tryd.func37, Tryd.ntmps37
  go_wp2
  go_ret
  exact ⟨rfl, rfl⟩

theorem RAt.new (w : World) (s : List UInt8) : RAt w.heap.size (w.alloc (.cells #[.string ⟨s.toArray⟩, .bool false] 120)) ⟨s, false⟩ := heap_alloc_new w _
theorem WAt.new (base : Nat) (w : World) : WAt base w.heap.size (w.alloc (.cells #[.slice none 0 0] 54)) [] := ⟨_, heap_alloc_new w _, World.ownsRow_nil _ _ _ _⟩
theorem WAt.alloc {base bw : Nat} {w : World} {bs : List UInt8} (h : WAt base bw w bs) (o : Obj) : WAt base bw (w.alloc o) bs := by
  obtain ⟨v, hv, hr⟩ := h
  exact ⟨v, (Below.heap_alloc w o bw (lt_of_block hv)).trans hv, World.ownsRow.alloc hr o⟩
theorem RAt.alloc {br : Nat} {w : World} {st : St} (h : RAt br w st) (o : Obj) : RAt br (w.alloc o) st := (Below.heap_alloc w o br (lt_of_block h)).trans h
theorem RAt.keep {br base bw : Nat} {w w' : World} {st : St} (h : RAt br w st) (hk : Kp base bw w w') (h1 : br < base) (h2 : br ≠ bw) : RAt br w' st := (hk.block br h1 h2).trans h
theorem RAt.on {br bw : Nat} {w w' : World} {st : St} (h : RAt br w st) (hk : On bw w w') (h2 : br ≠ bw) : RAt br w' st := (hk.block br h2).trans h
theorem Kp.below {base bw B : Nat} {w w' : World} (h : Kp base bw w w') (h1 : B ≤ base) (h2 : B ≤ bw) : Below B w w' := ⟨h.os, h.tape, h.output, h.size, fun k hk => h.block k (by omega) (by omega)⟩

theorem vals_new {base bw b : Nat} {w : World} {v : Value} {t : TypeId} (hb : w.heap.size = b) (h1 : t ≠ 5) (h2 : b ≠ bw) : Vals base bw (w.alloc (.cells #[v] t)) (some ⟨b, 0, none⟩) [v] :=
  .inr ⟨_, rfl, .inr ⟨by simp; omega, fun cs f e => by
    subst hb
    have := heap_alloc_new w (.cells #[v] t)
    simp only at e
    rw [this] at e
    simp at e
    exact h1 e.2.1⟩, h2, fun i hi => by
    subst hb
    simp at hi
    subst hi
    simp [Addr.add]⟩
theorem vals_one {base bw b : Nat} {w : World} {v : Value} {t : TypeId} (hb : w.heap.size = b) (h1 : b < base) (h2 : b ≠ bw) : Vals base bw (w.alloc (.cells #[v] t)) (some ⟨b, 0, none⟩) [v] :=
  .inr ⟨_, rfl, .inl h1, h2, fun i hi => by
    subst hb
    simp at hi
    subst hi
    simp [Addr.add]⟩

end Go.Proofs.YtomlbfkkhhhfkaaDoor.Pk
