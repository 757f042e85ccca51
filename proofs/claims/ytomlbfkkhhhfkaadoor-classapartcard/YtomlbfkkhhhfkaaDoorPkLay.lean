/-
  The Writer's lay: the bytes of one number behind what was laid.
-/
import Derived.Test.YtomlbfkkhhhfkaaDoorPkMem
import Derived.Lib.Hide
namespace Go.Proofs.YtomlbfkkhhhfkaaDoor.Pk
open Go.RowKit

theorem byte_info : (Tryd.prog.info? 5).map (fun i => (i.zero, i.size, i.bytes)) = some (some (.int .u8 0), 1, 1) := by kernel_rfl

theorem wraps_i64 (n : Int) (h₀ : 0 ≤ n) (h₁ : n < 2 ^ 63) : IntKind.i64.wrap n = n := by rw [IntKind.wrap_i64]; omega
theorem i64_and127 (m : Nat) (h : m < 9223372036854775808) : bits .and .i64 (m : Int) 127 = ((m % 128 : Nat) : Int) := by
  have := bits_mask .i64 63 (by decide) wraps_i64 7 (by decide) (m : Int) (by omega) (by omega)
  simpa using this
theorem u8_or128' (y : Nat) (h : y < 128) : bits .or .u8 (y : Int) 128 = ((y + 128 : Nat) : Int) := by
  have h1 := u8_or_nat y 128 (by omega) (by omega)
  have h2 : y ||| 128 = y + 128 := by rw [Nat.or_comm, nat_join 7 128 y (by decide) (by omega)]; omega
  rw [h2] at h1
  exact h1
theorem ofNat_byte (k : Nat) (h : k < 256) : ((UInt8.ofNat k).toNat : Int) = (k : Int) := by
  simp [Nat.mod_eq_of_lt h]
theorem byte_more (m : Nat) (h : m < 9223372036854775808) : bits .or .u8 (bits .and .i64 (m : Int) 127 % 256) 128 = ((UInt8.ofNat (m % 128 + 128)).toNat : Int) := by
  rw [i64_and127 m h, ofNat_byte _ (by omega), show ((m % 128 : Nat) : Int) % 256 = ((m % 128 : Nat) : Int) from by omega, u8_or128' _ (by omega)]

theorem row_form {w : World} {base n : Nat} {e : TypeId} {size : Nat} {v : Value} {xs : List Value} (h : w.ownsRow base e size v n xs) (hn : 0 < n) : ∃ g cap, v = .slice (some ⟨g, 0, none⟩) n cap := by
  rcases h.2 with ⟨_, h0⟩ | ⟨g, cap, _, hv, _⟩
  · omega
  · exact ⟨g, cap, hv⟩

/-- one byte more, laid by append and stored into the Writer's field -/
theorem WAt.more {base bw : Nat} {w w1 : World} {bs : List UInt8} {v v' : Value} {c : UInt8} {o : Obj} (hv : w.heap[bw]? = some (.cells #[v] 54 (0, 0))) (hrow : Row base w v bs) (hlt : bw < base) (hb : base ≤ w.heap.size)
    (hown : w1.ownsRow base 5 1 v' (bs.length + 1) (bs.map B8 ++ [B8 c])) (hg : (w.alloc o).grownBy w1 v.ownBlock) :
    WAt base bw (w1.setCell ⟨bw, 0, none⟩ v') (bs ++ [c]) ∧ Kp base bw w (w1.setCell ⟨bw, 0, none⟩ v') ∧ w1.cell? ⟨bw, 0, none⟩ = some v ∧ w1.frozen? ⟨bw, 0, none⟩ = false := by
  have hbw : w1.heap[bw]? = some (.cells #[v] 54 (0, 0)) := by
    rw [hg.block bw (by simp; omega) (fun e => by have := (World.ownsRow.lt hrow) bw e.symm; omega), Below.heap_alloc _ _ _ (by omega)]; exact hv
  have hk : Kp base bw w w1 := by
    have h0 : Kp base bw w (w.alloc o) := Kp.of_below ((Below.refl _ _).alloc (Nat.le_refl _) o) hb
    exact h0.trans (Kp.of_grown hg (by simp; omega) (fun k hk => ((World.ownsRow.lt hrow) k hk).1) (fun k hk hn => Row.nb (World.ownsRow.alloc hrow o) k hk hn))
  refine ⟨⟨v', one_setCell hbw, ?_⟩, hk.setCell 0 v', cell_of_one hbw, free_of_one hbw⟩
  unfold Row
  have := ownsRow_setCell_below hown (a := ⟨bw, 0, none⟩) hlt v'
  simpa using this

set_option maxHeartbeats 800000 in
set_option maxRecDepth 100000 in
theorem lay_any (base bw : Nat) (n : Nat) (hn : n < 9223372036854775808) (bs : List UInt8) (w : World) (hw : WAt base bw w bs) (hlt : bw < base) (hb : base ≤ w.heap.size)
    (hlen : bs.length + (enc n).length ≤ 140737488355328) :
    Calls Tryd.prog 46 #[.pointer (some ⟨bw, 0, none⟩), .int .i64 n] w fun e w' => e = .returned (.tuple #[]) ∧ WAt base bw w' (bs ++ enc n) ∧ Kp base bw w w' := by
  obtain ⟨i0, hi, hz0, hz1, hz2⟩ := info_parts byte_info
  go_enter Tryd.func46, Tryd.ntmps46
  go_wp2
  go_loopw [1] (fun s wr => ∃ (m : Nat) (bs' : List UInt8), s = .int .i64 m ∧ m ≤ n ∧ WAt base bw wr bs' ∧ bs' ++ enc m = bs ++ enc n ∧ Kp base bw w wr) (fun s _ => (intOf s).toNat)
  case atStart => exact ⟨n, bs, rfl, Nat.le_refl _, hw, rfl, Kp.refl _ _ _⟩
  case round =>
    obtain ⟨m, bs', rfl, hm, ⟨v, hv, hrow⟩, heq, hk⟩ := hrel
    have hc := cell_of_one hv
    have HB : Hid (base ≤ wr.heap.size) := Nat.le_trans hb hk.size
    have HL : Hid (bs'.length + (enc m).length ≤ 140737488355328) := by
      have := congrArg List.length heq
      simp only [List.length_append] at this
      show _ ≤ _
      omega
    have HE : Hid (bs' ++ enc m = bs ++ enc n) := heq
    have HV : Hid (wr.heap[bw]? = some (.cells #[v] 54 (0, 0))) := hv
    clear heq hv
    by_cases hgt : 127 < m
    · obtain ⟨c, HC, HM⟩ : ∃ c : UInt8, Hid (c = UInt8.ofNat (m % 128 + 128)) ∧ Hid (bits .or .u8 (bits .and .i64 (m : Int) 127 % 256) 128 = (c.toNat : Int)) := ⟨_, rfl, byte_more m (by omega)⟩
      go_wp2_with (at_builtin; refine wpList_append_own _ rfl (.tmp 16) (.tmp 21) 52 rfl base 5 i0 (.int .u8 0) 1 1 Tryd.underlying52 hi hz0 hz1 hz2 rfl (by decide) v bs'.length (bs'.map B8) rfl (hrow.alloc _) ⟨wr.heap.size, 0, none⟩ 1 1 [B8 c] rfl rfl ?c1 ?c2 ?c3 ?c4 ?c5 ?_)
      case c1 =>
        intro j u hj
        match j, hj with
        | 0, hj => simp at hj; subst hj; simp [Addr.add, B8, HM.out]
      case c2 => intro u hu; simp at hu; subst hu; rfl
      case c3 => have := HL.out; have := enc_pos m; unfold maxLen; omega
      case c4 => have := HL.out; have := enc_pos m; omega
      case c5 => have := HB.out; simp; omega
      intro v' w1 hown' hgrow _
      obtain ⟨g, cap, hv'⟩ := row_form hown' (by omega)
      subst hv'
      obtain ⟨hw', hk', hcl, hfr⟩ := WAt.more HV.out hrow hlt HB.out hown' hgrow
      clear hown' hgrow hrow
      go_wp2
      go_roundw
      case rel => exact ⟨m / 128, bs' ++ [c], by go_num, by omega, hw', by rw [List.append_assoc, List.singleton_append, HC.out, ← enc_big hgt]; exact HE.out, hk.trans hk'⟩
      case measure => simp [intOf]; omega
    · obtain ⟨c, HC, HM⟩ : ∃ c : UInt8, Hid (c = UInt8.ofNat m) ∧ Hid ((m : Int) = (c.toNat : Int)) := ⟨_, rfl, by show _ = _; rw [ofNat_byte _ (by omega)]⟩
      go_wp2_with (at_builtin; refine wpList_append_own _ rfl (.tmp 29) (.tmp 32) 52 rfl base 5 i0 (.int .u8 0) 1 1 Tryd.underlying52 hi hz0 hz1 hz2 rfl (by decide) v bs'.length (bs'.map B8) rfl (hrow.alloc _) ⟨wr.heap.size, 0, none⟩ 1 1 [B8 c] rfl rfl ?d1 ?d2 ?d3 ?d4 ?d5 ?_)
      case d1 =>
        intro j u hj
        match j, hj with
        | 0, hj => simp at hj; subst hj; simp [Addr.add, B8, HM.out]
      case d2 => intro u hu; simp at hu; subst hu; rfl
      case d3 => have := HL.out; have := enc_pos m; unfold maxLen; omega
      case d4 => have := HL.out; have := enc_pos m; omega
      case d5 => have := HB.out; simp; omega
      intro v' w1 hown' hgrow _
      obtain ⟨g, cap, hv'⟩ := row_form hown' (by omega)
      subst hv'
      obtain ⟨hw', hk', hcl, hfr⟩ := WAt.more HV.out hrow hlt HB.out hown' hgrow
      clear hown' hgrow hrow
      go_wp2
      go_end0
      refine ⟨rfl, ?_, hk.trans hk'⟩
      rw [← HE.out, enc_small hgt, ← HC.out]
      exact hw'

set_option maxHeartbeats 800000 in
set_option maxRecDepth 100000 in
theorem lay_neg (base bw : Nat) (a : Int) (ha : a < 0) (bs : List UInt8) (w : World) (hw : WAt base bw w bs) (hlt : bw < base) (hb : base ≤ w.heap.size)
    (hlen : bs.length + 1 ≤ 140737488355328) :
    Calls Tryd.prog 46 #[.pointer (some ⟨bw, 0, none⟩), .int .i64 a] w fun e w' => e = .returned (.tuple #[]) ∧ WAt base bw w' (bs ++ [0]) ∧ Kp base bw w w' := by
  obtain ⟨i0, hi, hz0, hz1, hz2⟩ := info_parts byte_info
  obtain ⟨v, hv, hrow⟩ := hw
  have hc := cell_of_one hv
  have HV := Lib.hid hv
  clear hv
  go_enter Tryd.func46, Tryd.ntmps46
  go_wp2
  go_loopw [1] (fun s wr => s = .int .i64 0 ∧ wr = w) (fun s _ => (intOf s).toNat)
  case atStart => exact ⟨rfl, rfl⟩
  case round =>
    obtain ⟨rfl, rfl⟩ := hrel
    go_wp2_with (at_builtin; refine wpList_append_own _ rfl (.tmp 29) (.tmp 32) 52 rfl base 5 i0 (.int .u8 0) 1 1 Tryd.underlying52 hi hz0 hz1 hz2 rfl (by decide) v bs.length (bs.map B8) rfl (hrow.alloc _) ⟨wr.heap.size, 0, none⟩ 1 1 [B8 0] rfl rfl ?d1 ?d2 ?d3 ?d4 ?d5 ?_)
    case d1 =>
      intro j u hj
      match j, hj with
      | 0, hj => simp at hj; subst hj; simp [Addr.add, B8]
    case d2 => intro u hu; simp at hu; subst hu; rfl
    case d3 => unfold maxLen; omega
    case d4 => omega
    case d5 => simp; omega
    intro v' w1 hown' hgrow _
    obtain ⟨g, cap, hv'⟩ := row_form hown' (by omega)
    subst hv'
    obtain ⟨hw', hk', hcl, hfr⟩ := WAt.more HV.out hrow hlt hb hown' hgrow
    clear hown' hgrow hrow
    go_wp2
    go_end0
    exact ⟨rfl, hw', hk'⟩

/-- the bytes of a number, those below nought as nought -/
def encI (a : Int) : List UInt8 := enc a.toNat
theorem encI_len (a : Int) (h : a ≤ 9223372036854775807) : (encI a).length ≤ 9 := enc_len9 _ (by omega)

theorem lay_int (base bw : Nat) (a : Int) (hmin : -9223372036854775808 ≤ a) (hmax : a ≤ 9223372036854775807) (bs : List UInt8) (w : World) (hw : WAt base bw w bs) (hlt : bw < base) (hb : base ≤ w.heap.size)
    (hlen : bs.length + 9 ≤ 140737488355328) :
    Calls Tryd.prog 46 #[.pointer (some ⟨bw, 0, none⟩), .int .i64 a] w fun e w' => e = .returned (.tuple #[]) ∧ WAt base bw w' (bs ++ encI a) ∧ Kp base bw w w' := by
  rcases Int.lt_or_le a 0 with h | h
  · have he : encI a = [0] := by unfold encI; rw [show a.toNat = 0 from by omega]; rfl
    rw [he]
    exact lay_neg base bw a h bs w hw hlt hb (by omega)
  · obtain ⟨n, rfl⟩ := Int.eq_ofNat_of_zero_le h
    have := enc_len9 n (by omega)
    exact lay_any base bw n (by omega) bs w hw hlt hb (by omega)

end Go.Proofs.YtomlbfkkhhhfkaaDoor.Pk
