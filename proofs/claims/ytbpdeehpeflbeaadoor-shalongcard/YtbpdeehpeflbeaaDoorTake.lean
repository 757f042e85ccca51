/-
  The state's take.
-/
import Derived.Test.YtbpdeehpeflbeaaDoorPut
import Derived.Deep.RegionLaw
import Derived.Lib.BufferWrite
import Derived.Deep.Strs
namespace Go.Proofs.YtbpdeehpeflbeaaDoor
open Go.RowKit

/-- the bytes of a text -/
def bsOf (s : ByteArray) : List Nat := s.data.toList.map (·.toNat)
theorem bsOf_length (s : ByteArray) : (bsOf s).length = s.size := by unfold bsOf; rw [List.length_map, Array.length_toList]; rfl
theorem bsOf_lt (s : ByteArray) : ∀ x ∈ bsOf s, x < 256 := by
  intro x hx
  obtain ⟨c, _, rfl⟩ := List.mem_map.1 hx
  exact c.toNat_lt

theorem run_copy_part {P : Program} (w : World) (dT sT ty elem : TypeId) (g o dLen dCap : Nat) (s : ByteArray) (cur : Array Value) (t : TypeId) (m : Nat)
    (hu : P.underlying dT = some (.slice elem)) (hs : (P.info? elem).map (·.size) = some 1) (hg : w.heap[g]? = some (.cells cur t (0, 0))) (hm : m = Nat.min s.size dLen) (hfit : o + m ≤ cur.size) :
    (Builtin.copy_ #[dT, sT] ty #[.slice (some ⟨g, o, none⟩) dLen dCap, .string s]).run P w =
      .ok (goInt m) (w.setRow g (cur.toList.take o ++ ((bsOf s).take m).map U8 ++ cur.toList.drop (o + m)).toArray) := by
  have hlen : (((bsOf s).take m).map U8).length = m := by
    rw [List.length_map, List.length_take, bsOf_length]
    have : Nat.min s.size dLen ≤ s.size := Nat.min_le_left _ _
    omega
  have h1 : ∀ v ∈ ((bsOf s).take m).map U8, v.oneCell' = true := by
    intro v hv
    obtain ⟨c, _, rfl⟩ := List.mem_map.1 hv
    rfl
  have hst := run_storeCells_at P g o t (((bsOf s).take m).map U8) 0 cur w hg (by rw [hlen]; simpa using hfit) h1
  have htk : List.take m (List.map (fun b : UInt8 => Value.int IntKind.u8 (b.toNat : Int)) s.data.toList) = ((bsOf s).take m).map U8 := by
    simp [bsOf, U8, List.map_take, Function.comp_def]
  rw [hlen] at hst
  simp only [Nat.add_zero] at hst
  cases hq : P.info? elem with
  | none => simp [hq] at hs
  | some i =>
    simp [Builtin.copy_, run_underlying hu, Builtin.lenOf, Builtin.firstCells, sizeOf, typeInfo, hq, ← hm]
    rw [htk, hst]
    simp [Result.andThen]

/-- m bytes of s laid into the block from u on -/
def laidIn (bl : List Nat) (u m : Nat) (s : List Nat) : List Nat := bl.take u ++ (s.take m ++ bl.drop (u + m))

theorem stL_laid (hs bl : List Nat) (u m t : Nat) (s : List Nat) (hl : hs.length = 8) (hl2 : bl.length = 64) (hum : u + m ≤ 64) :
    (stL hs bl u t).take (8 + u) ++ ((s.take m).map U8 ++ (stL hs bl u t).drop (8 + u + m)) = stL hs (laidIn bl u m s) u t := by
  unfold stL laidIn
  rw [List.take_append, List.take_of_length_le (by rw [List.length_map]; omega), List.length_map, hl, Nat.add_sub_cancel_left, List.take_append_of_le_length (by rw [List.length_map]; omega),
    List.drop_append, List.drop_of_length_le (by rw [List.length_map]; omega), List.length_map, hl, show 8 + u + m - 8 = u + m by omega, List.nil_append, List.drop_append_of_le_length (by rw [List.length_map]; omega)]
  simp only [List.map_append, List.map_take, List.map_drop, List.append_assoc]

theorem step_copy_state {P : Program} {ops : Array Oper} {o : Oper} {a : Act} {w : World} {Kn : Act → World → Prop} {Q : Exit → Act → World → Prop} {E : Prop} (hgd : o.guard = none) (d s : Operand) (dT sT : TypeId)
    (ho : o.op = .call { callee := .builtin .copy, args := #[d, s], argTypes := #[dT, sT] }) (elem : TypeId) (hu : P.underlying dT = some (.slice elem)) (hsz : (P.info? elem).map (·.size) = some 1)
    (dp : Option Addr) (dLen dCap : Nat) (S : ByteArray) (hd : a.eval d = .slice dp dLen dCap) (hs : a.eval s = .string S)
    (b : Nat) (hs' bl : List Nat) (u t : Nat) (hS : SAt b w hs' bl u t) (m : Nat) (hm : m = Nat.min S.size (64 - u)) (hule : u < 64) (hdp : dp = some ⟨b, 8 + u, none⟩) (hdl : dLen = 64 - u)
    (h : ∀ w', Hid (SAt b w' hs' (laidIn bl u m (bsOf S)) u t) → Mod b w w' → Kn (a.put o.dst (.int .i64 (m : Int))) w') :
    if Region.wanted o (yielded ops a.tmps) = true then Oper.wp P o a w Kn Q else E := by
  have hw : Region.wanted o (yielded ops a.tmps) = true := by simp [Region.wanted, hgd]
  rw [if_pos hw]
  subst hdp hdl
  have hl := hS.2.1
  have hl2 := hS.2.2
  have hm1 : Nat.min S.size (64 - u) ≤ 64 - u := Nat.min_le_right _ _
  have hm2 : Nat.min S.size (64 - u) ≤ S.size := Nat.min_le_left _ _
  have hrun := run_copy_part (P := P) w dT sT o.type elem b (8 + u) (64 - u) dCap S (stL hs' bl u t).toArray 43 m hu hsz hS.1 hm (by simp [stL]; omega)
  unfold Oper.wp
  simp [execOp, ho, resolve, invoke, builtin, hd, hs, hrun, Result.andThen]
  refine h _ (show SAt _ _ _ _ _ _ from ⟨?_, hl, ?_⟩) ⟨rfl, rfl, rfl, by simp [World.setRow], fun k _ hk => setRow_other w b k _ (by omega)⟩
  · rw [setRow_heap w b _ _ _ _ hS.1]
    congr 3
    have := stL_laid hs' bl u m t (bsOf S) hl hl2 (by omega)
    simpa using this
  · unfold laidIn
    simp [hl2, bsOf_length]
    omega

theorem laidIn_take (bl : List Nat) (u m : Nat) (s : List Nat) (hu : u + m ≤ bl.length) (hm : m ≤ s.length) : (laidIn bl u m s).take (u + m) = bl.take u ++ s.take m := by
  unfold laidIn
  rw [← List.append_assoc, List.take_append_of_le_length (by simp; omega), List.take_of_length_le (by simp; omega)]
theorem laidIn_lt (bl : List Nat) (u m : Nat) (s : List Nat) (h1 : ∀ x ∈ bl, x < 256) (h2 : ∀ x ∈ s, x < 256) : ∀ x ∈ laidIn bl u m s, x < 256 := by
  intro x hx
  unfold laidIn at hx
  rcases List.mem_append.1 hx with h | h
  · exact h1 x (List.mem_of_mem_take h)
  · rcases List.mem_append.1 h with h | h
    · exact h2 x (List.mem_of_mem_take h)
    · exact h1 x (List.mem_of_mem_drop h)
def strSize : Value → Nat
  | .string s => s.size
  | _ => 0

set_option maxHeartbeats 1600000 in
theorem take_any (b : Nat) (w : World) (L : List Nat) (t : Nat) (S : ByteArray) (ht : t + S.size < 4294967296) (h : Inv b w L t) :
    Calls Tryd.prog 14 #[.pointer (some ⟨b, 0, none⟩), .string S] w fun e w' => e = .returned (.tuple #[]) ∧ Inv b w' (L ++ bsOf S) (t + S.size) ∧ Mod b w w' := by
  obtain ⟨bl, hS, hp, hbl, hK, hg⟩ := h
  have c73 := hS.total
  have f73 := hS.frozen 73
  have HI : Hid (Inv b (w.setCell ⟨b, 73, none⟩ (.int .u64 ((t + S.size : Nat) : Int))) L (t + S.size)) := by
    refine Lib.hid ⟨bl, hS.setTotal _, hp, hbl, ?_, hg⟩
    exact hK.keep ((Mod.refl b w).setCell (.inl rfl) _) hg
  have w1 : ((S.size : Int)) % 18446744073709551616 = (S.size : Int) := by omega
  have w2 : ((t : Int) + (S.size : Int)) % 18446744073709551616 = ((t + S.size : Nat) : Int) := by omega
  clear hS hp hbl hK
  go_enter Tryd.func14, Tryd.ntmps14
  go_wp2
  clear w1 w2 c73 f73
  go_loopw [1] (fun r1 wr => ∃ (S' : ByteArray) (L' : List Nat), r1 = .string S' ∧ Hid (L' ++ bsOf S' = L ++ bsOf S) ∧ Hid (Inv b wr L' (t + S.size)) ∧ Mod b w wr) (fun r1 _ => strSize r1)
  case atStart => exact ⟨S, L, rfl, Lib.hid rfl, HI, (Mod.refl b w).setCell (.inl rfl) _⟩
  case round =>
    obtain ⟨S', L', rfl, HL, HI', hm⟩ := hrel
    clear HI
    by_cases h0 : 0 < S'.size
    · obtain ⟨bl', hS, hp, hbl, hK, hg'⟩ := HI'.out
      have hul : L'.length % 64 < 64 := Nat.mod_lt _ (by omega)
      obtain ⟨u, HU⟩ : ∃ u, Hid (u = L'.length % 64) := ⟨_, Lib.hid rfl⟩
      rw [← HU.out] at hS hp hul
      have HS := Lib.hid hS
      have HP := Lib.hid hp
      have c72 := hS.used
      have i1 : (0 : Int) ≤ (u : Int) := by omega
      have i2 : (u : Int) < 64 := by omega
      have i3 : (u : Int) ≤ 64 := by omega
      have i4 : u ≤ 64 := by omega
      have i5 : ¬ 64 = u := by omega
      have i6 : ¬ 64 - u = 0 := by omega
      have hal : Tryd.prog.arrayLen 40 = 64 := rfl
      clear hS hp
      obtain ⟨m, HM⟩ : ∃ m, Hid (m = Nat.min S'.size (64 - u)) := ⟨_, Lib.hid rfl⟩
      have hm1 : m ≤ S'.size := by rw [HM.out]; exact Nat.min_le_left _ _
      have hm2 : m ≤ 64 - u := by rw [HM.out]; exact Nat.min_le_right _ _
      go_wp2
      go_region_law (refine step_copy_state rfl (.tmp 25) (.tmp 26) 35 9 rfl 5 rfl rfl _ _ _ S' rfl rfl b _ bl' u _ HS.out.drew m HM.out hul rfl rfl ?_; intro w2 HS2 hmm)
      have c72' := HS2.out.used
      have f72' := HS2.out.frozen 72
      have j1 : (0 : Int) ≤ (m : Int) := by omega
      have j2 : (m : Int) ≤ (S'.size : Int) := by omega
      clear c72
      go_wp2_with fail
      have hcast : ((u : Int) + (m : Int)) = ((u + m : Nat) : Int) := by omega
      rw [hcast]
      have hll : L'.length % 64 + ((bsOf S').take m).length = u + m := by rw [← HU.out, List.length_take, bsOf_length]; omega
      have HLL := Lib.hid hll
      have hlb : bl'.length = 64 := HS.out.2.2
      have hmod : Mod b w (w2.setCell ⟨b, 72, none⟩ (.int .i64 ((u + m : Nat) : Int))) := (hm.drew.trans hmm).setCell (.inl rfl) _
      have hmodr : Mod b wr (w2.setCell ⟨b, 72, none⟩ (.int .i64 ((u + m : Nat) : Int))) := ((Mod.refl b wr).drew.trans hmm).setCell (.inl rfl) _
      refine (mixfull_inv b _ L' ((bsOf S').take m) (laidIn bl' u m (bsOf S')) (t + S.size) ?_ (by rw [HLL.out]; omega) ?_ ?_ (hK.keep hmodr hg) hg).mono ?_
      · rw [HLL.out]; exact HS2.out.setUsed (u + m)
      · rw [HLL.out, laidIn_take _ _ _ _ (by omega) (by rw [bsOf_length]; omega), HP.out]
      · exact laidIn_lt _ _ _ _ hbl (bsOf_lt S')
      have hsz : (S'.extract m S'.size).size < S'.size := by
        have : 0 < m := by rw [HM.out]; exact Nat.lt_min.2 ⟨h0, by omega⟩
        simp
        omega
      have HE : Hid (bsOf (S'.extract m S'.size) = (bsOf S').drop m) := by
        refine Lib.hid ?_
        unfold bsOf
        rw [← List.map_drop]
        congr 1
        simp
        exact List.take_of_length_le (by rw [List.length_drop, Array.length_toList]; exact Nat.le_refl _)
      have HE2 : Hid ((L' ++ (bsOf S').take m) ++ bsOf (S'.extract m S'.size) = L ++ bsOf S) := by
        refine Lib.hid ?_
        rw [HE.out, List.append_assoc, List.take_append_drop]
        exact HL.out
      clear hcast c72' f72' i1 i2 i3 i4 i5 i6 hul hbl hll hlb hal j1 j2 hm1 hm2 hm hmm hmodr
      rintro e w' ⟨rfl, hinv, hm2⟩
      have HV := Lib.hid hinv
      clear hinv
      go_wp2
      refine ⟨?_, hsz⟩
      exact ⟨_, _, rfl, HE2, HV, hmod.trans hm2⟩
    · have hz : S'.size = 0 := by omega
      have hb0 : bsOf S' = [] := List.eq_nil_of_length_eq_zero (by rw [bsOf_length]; exact hz)
      have HF : Hid (Inv b wr (L ++ bsOf S) (t + S.size)) := by
        refine Lib.hid ?_
        rw [← HL.out, hb0, List.append_nil]
        exact HI'.out
      clear hb0
      go_wp2
      go_end0
      exact ⟨rfl, HF.out, hm⟩

end Go.Proofs.YtbpdeehpeflbeaaDoor
