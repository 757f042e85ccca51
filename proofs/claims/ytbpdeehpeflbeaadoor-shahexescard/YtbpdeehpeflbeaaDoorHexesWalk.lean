/-
  The walk of ShaHexes.
-/
import Derived.Test.YtbpdeehpeflbeaaDoorBack
namespace Go.Proofs.YtbpdeehpeflbeaaDoor
open Go.RowKit

theorem wpList_load_when {P : Program} {ops : Array Oper} {rest : List Oper} {op : Oper} {a : Act} {w : World} {Q : Exit → Act → World → Prop} (ty : TypeId) (x : Operand) (ho : op.op = .load ty x)
    (hw : Region.wanted op (yielded ops a.tmps) = true) (b o : Nat) (hx : a.eval x = .pointer (some ⟨b, o, none⟩)) (cs : List Value) (d : TypeDesc) (hc : w.rangeAt b o cs)
    (hu : P.underlying ty = some d) (hd : d.isRow = true) (hi : (P.info? ty).map (·.size) = some cs.length)
    (h : wpList P ops Q rest (a.put op.dst (.agg cs.toArray)) w) : wpList P ops Q (op :: rest) a w :=
  wpList_step fun _ hK => by
    rw [if_pos hw]
    exact wp_load_mid ty x ho b o hx cs d hc hu hd hi (hK _ _ h)

theorem wpList_build_when {P : Program} {ops : Array Oper} {rest : List Oper} {o : Oper} {a : Act} {w : World} {Q : Exit → Act → World → Prop} (t : TypeId) (parts : Array (Nat × Operand)) (ho : o.op = .build t parts)
    (hw : Region.wanted o (yielded ops a.tmps) = true) (ps : List (Nat × Value)) (hp : (parts.map fun (i, x) => (i, a.eval x)).toList = ps) (cells : Array Value) (hf : P.built t ps = some cells)
    (h : wpList P ops Q rest (a.put o.dst (.agg cells)) w) : wpList P ops Q (o :: rest) a w :=
  wpList_step fun _ hK => by
    rw [if_pos hw]
    refine wp_build t parts ho (by rw [hp, hf]; rfl) ?_
    rw [hp, hf]
    exact hK _ _ h

theorem bsOf_strOf (l : List Nat) (h : ∀ x ∈ l, x < 256) : bsOf (strOf l) = l := by
  unfold bsOf strOf
  rw [List.map_map]
  conv => rhs; rw [← List.map_id l]
  refine List.map_congr_left fun x hx => ?_
  simp [Nat.mod_eq_of_lt (h x hx)]
theorem strOf_bsOf (s : ByteArray) : strOf (bsOf s) = s := by
  unfold bsOf strOf
  rw [List.map_map]
  cases s with
  | mk a => simp [Function.comp_def]
theorem DAt.keep {b : Nat} {w w' : World} {l : List Nat} (h : DAt b w l) (hb : Below w.heap.size w w') : DAt b w' l := ⟨(hb.block b (lt_of_block h.1)).trans h.1, h.2⟩
/-- the first k signs are digits, and there are 64 in all -/
def gd (bs : List Nat) (k : Nat) : Bool := decide (bs.length = 64) && (bs.take k).all fun c => (val c).isSome
theorem gd_succ (bs : List Nat) (k : Nat) (hk : k < bs.length) : gd bs (k + 1) = (gd bs k && (val (bs.getD k 0)).isSome) := by
  unfold gd
  rw [List.take_succ_eq_append_getElem hk, List.all_append]
  have : bs[k] = bs.getD k 0 := by rw [List.getD_eq_getElem?_getD, List.getElem?_eq_getElem hk, Option.getD_some]
  rw [this]
  simp [Bool.and_assoc]
theorem gd_all (bs : List Nat) : gd bs bs.length = (parseOf bs).2 := by
  unfold gd parseOf
  rw [List.take_length]
  by_cases h : bs.length = 64 ∧ ∀ c ∈ bs, (val c).isSome = true
  · rw [if_pos h]
    simp [h.1]
    simpa using h.2
  · rw [if_neg h]
    rw [Bool.eq_iff_iff]
    simp
    intro h1
    have h2 : ¬ ∀ c ∈ bs, (val c).isSome = true := fun h3 => h ⟨h1, h3⟩
    simpa using h2

set_option maxHeartbeats 800000 in
set_option maxRecDepth 100000 in
theorem hexes_long (w : World) (C : Array Value) (S : ByteArray) (hS : 100 < S.size) (hK : RdW 0 w K) :
    Calls Tryd.prog 5 #[.agg C, .string S] w fun e w' => e = .returned (.bool true) ∧ Below w.heap.size w w' := by
  have h0 : 0 < w.heap.size := block_lt_of_cell (hK 0 (by omega))
  have hb0 : Below w.heap.size w (w.alloc (.cells C 24)) := (Below.refl _ _).alloc (Nat.le_refl _) _
  have hK0 : RdW 0 (w.alloc (.cells C 24)) K := fun i hi => (hb0.cell (by exact h0)).trans (hK i hi)
  have hS' : (100 : Int) < (S.size : Int) := by omega
  go_enter Tryd.func5, Tryd.ntmps5
  go_wp2_with fail
  refine (head_any _ hK0).mono ?_
  rintro e w1 ⟨rfl, hb1⟩
  go_wp2
  go_ret
  exact ⟨rfl, hb0.trans (hb1.mono hb0.size)⟩

set_option maxHeartbeats 1600000 in
set_option maxRecDepth 100000 in
theorem hexes_main (w : World) (D : List Nat) (S : ByteArray) (hD : D.length = 32) (hD2 : ∀ x ∈ D, x < 256) (hS : ¬ 100 < S.size) (hK : RdW 0 w K) :
    Calls Tryd.prog 5 #[.agg (D.map U8).toArray, .string S] w fun e w' => e = .returned (.bool true) ∧ Below w.heap.size w w' := by
  obtain ⟨Z, hZ, HZ⟩ : ∃ Z : Array Value, (#[Value.int IntKind.u8 0, Value.int IntKind.u8 0, Value.int IntKind.u8 0, Value.int IntKind.u8 0, Value.int IntKind.u8 0, Value.int IntKind.u8 0, Value.int IntKind.u8 0, Value.int IntKind.u8 0, Value.int IntKind.u8 0, Value.int IntKind.u8 0, Value.int IntKind.u8 0, Value.int IntKind.u8 0, Value.int IntKind.u8 0, Value.int IntKind.u8 0, Value.int IntKind.u8 0, Value.int IntKind.u8 0, Value.int IntKind.u8 0, Value.int IntKind.u8 0, Value.int IntKind.u8 0, Value.int IntKind.u8 0, Value.int IntKind.u8 0, Value.int IntKind.u8 0, Value.int IntKind.u8 0, Value.int IntKind.u8 0, Value.int IntKind.u8 0, Value.int IntKind.u8 0, Value.int IntKind.u8 0, Value.int IntKind.u8 0, Value.int IntKind.u8 0, Value.int IntKind.u8 0, Value.int IntKind.u8 0, Value.int IntKind.u8 0] : Array Value) = Z ∧ Hid (Z.size = 32) := ⟨_, rfl, Lib.hid rfl⟩
  have h0 : 0 < w.heap.size := block_lt_of_cell (hK 0 (by omega))
  obtain ⟨C, HC⟩ : ∃ C, Hid (C = D.map U8) := ⟨_, Lib.hid rfl⟩
  rw [← HC.out]
  have hcl : C.length = 32 := by rw [HC.out, List.length_map]; exact hD
  have HCL := Lib.hid hcl
  have HI : Hid ((Tryd.prog.info? 24).map (·.size) = some C.length) := by rw [hcl]; exact info24
  have HI2 : Hid ((Tryd.prog.info? 24).map (·.size) = some C.toArray.size) := by rw [List.size_toArray, hcl]; exact info24
  have hall : C.toArray.all (·.oneCell') = true := by rw [HC.out]; exact all_oneCell_toArray (U8_one _)
  have hEq : ∀ w, (Op.equalIn 10000 24 (.agg C.toArray) (.agg C.toArray)).run Tryd.prog w = .ok true w := by rw [HC.out]; exact eq_same D hD hD2
  clear hcl
  obtain ⟨w0, HW0⟩ : ∃ w0, Hid (w0 = w.alloc (.cells C.toArray 24)) := ⟨_, Lib.hid rfl⟩
  have hb0 : Below w.heap.size w w0 := by rw [HW0.out]; exact (Below.refl _ _).alloc (Nat.le_refl _) _
  have HD0 : Hid (DAt w.heap.size w0 D) := by
    refine Lib.hid ⟨?_, hD⟩
    rw [HW0.out, heap_alloc_new, HC.out]
  have hK0 : RdW 0 w0 K := fun i hi => (hb0.cell (by exact h0)).trans (hK i hi)
  have hS' : ¬ (100 : Int) < (S.size : Int) := by omega
  go_enter Tryd.func5, Tryd.ntmps5
  go_wp2_with fail
  rw [← HW0.out]
  refine (head_any _ hK0).mono ?_
  rintro e w1 ⟨rfl, hb1⟩
  obtain ⟨b0, HB0⟩ : ∃ b, Hid (b = w.heap.size) := ⟨_, Lib.hid rfl⟩
  rw [← HB0.out] at HD0 ⊢
  have HD1 := Lib.hid (HD0.out.keep hb1)
  have hr1 : w1.rangeAt b0 0 C := by rw [HC.out]; exact HD1.out.range
  have hb01 : Below w.heap.size w w1 := hb0.trans (hb1.mono hb0.size)
  go_wp2_with (with_reducible refine wpList_load_mid rfl 24 (.tmp 2) rfl b0 0 rfl C _ hr1 Tryd.underlying24 rfl HI.out ?_)
  have C1 := hex_any w1 D hD hD2
  rw [← HC.out] at C1
  refine C1.mono ?_
  clear C1
  rintro e w2 ⟨rfl, hb2⟩
  obtain ⟨Y, HY⟩ : ∃ Y, Hid (Y = strOf (hexOf D)) := ⟨_, Lib.hid rfl⟩
  rw [← HY.out]
  have hYs : Y.size = 64 := by
    rw [← bsOf_length, HY.out, bsOf_strOf _ (hexOf_lt D), hexOf_length, hD]
  have C2 := parse_any Y w2
  have HPY : Hid (parseOf (bsOf Y) = (D, true)) := by
    refine Lib.hid ?_
    rw [HY.out, bsOf_strOf _ (hexOf_lt D)]
    exact parse_hex D hD hD2
  rw [HPY.out] at C2
  have hsimp : ((D, true) : List Nat × Bool).1 = D := rfl
  have hsimp2 : ((D, true) : List Nat × Bool).2 = true := rfl
  rw [hsimp, hsimp2, ← HC.out] at C2
  have HC2 := Lib.hid C2
  clear C2 hsimp hsimp2
  have hb02 : Below w.heap.size w w2 := hb01.trans (hb2.mono hb01.size)
  have HD2 := Lib.hid (HD1.out.keep hb2)
  clear hr1
  go_wp2_with fail
  refine HC2.out.mono ?_
  clear HC2
  rintro e w3 ⟨rfl, hb3⟩
  have HD3 := Lib.hid (HD2.out.keep hb3)
  have hb03 : Below w.heap.size w w3 := hb02.trans (hb3.mono hb02.size)
  have hth : (w3.alloc (.cells Z 24)).there w3.heap.size 0 C.toArray.size := by
    rw [show C.toArray.size = 32 by rw [List.size_toArray]; exact HCL.out]
    exact there_new w3 Z 24 32 HZ.out
  obtain ⟨eb, HEB⟩ : ∃ eb, Hid (eb = w3.heap.size) := ⟨_, Lib.hid rfl⟩
  have HR0 : Hid (((w3.alloc (.cells Z 24)).setCells w3.heap.size 0 C).rangeAt w3.heap.size 0 C) := Lib.hid (World.rangeAt_setCells_same _ _ _ _ (by have := hth; simpa using this))
  have hlt3 : b0 < w3.heap.size := lt_of_block HD3.out.1
  have HDa : Hid (DAt b0 ((w3.alloc (.cells Z 24)).setCells w3.heap.size 0 C) D) := by
    refine Lib.hid ?_
    have hbq : Below w3.heap.size w3 ((w3.alloc (.cells Z 24)).setCells w3.heap.size 0 C) := below_setCells (Nat.le_refl _) _ _ _ ((Below.refl _ _).alloc (Nat.le_refl _) _)
    exact HD3.out.keep hbq
  have hr0 : ((w3.alloc (.cells Z 24)).setCells w3.heap.size 0 C).rangeAt w3.heap.size 0 C := HR0.out
  have hr2 : ((w3.alloc (.cells Z 24)).setCells w3.heap.size 0 C).rangeAt b0 0 C := by rw [HC.out]; exact (show _ from (HC.out ▸ HDa.out.range))
  go_wp2_with (first
    | (with_reducible refine wpList_store_mid rfl 24 (.tmp 6) (.tmp 22) rfl w3.heap.size 0 C.toArray rfl rfl hth HI2.out hall ?_)
    | ((with_reducible refine wpList_load_when 24 (.tmp 6) rfl ?hw w3.heap.size 0 rfl C _ hr0 Tryd.underlying24 rfl HI.out ?_); (case hw => rfl))
    | ((with_reducible refine wpList_load_when 24 (.tmp 2) rfl ?hw b0 0 rfl C _ hr2 Tryd.underlying24 rfl HI.out ?_); (case hw => rfl)))
  obtain ⟨w4, HW4⟩ : ∃ w4, Hid (w4 = (w3.alloc (.cells Z 24)).setCells w3.heap.size 0 C) := ⟨_, Lib.hid rfl⟩
  rw [← HW4.out]
  have hb34 : Below w3.heap.size w3 w4 := by rw [HW4.out]; exact below_setCells (Nat.le_refl _) _ _ _ ((Below.refl _ _).alloc (Nat.le_refl _) _)
  have hb04 : Below w.heap.size w w4 := hb03.trans (hb34.mono hb03.size)
  clear hr0 hr2 hth
  obtain ⟨n, HN⟩ : ∃ n, Hid (n = S.size) := ⟨_, Lib.hid rfl⟩
  have hn : n ≤ 100 := by rw [HN.out]; omega
  have hg0 : gd (bsOf S) 0 = ((S.size : Int) == 64) := by
    unfold gd
    rw [bsOf_length]
    rw [Bool.eq_iff_iff]
    simp
    omega
  have HG0 := Lib.hid hg0
  clear hg0
  go_loopw [8, 9] (fun r8 r9 wr => ∃ k : Nat, r9 = .int .i64 k ∧ k ≤ n ∧ r8 = .bool (gd (bsOf S) k) ∧ wr = w4) (fun _ r9 _ => n - (intOf r9).toNat)
  case atStart =>
    refine ⟨0, rfl, by omega, ?_, rfl⟩
    rw [HG0.out]
  case round =>
    obtain ⟨k, rfl, hk, rfl, rfl⟩ := hrel
    by_cases hkl : k < n
    · have hkS : k < S.size := by rw [← HN.out]; exact hkl
      obtain ⟨c, HCC⟩ : ∃ c, Hid (c = (bsOf S).getD k 0) := ⟨_, Lib.hid rfl⟩
      have hck : S[k].toNat = c := by
        rw [HCC.out]
        have h1 : k < S.data.toList.length := by rw [Array.length_toList]; exact hkS
        have h2 : S[k] = S.data.toList[k] := by rw [Array.getElem_toList]; rfl
        rw [h2]
        simp only [bsOf, List.getD, List.getElem?_map, List.getElem?_eq_getElem h1, Option.map_some, Option.getD_some]
      have k1 : (k : Int) < (S.size : Int) := by omega
      have k2 : (0 : Int) ≤ (k : Int) := by omega
      have HGS : Hid (gd (bsOf S) (k + 1) = (gd (bsOf S) k && (val c).isSome)) := by
        refine Lib.hid ?_
        rw [HCC.out]
        exact gd_succ _ k (by rw [bsOf_length]; exact hkS)
      obtain ⟨g, HG⟩ : ∃ g, Hid (g = gd (bsOf S) k) := ⟨_, Lib.hid rfl⟩
      rw [← HG.out] at HGS ⊢
      cases g with
      | false =>
        have HGF : Hid (gd (bsOf S) (k + 1) = false) := by rw [HGS.out]; exact Lib.hid rfl
        go_wp2
        refine ⟨⟨k + 1, by go_num, by omega, ?_, trivial⟩, by simp [intOf]; omega⟩
        rw [HGF.out]
      | true =>
        by_cases a1 : 48 ≤ c ∧ c ≤ 57
        · have HV : Hid (gd (bsOf S) (k + 1) = true) := by rw [HGS.out]; unfold val; rw [if_pos a1]; exact Lib.hid rfl
          have b1 : (48 : Int) ≤ (c : Int) := by omega
          have b2 : (c : Int) ≤ 57 := by omega
          go_wp2
          refine ⟨⟨k + 1, by go_num, by omega, ?_, trivial⟩, by simp [intOf]; omega⟩
          rw [HV.out]
        · by_cases a2 : 97 ≤ c ∧ c ≤ 102
          · have HV : Hid (gd (bsOf S) (k + 1) = true) := by rw [HGS.out]; unfold val; rw [if_neg a1, if_pos a2]; exact Lib.hid rfl
            have b1 : (48 : Int) ≤ (c : Int) := by omega
            have b2 : ¬ (c : Int) ≤ 57 := by omega
            have b3 : (97 : Int) ≤ (c : Int) := by omega
            have b4 : (c : Int) ≤ 102 := by omega
            go_wp2
            refine ⟨⟨k + 1, by go_num, by omega, ?_, trivial⟩, by simp [intOf]; omega⟩
            rw [HV.out]
          · have HV : Hid (gd (bsOf S) (k + 1) = false) := by rw [HGS.out]; unfold val; rw [if_neg a1, if_neg a2]; exact Lib.hid rfl
            by_cases a3 : c < 48
            · have b1 : ¬ (48 : Int) ≤ (c : Int) := by omega
              have b3 : ¬ (97 : Int) ≤ (c : Int) := by omega
              go_wp2
              refine ⟨⟨k + 1, by go_num, by omega, ?_, trivial⟩, by simp [intOf]; omega⟩
              rw [HV.out]
            · by_cases a4 : c < 97
              · have b1 : (48 : Int) ≤ (c : Int) := by omega
                have b2 : ¬ (c : Int) ≤ 57 := by omega
                have b3 : ¬ (97 : Int) ≤ (c : Int) := by omega
                go_wp2
                refine ⟨⟨k + 1, by go_num, by omega, ?_, trivial⟩, by simp [intOf]; omega⟩
                rw [HV.out]
              · have b1 : (48 : Int) ≤ (c : Int) := by omega
                have b2 : ¬ (c : Int) ≤ 57 := by omega
                have b3 : (97 : Int) ≤ (c : Int) := by omega
                have b4 : ¬ (c : Int) ≤ 102 := by omega
                go_wp2
                refine ⟨⟨k + 1, by go_num, by omega, ?_, trivial⟩, by simp [intOf]; omega⟩
                rw [HV.out]
    · obtain rfl : k = n := by omega
      have HGK : Hid (gd (bsOf S) k = (parseOf (bsOf S)).2) := by
        refine Lib.hid ?_
        have h1 := gd_all (bsOf S)
        rw [bsOf_length, ← HN.out] at h1
        exact h1
      rw [HGK.out]
      have k1 : ¬ (k : Int) < (S.size : Int) := by rw [← HN.out]; omega
      go_wp2_with fail
      have C3 := parse_any S wr
      refine C3.mono ?_
      clear C3
      rintro e w5 ⟨rfl, hb5⟩
      have hb05 : Below w.heap.size w w5 := hb04.trans (hb5.mono hb04.size)
      have hs05 := hb05.size
      by_cases hok : (bsOf S).length = 64 ∧ ∀ c ∈ bsOf S, (val c).isSome = true
      · have hPO : parseOf (bsOf S) = (pdig (bsOf S) 64, true) := by unfold parseOf; rw [if_pos hok]
        rw [hPO]
        clear hPO
        obtain ⟨E, HE⟩ : ∃ E, Hid (E = pdig (bsOf S) 64) := ⟨_, Lib.hid rfl⟩
        obtain ⟨F, HF⟩ : ∃ F, Hid (F = E.map U8) := ⟨_, Lib.hid rfl⟩
        have hsimp : (List.map U8 ((pdig (bsOf S) 64, true) : List Nat × Bool).1).toArray = F.toArray := by rw [HF.out, HE.out]
        rw [hsimp]
        clear hsimp
        have hEl : E.length = 32 := by rw [HE.out]; exact pdig_length _ _
        have HFL : Hid (F.length = 32) := by rw [HF.out, List.length_map]; exact Lib.hid hEl
        have HXE : Hid (hexOf E = bsOf S) := by rw [HE.out]; exact Lib.hid (hex_parse _ hok.1 hok.2)
        have hE2 : ∀ x ∈ E, x < 256 := by
          intro x hx
          obtain ⟨j, hj, rfl⟩ := List.mem_iff_getElem.1 hx
          have h1 := pdig_at (bsOf S) 64 (Nat.le_refl _) j (by omega)
          rw [← HE.out, if_pos (by omega), List.getD_eq_getElem?_getD, List.getElem?_eq_getElem hj, Option.getD_some] at h1
          have h2 := vv_lt (bsOf S) (2 * j)
          have h3 := vv_lt (bsOf S) (2 * j + 1)
          rw [h1]; omega
        have HJ : Hid ((Tryd.prog.info? 24).map (·.size) = some F.length) := by rw [HFL.out]; exact info24
        have HJ2 : Hid ((Tryd.prog.info? 24).map (·.size) = some F.toArray.size) := by rw [List.size_toArray, HFL.out]; exact info24
        have hallF : F.toArray.all (·.oneCell') = true := by rw [HF.out]; exact all_oneCell_toArray (U8_one _)
        have hth : (w5.alloc (.cells Z 24)).there w5.heap.size 0 F.toArray.size := by
          rw [show F.toArray.size = 32 by rw [List.size_toArray]; exact HFL.out]
          exact there_new w5 Z 24 32 HZ.out
        have hrF : ((w5.alloc (.cells Z 24)).setCells w5.heap.size 0 F).rangeAt w5.heap.size 0 F := World.rangeAt_setCells_same _ _ _ _ (by have := hth; simpa using this)
        go_wp2_with (first
          | (with_reducible refine wpList_store_mid rfl 24 (.tmp 10) (.tmp 73) rfl w5.heap.size 0 F.toArray rfl rfl hth HJ2.out hallF ?_)
          | ((with_reducible refine wpList_load_when 24 (.tmp 10) rfl ?hw w5.heap.size 0 rfl F _ hrF Tryd.underlying24 rfl HJ.out ?_); (case hw => rfl)))
        have HBe : Hid (Below w.heap.size w ((w5.alloc (.cells Z 24)).setCells w5.heap.size 0 F)) := Lib.hid (below_setCells hs05 _ _ _ (hb05.alloc hs05 _))
        have C4 := hex_any ((w5.alloc (.cells Z 24)).setCells w5.heap.size 0 F) E hEl hE2
        rw [← HF.out, HXE.out, strOf_bsOf] at C4
        refine C4.mono ?_
        clear C4
        rintro e w6 ⟨rfl, hb6⟩
        have hb06 : Below w.heap.size w w6 := HBe.out.trans (hb6.mono HBe.out.size)
        clear hth hrF
        go_wp2
        go_ret
        exact ⟨rfl, hb06⟩
      · have hPO : parseOf (bsOf S) = (zeros, false) := by unfold parseOf; rw [if_neg hok]
        rw [hPO]
        clear hPO
        obtain ⟨F, HF⟩ : ∃ F, Hid (F = zeros.map U8) := ⟨_, Lib.hid rfl⟩
        have hsimp : (List.map U8 ((zeros, false) : List Nat × Bool).1).toArray = F.toArray := by rw [HF.out]
        rw [hsimp]
        clear hsimp
        have HFL : Hid (F.length = 32) := by rw [HF.out, List.length_map]; exact Lib.hid rfl
        have HJ : Hid ((Tryd.prog.info? 24).map (·.size) = some F.length) := by rw [HFL.out]; exact info24
        have HJ2 : Hid ((Tryd.prog.info? 24).map (·.size) = some F.toArray.size) := by rw [List.size_toArray, HFL.out]; exact info24
        have hallF : F.toArray.all (·.oneCell') = true := by rw [HF.out]; exact all_oneCell_toArray (U8_one _)
        have HBU : Hid (Tryd.prog.built 24 [] = some F.toArray) := by rw [HF.out]; exact Lib.hid (by kernel_rfl)
        have hEqF : ∀ w, (Op.equalIn 10000 24 (.agg F.toArray) (.agg F.toArray)).run Tryd.prog w = .ok true w := by rw [HF.out]; exact eq_same zeros rfl (by decide)
        have hth : (w5.alloc (.cells Z 24)).there w5.heap.size 0 F.toArray.size := by
          rw [show F.toArray.size = 32 by rw [List.size_toArray]; exact HFL.out]
          exact there_new w5 Z 24 32 HZ.out
        have hrF : ((w5.alloc (.cells Z 24)).setCells w5.heap.size 0 F).rangeAt w5.heap.size 0 F := World.rangeAt_setCells_same _ _ _ _ (by have := hth; simpa using this)
        have HBe : Hid (Below w.heap.size w ((w5.alloc (.cells Z 24)).setCells w5.heap.size 0 F)) := Lib.hid (below_setCells hs05 _ _ _ (hb05.alloc hs05 _))
        go_wp2_with (first
          | (with_reducible refine wpList_store_mid rfl 24 (.tmp 10) (.tmp 73) rfl w5.heap.size 0 F.toArray rfl rfl hth HJ2.out hallF ?_)
          | ((with_reducible refine wpList_load_when 24 (.tmp 10) rfl ?hw w5.heap.size 0 rfl F _ hrF Tryd.underlying24 rfl HJ.out ?_); (case hw => rfl))
          | ((with_reducible refine wpList_build_when 24 _ rfl ?hw [] ?hp F.toArray HBU.out ?_); (case hp => simp only [List.map_toArray, List.map_nil]); (case hw => rfl)))
        go_ret
        exact ⟨rfl, HBe.out⟩

theorem hexes_any (w : World) (D : List Nat) (S : ByteArray) (hD : D.length = 32) (hD2 : ∀ x ∈ D, x < 256) (hK : RdW 0 w K) :
    Calls Tryd.prog 5 #[.agg (D.map U8).toArray, .string S] w fun e w' => e = .returned (.bool true) ∧ Below w.heap.size w w' := by
  by_cases hS : 100 < S.size
  · exact hexes_long w _ S hS hK
  · exact hexes_main w D S hD hD2 hS hK

end Go.Proofs.YtbpdeehpeflbeaaDoor
