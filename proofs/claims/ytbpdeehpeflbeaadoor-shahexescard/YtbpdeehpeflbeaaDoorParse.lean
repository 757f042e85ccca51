/-
  Parse.
-/
import Derived.Test.YtbpdeehpeflbeaaDoorHead
import Derived.WalkMore
import Derived.Deep.LoopGhost
namespace Go.Proofs.YtbpdeehpeflbeaaDoor
open Go.RowKit

/-- what a digit counts -/
def val (c : Nat) : Option Nat := if 48 ≤ c ∧ c ≤ 57 then some (c - 48) else if 97 ≤ c ∧ c ≤ 102 then some (c - 87) else none
theorem val_HX : ∀ v : Fin 16, val (HX.getD v.val 0) = some v.val := by decide
theorem val_lt {c v : Nat} (h : val c = some v) : v < 16 := by
  unfold val at h
  split at h
  · simp at h; omega
  · split at h
    · simp at h; omega
    · simp at h
/-- a digit more -/
def pstep (D : List Nat) (k v : Nat) : List Nat := D.set (k / 2) (D.getD (k / 2) 0 * 16 % 256 ||| v)
def pdig (bs : List Nat) : Nat → List Nat
  | 0 => List.replicate 32 0
  | k + 1 => pstep (pdig bs k) k ((val (bs.getD k 0)).getD 0)
theorem pdig_length (bs : List Nat) (k : Nat) : (pdig bs k).length = 32 := by
  induction k with
  | zero => simp [pdig]
  | succ k ih => simp [pdig, pstep, ih]
def zeros : List Nat := List.replicate 32 0
/-- the digest of digits, and whether there is one -/
def parseOf (bs : List Nat) : List Nat × Bool := if bs.length = 64 ∧ ∀ c ∈ bs, (val c).isSome = true then (pdig bs 64, true) else (zeros, false)

/-- k digits are taken -/
def PIn (w : World) (rb db : Nat) (bs : List Nat) (k : Nat) (wr : World) : Prop := DAt rb wr zeros ∧ DAt db wr (pdig bs k) ∧ Below w.heap.size w wr ∧ ∀ j, j < k → (val (bs.getD j 0)).isSome = true
theorem PIn.drew {w : World} {rb db : Nat} {bs : List Nat} {k : Nat} {wr : World} (h : PIn w rb db bs k wr) : PIn w rb db bs k wr.drew := ⟨h.1, h.2.1, h.2.2.1.drew, h.2.2.2⟩
theorem PIn.drewN {w : World} {rb db : Nat} {bs : List Nat} {k : Nat} {wr : World} (h : PIn w rb db bs k wr) (n : Nat) : PIn w rb db bs k (wr.drewN n) := ⟨h.1, h.2.1, below_drewN' h.2.2.1 n, h.2.2.2⟩
theorem or8 (a b : Nat) (ha : a < 256) (hb : b < 256) : bits .or .u8 (a : Int) (b : Int) = ((a ||| b : Nat) : Int) := by
  have key : (BitVec.ofInt 8 (a : Int) ||| BitVec.ofInt 8 (b : Int)).toNat = a ||| b := by
    rw [BitVec.toNat_or, BitVec.ofInt_natCast, BitVec.ofInt_natCast, BitVec.toNat_ofNat, BitVec.toNat_ofNat, Nat.mod_eq_of_lt (by omega), Nat.mod_eq_of_lt (by omega)]
  show IntKind.u8.wrap ((BitVec.ofInt 8 (a : Int) ||| BitVec.ofInt 8 (b : Int)).toNat : Nat) = _
  rw [key, IntKind.wrap_u8]
  have : a ||| b < 2 ^ 8 := Nat.or_lt_two_pow (by omega) (by omega)
  omega
theorem PIn.step {w : World} {rb db : Nat} {bs : List Nat} {k v : Nat} {wn : World} (h : PIn w rb db bs k wn) (hne : rb ≠ db) (hwd : w.heap.size ≤ db) (hv : v < 16) (hc : val (bs.getD k 0) = some v) :
    PIn w rb db bs (k + 1) (wn.setCell ⟨db, k / 2, none⟩ (.int .u8 (bits .or .u8 (((pdig bs k).getD (k / 2) 0 : Nat) * 16 % 256) (v : Int)))) := by
  have e : bits .or .u8 (((pdig bs k).getD (k / 2) 0 : Nat) * 16 % 256) (v : Int) = (((pdig bs k).getD (k / 2) 0 * 16 % 256 ||| v : Nat) : Int) := by
    have := or8 ((pdig bs k).getD (k / 2) 0 * 16 % 256) v (by omega) (by omega)
    rw [← this]
    simp
  rw [e]
  refine ⟨h.1.far hne _, ?_, h.2.2.1.setCell hwd _, ?_⟩
  · have h1 := h.2.1.set_ (k / 2) ((pdig bs k).getD (k / 2) 0 * 16 % 256 ||| v)
    have h2 : pdig bs (k + 1) = (pdig bs k).set (k / 2) ((pdig bs k).getD (k / 2) 0 * 16 % 256 ||| v) := by rw [pdig, pstep, hc]; rfl
    rw [h2]
    exact h1
  · intro j hj
    by_cases hjk : j = k
    · rw [hjk, hc]; rfl
    · exact h.2.2.2 j (by omega)
theorem results_two {fn : Func} {p s : Tmp} {ty : TypeId} {a : Addr} {v u : Value} {tmps : Array Value} {P : Program} {w : World} (h : fn.results = #[.cell p ty, .tmp s]) (ha : tmps.getD p undef = .pointer (some a)) (hu : tmps.getD s undef = u) (hv : (loadVar ty a).run P w = .ok v w) :
    (results fn tmps).run P w = .ok (.tuple #[v, u]) w := by
  subst hu
  rw [Array.getD_eq_getD_getElem?] at ha
  simp only [results, h]
  simp [ha, asAddr, hv, Result.andThen]

set_option maxHeartbeats 1600000 in
set_option maxRecDepth 100000 in
theorem parse_any (S : ByteArray) (w : World) :
    Calls Tryd.prog 12 #[.string S] w fun e w' => e = .returned (.tuple #[.agg ((parseOf (bsOf S)).1.map U8).toArray, .bool (parseOf (bsOf S)).2]) ∧ Below w.heap.size w w' := by
  obtain ⟨Z, hZ, HZ⟩ : ∃ Z : Array Value, (#[Value.int IntKind.u8 0, Value.int IntKind.u8 0, Value.int IntKind.u8 0, Value.int IntKind.u8 0, Value.int IntKind.u8 0, Value.int IntKind.u8 0, Value.int IntKind.u8 0, Value.int IntKind.u8 0, Value.int IntKind.u8 0, Value.int IntKind.u8 0, Value.int IntKind.u8 0, Value.int IntKind.u8 0, Value.int IntKind.u8 0, Value.int IntKind.u8 0, Value.int IntKind.u8 0, Value.int IntKind.u8 0, Value.int IntKind.u8 0, Value.int IntKind.u8 0, Value.int IntKind.u8 0, Value.int IntKind.u8 0, Value.int IntKind.u8 0, Value.int IntKind.u8 0, Value.int IntKind.u8 0, Value.int IntKind.u8 0, Value.int IntKind.u8 0, Value.int IntKind.u8 0, Value.int IntKind.u8 0, Value.int IntKind.u8 0, Value.int IntKind.u8 0, Value.int IntKind.u8 0, Value.int IntKind.u8 0, Value.int IntKind.u8 0] : Array Value) = Z ∧ Hid (Z = (zeros.map U8).toArray) := ⟨_, rfl, Lib.hid rfl⟩
  by_cases hS : S.size = 64
  · go_enter Tryd.func12, Tryd.ntmps12
    go_wp2
    go_step3
    go_wp2
    go_step3
    go_wp2
    obtain ⟨rb, HRB⟩ : ∃ rb, Hid (rb = w.heap.size) := ⟨_, Lib.hid rfl⟩
    rw [← HRB.out]
    obtain ⟨db, HDB⟩ : ∃ db, Hid (db = rb + 1) := ⟨_, Lib.hid rfl⟩
    rw [← HDB.out]
    have hne : rb ≠ db := by rw [HDB.out]; omega
    have hwd : w.heap.size ≤ db := by rw [HDB.out, HRB.out]; omega
    have HBS : Hid ((bsOf S).length = 64) := by rw [bsOf_length]; exact hS
    have HSZ := Lib.hid hS
    have HIN : Hid (PIn w rb db (bsOf S) 0 ((w.alloc (.cells Z 24)).alloc (.cells Z 24))) := by
      refine Lib.hid ⟨⟨?_, rfl⟩, ⟨?_, rfl⟩, ((Below.refl _ _).alloc (Nat.le_refl _) _).alloc (by simp) _, fun j hj => by omega⟩
      · rw [HRB.out, Below.heap_alloc _ _ _ (by simp), heap_alloc_new, HZ.out]
      · have h1 := heap_alloc_new (w.alloc (.cells Z 24)) (.cells Z 24)
        rw [World.size_alloc] at h1
        rw [HDB.out, HRB.out, h1, HZ.out]
        rfl
    go_loopg [13] 64 (fun m i wr => ∃ k : Nat, m = 64 - k ∧ i = .int .i64 k ∧ k ≤ 64 ∧ Hid (PIn w rb db (bsOf S) k wr))
    case atStart => exact ⟨0, rfl, rfl, by omega, HIN⟩
    case round =>
      clear HIN hZ
      obtain ⟨k, rfl, rfl, hk, HP⟩ := hrel
      by_cases hkl : k < 64
      · have hkS : k < S.size := by rw [hS]; exact hkl
        obtain ⟨c, HC⟩ : ∃ c, Hid (c = (bsOf S).getD k 0) := ⟨_, Lib.hid rfl⟩
        have HCS : Hid (S[k].toNat = c) := by
          refine Lib.hid ?_
          rw [HC.out]
          have h1 : k < S.data.toList.length := by rw [Array.length_toList]; exact hkS
          have h2 : S[k] = S.data.toList[k] := by rw [Array.getElem_toList]; rfl
          rw [h2]
          simp only [bsOf, List.getD, List.getElem?_map, List.getElem?_eq_getElem h1, Option.map_some, Option.getD_some]
        go_wp2
        go_loopg [16] 16 (fun m i wr2 => ∃ v : Nat, m = 16 - v ∧ i = .int .i64 v ∧ v ≤ 16 ∧ Hid (∀ x, x < v → HX.getD x 0 ≠ c) ∧ Hid (PIn w rb db (bsOf S) k wr2))
        case atStart => exact ⟨0, rfl, rfl, by omega, Lib.hid (fun x hx => by omega), HP⟩
        case round =>
          clear HP
          obtain ⟨v, rfl, rfl, hv, HNO, HP⟩ := hrel
          by_cases hvl : v < 16
          · have q1 : (v : Int) < 16 := by omega
            have q2 : (0 : Int) ≤ (v : Int) := by omega
            have q3 : (k : Int) < 64 := by omega
            have q4 : (0 : Int) ≤ (k : Int) := by omega
            go_wp2
            go_quiet (fail)
            rw [byte_at [48, 49, 50, 51, 52, 53, 54, 55, 56, 57, 97, 98, 99, 100, 101, 102] v, show ([48, 49, 50, 51, 52, 53, 54, 55, 56, 57, 97, 98, 99, 100, 101, 102] : List UInt8).map (·.toNat) = HX from rfl, HCS.out]
            obtain ⟨wn, HWN⟩ : ∃ wn, Hid (wn = wr.drewN nq) := ⟨_, Lib.hid rfl⟩
            rw [← HWN.out]
            have HPN : Hid (PIn w rb db (bsOf S) k wn) := by rw [HWN.out]; exact Lib.hid (HP.out.drewN nq)
            obtain ⟨d, HD⟩ : ∃ d, Hid (d = HX.getD v 0) := ⟨_, Lib.hid rfl⟩
            rw [← HD.out]
            by_cases hm : c = d
            · have hb : ((c : Int) == (d : Int)) = true := by rw [hm]; simp
              rw [hb]
              have cc := HPN.out.2.1.cell (k / 2) (by omega)
              have ff := HPN.out.2.1.frozen (k / 2)
              obtain ⟨y, HY⟩ : ∃ y, Hid (y = (pdig (bsOf S) k).getD (k / 2) 0) := ⟨_, Lib.hid rfl⟩
              rw [← HY.out] at cc
              clear hb
              go_wp2
              have HP2 : Hid (PIn w rb db (bsOf S) (k + 1) (wn.setCell ⟨db, k / 2, none⟩ (.int .u8 (bits .or .u8 ((y : Int) * 16 % 256) (v : Int))))) := by
                refine Lib.hid ?_
                have h1 := HPN.out.step hne hwd hvl (v := v) (by
                  rw [← HC.out, hm, HD.out]
                  exact val_HX ⟨v, hvl⟩)
                rw [← HY.out] at h1
                exact h1
              go_roundg (64 - (k + 1))
              case measure => omega
              case rel => exact ⟨k + 1, rfl, by go_num, by omega, HP2⟩
            · have hb : ((c : Int) == (d : Int)) = false := by simp; omega
              rw [hb]
              clear hb
              have HNO2 : Hid (∀ x, x < v + 1 → HX.getD x 0 ≠ c) := by
                refine Lib.hid fun x hx => ?_
                by_cases hxv : x = v
                · rw [hxv, ← HD.out]; exact fun h => hm h.symm
                · exact HNO.out x (by omega)
              go_wp2
              go_roundg (16 - (v + 1))
              case measure => omega
              case rel => exact ⟨v + 1, rfl, by go_num, by omega, HNO2, HPN⟩
          · obtain rfl : v = 16 := by omega
            have hP : parseOf (bsOf S) = (zeros, false) := by
              unfold parseOf
              rw [if_neg]
              intro h
              have h1 := h.2 c (by
                have hkb : k < (bsOf S).length := by rw [HBS.out]; exact hkl
                rw [HC.out, List.getD_eq_getElem?_getD, List.getElem?_eq_getElem hkb]
                exact List.getElem_mem _)
              obtain ⟨u, hu⟩ := Option.isSome_iff_exists.1 h1
              have hul := val_lt hu
              exact HNO.out u hul (by
                unfold val at hu
                split at hu
                · simp at hu
                  rename_i hcc
                  have : ∀ i : Fin 10, HX.getD i.val 0 = 48 + i.val := by decide
                  have h2 := this ⟨u, by omega⟩
                  simp only at h2
                  rw [h2]; omega
                · split at hu
                  · simp at hu
                    rename_i hcc
                    have : ∀ i : Fin 6, HX.getD (10 + i.val) 0 = 97 + i.val := by decide
                    have h2 := this ⟨u - 10, by omega⟩
                    simp only at h2
                    rw [show 10 + (u - 10) = u by omega] at h2
                    rw [h2]; omega
                  · simp at hu)
            have HPO := Lib.hid hP
            clear hP
            obtain ⟨cs, HZC⟩ : ∃ cs, Hid (cs = zeros.map U8) := ⟨_, Lib.hid rfl⟩
            have hcl : cs.length = 32 := by rw [HZC.out, List.length_map]; rfl
            have HBU : Hid (Tryd.prog.built 24 [] = some cs.toArray) := by rw [HZC.out]; exact Lib.hid (by kernel_rfl)
            have hthere : wr.there rb 0 cs.toArray.size := by
              rw [show cs.toArray.size = 32 by rw [List.size_toArray]; exact hcl]
              exact HP.out.1.there
            have hall : cs.toArray.all (·.oneCell') = true := by rw [HZC.out]; exact all_oneCell_toArray (U8_one _)
            have HI : Hid ((Tryd.prog.info? 24).map (·.size) = some cs.length) := by rw [hcl]; exact info24
            have HI2 : Hid ((Tryd.prog.info? 24).map (·.size) = some cs.toArray.size) := by rw [List.size_toArray, hcl]; exact info24
            have HRD : Hid ((loadVar 24 ⟨rb, 0, none⟩).run Tryd.prog (wr.setCells rb 0 cs) = .ok (.agg cs.toArray) (wr.setCells rb 0 cs)) := Lib.hid
              (run_loadVar_mid _ _ _ _ _ _ (World.rangeAt_setCells_same _ _ _ _ (by have := hthere; simpa using this)) Tryd.underlying24 rfl HI.out)
            have HBe : Hid (Below w.heap.size w (wr.setCells rb 0 cs)) := Lib.hid (below_setCells (by rw [HRB.out]; exact Nat.le_refl _) _ _ _ HP.out.2.2.1)
            clear hcl
            go_wp2_with (first
              | ((with_reducible refine wpList_build_as rfl 24 _ rfl [] ?hp cs.toArray HBU.out ?_); (case hp => simp only [List.map_toArray, List.map_nil]))
              | (with_reducible refine wpList_store_mid rfl 24 (.tmp 2) (.tmp 37) rfl rb 0 cs.toArray rfl rfl hthere HI2.out hall ?_))
            try rw [Exit.noGoto_ret]
            exact bodyPost_ret (v := .tuple #[.agg cs.toArray, .bool false]) (results_two Tryd.results12 rfl rfl HRD.out) rfl ⟨by rw [HPO.out, HZC.out], HBe.out⟩
      · obtain rfl : k = 64 := by omega
        have HPO : Hid (parseOf (bsOf S) = (pdig (bsOf S) 64, true)) := by
          refine Lib.hid ?_
          unfold parseOf
          rw [if_pos]
          refine ⟨HBS.out, fun c hc => ?_⟩
          obtain ⟨j, hj, rfl⟩ := List.mem_iff_getElem.1 hc
          have h1 := HP.out.2.2.2 j (by rw [HBS.out] at hj; exact hj)
          rw [List.getD_eq_getElem?_getD, List.getElem?_eq_getElem hj] at h1
          exact h1
        obtain ⟨cs, HZC⟩ : ∃ cs, Hid (cs = (pdig (bsOf S) 64).map U8) := ⟨_, Lib.hid rfl⟩
        have hcl : cs.length = 32 := by rw [HZC.out, List.length_map]; exact pdig_length _ _
        have hrange : wr.rangeAt db 0 cs := by rw [HZC.out]; exact HP.out.2.1.range
        have hthere : wr.there rb 0 cs.toArray.size := by
          rw [show cs.toArray.size = 32 by rw [List.size_toArray]; exact hcl]
          exact HP.out.1.there
        have hall : cs.toArray.all (·.oneCell') = true := by rw [HZC.out]; exact all_oneCell_toArray (U8_one _)
        have HI : Hid ((Tryd.prog.info? 24).map (·.size) = some cs.length) := by rw [hcl]; exact info24
        have HI2 : Hid ((Tryd.prog.info? 24).map (·.size) = some cs.toArray.size) := by rw [List.size_toArray, hcl]; exact info24
        have HRD : Hid ((loadVar 24 ⟨rb, 0, none⟩).run Tryd.prog (wr.setCells rb 0 cs) = .ok (.agg cs.toArray) (wr.setCells rb 0 cs)) := Lib.hid
          (run_loadVar_mid _ _ _ _ _ _ (World.rangeAt_setCells_same _ _ _ _ (by have := hthere; simpa using this)) Tryd.underlying24 rfl HI.out)
        have HBe : Hid (Below w.heap.size w (wr.setCells rb 0 cs)) := Lib.hid (below_setCells (by rw [HRB.out]; exact Nat.le_refl _) _ _ _ HP.out.2.2.1)
        clear hcl
        go_wp2_with (first
          | (with_reducible refine wpList_load_mid rfl 24 (.tmp 4) rfl db 0 rfl cs _ hrange Tryd.underlying24 rfl HI.out ?_)
          | (with_reducible refine wpList_store_mid rfl 24 (.tmp 2) (.tmp 39) rfl rb 0 cs.toArray rfl rfl hthere HI2.out hall ?_))
        try rw [Exit.noGoto_ret]
        exact bodyPost_ret (v := .tuple #[.agg cs.toArray, .bool true]) (results_two Tryd.results12 rfl rfl HRD.out) rfl ⟨by rw [HPO.out, HZC.out], HBe.out⟩
  · have hP : parseOf (bsOf S) = (zeros, false) := by
      unfold parseOf
      rw [if_neg]
      intro h
      rw [bsOf_length] at h
      exact hS h.1
    rw [hP]
    have hS' : ¬ ((S.size : Int) = 64) := by omega
    obtain ⟨cs, HCS⟩ : ∃ cs, Hid (cs = zeros.map U8) := ⟨_, Lib.hid rfl⟩
    rw [← HCS.out] at HZ
    have hzz : (List.map U8 (zeros, false).fst).toArray = cs.toArray := by rw [HCS.out]
    rw [hzz]
    have hcl : cs.length = 32 := by rw [HCS.out, List.length_map]; rfl
    have HBU : Hid (Tryd.prog.built 24 [] = some cs.toArray) := by rw [HCS.out]; exact Lib.hid (by kernel_rfl)
    have hthere : (w.alloc (.cells Z 24)).there w.heap.size 0 cs.toArray.size := by
      rw [show cs.toArray.size = 32 by rw [List.size_toArray]; exact hcl]
      exact there_new w Z 24 32 (by rw [HZ.out, List.size_toArray]; exact hcl)
    have hall : cs.toArray.all (·.oneCell') = true := by rw [HCS.out]; exact all_oneCell_toArray (U8_one _)
    have HI : Hid ((Tryd.prog.info? 24).map (·.size) = some cs.length) := by rw [hcl]; exact info24
    have HI2 : Hid ((Tryd.prog.info? 24).map (·.size) = some cs.toArray.size) := by rw [List.size_toArray, hcl]; exact info24
    have HRD : Hid ((loadVar 24 ⟨w.heap.size, 0, none⟩).run Tryd.prog ((w.alloc (.cells Z 24)).setCells w.heap.size 0 cs) = .ok (.agg cs.toArray) ((w.alloc (.cells Z 24)).setCells w.heap.size 0 cs)) := Lib.hid
      (run_loadVar_mid _ _ _ _ _ _ (World.rangeAt_setCells_same _ _ _ _ (by have := hthere; simpa using this)) Tryd.underlying24 rfl HI.out)
    have HBe : Hid (Below w.heap.size w ((w.alloc (.cells Z 24)).setCells w.heap.size 0 cs)) := Lib.hid (below_setCells (Nat.le_refl _) _ _ _ ((Below.refl _ _).alloc (Nat.le_refl _) _))
    clear hcl hzz
    go_enter Tryd.func12, Tryd.ntmps12
    go_wp2
    go_step3
    go_wp2_with (first
      | ((with_reducible refine wpList_build_as rfl 24 _ rfl [] ?hp cs.toArray HBU.out ?_); (case hp => simp only [List.map_toArray, List.map_nil]))
      | (with_reducible refine wpList_store_mid rfl 24 (.tmp 2) (.tmp 10) rfl w.heap.size 0 cs.toArray rfl rfl hthere HI2.out hall ?_))
    rw [Exit.noGoto_ret]
    exact bodyPost_ret (v := .tuple #[.agg cs.toArray, .bool false]) (results_two Tryd.results12 rfl rfl HRD.out) rfl ⟨rfl, HBe.out⟩

end Go.Proofs.YtbpdeehpeflbeaaDoor
