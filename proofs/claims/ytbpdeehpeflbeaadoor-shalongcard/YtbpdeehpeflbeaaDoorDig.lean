/-
  The statements' own digest, by the page, is the digest of the text.
-/
import Derived.Test.YtbpdeehpeflbeaaDoorDigL3
namespace Go.Proofs.YtbpdeehpeflbeaaDoor
open Go.RowKit
theorem setCell_same {w : World} {b i : Nat} {c : Array Value} {t : TypeId} {v : Value} (h : w.heap[b]? = some (.cells c t (0, 0))) (hv : c[i]? = some v) : w.setCell ⟨b, i, none⟩ v = w := by
  rw [setCell_eq_setRow w b i c t (0, 0) v h]
  have e : c.setIfInBounds i v = c := by
    obtain ⟨hi, hv⟩ := Array.getElem?_eq_some_iff.1 hv
    subst hv
    simp [Array.setIfInBounds, hi]
  rw [e, setRow_self w b c t (0, 0) h]
theorem setCells_same {w : World} {b : Nat} {c : Array Value} {t : TypeId} (h : w.heap[b]? = some (.cells c t (0, 0))) : ∀ (vs : List Value) (o : Nat), (∀ i v, vs[i]? = some v → c[o + i]? = some v) → w.setCells b o vs = w
  | [], _, _ => rfl
  | v :: vs, o, hv => by
    rw [World.setCells, setCell_same h (show c[o]? = some v from hv 0 v rfl)]
    exact setCells_same h vs (o + 1) (fun i u hu => by rw [Nat.add_assoc, Nat.add_comm 1 i]; exact hv (i + 1) u hu)
set_option maxHeartbeats 3200000 in
set_option maxRecDepth 1000000 in
theorem dig_any (S : ByteArray) (w : World) (hS : S.size ≤ 400) :
    Calls Tryd.prog 10 #[.string S] w fun e w' => e = .returned (.agg ((shaOf (bsOf S)).map U8).toArray) ∧ Below w.heap.size w w' := by
  go_enter Tryd.func10, Tryd.ntmps10
  go_wp2_with fail
  refine (const_any _).mono ?_
  rintro e w1 ⟨rfl, hw1⟩
  have hs1 : w1.heap.size = w.heap.size + 3 := by rw [hw1]; simp
  have HD1 : Hid (DSt w.heap.size w w1 (List.replicate 32 0) H0) := by
    refine Lib.hid ⟨?_, ?_, ?_, ?_, ?_⟩
    · rw [hw1, Below.heap_alloc _ _ _ (by simp; omega), Below.heap_alloc _ _ _ (by simp), heap_alloc_new]; rfl
    · rw [hw1, Below.heap_alloc _ _ _ (by simp)]; exact (new_two w _ _).trans rfl
    · rw [hw1]; exact (new_three w _ _ _).trans rfl
    · rw [hw1]; exact (((Below.refl _ _).alloc (Nat.le_refl _) _).alloc (by simp) _).alloc (by simp; omega) _
    · omega
  clear hw1
  go_wp2
  obtain ⟨n0, HN0⟩ : ∃ n0, Hid (n0 = w.heap.size) := ⟨_, Lib.hid rfl⟩
  obtain ⟨n1, HN1⟩ : ∃ n1, Hid (n1 = w.heap.size + 1) := ⟨_, Lib.hid rfl⟩
  obtain ⟨n2, HN2⟩ : ∃ n2, Hid (n2 = w.heap.size + 1 + 1) := ⟨_, Lib.hid rfl⟩
  rw [← HN2.out, ← HN1.out, ← HN0.out]
  rw [← HN0.out] at HD1 hs1
  rw [Lib.run_convert_string_bytes (P := Tryd.prog) w1 9 35 5 S Tryd.underlying9 Tryd.underlying35 Tryd.underlying5]
  simp only [Result.andThen]
  rw [Oper.upon_value]
  obtain ⟨w2, HW2⟩ : ∃ w2, Hid (w2 = Lib.bytesWorld w1 5 S) := ⟨_, Lib.hid rfl⟩
  obtain ⟨g2, hg2⟩ : ∃ g2, g2 = w1.heap.size := ⟨_, rfl⟩
  obtain ⟨c2, HC2⟩ : ∃ c2, Hid (c2 = grownCap w1 S.size 0 5) := ⟨_, Lib.hid rfl⟩
  have HO2 : Hid (OwnT w2 (n0 + 3) (.slice (some ⟨g2, 0, none⟩) S.size c2) S.size (bsOf S)) := by
    refine Lib.hid ?_
    rw [HW2.out, HC2.out, hg2, ← hs1]
    exact OwnT.of_bytes w1 S (by omega)
  have HD2 : Hid (DSt n0 w w2 (List.replicate 32 0) H0) := by
    refine Lib.hid (HD1.out.keep ?_)
    rw [HW2.out, ← hs1]
    exact ⟨by simp [Lib.bytesWorld, World.freeze]; rfl, by simp [Lib.bytesWorld, World.freeze], by simp [Lib.bytesWorld, World.freeze]; rfl, by rw [Lib.bytesWorld_size]; omega, fun k hk => Lib.bytesWorld_at_old _ _ _ _ hk⟩
  have hs2 : w2.heap.size = n0 + 4 := by rw [HW2.out, Lib.bytesWorld_size, hs1]
  rw [← HW2.out, ← HC2.out, ← hg2]
  clear HD1 HW2 HC2 hg2 hs1
  go_wp2_with (at_builtin; refine wpList_append1 rfl (.tmp 28) (.tmp 29) rfl rfl rfl (HO2.out.alloc _) (u := 128) rfl ?c1 ?c2 ?c3 ?_)
  case c1 => rw [← hs2, show (⟨w2.heap.size, 0, none⟩ : Addr).add 0 = ⟨w2.heap.size, 0, none⟩ from rfl]; exact World.cell?_alloc_new _ _ _ 0
  case c2 => omega
  case c3 => simp; omega
  intro v3 w3 hO3 hG3
  have hb3 : Below (n0 + 3) w2 w3 := ((Below.refl _ _).alloc (by omega) _).trans (below_grow hG3 (by simp; omega) (fun k hk => (HO2.out.lt k hk).1))
  have HD3 := Lib.hid (HD2.out.keep hb3)
  clear hb3 hG3 HO2 HD2
  obtain ⟨g3, c3, rfl, hg3, hg3'⟩ := hO3.shape
  have HO3 := Lib.hid hO3
  clear hO3 hg3 hg3' hs2
  obtain ⟨L, HL⟩ : ∃ L, Hid (L = S.size) := ⟨_, Lib.hid rfl⟩
  rw [← HL.out] at HO3 hS ⊢
  go_wp2
  go_loopw [5] (fun b wr => ∃ (j g c n : Nat), b = .slice (some ⟨g, 0, none⟩) n c ∧ Hid (n = L + 1 + j) ∧ j ≤ zs L ∧ Hid (OwnT wr (n0 + 3) b n (bsOf S ++ 128 :: List.replicate j 0)) ∧ Hid (DSt n0 w wr (List.replicate 32 0) H0)) (fun b _ => match b with | .slice _ n _ => 600 - n | _ => 0)
  case atStart => exact ⟨0, g3, c3, _, rfl, Lib.hid rfl, Nat.zero_le _, HO3, HD3⟩
  case round =>
    clear HO3 HD3
    obtain ⟨j, g, c, n, rfl, HN, hj, HO, HD⟩ := hrel
    have hz := zs_lt L
    have hnn : n ≤ 500 := by have := HN.out; omega
    by_cases hjl : j < zs L
    · have hm : (n : Int).tmod 64 = ((n % 64 : Nat) : Int) := Int.ofNat_tmod n 64
      have hne := zs_not L j hjl
      rw [← HN.out] at hne
      have hw := HD.out.size
      generalize n % 64 = r at *
      go_wp2_with (at_builtin; refine wpList_append1 rfl (.tmp 35) (.tmp 36) rfl rfl rfl (HO.out.alloc _) (u := 0) rfl ?c1 ?c2 ?c3 ?_)
      case c1 => rw [show (⟨wr.heap.size, 0, none⟩ : Addr).add 0 = ⟨wr.heap.size, 0, none⟩ from rfl]; exact World.cell?_alloc_new _ _ _ 0
      case c2 => omega
      case c3 => simp; omega
      intro v4 w4 hO4 hG4
      have hb4 : Below (n0 + 3) wr w4 := ((Below.refl _ _).alloc (by omega) _).trans (below_grow hG4 (by simp; omega) (fun k hk => (HO.out.lt k hk).1))
      have HD4 := Lib.hid (HD.out.keep hb4)
      clear hb4 hG4 HO HD
      obtain ⟨g4, c4, rfl, -, -⟩ := hO4.shape
      rw [← List.replicate_succ'] at hO4
      have HO4 := Lib.hid hO4
      clear hO4
      go_wp2
      go_roundw
      case rel => exact ⟨j + 1, g4, c4, n + 1, rfl, Lib.hid (by rw [HN.out]; omega), by omega, HO4, HD4⟩
      case measure => simp; omega
    · obtain rfl : j = zs L := by omega
      have hm : (n : Int).tmod 64 = 56 := by
        have h1 : (n : Int).tmod 64 = ((n % 64 : Nat) : Int) := Int.ofNat_tmod n 64
        have h2 := zs_mod L
        rw [← HN.out] at h2
        rw [h1, h2]
        rfl
      go_wp2
      obtain ⟨PL, HPL⟩ : ∃ PL, Hid (PL = bsOf S ++ 128 :: List.replicate (zs L) 0) := ⟨_, Lib.hid rfl⟩
      rw [← HPL.out] at HO
      obtain ⟨N0, HN⟩ : ∃ N0, Hid (N0 = n) := ⟨_, Lib.hid rfl⟩
      have hN0 : N0 ≤ 500 := by rw [HN.out]; exact hnn
      go_loopw [5, 7] (fun b i wr => ∃ (k g c n : Nat) (z : Int), b = .slice (some ⟨g, 0, none⟩) n c ∧ i = .int .i64 z ∧ Hid (z = 7 - (k : Int)) ∧ Hid (n = N0 + k) ∧ k ≤ 8 ∧ Hid (OwnT wr (n0 + 3) b n (PL ++ cnt (L * 8) k)) ∧ Hid (DSt n0 w wr (List.replicate 32 0) H0)) (fun b _ _ => match b with | .slice _ n _ => 600 - n | _ => 0)
      case atStart => exact ⟨0, g, c, n, 7, rfl, rfl, Lib.hid rfl, Lib.hid (by rw [HN.out]; rfl), by omega, Lib.hid (by rw [show cnt (L * 8) 0 = [] from rfl, List.append_nil]; exact HO.out), HD⟩
      case round =>
        clear HO HD hm hnn hj hjl hz
        obtain ⟨k, g, c, n, z, rfl, rfl, HZ, HNk, hk, HO, HD⟩ := hrel
        have hnn : n ≤ 550 := by have := HNk.out; omega
        have hw := HD.out.size
        by_cases hkl : k < 8
        · obtain ⟨m, rfl⟩ : ∃ m : Nat, z = (m : Int) := ⟨7 - k, by rw [HZ.out]; omega⟩
          have hm7 : m ≤ 7 := by have := HZ.out; omega
          have hval : ((L : Int) * 8 / 2 ^ (8 * m) % 256) = ((L * 8 / 2 ^ (56 - 8 * k) % 256 : Nat) : Int) := by
            rw [show 56 - 8 * k = 8 * m by have := HZ.out; omega]
            exact div_pow_cast (L * 8) (8 * m)
          have HVAL := Lib.hid hval
          clear hval
          go_wp2_with (at_builtin; refine wpList_append1 rfl (.tmp 42) (.tmp 49) rfl rfl rfl (HO.out.alloc _) (u := L * 8 / 2 ^ (56 - 8 * k) % 256) rfl ?c1 ?c2 ?c3 ?_)
          case c1 => rw [HVAL.out, show (⟨wr.heap.size, 0, none⟩ : Addr).add 0 = ⟨wr.heap.size, 0, none⟩ from rfl]; exact World.cell?_alloc_new _ _ _ 0
          case c2 => omega
          case c3 => simp; omega
          intro v4 w4 hO4 hG4
          have hb4 : Below (n0 + 3) wr w4 := ((Below.refl _ _).alloc (by omega) _).trans (below_grow hG4 (by simp; omega) (fun k hk => (HO.out.lt k hk).1))
          have HD4 := Lib.hid (HD.out.keep hb4)
          clear hb4 hG4 HO HD
          obtain ⟨g4, c4, rfl, -, -⟩ := hO4.shape
          have HO4 : Hid (OwnT w4 (n0 + 3) (.slice (some ⟨g4, 0, none⟩) (n + 1) c4) (n + 1) (PL ++ cnt (L * 8) (k + 1))) := Lib.hid (by rw [cnt_snoc, ← List.append_assoc]; rw [← List.append_assoc] at hO4; exact hO4)
          clear hO4
          go_wp2
          go_roundw
          case rel => exact ⟨k + 1, g4, c4, n + 1, (m : Int) - 1, rfl, by go_num, Lib.hid (by have := HZ.out; omega), Lib.hid (by rw [HNk.out]; omega), by omega, HO4, HD4⟩
          case measure => simp; omega
        · obtain rfl : k = 8 := by omega
          obtain rfl : z = -1 := by rw [HZ.out]; rfl
          obtain ⟨PD, HPD⟩ : ∃ PD, Hid (PD = padded (bsOf S)) := ⟨_, Lib.hid rfl⟩
          have HOP : Hid (OwnT wr (n0 + 3) (.slice (some ⟨g, 0, none⟩) n c) n PD) := by
            have h1 : PL ++ cnt (L * 8) 8 = PD := by
              rw [HPL.out, cnt8, HPD.out, HL.out]
              unfold padded zs
              rw [bsOf_length, List.append_assoc, List.cons_append, Nat.mod_eq_of_lt (show 8 * S.size < 18446744073709551616 by have := HL.out; omega), Nat.mul_comm]
            rw [← h1]
            exact HO
          have hPl : PD.length = n := HOP.out.1
          have hn64 : n % 64 = 0 := by rw [← hPl, HPD.out]; exact padded_mod _
          have HPB : Hid (∀ x ∈ PD, x < 256) := Lib.hid (by rw [HPD.out]; exact padded_lt _ (bsOf_lt S))
          obtain ⟨NQ, hNQ⟩ : ∃ NQ, n = 64 * NQ := ⟨n / 64, by omega⟩
          have HNQ := Lib.hid hNQ
          have hn530 : n ≤ 530 := by have := HNk.out; have := HN.out; omega
          clear hNQ HO hPl hn64 HNk HZ HPL
          have HDZ : Hid (DSt n0 w wr (List.replicate 32 0) (blk 0 H0 PD)) := HD
          clear HD
          go_wp2
          refine loop3 n0 g c n n1 n2 NQ w PD (by omega) (Lib.hid (by rw [HN1.out, HN0.out])) (Lib.hid (by rw [HN2.out, HN0.out])) HNQ HPB _ _ _ _ _ _ _ _ _ _ _ _ _ _ _ _ _ _ _ _ _ _ _ _ _ _ _ _ _ _ _ _ _ _ _ _ _ _ _ _ _ _ _ _ _ _ _ _ _ _ _ _ _ _ _ _ _ _ _ _ _ _ _ _ _ _ _ _ _ _ _ _ _ _ _ _ _ _ _ _ _ _ _ _ _ _ _ _ _ _ _ _ _ _ _ _ _ _ _ _ _ _ _ _ _ _ _ _ _ _ _ _ _ _ _ _ _ _ _ _ _ _ _ _ _ _ _ _ _ _ _ _ _ _ _ _ _ _ _ _ _ _ _ _ _ _ _ _ _ _ _ _ _ _ _ _ _ _ _ _ _ _ _ _ _ _ _ _ _ _ _ _ _ _ _ _ _ _ _ _ _ _ _ _ _ _ _ _ _ _ _ _ _ _ _ _ _ _ _ _ _ _ _ _ _ _ _ _ _ _ _ _ _ _ _ _ _ _ _ _ _ _ _ _ _ _ _ _ _ _ _ _ _ _ _ _ _ _ _ _ _ _ _ _ _ _ _ _ _ _ _ _ _ _ _ _ _ _ _ _ _ _ _ _ _ _ _ _ _ _ _ _ _ _ _ _ _ _ _ _ _ _ _ _ _ _ _ _ _ _ _ _ _ _ _ _ _ _ _ _ _ _ _ HOP HDZ ?_
          intro v9 v10 v11 v12 v13 v14 v15 v16 v17 v18 v51 v52 v53 v54 v55 v56 v57 v58 v59 v60 v61 v62 v63 v64 v65 v66 v67 v68 v69 v70 v71 v72 v73 v74 v75 v76 v77 v78 v79 v80 v81 v82 v83 v84 v85 v86 v87 v88 v89 v90 v91 v92 v93 v94 v95 v96 v97 v98 v99 v100 v101 v102 v103 v104 v105 v106 v107 v108 v109 v110 v111 v112 v113 v114 v115 v116 v117 v118 v119 v120 v121 v122 v123 v124 v125 v126 v127 v128 v129 v130 v131 v132 v133 v134 v135 v136 v137 v138 v139 v140 v141 v142 v143 v144 v145 v146 v147 v148 v149 v150 v151 v152 v153 v154 v155 v156 v157 v158 v159 v160 v161 v162 v163 v164 v165 v166 v167 v168 v169 v170 v171 v172 v173 v174 v175 v176 v177 v178 v179 v180 v181 v182 v183 v184 v185 v186 v187 v188 v189 v190 v191 v192 v193 v194 v195 v196 v197 v198 v199 v200 v201 v202 v203 v204 v205 v206 v207 v208 v209 v210 v211 v212 v213 v214 v215 v216 v217 v218 v219 v220 v221 v222 v223 v224 v225 v226 v227 v228 v229 v230 v231 v232 v233 v234 v235 v236 v237 v238 v239 v240 v241 v242 v243 v244 v245 v246 v247 v248 v249 v250 v251 v252 v253 v254 v255 v256 v257 v258 v259 v260 v261 v262 v263 v264 v265 v266 v267 v268 v269 v270 v271 v272 v273 v274 v275 v276 v277 v278 v279 v280 v281 v282 v283 v284 v285 wx HX3
          simp only [Exit.inBlock, if_true]
          obtain ⟨hs, HHS⟩ : ∃ hs, Hid (hs = blk NQ H0 PD) := ⟨_, Lib.hid rfl⟩
          rw [← HHS.out] at HX3
          have HHN : Hid (hs.length = 8) := Lib.hid (by rw [HHS.out]; exact blk_len NQ H0 PD rfl)
          obtain ⟨D, HDD⟩ : ∃ D, Hid (D = digestOf hs) := ⟨_, Lib.hid rfl⟩
          have HSHA : Hid (D = shaOf (bsOf S)) := Lib.hid (by
            rw [HDD.out, HHS.out]
            unfold shaOf
            rw [← HPD.out, show PD.length = 64 * NQ by rw [HOP.out.1, HNQ.out], Nat.mul_div_cancel_left _ (by omega)])
          obtain ⟨Z2, hZ2, HZ2⟩ : ∃ Z : Array Value, #[Value.int IntKind.u8 0, Value.int IntKind.u8 0, Value.int IntKind.u8 0, Value.int IntKind.u8 0, Value.int IntKind.u8 0, Value.int IntKind.u8 0, Value.int IntKind.u8 0, Value.int IntKind.u8 0, Value.int IntKind.u8 0, Value.int IntKind.u8 0, Value.int IntKind.u8 0, Value.int IntKind.u8 0, Value.int IntKind.u8 0, Value.int IntKind.u8 0, Value.int IntKind.u8 0, Value.int IntKind.u8 0, Value.int IntKind.u8 0, Value.int IntKind.u8 0, Value.int IntKind.u8 0, Value.int IntKind.u8 0, Value.int IntKind.u8 0, Value.int IntKind.u8 0, Value.int IntKind.u8 0, Value.int IntKind.u8 0, Value.int IntKind.u8 0, Value.int IntKind.u8 0, Value.int IntKind.u8 0, Value.int IntKind.u8 0, Value.int IntKind.u8 0, Value.int IntKind.u8 0, Value.int IntKind.u8 0, Value.int IntKind.u8 0] = Z ∧ Hid (Z = ((List.replicate 32 0).map U8).toArray) := ⟨_, rfl, Lib.hid rfl⟩
          obtain ⟨no, HNO2⟩ : ∃ no, Hid (no = wx.heap.size) := ⟨_, Lib.hid rfl⟩
          obtain ⟨wb, HWB⟩ : ∃ wb, Hid (wb = wx.alloc (.cells Z2 24)) := ⟨_, Lib.hid rfl⟩
          have HROW : Hid (wb.heap[no]? = some (.cells Z2 24 (0, 0))) := Lib.hid (by rw [HWB.out, HNO2.out]; exact heap_alloc_new wx _)
          have hZs : Z2.size = 32 := by rw [HZ2.out]; rfl
          have hthere : (wx.alloc (.cells Z2 24)).there wx.heap.size 0 Z2.size := there_new wx Z2 24 _ rfl
          have HI2 : Hid ((Tryd.prog.info? 24).map (·.size) = some Z2.size) := Lib.hid (by rw [hZs]; exact info24)
          have hall : Z2.all (·.oneCell') = true := by rw [HZ2.out]; exact all_oneCell_toArray (U8_one _)
          have HSAME : Hid ((wx.alloc (.cells Z2 24)).setCells wx.heap.size 0 Z2.toList = wb) := Lib.hid (by
            rw [← HNO2.out, ← HWB.out]
            exact setCells_same HROW.out Z2.toList 0 (fun i v hv => by rw [Nat.zero_add]; simpa using hv))
          have hw3 := HX3.out.size
          have HD9 : Hid (DSt n0 w wb (List.replicate 32 0) hs) := Lib.hid (by rw [HWB.out]; exact HX3.out.alloc _)
          have HDL : Hid (D.length = 32) := Lib.hid (by rw [HDD.out]; exact digestOf_length _)
          have HO9 : Hid (DAt no wb (dk D 0)) := Lib.hid ⟨by rw [HROW.out, HZ2.out, dk, HDL.out]; rfl, by rw [dk_length _ _ (Nat.zero_le _), HDL.out]⟩
          have HNO : Hid (n0 + 3 ≤ no) := Lib.hid (by rw [HNO2.out]; exact hw3)
          clear HDZ HPB hZs
          go_wp2_with (with_reducible refine wpList_store_mid rfl 24 (.tmp 19) (.tmp 286) rfl wx.heap.size 0 Z2 rfl rfl hthere HI2.out hall ?_)
          rw [HSAME.out, ← HNO2.out]
          clear hZ2 hthere hall HI2 HSAME hw3 HROW HWB HNO2
          refine loop9 n0 n1 no w hs D HHN (Lib.hid (by rw [HN1.out, HN0.out])) HNO HDD _ _ _ _ _ _ _ _ _ _ _ _ _ _ _ _ _ _ _ _ _ _ _ _ _ _ _ _ _ _ _ _ _ _ _ _ _ _ _ _ _ _ _ _ _ _ _ _ _ _ _ _ _ _ _ _ _ _ _ _ _ _ _ _ _ _ _ _ _ _ _ _ _ _ _ _ _ _ _ _ _ _ _ _ _ _ _ _ _ _ _ _ _ _ _ _ _ _ _ _ _ _ _ _ _ _ _ _ _ _ _ _ _ _ _ _ _ _ _ _ _ _ _ _ _ _ _ _ _ _ _ _ _ _ _ _ _ _ _ _ _ _ _ _ _ _ _ _ _ _ _ _ _ _ _ _ _ _ _ _ _ _ _ _ _ _ _ _ _ _ _ _ _ _ _ _ _ _ _ _ _ _ _ _ _ _ _ _ _ _ _ _ _ _ _ _ _ _ _ _ _ _ _ _ _ _ _ _ _ _ _ _ _ _ _ _ _ _ _ _ _ _ _ _ _ _ _ _ _ _ _ _ _ _ _ _ _ _ _ _ _ _ _ _ _ _ _ _ _ _ _ _ _ _ _ _ _ _ _ _ _ _ _ _ _ _ _ _ _ _ _ _ _ _ _ _ _ _ _ _ _ _ _ _ _ _ _ _ _ _ _ _ _ _ _ _ _ _ _ _ _ _ _ _ _ HO9 HD9 ?_
          intro v20 v287 v288 v289 v290 v291 v292 v293 v294 v295 v296 v297 v298 v299 v300 v301 v302 v303 v304 wx HX9
          simp only [Exit.inBlock, if_true]
          obtain ⟨HOX, HDX⟩ := HX9
          obtain ⟨cs, HCS⟩ : ∃ cs, Hid (cs = (shaOf (bsOf S)).map U8) := ⟨_, Lib.hid rfl⟩
          have HDD2 : Hid (DAt no wx (shaOf (bsOf S))) := Lib.hid (by
            have h1 : shaOf (bsOf S) = dk D 32 := by
              rw [dk, HDL.out, List.take_of_length_le (by rw [HDL.out]; exact Nat.le_refl _), HSHA.out]
              simp
            rw [h1]
            exact HOX.out)
          have hcl : cs.length = 32 := by rw [HCS.out, List.length_map]; exact HDD2.out.2
          have hrange : wx.rangeAt no 0 cs := by rw [HCS.out]; exact HDD2.out.range
          have hrb : DAt n0 wx (List.replicate 32 0) := ⟨HDX.out.out, by simp⟩
          have hthere : wx.there n0 0 cs.toArray.size := by rw [List.size_toArray, hcl]; exact hrb.there
          have hall : cs.toArray.all (·.oneCell') = true := by rw [HCS.out]; exact all_oneCell_toArray (U8_one _)
          have HI : Hid ((Tryd.prog.info? 24).map (·.size) = some cs.length) := Lib.hid (by rw [hcl]; exact info24)
          have HI2 : Hid ((Tryd.prog.info? 24).map (·.size) = some cs.toArray.size) := Lib.hid (by rw [List.size_toArray, hcl]; exact info24)
          have hrd : (loadVar 24 ⟨n0, 0, none⟩).run Tryd.prog (wx.setCells n0 0 cs) = .ok (.agg cs.toArray) (wx.setCells n0 0 cs) :=
            run_loadVar_mid _ _ _ _ _ _ (World.rangeAt_setCells_same _ _ _ _ (by have := hthere; simpa using this)) Tryd.underlying24 rfl HI.out
          have HRD := Lib.hid hrd
          have HB : Hid (Below w.heap.size w (wx.setCells n0 0 cs)) := Lib.hid (below_setCells (by rw [HN0.out]; exact Nat.le_refl _) _ _ _ (by rw [← HN0.out]; exact HDX.out.below))
          clear hrd hcl hrb HDD2 HOX HDX
          go_wp2_with (first
            | (with_reducible refine wpList_load_mid rfl 24 (.tmp 19) rfl no 0 rfl cs _ hrange Tryd.underlying24 rfl HI.out ?_)
            | (with_reducible refine wpList_store_mid rfl 24 (.tmp 2) (.tmp 305) rfl n0 0 cs.toArray rfl rfl hthere HI2.out hall ?_))
          exact bodyPost_ret (v := .agg cs.toArray) (results_cell1 Tryd.results10 rfl HRD.out) rfl ⟨by rw [HCS.out], HB.out⟩
end Go.Proofs.YtbpdeehpeflbeaaDoor
