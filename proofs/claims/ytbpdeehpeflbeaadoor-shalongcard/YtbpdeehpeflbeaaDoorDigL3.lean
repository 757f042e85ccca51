/-
  The statements' own digest: the loop of the blocks.
-/
import Derived.Test.YtbpdeehpeflbeaaDoorDigL4
import Derived.Test.YtbpdeehpeflbeaaDoorDigL6
import Derived.Test.YtbpdeehpeflbeaaDoorDigL8
import Derived.Test.YtbpdeehpeflbeaaDoorDigL9
namespace Go.Proofs.YtbpdeehpeflbeaaDoor
open Go.RowKit
theorem add_zero_off (b j : Nat) : (⟨b, 0, none⟩ : Addr).add j = ⟨b, j, none⟩ := by unfold Addr.add; split <;> simp_all
theorem RSt.below {n0 g c n gw : Nat} {w : World} {PD hs W : List Nat} {x y : World} (h : RSt n0 g c n gw w PD hs W x) (hb : Below x.heap.size x y) : RSt n0 g c n gw w PD hs W y :=
  ⟨h.st.keep (hb.mono h.st.size), h.own.keep (fun k hk _ => hb.block k hk), (hb.block _ (lt_of_block h.row)).trans h.row, h.len, h.ne, h.ge⟩
theorem info38p : (Tryd.prog.info? 38).map (fun i => (i.zero, i.size, i.bytes)) = some (some (.int .u32 0), 1, 4) := by kernel_rfl
theorem blk_len (q : Nat) : ∀ hs l, hs.length = 8 → (blk q hs l).length = 8 := by
  induction q with
  | zero => exact fun _ _ h => h
  | succ q ih => exact fun hs l h => ih _ _ (mixOf_length hs _ h)
theorem vat_of {w : World} {gv : Nat} {hs : List Nat} (hl : hs.length = 8) (h : ∀ j u, ([] ++ hs.map U32)[j]? = some u → w.cell? ((⟨gv, 0, none⟩ : Addr).add j) = some u) : VAt w gv (vsOf hs) := by
  have e : ∀ j, j < 8 → w.cell? ⟨gv, j, none⟩ = some (.int .u32 ((hs.getD j 0 : Nat) : Int)) := by
    intro j hj
    have h1 := h j (U32 (hs.getD j 0)) (by rw [List.nil_append, List.getElem?_map, List.getElem?_eq_getElem (by omega), List.getD_eq_getElem?_getD, List.getElem?_eq_getElem (by omega)]; rfl)
    rw [show (⟨gv, 0, none⟩ : Addr).add j = ⟨gv, j, none⟩ by unfold Addr.add; split <;> simp_all] at h1
    exact h1
  exact ⟨e 0 (by omega), e 1 (by omega), e 2 (by omega), e 3 (by omega), e 4 (by omega), e 5 (by omega), e 6 (by omega), e 7 (by omega)⟩
set_option maxHeartbeats 3200000 in
set_option maxRecDepth 1000000 in
theorem loop3 (n0 g c n n1 n2 NQ : Nat) (w : World) (PD : List Nat) (hnn : n ≤ 530) (hn1 : Hid (n1 = n0 + 1)) (hn2 : Hid (n2 = n0 + 2)) (HNQ : Hid (n = 64 * NQ)) (HPB : Hid (∀ x ∈ PD, x < 256)) (Q0 : Exit → Act → World → Prop) (u0 u1 u2 u6 u7 u10 u11 u12 u13 u14 u15 u16 u17 u18 u19 u20 u21 u22 u23 u24 u25 u26 u27 u28 u29 u30 u31 u32 u33 u34 u35 u36 u37 u38 u39 u40 u41 u42 u43 u44 u45 u46 u47 u48 u49 u50 u51 u52 u53 u54 u55 u56 u57 u58 u59 u60 u61 u62 u63 u64 u65 u66 u67 u68 u69 u70 u71 u72 u73 u74 u75 u76 u77 u78 u79 u80 u81 u82 u83 u84 u85 u86 u87 u88 u89 u90 u91 u92 u93 u94 u95 u96 u97 u98 u99 u100 u101 u102 u103 u104 u105 u106 u107 u108 u109 u110 u111 u112 u113 u114 u115 u116 u117 u118 u119 u120 u121 u122 u123 u124 u125 u126 u127 u128 u129 u130 u131 u132 u133 u134 u135 u136 u137 u138 u139 u140 u141 u142 u143 u144 u145 u146 u147 u148 u149 u150 u151 u152 u153 u154 u155 u156 u157 u158 u159 u160 u161 u162 u163 u164 u165 u166 u167 u168 u169 u170 u171 u172 u173 u174 u175 u176 u177 u178 u179 u180 u181 u182 u183 u184 u185 u186 u187 u188 u189 u190 u191 u192 u193 u194 u195 u196 u197 u198 u199 u200 u201 u202 u203 u204 u205 u206 u207 u208 u209 u210 u211 u212 u213 u214 u215 u216 u217 u218 u219 u220 u221 u222 u223 u224 u225 u226 u227 u228 u229 u230 u231 u232 u233 u234 u235 u236 u237 u238 u239 u240 u241 u242 u243 u244 u245 u246 u247 u248 u249 u250 u251 u252 u253 u254 u255 u256 u257 u258 u259 u260 u261 u262 u263 u264 u265 u266 u267 u268 u269 u270 u271 u272 u273 u274 u275 u276 u277 u278 u279 u280 u281 u282 u283 u284 u285 u286 u287 u288 u289 u290 u291 u292 u293 u294 u295 u296 u297 u298 u299 u300 u301 u302 u303 u304 u305 : Value) (wr : World) (HO : Hid (OwnT wr (n0 + 3) (.slice (some ⟨g, 0, none⟩) n c) n PD)) (HD : Hid (DSt n0 w wr (List.replicate 32 0) (blk 0 H0 PD)))
    (hexit : ∀ (v9 v10 v11 v12 v13 v14 v15 v16 v17 v18 v51 v52 v53 v54 v55 v56 v57 v58 v59 v60 v61 v62 v63 v64 v65 v66 v67 v68 v69 v70 v71 v72 v73 v74 v75 v76 v77 v78 v79 v80 v81 v82 v83 v84 v85 v86 v87 v88 v89 v90 v91 v92 v93 v94 v95 v96 v97 v98 v99 v100 v101 v102 v103 v104 v105 v106 v107 v108 v109 v110 v111 v112 v113 v114 v115 v116 v117 v118 v119 v120 v121 v122 v123 v124 v125 v126 v127 v128 v129 v130 v131 v132 v133 v134 v135 v136 v137 v138 v139 v140 v141 v142 v143 v144 v145 v146 v147 v148 v149 v150 v151 v152 v153 v154 v155 v156 v157 v158 v159 v160 v161 v162 v163 v164 v165 v166 v167 v168 v169 v170 v171 v172 v173 v174 v175 v176 v177 v178 v179 v180 v181 v182 v183 v184 v185 v186 v187 v188 v189 v190 v191 v192 v193 v194 v195 v196 v197 v198 v199 v200 v201 v202 v203 v204 v205 v206 v207 v208 v209 v210 v211 v212 v213 v214 v215 v216 v217 v218 v219 v220 v221 v222 v223 v224 v225 v226 v227 v228 v229 v230 v231 v232 v233 v234 v235 v236 v237 v238 v239 v240 v241 v242 v243 v244 v245 v246 v247 v248 v249 v250 v251 v252 v253 v254 v255 v256 v257 v258 v259 v260 v261 v262 v263 v264 v265 v266 v267 v268 v269 v270 v271 v272 v273 v274 v275 v276 v277 v278 v279 v280 v281 v282 v283 v284 v285 : Value) (wx : World), Hid (DSt n0 w wx (List.replicate 32 0) (blk NQ H0 PD)) → Q0 (.exit 4) ⟨List.toArray (u0 :: u1 :: u2 :: .slice (some ⟨n1, 0, none⟩) 8 8 :: .slice (some ⟨n2, 0, none⟩) 64 64 :: .slice (some ⟨g, 0, none⟩) n c :: u6 :: u7 :: .func (.func 17) #[] #[] :: v9 :: v10 :: v11 :: v12 :: v13 :: v14 :: v15 :: v16 :: v17 :: v18 :: u19 :: u20 :: u21 :: u22 :: u23 :: u24 :: u25 :: u26 :: u27 :: u28 :: u29 :: u30 :: u31 :: u32 :: u33 :: u34 :: u35 :: u36 :: u37 :: u38 :: u39 :: u40 :: u41 :: u42 :: u43 :: u44 :: u45 :: u46 :: u47 :: u48 :: u49 :: u50 :: v51 :: v52 :: v53 :: v54 :: v55 :: v56 :: v57 :: v58 :: v59 :: v60 :: v61 :: v62 :: v63 :: v64 :: v65 :: v66 :: v67 :: v68 :: v69 :: v70 :: v71 :: v72 :: v73 :: v74 :: v75 :: v76 :: v77 :: v78 :: v79 :: v80 :: v81 :: v82 :: v83 :: v84 :: v85 :: v86 :: v87 :: v88 :: v89 :: v90 :: v91 :: v92 :: v93 :: v94 :: v95 :: v96 :: v97 :: v98 :: v99 :: v100 :: v101 :: v102 :: v103 :: v104 :: v105 :: v106 :: v107 :: v108 :: v109 :: v110 :: v111 :: v112 :: v113 :: v114 :: v115 :: v116 :: v117 :: v118 :: v119 :: v120 :: v121 :: v122 :: v123 :: v124 :: v125 :: v126 :: v127 :: v128 :: v129 :: v130 :: v131 :: v132 :: v133 :: v134 :: v135 :: v136 :: v137 :: v138 :: v139 :: v140 :: v141 :: v142 :: v143 :: v144 :: v145 :: v146 :: v147 :: v148 :: v149 :: v150 :: v151 :: v152 :: v153 :: v154 :: v155 :: v156 :: v157 :: v158 :: v159 :: v160 :: v161 :: v162 :: v163 :: v164 :: v165 :: v166 :: v167 :: v168 :: v169 :: v170 :: v171 :: v172 :: v173 :: v174 :: v175 :: v176 :: v177 :: v178 :: v179 :: v180 :: v181 :: v182 :: v183 :: v184 :: v185 :: v186 :: v187 :: v188 :: v189 :: v190 :: v191 :: v192 :: v193 :: v194 :: v195 :: v196 :: v197 :: v198 :: v199 :: v200 :: v201 :: v202 :: v203 :: v204 :: v205 :: v206 :: v207 :: v208 :: v209 :: v210 :: v211 :: v212 :: v213 :: v214 :: v215 :: v216 :: v217 :: v218 :: v219 :: v220 :: v221 :: v222 :: v223 :: v224 :: v225 :: v226 :: v227 :: v228 :: v229 :: v230 :: v231 :: v232 :: v233 :: v234 :: v235 :: v236 :: v237 :: v238 :: v239 :: v240 :: v241 :: v242 :: v243 :: v244 :: v245 :: v246 :: v247 :: v248 :: v249 :: v250 :: v251 :: v252 :: v253 :: v254 :: v255 :: v256 :: v257 :: v258 :: v259 :: v260 :: v261 :: v262 :: v263 :: v264 :: v265 :: v266 :: v267 :: v268 :: v269 :: v270 :: v271 :: v272 :: v273 :: v274 :: v275 :: v276 :: v277 :: v278 :: v279 :: v280 :: v281 :: v282 :: v283 :: v284 :: v285 :: u286 :: u287 :: u288 :: u289 :: u290 :: u291 :: u292 :: u293 :: u294 :: u295 :: u296 :: u297 :: u298 :: u299 :: u300 :: u301 :: u302 :: u303 :: u304 :: u305 :: []), []⟩ wx) :
    Code.wp Tryd.prog (loopCode 2) Q0 ⟨List.toArray (u0 :: u1 :: u2 :: .slice (some ⟨n1, 0, none⟩) 8 8 :: .slice (some ⟨n2, 0, none⟩) 64 64 :: .slice (some ⟨g, 0, none⟩) n c :: u6 :: u7 :: .func (.func 17) #[] #[] :: .int .i64 0 :: u10 :: u11 :: u12 :: u13 :: u14 :: u15 :: u16 :: u17 :: u18 :: u19 :: u20 :: u21 :: u22 :: u23 :: u24 :: u25 :: u26 :: u27 :: u28 :: u29 :: u30 :: u31 :: u32 :: u33 :: u34 :: u35 :: u36 :: u37 :: u38 :: u39 :: u40 :: u41 :: u42 :: u43 :: u44 :: u45 :: u46 :: u47 :: u48 :: u49 :: u50 :: u51 :: u52 :: u53 :: u54 :: u55 :: u56 :: u57 :: u58 :: u59 :: u60 :: u61 :: u62 :: u63 :: u64 :: u65 :: u66 :: u67 :: u68 :: u69 :: u70 :: u71 :: u72 :: u73 :: u74 :: u75 :: u76 :: u77 :: u78 :: u79 :: u80 :: u81 :: u82 :: u83 :: u84 :: u85 :: u86 :: u87 :: u88 :: u89 :: u90 :: u91 :: u92 :: u93 :: u94 :: u95 :: u96 :: u97 :: u98 :: u99 :: u100 :: u101 :: u102 :: u103 :: u104 :: u105 :: u106 :: u107 :: u108 :: u109 :: u110 :: u111 :: u112 :: u113 :: u114 :: u115 :: u116 :: u117 :: u118 :: u119 :: u120 :: u121 :: u122 :: u123 :: u124 :: u125 :: u126 :: u127 :: u128 :: u129 :: u130 :: u131 :: u132 :: u133 :: u134 :: u135 :: u136 :: u137 :: u138 :: u139 :: u140 :: u141 :: u142 :: u143 :: u144 :: u145 :: u146 :: u147 :: u148 :: u149 :: u150 :: u151 :: u152 :: u153 :: u154 :: u155 :: u156 :: u157 :: u158 :: u159 :: u160 :: u161 :: u162 :: u163 :: u164 :: u165 :: u166 :: u167 :: u168 :: u169 :: u170 :: u171 :: u172 :: u173 :: u174 :: u175 :: u176 :: u177 :: u178 :: u179 :: u180 :: u181 :: u182 :: u183 :: u184 :: u185 :: u186 :: u187 :: u188 :: u189 :: u190 :: u191 :: u192 :: u193 :: u194 :: u195 :: u196 :: u197 :: u198 :: u199 :: u200 :: u201 :: u202 :: u203 :: u204 :: u205 :: u206 :: u207 :: u208 :: u209 :: u210 :: u211 :: u212 :: u213 :: u214 :: u215 :: u216 :: u217 :: u218 :: u219 :: u220 :: u221 :: u222 :: u223 :: u224 :: u225 :: u226 :: u227 :: u228 :: u229 :: u230 :: u231 :: u232 :: u233 :: u234 :: u235 :: u236 :: u237 :: u238 :: u239 :: u240 :: u241 :: u242 :: u243 :: u244 :: u245 :: u246 :: u247 :: u248 :: u249 :: u250 :: u251 :: u252 :: u253 :: u254 :: u255 :: u256 :: u257 :: u258 :: u259 :: u260 :: u261 :: u262 :: u263 :: u264 :: u265 :: u266 :: u267 :: u268 :: u269 :: u270 :: u271 :: u272 :: u273 :: u274 :: u275 :: u276 :: u277 :: u278 :: u279 :: u280 :: u281 :: u282 :: u283 :: u284 :: u285 :: u286 :: u287 :: u288 :: u289 :: u290 :: u291 :: u292 :: u293 :: u294 :: u295 :: u296 :: u297 :: u298 :: u299 :: u300 :: u301 :: u302 :: u303 :: u304 :: u305 :: []), []⟩ wr := by
  conv => arg 2; whnf
  go_loopw [9] (fun o wr => ∃ q on : Nat, o = .int .i64 (on : Int) ∧ Hid (on = 64 * q) ∧ q ≤ NQ ∧ Hid (OwnT wr (n0 + 3) (.slice (some ⟨g, 0, none⟩) n c) n PD) ∧ Hid (DSt n0 w wr (List.replicate 32 0) (blk q H0 PD))) (fun o _ => 64 * NQ - (intOf o).toNat)
  case atStart => exact ⟨0, 0, rfl, Lib.hid rfl, Nat.zero_le _, HO, HD⟩
  case round =>
    clear HO HD
    obtain ⟨q, on, rfl, HON, hq, HO, HD⟩ := hrel
    have hw := HD.out.size
    by_cases hql : q < NQ
    · have hlt : on < n := by rw [HON.out, HNQ.out]; omega
      have hlt64 : on + 64 ≤ n := by rw [HON.out, HNQ.out]; omega
      obtain ⟨hs, HHS⟩ : ∃ hs, Hid (hs = blk q H0 PD) := ⟨_, Lib.hid rfl⟩
      obtain ⟨bl, HBL⟩ : ∃ bl, Hid (bl = (PD.drop on).take 64) := ⟨_, Lib.hid rfl⟩
      rw [← HHS.out] at HD
      have HHN : Hid (hs.length = 8) := Lib.hid (by rw [HHS.out]; exact blk_len q H0 PD rfl)
      have HHL : Hid (∀ x ∈ hs, x < 4294967296) := Lib.hid (by rw [HHS.out]; exact blk_lt q H0 PD (by decide))
      have HBB : Hid (∀ x ∈ bl, x < 256) := Lib.hid (by rw [HBL.out]; exact fun x hx => HPB.out x (List.mem_of_mem_drop (List.mem_of_mem_take hx)))
      have HBLK : Hid (blk (q + 1) H0 PD = mixOf hs bl) := Lib.hid (by rw [blk_snoc, HHS.out, HBL.out, HON.out])
      obtain ⟨gw, HGW⟩ : ∃ gw, Hid (gw = wr.heap.size) := ⟨_, Lib.hid rfl⟩
      obtain ⟨Z, HZ⟩ : ∃ Z, Hid (Z = ((List.replicate 64 0).map U32).toArray) := ⟨_, Lib.hid rfl⟩
      have HMK := mk64 wr
      rw [← HZ.out] at HMK
      go_wp2
      rw [← HGW.out]
      clear HMK
      have hgg : gw ≠ g := by
        obtain ⟨g', c', e, h1, h2⟩ := HO.out.shape
        cases e
        rw [HGW.out]
        omega
      have HR0 : Hid (RSt n0 g c n gw w PD hs (words1 bl (4 * 0)) (wr.alloc (.cells Z 38))) :=
        Lib.hid ⟨HD.out.alloc _, HO.out.alloc _, by rw [HGW.out, HZ.out]; exact heap_alloc_new wr _, by simp [words1], hgg, by rw [HGW.out]; exact hw⟩
      obtain ⟨wa, HWA⟩ : ∃ wa, Hid (wa = wr.alloc (.cells Z 38)) := ⟨_, Lib.hid rfl⟩
      rw [← HWA.out] at HR0 ⊢
      clear HWA HZ HGW
      go_wp2
      refine loop4 n0 g c n gw w PD hs bl on (by omega) hlt64 HBL HPB _ _ _ _ _ _ _ _ _ _ _ _ _ _ _ _ _ _ _ _ _ _ _ _ _ _ _ _ _ _ _ _ _ _ _ _ _ _ _ _ _ _ _ _ _ _ _ _ _ _ _ _ _ _ _ _ _ _ _ _ _ _ _ _ _ _ _ _ _ _ _ _ _ _ _ _ _ _ _ _ _ _ _ _ _ _ _ _ _ _ _ _ _ _ _ _ _ _ _ _ _ _ _ _ _ _ _ _ _ _ _ _ _ _ _ _ _ _ _ _ _ _ _ _ _ _ _ _ _ _ _ _ _ _ _ _ _ _ _ _ _ _ _ _ _ _ _ _ _ _ _ _ _ _ _ _ _ _ _ _ _ _ _ _ _ _ _ _ _ _ _ _ _ _ _ _ _ _ _ _ _ _ _ _ _ _ _ _ _ _ _ _ _ _ _ _ _ _ _ _ _ _ _ _ _ _ _ _ _ _ _ _ _ _ _ _ _ _ _ _ _ _ _ _ _ _ _ _ _ _ _ _ _ _ _ _ _ _ _ _ _ _ _ _ _ _ _ _ _ _ _ _ _ _ _ _ _ _ _ _ _ _ _ _ _ _ _ _ _ _ _ _ _ _ _ _ _ _ _ _ _ _ _ _ _ _ _ _ _ _ _ _ _ _ _ _ _ _ _ _ _ _ _ _ HR0 ?_
      intro v11 v12 v58 v59 v60 v61 v62 v63 v64 v65 v66 v67 v68 v69 v70 v71 v72 v73 v74 v75 v76 v77 v78 v79 v80 v81 v82 v83 v84 wx HX4
      simp only [Exit.inBlock, if_true]
      go_wp2
      refine loop6 n0 g c n gw w PD hs bl HBB.out _ _ _ _ _ _ _ _ _ _ _ _ _ _ _ _ _ _ _ _ _ _ _ _ _ _ _ _ _ _ _ _ _ _ _ _ _ _ _ _ _ _ _ _ _ _ _ _ _ _ _ _ _ _ _ _ _ _ _ _ _ _ _ _ _ _ _ _ _ _ _ _ _ _ _ _ _ _ _ _ _ _ _ _ _ _ _ _ _ _ _ _ _ _ _ _ _ _ _ _ _ _ _ _ _ _ _ _ _ _ _ _ _ _ _ _ _ _ _ _ _ _ _ _ _ _ _ _ _ _ _ _ _ _ _ _ _ _ _ _ _ _ _ _ _ _ _ _ _ _ _ _ _ _ _ _ _ _ _ _ _ _ _ _ _ _ _ _ _ _ _ _ _ _ _ _ _ _ _ _ _ _ _ _ _ _ _ _ _ _ _ _ _ _ _ _ _ _ _ _ _ _ _ _ _ _ _ _ _ _ _ _ _ _ _ _ _ _ _ _ _ _ _ _ _ _ _ _ _ _ _ _ _ _ _ _ _ _ _ _ _ _ _ _ _ _ _ _ _ _ _ _ _ _ _ _ _ _ _ _ _ _ _ _ _ _ _ _ _ _ _ _ _ _ _ _ _ _ _ _ _ _ _ _ _ _ _ _ _ _ _ _ _ _ _ _ _ _ _ _ _ _ _ _ _ HX4 ?_
      intro v13 v85 v86 v87 v88 v89 v90 v91 v92 v93 v94 v95 v96 v97 v98 v99 v100 v101 v102 v103 v104 v105 v106 v107 v108 v109 v110 v111 v112 v113 v114 v115 v116 v117 v118 v119 v120 v121 v122 v123 v124 v125 v126 v127 v128 v129 v130 v131 v132 v133 v134 v135 v136 v137 v138 v139 v140 v141 v142 v143 v144 v145 v146 v147 v148 wx HX6
      simp only [Exit.inBlock, if_true]
      have HS0 := HX6.out.st.size
      have hcells : ∀ j u, (hs.map U32)[j]? = some u → wx.cell? ((⟨n1, 0, none⟩ : Addr).add j) = some u := by
        intro j u hu
        have hj : j < hs.length := by have := (List.getElem?_eq_some_iff.1 hu).1; simpa using this
        rw [add_zero_off, hn1.out, cell_map HX6.out.st.sums hj]
        simp [List.getElem?_eq_getElem hj, U32, List.getD] at hu ⊢
        exact hu
      obtain ⟨i0, hi, hz0, hz1, hz2⟩ := info_parts info38p
      go_wp2_with (at_builtin; refine wpList_append_own _ rfl (.tmp 149) (.tmp 150) 47 rfl (n0 + 3) 38 i0 (.int .u32 0) 1 4 Tryd.underlying47 hi hz0 hz1 hz2 rfl (by decide) _ 0 [] rfl (World.ownsRow_made wx #[] 0 (by omega) (by decide) rfl) ⟨n1, 0, none⟩ 8 8 (hs.map U32) rfl (by rw [List.length_map, HHN.out]) (fun j u hu => ((Below.refl wx.heap.size wx).alloc (Nat.le_refl _) _).cell (World.block_lt_of_cell? _ _ (hcells j u hu)) |>.trans (hcells j u hu)) (U32_one _) (by decide) (by decide) (by simp; omega) ?_)
      intro v' w' hown' hgrow _
      have hb' : Below wx.heap.size wx w' := ((Below.refl _ _).alloc (Nat.le_refl _) _).trans (below_grow hgrow (by simp) (fun k hk => by simp [Value.ownBlock] at hk; omega))
      have HR7 : Hid (RSt n0 g c n gw w PD hs (wordsOf bl) w') := Lib.hid (HX6.out.below hb')
      obtain ⟨gv, cv, rfl, hgv, hcv⟩ : ∃ gv cv, v' = .slice (some ⟨gv, 0, none⟩) 8 cv ∧ n0 + 3 ≤ gv ∧ True := by
        rcases hown'.2 with ⟨_, h0⟩ | ⟨gv, cap, cur, hv, h1, h2, _⟩
        · omega
        · exact ⟨gv, cap, hv, h1, trivial⟩
      have HG := Lib.hid hgv
      have HV : Hid (VAt w' gv (vsOf hs)) := Lib.hid (vat_of HHN.out (hown'.cells (g := gv) rfl))
      clear hown' hgrow hb' hcells hgv hcv HS0 HX6 HX4 HR0
      go_wp2
      refine loop7 n0 g c n gw w PD hs (wordsOf bl) n2 gv cv (vsOf hs) hn2 (Lib.hid (wordsOf_lt bl HBB.out)) (Lib.hid (vsOf_ok hs HHL.out)) _ _ _ _ _ _ _ _ _ _ _ _ _ _ _ _ _ _ _ _ _ _ _ _ _ _ _ _ _ _ _ _ _ _ _ _ _ _ _ _ _ _ _ _ _ _ _ _ _ _ _ _ _ _ _ _ _ _ _ _ _ _ _ _ _ _ _ _ _ _ _ _ _ _ _ _ _ _ _ _ _ _ _ _ _ _ _ _ _ _ _ _ _ _ _ _ _ _ _ _ _ _ _ _ _ _ _ _ _ _ _ _ _ _ _ _ _ _ _ _ _ _ _ _ _ _ _ _ _ _ _ _ _ _ _ _ _ _ _ _ _ _ _ _ _ _ _ _ _ _ _ _ _ _ _ _ _ _ _ _ _ _ _ _ _ _ _ _ _ _ _ _ _ _ _ _ _ _ _ _ _ _ _ _ _ _ _ _ _ _ _ _ _ _ _ _ _ _ _ _ _ _ _ _ _ _ _ _ _ _ _ _ _ _ _ _ _ _ _ _ _ _ _ _ _ _ _ _ _ _ _ _ _ _ _ _ _ _ _ _ _ _ _ _ _ _ _ _ _ _ _ _ _ _ _ _ _ _ _ _ _ _ _ _ _ _ _ _ _ _ _ _ _ _ _ _ _ _ _ _ _ _ _ _ _ _ _ _ _ _ _ _ _ _ _ _ _ _ _ _ _ _ _ HG HV HR7 ?_
      intro v14 v15 v16 v17 v152 v153 v154 v155 v156 v157 v158 v159 v160 v161 v162 v163 v164 v165 v166 v167 v168 v169 v170 v171 v172 v173 v174 v175 v176 v177 v178 v179 v180 v181 v182 v183 v184 v185 v186 v187 v188 v189 v190 v191 v192 v193 v194 v195 v196 v197 v198 v199 v200 v201 v202 v203 v204 v205 v206 v207 v208 v209 v210 v211 v212 v213 v214 v215 v216 v217 v218 v219 v220 v221 v222 v223 v224 v225 v226 v227 v228 v229 v230 v231 v232 v233 v234 v235 v236 v237 v238 v239 v240 v241 v242 v243 v244 v245 v246 v247 v248 v249 v250 v251 v252 v253 v254 v255 v256 v257 v258 v259 v260 v261 v262 v263 v264 v265 v266 v267 v268 v269 v270 v271 wx HX7
      simp only [Exit.inBlock, if_true]
      obtain ⟨gx, cx, vs, rfl, HVSX, HGX, HVX, HRX⟩ := HX7
      have HO8 := Lib.hid HRX.out.own
      have HD8 := Lib.hid HRX.out.st
      clear HRX HR7 HV HG
      go_wp2
      refine loop8 n0 g c n w PD hs n1 gx cx vs HHN hn1 HGX _ _ _ _ _ _ _ _ _ _ _ _ _ _ _ _ _ _ _ _ _ _ _ _ _ _ _ _ _ _ _ _ _ _ _ _ _ _ _ _ _ _ _ _ _ _ _ _ _ _ _ _ _ _ _ _ _ _ _ _ _ _ _ _ _ _ _ _ _ _ _ _ _ _ _ _ _ _ _ _ _ _ _ _ _ _ _ _ _ _ _ _ _ _ _ _ _ _ _ _ _ _ _ _ _ _ _ _ _ _ _ _ _ _ _ _ _ _ _ _ _ _ _ _ _ _ _ _ _ _ _ _ _ _ _ _ _ _ _ _ _ _ _ _ _ _ _ _ _ _ _ _ _ _ _ _ _ _ _ _ _ _ _ _ _ _ _ _ _ _ _ _ _ _ _ _ _ _ _ _ _ _ _ _ _ _ _ _ _ _ _ _ _ _ _ _ _ _ _ _ _ _ _ _ _ _ _ _ _ _ _ _ _ _ _ _ _ _ _ _ _ _ _ _ _ _ _ _ _ _ _ _ _ _ _ _ _ _ _ _ _ _ _ _ _ _ _ _ _ _ _ _ _ _ _ _ _ _ _ _ _ _ _ _ _ _ _ _ _ _ _ _ _ _ _ _ _ _ _ _ _ _ _ _ _ _ _ _ _ _ _ _ _ _ _ _ _ _ _ _ _ _ _ _ _ HVX HO8 HD8 ?_
      intro v18 v272 v273 v274 v275 v276 v277 v278 v279 v280 v281 v282 v283 v284 v285 wx HX8
      simp only [Exit.inBlock, if_true]
      obtain ⟨-, HO9, HD9⟩ := HX8
      rw [zk_all hs vs.list HHN.out rfl, HVSX.out] at HD9
      have hon : on + 64 ≤ 600 := by omega
      go_wp2
      refine ⟨⟨q + 1, on + 64, by go_num, Lib.hid (by rw [HON.out]; omega), by omega, HO9, ?_⟩, by have := HNQ.out; simp [intOf]; omega⟩
      rw [HBLK.out]
      exact HD9
    · obtain rfl : q = NQ := by omega
      have hlt : on = n := by rw [HON.out, HNQ.out]
      subst hlt
      go_wp2
      exact HD
end Go.Proofs.YtbpdeehpeflbeaaDoor
