/-
  The statements' own digest: the loop of the later words.
-/
import Derived.Test.YtbpdeehpeflbeaaDoorDigStill
namespace Go.Proofs.YtbpdeehpeflbeaaDoor
open Go.RowKit
theorem ext_form2 (x16 x15 x7 x2 : Nat) (h15 : x15 < 4294967296) (h2 : x2 < 4294967296) :
    ((x16 : Int) + bits .xor .u32 (bits .xor .u32 ((rotr 7 x15 : Nat) : Int) ((rotr 18 x15 : Nat) : Int)) ((x15 : Int) / 8) + (x7 : Int) + bits .xor .u32 (bits .xor .u32 ((rotr 17 x2 : Nat) : Int) ((rotr 19 x2 : Nat) : Int)) ((x2 : Int) / 1024)) % 4294967296 =
      ((add32 (add32 (add32 x16 (s0 x15)) x7) (s1 x2) : Nat) : Int) := by
  rw [s0_form x15 h15, s1_form x2 h2]
  unfold add32
  omega
set_option maxHeartbeats 3200000 in
set_option maxRecDepth 1000000 in
theorem loop6 (n0 g c n gw : Nat) (w : World) (PD hs bl : List Nat) (hbl : ∀ x ∈ bl, x < 256) (Q0 : Exit → Act → World → Prop) (u0 u1 u2 u3 u4 u5 u6 u7 u9 u11 u12 u14 u15 u16 u17 u18 u19 u20 u21 u22 u23 u24 u25 u26 u27 u28 u29 u30 u31 u32 u33 u34 u35 u36 u37 u38 u39 u40 u41 u42 u43 u44 u45 u46 u47 u48 u49 u50 u51 u52 u53 u54 u55 u56 u57 u58 u59 u60 u61 u62 u63 u64 u65 u66 u67 u68 u69 u70 u71 u72 u73 u74 u75 u76 u77 u78 u79 u80 u81 u82 u83 u84 u85 u86 u87 u88 u89 u90 u91 u92 u93 u94 u95 u96 u97 u98 u99 u100 u101 u102 u103 u104 u105 u106 u107 u108 u109 u110 u111 u112 u113 u114 u115 u116 u117 u118 u119 u120 u121 u122 u123 u124 u125 u126 u127 u128 u129 u130 u131 u132 u133 u134 u135 u136 u137 u138 u139 u140 u141 u142 u143 u144 u145 u146 u147 u148 u149 u150 u151 u152 u153 u154 u155 u156 u157 u158 u159 u160 u161 u162 u163 u164 u165 u166 u167 u168 u169 u170 u171 u172 u173 u174 u175 u176 u177 u178 u179 u180 u181 u182 u183 u184 u185 u186 u187 u188 u189 u190 u191 u192 u193 u194 u195 u196 u197 u198 u199 u200 u201 u202 u203 u204 u205 u206 u207 u208 u209 u210 u211 u212 u213 u214 u215 u216 u217 u218 u219 u220 u221 u222 u223 u224 u225 u226 u227 u228 u229 u230 u231 u232 u233 u234 u235 u236 u237 u238 u239 u240 u241 u242 u243 u244 u245 u246 u247 u248 u249 u250 u251 u252 u253 u254 u255 u256 u257 u258 u259 u260 u261 u262 u263 u264 u265 u266 u267 u268 u269 u270 u271 u272 u273 u274 u275 u276 u277 u278 u279 u280 u281 u282 u283 u284 u285 u286 u287 u288 u289 u290 u291 u292 u293 u294 u295 u296 u297 u298 u299 u300 u301 u302 u303 u304 u305 : Value) (wr : World) (HR2 : Hid (RSt n0 g c n gw w PD hs (words2 bl 0) wr))
    (hexit : ∀ (v13 v85 v86 v87 v88 v89 v90 v91 v92 v93 v94 v95 v96 v97 v98 v99 v100 v101 v102 v103 v104 v105 v106 v107 v108 v109 v110 v111 v112 v113 v114 v115 v116 v117 v118 v119 v120 v121 v122 v123 v124 v125 v126 v127 v128 v129 v130 v131 v132 v133 v134 v135 v136 v137 v138 v139 v140 v141 v142 v143 v144 v145 v146 v147 v148 : Value) (wx : World), Hid (RSt n0 g c n gw w PD hs (wordsOf bl) wx) → Q0 (.exit 10) ⟨List.toArray (u0 :: u1 :: u2 :: u3 :: u4 :: u5 :: u6 :: u7 :: .func (.func 17) #[] #[] :: u9 :: .slice (some ⟨gw, 0, none⟩) 64 64 :: u11 :: u12 :: v13 :: u14 :: u15 :: u16 :: u17 :: u18 :: u19 :: u20 :: u21 :: u22 :: u23 :: u24 :: u25 :: u26 :: u27 :: u28 :: u29 :: u30 :: u31 :: u32 :: u33 :: u34 :: u35 :: u36 :: u37 :: u38 :: u39 :: u40 :: u41 :: u42 :: u43 :: u44 :: u45 :: u46 :: u47 :: u48 :: u49 :: u50 :: u51 :: u52 :: u53 :: u54 :: u55 :: u56 :: u57 :: u58 :: u59 :: u60 :: u61 :: u62 :: u63 :: u64 :: u65 :: u66 :: u67 :: u68 :: u69 :: u70 :: u71 :: u72 :: u73 :: u74 :: u75 :: u76 :: u77 :: u78 :: u79 :: u80 :: u81 :: u82 :: u83 :: u84 :: v85 :: v86 :: v87 :: v88 :: v89 :: v90 :: v91 :: v92 :: v93 :: v94 :: v95 :: v96 :: v97 :: v98 :: v99 :: v100 :: v101 :: v102 :: v103 :: v104 :: v105 :: v106 :: v107 :: v108 :: v109 :: v110 :: v111 :: v112 :: v113 :: v114 :: v115 :: v116 :: v117 :: v118 :: v119 :: v120 :: v121 :: v122 :: v123 :: v124 :: v125 :: v126 :: v127 :: v128 :: v129 :: v130 :: v131 :: v132 :: v133 :: v134 :: v135 :: v136 :: v137 :: v138 :: v139 :: v140 :: v141 :: v142 :: v143 :: v144 :: v145 :: v146 :: v147 :: v148 :: u149 :: u150 :: u151 :: u152 :: u153 :: u154 :: u155 :: u156 :: u157 :: u158 :: u159 :: u160 :: u161 :: u162 :: u163 :: u164 :: u165 :: u166 :: u167 :: u168 :: u169 :: u170 :: u171 :: u172 :: u173 :: u174 :: u175 :: u176 :: u177 :: u178 :: u179 :: u180 :: u181 :: u182 :: u183 :: u184 :: u185 :: u186 :: u187 :: u188 :: u189 :: u190 :: u191 :: u192 :: u193 :: u194 :: u195 :: u196 :: u197 :: u198 :: u199 :: u200 :: u201 :: u202 :: u203 :: u204 :: u205 :: u206 :: u207 :: u208 :: u209 :: u210 :: u211 :: u212 :: u213 :: u214 :: u215 :: u216 :: u217 :: u218 :: u219 :: u220 :: u221 :: u222 :: u223 :: u224 :: u225 :: u226 :: u227 :: u228 :: u229 :: u230 :: u231 :: u232 :: u233 :: u234 :: u235 :: u236 :: u237 :: u238 :: u239 :: u240 :: u241 :: u242 :: u243 :: u244 :: u245 :: u246 :: u247 :: u248 :: u249 :: u250 :: u251 :: u252 :: u253 :: u254 :: u255 :: u256 :: u257 :: u258 :: u259 :: u260 :: u261 :: u262 :: u263 :: u264 :: u265 :: u266 :: u267 :: u268 :: u269 :: u270 :: u271 :: u272 :: u273 :: u274 :: u275 :: u276 :: u277 :: u278 :: u279 :: u280 :: u281 :: u282 :: u283 :: u284 :: u285 :: u286 :: u287 :: u288 :: u289 :: u290 :: u291 :: u292 :: u293 :: u294 :: u295 :: u296 :: u297 :: u298 :: u299 :: u300 :: u301 :: u302 :: u303 :: u304 :: u305 :: []), []⟩ wx) :
    Code.wp Tryd.prog (loopCode 5) Q0 ⟨List.toArray (u0 :: u1 :: u2 :: u3 :: u4 :: u5 :: u6 :: u7 :: .func (.func 17) #[] #[] :: u9 :: .slice (some ⟨gw, 0, none⟩) 64 64 :: u11 :: u12 :: .int .i64 16 :: u14 :: u15 :: u16 :: u17 :: u18 :: u19 :: u20 :: u21 :: u22 :: u23 :: u24 :: u25 :: u26 :: u27 :: u28 :: u29 :: u30 :: u31 :: u32 :: u33 :: u34 :: u35 :: u36 :: u37 :: u38 :: u39 :: u40 :: u41 :: u42 :: u43 :: u44 :: u45 :: u46 :: u47 :: u48 :: u49 :: u50 :: u51 :: u52 :: u53 :: u54 :: u55 :: u56 :: u57 :: u58 :: u59 :: u60 :: u61 :: u62 :: u63 :: u64 :: u65 :: u66 :: u67 :: u68 :: u69 :: u70 :: u71 :: u72 :: u73 :: u74 :: u75 :: u76 :: u77 :: u78 :: u79 :: u80 :: u81 :: u82 :: u83 :: u84 :: u85 :: u86 :: u87 :: u88 :: u89 :: u90 :: u91 :: u92 :: u93 :: u94 :: u95 :: u96 :: u97 :: u98 :: u99 :: u100 :: u101 :: u102 :: u103 :: u104 :: u105 :: u106 :: u107 :: u108 :: u109 :: u110 :: u111 :: u112 :: u113 :: u114 :: u115 :: u116 :: u117 :: u118 :: u119 :: u120 :: u121 :: u122 :: u123 :: u124 :: u125 :: u126 :: u127 :: u128 :: u129 :: u130 :: u131 :: u132 :: u133 :: u134 :: u135 :: u136 :: u137 :: u138 :: u139 :: u140 :: u141 :: u142 :: u143 :: u144 :: u145 :: u146 :: u147 :: u148 :: u149 :: u150 :: u151 :: u152 :: u153 :: u154 :: u155 :: u156 :: u157 :: u158 :: u159 :: u160 :: u161 :: u162 :: u163 :: u164 :: u165 :: u166 :: u167 :: u168 :: u169 :: u170 :: u171 :: u172 :: u173 :: u174 :: u175 :: u176 :: u177 :: u178 :: u179 :: u180 :: u181 :: u182 :: u183 :: u184 :: u185 :: u186 :: u187 :: u188 :: u189 :: u190 :: u191 :: u192 :: u193 :: u194 :: u195 :: u196 :: u197 :: u198 :: u199 :: u200 :: u201 :: u202 :: u203 :: u204 :: u205 :: u206 :: u207 :: u208 :: u209 :: u210 :: u211 :: u212 :: u213 :: u214 :: u215 :: u216 :: u217 :: u218 :: u219 :: u220 :: u221 :: u222 :: u223 :: u224 :: u225 :: u226 :: u227 :: u228 :: u229 :: u230 :: u231 :: u232 :: u233 :: u234 :: u235 :: u236 :: u237 :: u238 :: u239 :: u240 :: u241 :: u242 :: u243 :: u244 :: u245 :: u246 :: u247 :: u248 :: u249 :: u250 :: u251 :: u252 :: u253 :: u254 :: u255 :: u256 :: u257 :: u258 :: u259 :: u260 :: u261 :: u262 :: u263 :: u264 :: u265 :: u266 :: u267 :: u268 :: u269 :: u270 :: u271 :: u272 :: u273 :: u274 :: u275 :: u276 :: u277 :: u278 :: u279 :: u280 :: u281 :: u282 :: u283 :: u284 :: u285 :: u286 :: u287 :: u288 :: u289 :: u290 :: u291 :: u292 :: u293 :: u294 :: u295 :: u296 :: u297 :: u298 :: u299 :: u300 :: u301 :: u302 :: u303 :: u304 :: u305 :: []), []⟩ wr := by
  conv => arg 2; whnf
  go_loopw [13] (fun i wr => ∃ j : Nat, i = .int .i64 (j : Int) ∧ 16 ≤ j ∧ j ≤ 64 ∧ Hid (RSt n0 g c n gw w PD hs (words2 bl (j - 16)) wr)) (fun i _ => 64 - (intOf i).toNat)
  case atStart => exact ⟨16, rfl, by omega, by omega, HR2⟩
  case round =>
    clear HR2
    obtain ⟨j, rfl, hj1, hj2, HR⟩ := hrel
    by_cases hjl : j < 64
    · have c16 := HR.out.word (j - 16) (by omega)
      have c15 := HR.out.word (j - 15) (by omega)
      have c7 := HR.out.word (j - 7) (by omega)
      have c2 := HR.out.word (j - 2) (by omega)
      have c0 := HR.out.word j (by omega)
      have f0 := HR.out.frozen j
      have l15 := words2_lt bl hbl (j - 16) (j - 15)
      have l2 := words2_lt bl hbl (j - 16) (j - 2)
      have HE : Hid (words2 bl (j + 1 - 16) = (words2 bl (j - 16)).set j (add32 (add32 (add32 ((words2 bl (j - 16)).getD (j - 16) 0) (s0 ((words2 bl (j - 16)).getD (j - 15) 0))) ((words2 bl (j - 16)).getD (j - 7) 0)) (s1 ((words2 bl (j - 16)).getD (j - 2) 0)))) := by
        show _ = _
        rw [show j + 1 - 16 = (j - 16) + 1 from by omega, words2, show 16 + (j - 16) = j from by omega]
        rfl
      generalize words2 bl (j - 16) = W at *
      generalize W.getD (j - 16) 0 = x16 at *
      generalize W.getD (j - 15) 0 = x15 at *
      generalize W.getD (j - 7) 0 = x7 at *
      generalize W.getD (j - 2) 0 = x2 at *
      generalize W.getD j 0 = x0 at *
      have i1 : IntKind.i64.wrap ((j : Int) - 16) = (j : Int) - 16 := IntWalk.i64_in _ (by omega)
      have i2 : IntKind.i64.wrap ((j : Int) - 7) = (j : Int) - 7 := IntWalk.i64_in _ (by omega)
      have i3 : (0 : Int) ≤ (j : Int) - 16 := by omega
      have i4 : (0 : Int) ≤ (j : Int) - 7 := by omega
      have i5 : (j : Int) - 16 < 64 := by omega
      have i6 : (j : Int) - 7 < 64 := by omega
      have i7 : ((j : Int) - 16).toNat = j - 16 := by omega
      have i8 : ((j : Int) - 7).toNat = j - 7 := by omega
      have i9 : (16 : Int) ≤ (j : Int) := by omega
      have i10 : (7 : Int) ≤ (j : Int) := by omega
      have i11 : (j : Int) < 64 := by omega
      have i12 : (0 : Int) ≤ (j : Int) := by omega
      have a1 : IntKind.i64.wrap ((j : Int) - 15) = (j : Int) - 15 := IntWalk.i64_in _ (by omega)
      have a2 : IntKind.i64.wrap ((j : Int) - 2) = (j : Int) - 2 := IntWalk.i64_in _ (by omega)
      have a3 : (0 : Int) ≤ (j : Int) - 15 := by omega
      have a4 : (0 : Int) ≤ (j : Int) - 2 := by omega
      have a5 : (j : Int) - 15 < 64 := by omega
      have a6 : (j : Int) - 2 < 64 := by omega
      have a7 : ((j : Int) - 15).toNat = j - 15 := by omega
      have a8 : ((j : Int) - 2).toNat = j - 2 := by omega
      have a9 : (15 : Int) ≤ (j : Int) := by omega
      have a10 : (2 : Int) ≤ (j : Int) := by omega
      go_wp2
      refine wp_region_still_tail 60 (by kernel_rfl) (by kernel_rfl) ?_
      simp only [List.take_succ_cons, List.take_zero, List.drop_succ_cons, List.drop_zero]
      refine wpStill_take (v := ?_) rfl ?_ ?_
      rotate_left
      focus (go_simp; first | done | with_reducible rfl)
      simp only [Act.put, List.setIfInBounds_toArray, List.set_cons_zero, List.set_cons_succ]
      refine wpStill_take (v := ?_) rfl ?_ ?_
      rotate_left
      focus (go_simp; first | done | with_reducible rfl)
      simp only [Act.put, List.setIfInBounds_toArray, List.set_cons_zero, List.set_cons_succ]
      refine wpStill_take (v := ?_) rfl ?_ ?_
      rotate_left
      focus (go_simp; first | done | with_reducible rfl)
      simp only [Act.put, List.setIfInBounds_toArray, List.set_cons_zero, List.set_cons_succ]
      refine wpStill_take (v := ?_) rfl ?_ ?_
      rotate_left
      focus (go_simp; first | done | with_reducible rfl)
      simp only [Act.put, List.setIfInBounds_toArray, List.set_cons_zero, List.set_cons_succ]
      refine wpStill_take (v := ?_) rfl ?_ ?_
      rotate_left
      focus (go_simp; first | done | with_reducible rfl)
      simp only [Act.put, List.setIfInBounds_toArray, List.set_cons_zero, List.set_cons_succ]
      refine wpStill_take (v := ?_) rfl ?_ ?_
      rotate_left
      focus (go_simp; first | done | with_reducible rfl)
      simp only [Act.put, List.setIfInBounds_toArray, List.set_cons_zero, List.set_cons_succ]
      refine wpStill_take (v := ?_) rfl ?_ ?_
      rotate_left
      focus (go_simp; first | done | with_reducible rfl)
      simp only [Act.put, List.setIfInBounds_toArray, List.set_cons_zero, List.set_cons_succ]
      refine wpStill_take (v := ?_) rfl ?_ ?_
      rotate_left
      focus (go_simp; first | done | with_reducible rfl)
      simp only [Act.put, List.setIfInBounds_toArray, List.set_cons_zero, List.set_cons_succ]
      refine wpStill_take (v := ?_) rfl ?_ ?_
      rotate_left
      focus (go_simp; first | done | with_reducible rfl)
      simp only [Act.put, List.setIfInBounds_toArray, List.set_cons_zero, List.set_cons_succ]
      refine wpStill_take (v := ?_) rfl ?_ ?_
      rotate_left
      focus (go_simp; first | done | with_reducible rfl)
      simp only [Act.put, List.setIfInBounds_toArray, List.set_cons_zero, List.set_cons_succ]
      refine wpStill_take (v := ?_) rfl ?_ ?_
      rotate_left
      focus (go_simp; first | done | with_reducible rfl)
      simp only [Act.put, List.setIfInBounds_toArray, List.set_cons_zero, List.set_cons_succ]
      refine wpStill_take (v := ?_) rfl ?_ ?_
      rotate_left
      focus (go_simp; first | done | with_reducible rfl)
      simp only [Act.put, List.setIfInBounds_toArray, List.set_cons_zero, List.set_cons_succ]
      refine wpStill_take (v := ?_) rfl ?_ ?_
      rotate_left
      focus (go_simp; first | done | with_reducible rfl)
      simp only [Act.put, List.setIfInBounds_toArray, List.set_cons_zero, List.set_cons_succ]
      refine wpStill_call (v := .int .u32 ((rotr 7 x15 : Nat) : Int)) (f := 17) (args := #[.int .u32 (x15 : Int), .int .u64 7]) rfl (by go_simp) (rotq 7 7 rfl (by omega) (by omega) _ l15 _) ?_
      simp only [Act.put, List.setIfInBounds_toArray, List.set_cons_zero, List.set_cons_succ]
      refine wpStill_take (v := ?_) rfl ?_ ?_
      rotate_left
      focus (go_simp; first | done | with_reducible rfl)
      simp only [Act.put, List.setIfInBounds_toArray, List.set_cons_zero, List.set_cons_succ]
      refine wpStill_take (v := ?_) rfl ?_ ?_
      rotate_left
      focus (go_simp; first | done | with_reducible rfl)
      simp only [Act.put, List.setIfInBounds_toArray, List.set_cons_zero, List.set_cons_succ]
      refine wpStill_take (v := ?_) rfl ?_ ?_
      rotate_left
      focus (go_simp; first | done | with_reducible rfl)
      simp only [Act.put, List.setIfInBounds_toArray, List.set_cons_zero, List.set_cons_succ]
      refine wpStill_take (v := ?_) rfl ?_ ?_
      rotate_left
      focus (go_simp; first | done | with_reducible rfl)
      simp only [Act.put, List.setIfInBounds_toArray, List.set_cons_zero, List.set_cons_succ]
      refine wpStill_take (v := ?_) rfl ?_ ?_
      rotate_left
      focus (go_simp; first | done | with_reducible rfl)
      simp only [Act.put, List.setIfInBounds_toArray, List.set_cons_zero, List.set_cons_succ]
      refine wpStill_take (v := ?_) rfl ?_ ?_
      rotate_left
      focus (go_simp; first | done | with_reducible rfl)
      simp only [Act.put, List.setIfInBounds_toArray, List.set_cons_zero, List.set_cons_succ]
      refine wpStill_call (v := .int .u32 ((rotr 18 x15 : Nat) : Int)) (f := 17) (args := #[.int .u32 (x15 : Int), .int .u64 18]) rfl (by go_simp) (rotq 18 18 rfl (by omega) (by omega) _ l15 _) ?_
      simp only [Act.put, List.setIfInBounds_toArray, List.set_cons_zero, List.set_cons_succ]
      refine wpStill_take (v := ?_) rfl ?_ ?_
      rotate_left
      focus (go_simp; first | done | with_reducible rfl)
      simp only [Act.put, List.setIfInBounds_toArray, List.set_cons_zero, List.set_cons_succ]
      refine wpStill_take (v := ?_) rfl ?_ ?_
      rotate_left
      focus (go_simp; first | done | with_reducible rfl)
      simp only [Act.put, List.setIfInBounds_toArray, List.set_cons_zero, List.set_cons_succ]
      refine wpStill_take (v := ?_) rfl ?_ ?_
      rotate_left
      focus (go_simp; first | done | with_reducible rfl)
      simp only [Act.put, List.setIfInBounds_toArray, List.set_cons_zero, List.set_cons_succ]
      refine wpStill_take (v := ?_) rfl ?_ ?_
      rotate_left
      focus (go_simp; first | done | with_reducible rfl)
      simp only [Act.put, List.setIfInBounds_toArray, List.set_cons_zero, List.set_cons_succ]
      refine wpStill_take (v := ?_) rfl ?_ ?_
      rotate_left
      focus (go_simp; first | done | with_reducible rfl)
      simp only [Act.put, List.setIfInBounds_toArray, List.set_cons_zero, List.set_cons_succ]
      refine wpStill_take (v := ?_) rfl ?_ ?_
      rotate_left
      focus (go_simp; first | done | with_reducible rfl)
      simp only [Act.put, List.setIfInBounds_toArray, List.set_cons_zero, List.set_cons_succ]
      refine wpStill_take (v := ?_) rfl ?_ ?_
      rotate_left
      focus (go_simp; first | done | with_reducible rfl)
      simp only [Act.put, List.setIfInBounds_toArray, List.set_cons_zero, List.set_cons_succ]
      refine wpStill_take (v := ?_) rfl ?_ ?_
      rotate_left
      focus (go_simp; first | done | with_reducible rfl)
      simp only [Act.put, List.setIfInBounds_toArray, List.set_cons_zero, List.set_cons_succ]
      refine wpStill_take (v := ?_) rfl ?_ ?_
      rotate_left
      focus (go_simp; first | done | with_reducible rfl)
      simp only [Act.put, List.setIfInBounds_toArray, List.set_cons_zero, List.set_cons_succ]
      refine wpStill_take (v := ?_) rfl ?_ ?_
      rotate_left
      focus (go_simp; first | done | with_reducible rfl)
      simp only [Act.put, List.setIfInBounds_toArray, List.set_cons_zero, List.set_cons_succ]
      refine wpStill_take (v := ?_) rfl ?_ ?_
      rotate_left
      focus (go_simp; first | done | with_reducible rfl)
      simp only [Act.put, List.setIfInBounds_toArray, List.set_cons_zero, List.set_cons_succ]
      refine wpStill_take (v := ?_) rfl ?_ ?_
      rotate_left
      focus (go_simp; first | done | with_reducible rfl)
      simp only [Act.put, List.setIfInBounds_toArray, List.set_cons_zero, List.set_cons_succ]
      refine wpStill_take (v := ?_) rfl ?_ ?_
      rotate_left
      focus (go_simp; first | done | with_reducible rfl)
      simp only [Act.put, List.setIfInBounds_toArray, List.set_cons_zero, List.set_cons_succ]
      refine wpStill_take (v := ?_) rfl ?_ ?_
      rotate_left
      focus (go_simp; first | done | with_reducible rfl)
      simp only [Act.put, List.setIfInBounds_toArray, List.set_cons_zero, List.set_cons_succ]
      refine wpStill_take (v := ?_) rfl ?_ ?_
      rotate_left
      focus (go_simp; first | done | with_reducible rfl)
      simp only [Act.put, List.setIfInBounds_toArray, List.set_cons_zero, List.set_cons_succ]
      refine wpStill_take (v := ?_) rfl ?_ ?_
      rotate_left
      focus (go_simp; first | done | with_reducible rfl)
      simp only [Act.put, List.setIfInBounds_toArray, List.set_cons_zero, List.set_cons_succ]
      refine wpStill_take (v := ?_) rfl ?_ ?_
      rotate_left
      focus (go_simp; first | done | with_reducible rfl)
      simp only [Act.put, List.setIfInBounds_toArray, List.set_cons_zero, List.set_cons_succ]
      refine wpStill_take (v := ?_) rfl ?_ ?_
      rotate_left
      focus (go_simp; first | done | with_reducible rfl)
      simp only [Act.put, List.setIfInBounds_toArray, List.set_cons_zero, List.set_cons_succ]
      refine wpStill_take (v := ?_) rfl ?_ ?_
      rotate_left
      focus (go_simp; first | done | with_reducible rfl)
      simp only [Act.put, List.setIfInBounds_toArray, List.set_cons_zero, List.set_cons_succ]
      refine wpStill_take (v := ?_) rfl ?_ ?_
      rotate_left
      focus (go_simp; first | done | with_reducible rfl)
      simp only [Act.put, List.setIfInBounds_toArray, List.set_cons_zero, List.set_cons_succ]
      refine wpStill_take (v := ?_) rfl ?_ ?_
      rotate_left
      focus (go_simp; first | done | with_reducible rfl)
      simp only [Act.put, List.setIfInBounds_toArray, List.set_cons_zero, List.set_cons_succ]
      refine wpStill_call (v := .int .u32 ((rotr 17 x2 : Nat) : Int)) (f := 17) (args := #[.int .u32 (x2 : Int), .int .u64 17]) rfl (by go_simp) (rotq 17 17 rfl (by omega) (by omega) _ l2 _) ?_
      simp only [Act.put, List.setIfInBounds_toArray, List.set_cons_zero, List.set_cons_succ]
      refine wpStill_take (v := ?_) rfl ?_ ?_
      rotate_left
      focus (go_simp; first | done | with_reducible rfl)
      simp only [Act.put, List.setIfInBounds_toArray, List.set_cons_zero, List.set_cons_succ]
      refine wpStill_take (v := ?_) rfl ?_ ?_
      rotate_left
      focus (go_simp; first | done | with_reducible rfl)
      simp only [Act.put, List.setIfInBounds_toArray, List.set_cons_zero, List.set_cons_succ]
      refine wpStill_take (v := ?_) rfl ?_ ?_
      rotate_left
      focus (go_simp; first | done | with_reducible rfl)
      simp only [Act.put, List.setIfInBounds_toArray, List.set_cons_zero, List.set_cons_succ]
      refine wpStill_take (v := ?_) rfl ?_ ?_
      rotate_left
      focus (go_simp; first | done | with_reducible rfl)
      simp only [Act.put, List.setIfInBounds_toArray, List.set_cons_zero, List.set_cons_succ]
      refine wpStill_take (v := ?_) rfl ?_ ?_
      rotate_left
      focus (go_simp; first | done | with_reducible rfl)
      simp only [Act.put, List.setIfInBounds_toArray, List.set_cons_zero, List.set_cons_succ]
      refine wpStill_take (v := ?_) rfl ?_ ?_
      rotate_left
      focus (go_simp; first | done | with_reducible rfl)
      simp only [Act.put, List.setIfInBounds_toArray, List.set_cons_zero, List.set_cons_succ]
      refine wpStill_call (v := .int .u32 ((rotr 19 x2 : Nat) : Int)) (f := 17) (args := #[.int .u32 (x2 : Int), .int .u64 19]) rfl (by go_simp) (rotq 19 19 rfl (by omega) (by omega) _ l2 _) ?_
      simp only [Act.put, List.setIfInBounds_toArray, List.set_cons_zero, List.set_cons_succ]
      refine wpStill_take (v := ?_) rfl ?_ ?_
      rotate_left
      focus (go_simp; first | done | with_reducible rfl)
      simp only [Act.put, List.setIfInBounds_toArray, List.set_cons_zero, List.set_cons_succ]
      refine wpStill_take (v := ?_) rfl ?_ ?_
      rotate_left
      focus (go_simp; first | done | with_reducible rfl)
      simp only [Act.put, List.setIfInBounds_toArray, List.set_cons_zero, List.set_cons_succ]
      refine wpStill_take (v := ?_) rfl ?_ ?_
      rotate_left
      focus (go_simp; first | done | with_reducible rfl)
      simp only [Act.put, List.setIfInBounds_toArray, List.set_cons_zero, List.set_cons_succ]
      refine wpStill_take (v := ?_) rfl ?_ ?_
      rotate_left
      focus (go_simp; first | done | with_reducible rfl)
      simp only [Act.put, List.setIfInBounds_toArray, List.set_cons_zero, List.set_cons_succ]
      refine wpStill_take (v := ?_) rfl ?_ ?_
      rotate_left
      focus (go_simp; first | done | with_reducible rfl)
      simp only [Act.put, List.setIfInBounds_toArray, List.set_cons_zero, List.set_cons_succ]
      refine wpStill_take (v := ?_) rfl ?_ ?_
      rotate_left
      focus (go_simp; first | done | with_reducible rfl)
      simp only [Act.put, List.setIfInBounds_toArray, List.set_cons_zero, List.set_cons_succ]
      refine wpStill_take (v := ?_) rfl ?_ ?_
      rotate_left
      focus (go_simp; first | done | with_reducible rfl)
      simp only [Act.put, List.setIfInBounds_toArray, List.set_cons_zero, List.set_cons_succ]
      refine wpStill_take (v := ?_) rfl ?_ ?_
      rotate_left
      focus (go_simp; first | done | with_reducible rfl)
      simp only [Act.put, List.setIfInBounds_toArray, List.set_cons_zero, List.set_cons_succ]
      refine wpStill_take (v := ?_) rfl ?_ ?_
      rotate_left
      focus (go_simp; first | done | with_reducible rfl)
      simp only [Act.put, List.setIfInBounds_toArray, List.set_cons_zero, List.set_cons_succ]
      refine wpStill_take (v := ?_) rfl ?_ ?_
      rotate_left
      focus (go_simp; first | done | with_reducible rfl)
      simp only [Act.put, List.setIfInBounds_toArray, List.set_cons_zero, List.set_cons_succ]
      refine wpStill_nil ?_
      clear i1 i2 i3 i4 i5 i6 i7 i8 i9 i10 i11 i12 a1 a2 a3 a4 a5 a6 a7 a8 a9 a10
      go_wp2
      refine ⟨⟨j + 1, by go_num, by omega, by omega, Lib.hid ?_⟩, by simp [intOf]; omega⟩
      rw [HE.out, ext_form2 x16 x15 x7 x2 l15 l2]
      exact (HR.out.set_ j _).drew
    · obtain rfl : j = 64 := by omega
      go_wp2
      exact HR
end Go.Proofs.YtbpdeehpeflbeaaDoor
