/-
  The statements' own digest: the loop of the rounds.
-/
import Derived.Test.YtbpdeehpeflbeaaDoorDigStill
import Derived.Deep.QuietTactic
import Derived.BigQuiet
namespace Go.Proofs.YtbpdeehpeflbeaaDoor
open Go.RowKit
/-- the eight values in memory -/
def VAt (w : World) (b : Nat) (v : Vs) : Prop := w.cell? ⟨b, 0, none⟩ = some (.int .u32 (v.a : Int)) ∧ w.cell? ⟨b, 1, none⟩ = some (.int .u32 (v.b : Int)) ∧ w.cell? ⟨b, 2, none⟩ = some (.int .u32 (v.c : Int)) ∧ w.cell? ⟨b, 3, none⟩ = some (.int .u32 (v.d : Int)) ∧ w.cell? ⟨b, 4, none⟩ = some (.int .u32 (v.e : Int)) ∧ w.cell? ⟨b, 5, none⟩ = some (.int .u32 (v.f : Int)) ∧ w.cell? ⟨b, 6, none⟩ = some (.int .u32 (v.g : Int)) ∧ w.cell? ⟨b, 7, none⟩ = some (.int .u32 (v.h : Int))
theorem vat_new (w : World) (a b c d e f g h : Int) (v : Vs) (ha : a = (v.a : Int)) (hb : b = (v.b : Int)) (hc : c = (v.c : Int)) (hd : d = (v.d : Int)) (he : e = (v.e : Int)) (hf : f = (v.f : Int)) (hg : g = (v.g : Int)) (hh : h = (v.h : Int)) :
    VAt (w.alloc (.cells #[.int .u32 a, .int .u32 b, .int .u32 c, .int .u32 d, .int .u32 e, .int .u32 f, .int .u32 g, .int .u32 h] 38)).drew w.heap.size v := by
  subst ha hb hc hd he hf hg hh
  have e : ∀ i, (w.alloc (.cells #[.int .u32 (v.a : Int), .int .u32 (v.b : Int), .int .u32 (v.c : Int), .int .u32 (v.d : Int), .int .u32 (v.e : Int), .int .u32 (v.f : Int), .int .u32 (v.g : Int), .int .u32 (v.h : Int)] 38)).drew.cell? ⟨w.heap.size, i, none⟩ = _ := fun i => World.cell?_alloc_new w _ 38 i
  exact ⟨e 0, e 1, e 2, e 3, e 4, e 5, e 6, e 7⟩
theorem RSt.key {n0 g c n gw n2 : Nat} {w wr : World} {PD hs W : List Nat} (h : RSt n0 g c n gw w PD hs W wr) (hn : n2 = n0 + 2) (k : Nat) (hk : k < 64) : wr.cell? ⟨n2, k, none⟩ = some (.int .u32 ((K.getD k 0 : Nat) : Int)) := by
  rw [hn]
  exact cell_map h.st.ks hk
set_option maxHeartbeats 3200000 in
set_option maxRecDepth 1000000 in
theorem loop7 (n0 g c n gw : Nat) (w : World) (PD hs : List Nat) (W : List Nat) (n2 gv cv : Nat) (v0 : Vs) (hn2 : Hid (n2 = n0 + 2)) (hWlt : Hid (∀ j, W.getD j 0 < 4294967296)) (hv0 : Hid (Vok v0)) (Q0 : Exit → Act → World → Prop) (u0 u1 u2 u3 u5 u6 u7 u9 u11 u12 u13 u16 u17 u18 u19 u20 u21 u22 u23 u24 u25 u26 u27 u28 u29 u30 u31 u32 u33 u34 u35 u36 u37 u38 u39 u40 u41 u42 u43 u44 u45 u46 u47 u48 u49 u50 u51 u52 u53 u54 u55 u56 u57 u58 u59 u60 u61 u62 u63 u64 u65 u66 u67 u68 u69 u70 u71 u72 u73 u74 u75 u76 u77 u78 u79 u80 u81 u82 u83 u84 u85 u86 u87 u88 u89 u90 u91 u92 u93 u94 u95 u96 u97 u98 u99 u100 u101 u102 u103 u104 u105 u106 u107 u108 u109 u110 u111 u112 u113 u114 u115 u116 u117 u118 u119 u120 u121 u122 u123 u124 u125 u126 u127 u128 u129 u130 u131 u132 u133 u134 u135 u136 u137 u138 u139 u140 u141 u142 u143 u144 u145 u146 u147 u148 u149 u150 u151 u152 u153 u154 u155 u156 u157 u158 u159 u160 u161 u162 u163 u164 u165 u166 u167 u168 u169 u170 u171 u172 u173 u174 u175 u176 u177 u178 u179 u180 u181 u182 u183 u184 u185 u186 u187 u188 u189 u190 u191 u192 u193 u194 u195 u196 u197 u198 u199 u200 u201 u202 u203 u204 u205 u206 u207 u208 u209 u210 u211 u212 u213 u214 u215 u216 u217 u218 u219 u220 u221 u222 u223 u224 u225 u226 u227 u228 u229 u230 u231 u232 u233 u234 u235 u236 u237 u238 u239 u240 u241 u242 u243 u244 u245 u246 u247 u248 u249 u250 u251 u252 u253 u254 u255 u256 u257 u258 u259 u260 u261 u262 u263 u264 u265 u266 u267 u268 u269 u270 u271 u272 u273 u274 u275 u276 u277 u278 u279 u280 u281 u282 u283 u284 u285 u286 u287 u288 u289 u290 u291 u292 u293 u294 u295 u296 u297 u298 u299 u300 u301 u302 u303 u304 u305 : Value) (wr : World) (HG : Hid (n0 + 3 ≤ gv)) (HV : Hid (VAt wr gv v0)) (HR : Hid (RSt n0 g c n gw w PD hs W wr))
    (hexit : ∀ (v14 v15 v16 v17 v152 v153 v154 v155 v156 v157 v158 v159 v160 v161 v162 v163 v164 v165 v166 v167 v168 v169 v170 v171 v172 v173 v174 v175 v176 v177 v178 v179 v180 v181 v182 v183 v184 v185 v186 v187 v188 v189 v190 v191 v192 v193 v194 v195 v196 v197 v198 v199 v200 v201 v202 v203 v204 v205 v206 v207 v208 v209 v210 v211 v212 v213 v214 v215 v216 v217 v218 v219 v220 v221 v222 v223 v224 v225 v226 v227 v228 v229 v230 v231 v232 v233 v234 v235 v236 v237 v238 v239 v240 v241 v242 v243 v244 v245 v246 v247 v248 v249 v250 v251 v252 v253 v254 v255 v256 v257 v258 v259 v260 v261 v262 v263 v264 v265 v266 v267 v268 v269 v270 v271 : Value) (wx : World), (∃ (gx cx : Nat) (vs : Vs), v14 = .slice (some ⟨gx, 0, none⟩) 8 cx ∧ Hid (vs = roundsOf W v0 64) ∧ Hid (n0 + 3 ≤ gx) ∧ Hid (VAt wx gx vs) ∧ Hid (RSt n0 g c n gw w PD hs W wx)) → Q0 (.exit 12) ⟨List.toArray (u0 :: u1 :: u2 :: u3 :: .slice (some ⟨n2, 0, none⟩) 64 64 :: u5 :: u6 :: u7 :: .func (.func 17) #[] #[] :: u9 :: .slice (some ⟨gw, 0, none⟩) 64 64 :: u11 :: u12 :: u13 :: v14 :: v15 :: v16 :: v17 :: u18 :: u19 :: u20 :: u21 :: u22 :: u23 :: u24 :: u25 :: u26 :: u27 :: u28 :: u29 :: u30 :: u31 :: u32 :: u33 :: u34 :: u35 :: u36 :: u37 :: u38 :: u39 :: u40 :: u41 :: u42 :: u43 :: u44 :: u45 :: u46 :: u47 :: u48 :: u49 :: u50 :: u51 :: u52 :: u53 :: u54 :: u55 :: u56 :: u57 :: u58 :: u59 :: u60 :: u61 :: u62 :: u63 :: u64 :: u65 :: u66 :: u67 :: u68 :: u69 :: u70 :: u71 :: u72 :: u73 :: u74 :: u75 :: u76 :: u77 :: u78 :: u79 :: u80 :: u81 :: u82 :: u83 :: u84 :: u85 :: u86 :: u87 :: u88 :: u89 :: u90 :: u91 :: u92 :: u93 :: u94 :: u95 :: u96 :: u97 :: u98 :: u99 :: u100 :: u101 :: u102 :: u103 :: u104 :: u105 :: u106 :: u107 :: u108 :: u109 :: u110 :: u111 :: u112 :: u113 :: u114 :: u115 :: u116 :: u117 :: u118 :: u119 :: u120 :: u121 :: u122 :: u123 :: u124 :: u125 :: u126 :: u127 :: u128 :: u129 :: u130 :: u131 :: u132 :: u133 :: u134 :: u135 :: u136 :: u137 :: u138 :: u139 :: u140 :: u141 :: u142 :: u143 :: u144 :: u145 :: u146 :: u147 :: u148 :: u149 :: u150 :: u151 :: v152 :: v153 :: v154 :: v155 :: v156 :: v157 :: v158 :: v159 :: v160 :: v161 :: v162 :: v163 :: v164 :: v165 :: v166 :: v167 :: v168 :: v169 :: v170 :: v171 :: v172 :: v173 :: v174 :: v175 :: v176 :: v177 :: v178 :: v179 :: v180 :: v181 :: v182 :: v183 :: v184 :: v185 :: v186 :: v187 :: v188 :: v189 :: v190 :: v191 :: v192 :: v193 :: v194 :: v195 :: v196 :: v197 :: v198 :: v199 :: v200 :: v201 :: v202 :: v203 :: v204 :: v205 :: v206 :: v207 :: v208 :: v209 :: v210 :: v211 :: v212 :: v213 :: v214 :: v215 :: v216 :: v217 :: v218 :: v219 :: v220 :: v221 :: v222 :: v223 :: v224 :: v225 :: v226 :: v227 :: v228 :: v229 :: v230 :: v231 :: v232 :: v233 :: v234 :: v235 :: v236 :: v237 :: v238 :: v239 :: v240 :: v241 :: v242 :: v243 :: v244 :: v245 :: v246 :: v247 :: v248 :: v249 :: v250 :: v251 :: v252 :: v253 :: v254 :: v255 :: v256 :: v257 :: v258 :: v259 :: v260 :: v261 :: v262 :: v263 :: v264 :: v265 :: v266 :: v267 :: v268 :: v269 :: v270 :: v271 :: u272 :: u273 :: u274 :: u275 :: u276 :: u277 :: u278 :: u279 :: u280 :: u281 :: u282 :: u283 :: u284 :: u285 :: u286 :: u287 :: u288 :: u289 :: u290 :: u291 :: u292 :: u293 :: u294 :: u295 :: u296 :: u297 :: u298 :: u299 :: u300 :: u301 :: u302 :: u303 :: u304 :: u305 :: []), []⟩ wx) :
    Code.wp Tryd.prog (loopCode 6) Q0 ⟨List.toArray (u0 :: u1 :: u2 :: u3 :: .slice (some ⟨n2, 0, none⟩) 64 64 :: u5 :: u6 :: u7 :: .func (.func 17) #[] #[] :: u9 :: .slice (some ⟨gw, 0, none⟩) 64 64 :: u11 :: u12 :: u13 :: .slice (some ⟨gv, 0, none⟩) 8 cv :: .int .i64 0 :: u16 :: u17 :: u18 :: u19 :: u20 :: u21 :: u22 :: u23 :: u24 :: u25 :: u26 :: u27 :: u28 :: u29 :: u30 :: u31 :: u32 :: u33 :: u34 :: u35 :: u36 :: u37 :: u38 :: u39 :: u40 :: u41 :: u42 :: u43 :: u44 :: u45 :: u46 :: u47 :: u48 :: u49 :: u50 :: u51 :: u52 :: u53 :: u54 :: u55 :: u56 :: u57 :: u58 :: u59 :: u60 :: u61 :: u62 :: u63 :: u64 :: u65 :: u66 :: u67 :: u68 :: u69 :: u70 :: u71 :: u72 :: u73 :: u74 :: u75 :: u76 :: u77 :: u78 :: u79 :: u80 :: u81 :: u82 :: u83 :: u84 :: u85 :: u86 :: u87 :: u88 :: u89 :: u90 :: u91 :: u92 :: u93 :: u94 :: u95 :: u96 :: u97 :: u98 :: u99 :: u100 :: u101 :: u102 :: u103 :: u104 :: u105 :: u106 :: u107 :: u108 :: u109 :: u110 :: u111 :: u112 :: u113 :: u114 :: u115 :: u116 :: u117 :: u118 :: u119 :: u120 :: u121 :: u122 :: u123 :: u124 :: u125 :: u126 :: u127 :: u128 :: u129 :: u130 :: u131 :: u132 :: u133 :: u134 :: u135 :: u136 :: u137 :: u138 :: u139 :: u140 :: u141 :: u142 :: u143 :: u144 :: u145 :: u146 :: u147 :: u148 :: u149 :: u150 :: u151 :: u152 :: u153 :: u154 :: u155 :: u156 :: u157 :: u158 :: u159 :: u160 :: u161 :: u162 :: u163 :: u164 :: u165 :: u166 :: u167 :: u168 :: u169 :: u170 :: u171 :: u172 :: u173 :: u174 :: u175 :: u176 :: u177 :: u178 :: u179 :: u180 :: u181 :: u182 :: u183 :: u184 :: u185 :: u186 :: u187 :: u188 :: u189 :: u190 :: u191 :: u192 :: u193 :: u194 :: u195 :: u196 :: u197 :: u198 :: u199 :: u200 :: u201 :: u202 :: u203 :: u204 :: u205 :: u206 :: u207 :: u208 :: u209 :: u210 :: u211 :: u212 :: u213 :: u214 :: u215 :: u216 :: u217 :: u218 :: u219 :: u220 :: u221 :: u222 :: u223 :: u224 :: u225 :: u226 :: u227 :: u228 :: u229 :: u230 :: u231 :: u232 :: u233 :: u234 :: u235 :: u236 :: u237 :: u238 :: u239 :: u240 :: u241 :: u242 :: u243 :: u244 :: u245 :: u246 :: u247 :: u248 :: u249 :: u250 :: u251 :: u252 :: u253 :: u254 :: u255 :: u256 :: u257 :: u258 :: u259 :: u260 :: u261 :: u262 :: u263 :: u264 :: u265 :: u266 :: u267 :: u268 :: u269 :: u270 :: u271 :: u272 :: u273 :: u274 :: u275 :: u276 :: u277 :: u278 :: u279 :: u280 :: u281 :: u282 :: u283 :: u284 :: u285 :: u286 :: u287 :: u288 :: u289 :: u290 :: u291 :: u292 :: u293 :: u294 :: u295 :: u296 :: u297 :: u298 :: u299 :: u300 :: u301 :: u302 :: u303 :: u304 :: u305 :: []), []⟩ wr := by
  conv => arg 2; whnf
  go_loopw [14, 15] (fun v i wr => ∃ (k gv cv : Nat) (vs : Vs), v = .slice (some ⟨gv, 0, none⟩) 8 cv ∧ i = .int .i64 (k : Int) ∧ k ≤ 64 ∧ Hid (vs = roundsOf W v0 k) ∧ Hid (n0 + 3 ≤ gv) ∧ Hid (VAt wr gv vs) ∧ Hid (RSt n0 g c n gw w PD hs W wr)) (fun _ i _ => 64 - (intOf i).toNat)
  case atStart => exact ⟨0, gv, cv, v0, rfl, rfl, by omega, Lib.hid rfl, HG, HV, HR⟩
  case round =>
    clear HR HV HG
    obtain ⟨k, gv, cv, vs, rfl, rfl, hk, HVS, HG, HV, HR⟩ := hrel
    by_cases hkl : k < 64
    · have hkk := HR.out.key hn2.out k hkl
      have hww := HR.out.word k hkl
      obtain ⟨q0, q1, q2, q3, q4, q5, q6, q7⟩ := HV.out
      have hok : Vok vs := by rw [HVS.out]; exact rounds_ok W hWlt.out v0 hv0.out k
      obtain ⟨ha, hb, hc, hd, he, hf, hg', hh⟩ := hok
      obtain ⟨kk, HKK⟩ : ∃ kk, Hid (kk = K.getD k 0) := ⟨_, Lib.hid rfl⟩
      obtain ⟨wk, HWK⟩ : ∃ wk, Hid (wk = W.getD k 0) := ⟨_, Lib.hid rfl⟩
      rw [← HKK.out] at hkk
      rw [← HWK.out] at hww
      have i1 : (0 : Int) ≤ (k : Int) := by omega
      have i2 : (k : Int) < 64 := by omega
      go_wp2
      go_quiet ((first | (go_at_call 17; (with_reducible exact Calls.quiet_of_same (rotq 6 6 rfl (by omega) (by omega) _ he _))) | (go_at_call 17; (with_reducible exact Calls.quiet_of_same (rotq 11 11 rfl (by omega) (by omega) _ he _))) | (go_at_call 17; (with_reducible exact Calls.quiet_of_same (rotq 25 25 rfl (by omega) (by omega) _ he _)))))
      obtain ⟨T, HT⟩ : ∃ T, Hid (T = tOf vs kk wk) := ⟨_, Lib.hid rfl⟩
      have HTF := Lib.hid (t_form vs kk wk he hf hg')
      rw [HTF.out, ← HT.out]
      obtain ⟨W4, HW4⟩ : ∃ W4, Hid (W4 = wr.drewN nq) := ⟨_, Lib.hid rfl⟩
      rw [← HW4.out]
      have HR4 : Hid (RSt n0 g c n gw w PD hs W W4) := Lib.hid (by rw [HW4.out]; exact HR.out.drewN nq)
      have HV4 : Hid (VAt W4 gv vs) := Lib.hid (by rw [HW4.out]; exact HV.out)
      clear q0 q1 q2 q3 q4 q5 q6 q7 hkk hww i1 i2 HR HV HTF HW4
      obtain ⟨q0, q1, q2, q3, q4, q5, q6, q7⟩ := HV4.out
      go_wp2
      go_quiet ((first | (go_at_call 17; (with_reducible exact Calls.quiet_of_same (rotq 2 2 rfl (by omega) (by omega) _ ha _))) | (go_at_call 17; (with_reducible exact Calls.quiet_of_same (rotq 13 13 rfl (by omega) (by omega) _ ha _))) | (go_at_call 17; (with_reducible exact Calls.quiet_of_same (rotq 22 22 rfl (by omega) (by omega) _ ha _)))))
      obtain ⟨U, HU⟩ : ∃ U, Hid (U = uOf vs) := ⟨_, Lib.hid rfl⟩
      have HUF := Lib.hid (u_form vs ha hb hc)
      rw [HUF.out, ← HU.out]
      obtain ⟨W5, HW5⟩ : ∃ W5, Hid (W5 = W4.drewN nq) := ⟨_, Lib.hid rfl⟩
      rw [← HW5.out]
      have HR5 : Hid (RSt n0 g c n gw w PD hs W W5) := Lib.hid (by rw [HW5.out]; exact HR4.out.drewN nq)
      have HV5 : Hid (VAt W5 gv vs) := Lib.hid (by rw [HW5.out]; exact HV4.out)
      clear q0 q1 q2 q3 q4 q5 q6 q7 HR4 HV4 HUF HW5
      obtain ⟨q0, q1, q2, q3, q4, q5, q6, q7⟩ := HV5.out
      go_wp2
      refine wp_region_still_tail 26 (by kernel_rfl) (by kernel_rfl) ?_
      simp only [List.take_succ_cons, List.take_zero, List.drop_succ_cons, List.drop_zero]
      refine wpStill_take (v := ?_) rfl ?_ ?_
      rotate_left
      focus (go_simp; first | done | with_reducible rfl)
      simp only [Act.put, List.setIfInBounds_toArray, List.set_cons_zero, List.set_cons_succ]
      refine wpStill_take (v := ?_) rfl ?_ ?_
      rotate_left
      focus (go_simp; first | done | with_reducible rfl)
      simp only [Act.put, List.setIfInBounds_toArray, List.set_cons_zero, List.set_cons_succ]
      refine wpStill_take (v := ?_) rfl ?_ ?_
      rotate_left
      focus (go_simp; first | done | with_reducible rfl)
      simp only [Act.put, List.setIfInBounds_toArray, List.set_cons_zero, List.set_cons_succ]
      refine wpStill_take (v := ?_) rfl ?_ ?_
      rotate_left
      focus (go_simp; first | done | with_reducible rfl)
      simp only [Act.put, List.setIfInBounds_toArray, List.set_cons_zero, List.set_cons_succ]
      refine wpStill_take (v := ?_) rfl ?_ ?_
      rotate_left
      focus (go_simp; first | done | with_reducible rfl)
      simp only [Act.put, List.setIfInBounds_toArray, List.set_cons_zero, List.set_cons_succ]
      refine wpStill_take (v := ?_) rfl ?_ ?_
      rotate_left
      focus (go_simp; first | done | with_reducible rfl)
      simp only [Act.put, List.setIfInBounds_toArray, List.set_cons_zero, List.set_cons_succ]
      refine wpStill_take (v := ?_) rfl ?_ ?_
      rotate_left
      focus (go_simp; first | done | with_reducible rfl)
      simp only [Act.put, List.setIfInBounds_toArray, List.set_cons_zero, List.set_cons_succ]
      refine wpStill_take (v := ?_) rfl ?_ ?_
      rotate_left
      focus (go_simp; first | done | with_reducible rfl)
      simp only [Act.put, List.setIfInBounds_toArray, List.set_cons_zero, List.set_cons_succ]
      refine wpStill_take (v := ?_) rfl ?_ ?_
      rotate_left
      focus (go_simp; first | done | with_reducible rfl)
      simp only [Act.put, List.setIfInBounds_toArray, List.set_cons_zero, List.set_cons_succ]
      refine wpStill_take (v := ?_) rfl ?_ ?_
      rotate_left
      focus (go_simp; first | done | with_reducible rfl)
      simp only [Act.put, List.setIfInBounds_toArray, List.set_cons_zero, List.set_cons_succ]
      refine wpStill_take (v := ?_) rfl ?_ ?_
      rotate_left
      focus (go_simp; first | done | with_reducible rfl)
      simp only [Act.put, List.setIfInBounds_toArray, List.set_cons_zero, List.set_cons_succ]
      refine wpStill_take (v := ?_) rfl ?_ ?_
      rotate_left
      focus (go_simp; first | done | with_reducible rfl)
      simp only [Act.put, List.setIfInBounds_toArray, List.set_cons_zero, List.set_cons_succ]
      refine wpStill_take (v := ?_) rfl ?_ ?_
      rotate_left
      focus (go_simp; first | done | with_reducible rfl)
      simp only [Act.put, List.setIfInBounds_toArray, List.set_cons_zero, List.set_cons_succ]
      refine wpStill_take (v := ?_) rfl ?_ ?_
      rotate_left
      focus (go_simp; first | done | with_reducible rfl)
      simp only [Act.put, List.setIfInBounds_toArray, List.set_cons_zero, List.set_cons_succ]
      refine wpStill_take (v := ?_) rfl ?_ ?_
      rotate_left
      focus (go_simp; first | done | with_reducible rfl)
      simp only [Act.put, List.setIfInBounds_toArray, List.set_cons_zero, List.set_cons_succ]
      refine wpStill_take (v := ?_) rfl ?_ ?_
      rotate_left
      focus (go_simp; first | done | with_reducible rfl)
      simp only [Act.put, List.setIfInBounds_toArray, List.set_cons_zero, List.set_cons_succ]
      refine wpStill_take (v := ?_) rfl ?_ ?_
      rotate_left
      focus (go_simp; first | done | with_reducible rfl)
      simp only [Act.put, List.setIfInBounds_toArray, List.set_cons_zero, List.set_cons_succ]
      refine wpStill_take (v := ?_) rfl ?_ ?_
      rotate_left
      focus (go_simp; first | done | with_reducible rfl)
      simp only [Act.put, List.setIfInBounds_toArray, List.set_cons_zero, List.set_cons_succ]
      refine wpStill_take (v := ?_) rfl ?_ ?_
      rotate_left
      focus (go_simp; first | done | with_reducible rfl)
      simp only [Act.put, List.setIfInBounds_toArray, List.set_cons_zero, List.set_cons_succ]
      refine wpStill_take (v := ?_) rfl ?_ ?_
      rotate_left
      focus (go_simp; first | done | with_reducible rfl)
      simp only [Act.put, List.setIfInBounds_toArray, List.set_cons_zero, List.set_cons_succ]
      refine wpStill_take (v := ?_) rfl ?_ ?_
      rotate_left
      focus (go_simp; first | done | with_reducible rfl)
      simp only [Act.put, List.setIfInBounds_toArray, List.set_cons_zero, List.set_cons_succ]
      refine wpStill_take (v := ?_) rfl ?_ ?_
      rotate_left
      focus (go_simp; first | done | with_reducible rfl)
      simp only [Act.put, List.setIfInBounds_toArray, List.set_cons_zero, List.set_cons_succ]
      refine wpStill_take (v := ?_) rfl ?_ ?_
      rotate_left
      focus (go_simp; first | done | with_reducible rfl)
      simp only [Act.put, List.setIfInBounds_toArray, List.set_cons_zero, List.set_cons_succ]
      refine wpStill_take (v := ?_) rfl ?_ ?_
      rotate_left
      focus (go_simp; first | done | with_reducible rfl)
      simp only [Act.put, List.setIfInBounds_toArray, List.set_cons_zero, List.set_cons_succ]
      refine wpStill_take (v := ?_) rfl ?_ ?_
      rotate_left
      focus (go_simp; first | done | with_reducible rfl)
      simp only [Act.put, List.setIfInBounds_toArray, List.set_cons_zero, List.set_cons_succ]
      refine wpStill_take (v := ?_) rfl ?_ ?_
      rotate_left
      focus (go_simp; first | done | with_reducible rfl)
      simp only [Act.put, List.setIfInBounds_toArray, List.set_cons_zero, List.set_cons_succ]
      refine wpStill_nil ?_
      go_wp2
      refine ⟨⟨k + 1, W5.heap.size, 8, roundOf vs kk wk, rfl, by go_num, by omega, Lib.hid ?_, Lib.hid HR5.out.st.size, Lib.hid ?_, Lib.hid ?_⟩, by simp [intOf]; omega⟩
      · rw [HKK.out, HWK.out, HVS.out]; rfl
      · exact vat_new W5 _ _ _ _ _ _ _ _ (roundOf vs kk wk) (by rw [mod_add, HT.out, HU.out]; rfl) rfl rfl rfl (by rw [mod_add, HT.out]; rfl) rfl rfl rfl
      · exact (HR5.out.alloc _).drew
    · obtain rfl : k = 64 := by omega
      go_wp2
      exact ⟨gv, cv, vs, rfl, HVS, HG, HV, HR⟩
end Go.Proofs.YtbpdeehpeflbeaaDoor
