/-
  The statements' own digest: the loop of the sums.
-/
import Derived.Test.YtbpdeehpeflbeaaDoorDigL7
namespace Go.Proofs.YtbpdeehpeflbeaaDoor
open Go.RowKit
theorem VAt.at_ {w : World} {b : Nat} {v : Vs} (h : VAt w b v) (k : Nat) (hk : k < 8) : w.cell? ⟨b, k, none⟩ = some (.int .u32 ((v.list.getD k 0 : Nat) : Int)) := by
  obtain ⟨q0, q1, q2, q3, q4, q5, q6, q7⟩ := h
  match k, hk with
  | 0, _ => exact q0
  | 1, _ => exact q1
  | 2, _ => exact q2
  | 3, _ => exact q3
  | 4, _ => exact q4
  | 5, _ => exact q5
  | 6, _ => exact q6
  | 7, _ => exact q7
theorem VAt.setCell {w : World} {b : Nat} {v : Vs} (h : VAt w b v) {p : Addr} (hp : b ≠ p.block) (x : Value) : VAt (w.setCell p x).drew b v := by
  have e : ∀ i, (w.setCell p x).drew.cell? ⟨b, i, none⟩ = w.cell? ⟨b, i, none⟩ := fun i => World.cell?_of_block (Below.heap_setCell w p x b hp)
  unfold VAt
  simp only [e]
  exact h
theorem dst_sum {n0 n1 : Nat} {w wr : World} {out hs : List Nat} (h : DSt n0 w wr out hs) (hn : n1 = n0 + 1) (k v : Nat) : DSt n0 w (wr.setCell ⟨n1, k, none⟩ (.int .u32 (v : Int))).drew out (hs.set k v) := by
  subst hn
  exact ⟨(Below.heap_setCell wr _ _ n0 (by simp only; omega)).trans h.out, set_map h.sums v, (Below.heap_setCell wr _ _ (n0 + 2) (by simp only; omega)).trans h.ks, ⟨h.below.os, h.below.tape, h.below.output, by simpa [World.setCell] using h.below.size, fun j hj => (Below.heap_setCell wr _ _ j (by simp only; omega)).trans (h.below.block j hj)⟩, by simpa [World.setCell] using h.size⟩
set_option maxHeartbeats 3200000 in
set_option maxRecDepth 1000000 in
theorem loop8 (n0 g c n : Nat) (w : World) (PD hs : List Nat) (n1 gv cv : Nat) (vs : Vs) (hl : Hid (hs.length = 8)) (hn1 : Hid (n1 = n0 + 1)) (HG : Hid (n0 + 3 ≤ gv)) (Q0 : Exit → Act → World → Prop) (u0 u1 u2 u4 u5 u6 u7 u8 u9 u10 u11 u12 u13 u15 u16 u17 u19 u20 u21 u22 u23 u24 u25 u26 u27 u28 u29 u30 u31 u32 u33 u34 u35 u36 u37 u38 u39 u40 u41 u42 u43 u44 u45 u46 u47 u48 u49 u50 u51 u52 u53 u54 u55 u56 u57 u58 u59 u60 u61 u62 u63 u64 u65 u66 u67 u68 u69 u70 u71 u72 u73 u74 u75 u76 u77 u78 u79 u80 u81 u82 u83 u84 u85 u86 u87 u88 u89 u90 u91 u92 u93 u94 u95 u96 u97 u98 u99 u100 u101 u102 u103 u104 u105 u106 u107 u108 u109 u110 u111 u112 u113 u114 u115 u116 u117 u118 u119 u120 u121 u122 u123 u124 u125 u126 u127 u128 u129 u130 u131 u132 u133 u134 u135 u136 u137 u138 u139 u140 u141 u142 u143 u144 u145 u146 u147 u148 u149 u150 u151 u152 u153 u154 u155 u156 u157 u158 u159 u160 u161 u162 u163 u164 u165 u166 u167 u168 u169 u170 u171 u172 u173 u174 u175 u176 u177 u178 u179 u180 u181 u182 u183 u184 u185 u186 u187 u188 u189 u190 u191 u192 u193 u194 u195 u196 u197 u198 u199 u200 u201 u202 u203 u204 u205 u206 u207 u208 u209 u210 u211 u212 u213 u214 u215 u216 u217 u218 u219 u220 u221 u222 u223 u224 u225 u226 u227 u228 u229 u230 u231 u232 u233 u234 u235 u236 u237 u238 u239 u240 u241 u242 u243 u244 u245 u246 u247 u248 u249 u250 u251 u252 u253 u254 u255 u256 u257 u258 u259 u260 u261 u262 u263 u264 u265 u266 u267 u268 u269 u270 u271 u272 u273 u274 u275 u276 u277 u278 u279 u280 u281 u282 u283 u284 u285 u286 u287 u288 u289 u290 u291 u292 u293 u294 u295 u296 u297 u298 u299 u300 u301 u302 u303 u304 u305 : Value) (wr : World) (HV : Hid (VAt wr gv vs)) (HO : Hid (OwnT wr (n0 + 3) (.slice (some ⟨g, 0, none⟩) n c) n PD)) (HD : Hid (DSt n0 w wr (List.replicate 32 0) hs))
    (hexit : ∀ (v18 v272 v273 v274 v275 v276 v277 v278 v279 v280 v281 v282 v283 v284 v285 : Value) (wx : World), (Hid (VAt wx gv vs) ∧ Hid (OwnT wx (n0 + 3) (.slice (some ⟨g, 0, none⟩) n c) n PD) ∧ Hid (DSt n0 w wx (List.replicate 32 0) (zk hs vs.list 8))) → Q0 (.exit 14) ⟨List.toArray (u0 :: u1 :: u2 :: .slice (some ⟨n1, 0, none⟩) 8 8 :: u4 :: u5 :: u6 :: u7 :: u8 :: u9 :: u10 :: u11 :: u12 :: u13 :: .slice (some ⟨gv, 0, none⟩) 8 cv :: u15 :: u16 :: u17 :: v18 :: u19 :: u20 :: u21 :: u22 :: u23 :: u24 :: u25 :: u26 :: u27 :: u28 :: u29 :: u30 :: u31 :: u32 :: u33 :: u34 :: u35 :: u36 :: u37 :: u38 :: u39 :: u40 :: u41 :: u42 :: u43 :: u44 :: u45 :: u46 :: u47 :: u48 :: u49 :: u50 :: u51 :: u52 :: u53 :: u54 :: u55 :: u56 :: u57 :: u58 :: u59 :: u60 :: u61 :: u62 :: u63 :: u64 :: u65 :: u66 :: u67 :: u68 :: u69 :: u70 :: u71 :: u72 :: u73 :: u74 :: u75 :: u76 :: u77 :: u78 :: u79 :: u80 :: u81 :: u82 :: u83 :: u84 :: u85 :: u86 :: u87 :: u88 :: u89 :: u90 :: u91 :: u92 :: u93 :: u94 :: u95 :: u96 :: u97 :: u98 :: u99 :: u100 :: u101 :: u102 :: u103 :: u104 :: u105 :: u106 :: u107 :: u108 :: u109 :: u110 :: u111 :: u112 :: u113 :: u114 :: u115 :: u116 :: u117 :: u118 :: u119 :: u120 :: u121 :: u122 :: u123 :: u124 :: u125 :: u126 :: u127 :: u128 :: u129 :: u130 :: u131 :: u132 :: u133 :: u134 :: u135 :: u136 :: u137 :: u138 :: u139 :: u140 :: u141 :: u142 :: u143 :: u144 :: u145 :: u146 :: u147 :: u148 :: u149 :: u150 :: u151 :: u152 :: u153 :: u154 :: u155 :: u156 :: u157 :: u158 :: u159 :: u160 :: u161 :: u162 :: u163 :: u164 :: u165 :: u166 :: u167 :: u168 :: u169 :: u170 :: u171 :: u172 :: u173 :: u174 :: u175 :: u176 :: u177 :: u178 :: u179 :: u180 :: u181 :: u182 :: u183 :: u184 :: u185 :: u186 :: u187 :: u188 :: u189 :: u190 :: u191 :: u192 :: u193 :: u194 :: u195 :: u196 :: u197 :: u198 :: u199 :: u200 :: u201 :: u202 :: u203 :: u204 :: u205 :: u206 :: u207 :: u208 :: u209 :: u210 :: u211 :: u212 :: u213 :: u214 :: u215 :: u216 :: u217 :: u218 :: u219 :: u220 :: u221 :: u222 :: u223 :: u224 :: u225 :: u226 :: u227 :: u228 :: u229 :: u230 :: u231 :: u232 :: u233 :: u234 :: u235 :: u236 :: u237 :: u238 :: u239 :: u240 :: u241 :: u242 :: u243 :: u244 :: u245 :: u246 :: u247 :: u248 :: u249 :: u250 :: u251 :: u252 :: u253 :: u254 :: u255 :: u256 :: u257 :: u258 :: u259 :: u260 :: u261 :: u262 :: u263 :: u264 :: u265 :: u266 :: u267 :: u268 :: u269 :: u270 :: u271 :: v272 :: v273 :: v274 :: v275 :: v276 :: v277 :: v278 :: v279 :: v280 :: v281 :: v282 :: v283 :: v284 :: v285 :: u286 :: u287 :: u288 :: u289 :: u290 :: u291 :: u292 :: u293 :: u294 :: u295 :: u296 :: u297 :: u298 :: u299 :: u300 :: u301 :: u302 :: u303 :: u304 :: u305 :: []), []⟩ wx) :
    Code.wp Tryd.prog (loopCode 7) Q0 ⟨List.toArray (u0 :: u1 :: u2 :: .slice (some ⟨n1, 0, none⟩) 8 8 :: u4 :: u5 :: u6 :: u7 :: u8 :: u9 :: u10 :: u11 :: u12 :: u13 :: .slice (some ⟨gv, 0, none⟩) 8 cv :: u15 :: u16 :: u17 :: .int .i64 0 :: u19 :: u20 :: u21 :: u22 :: u23 :: u24 :: u25 :: u26 :: u27 :: u28 :: u29 :: u30 :: u31 :: u32 :: u33 :: u34 :: u35 :: u36 :: u37 :: u38 :: u39 :: u40 :: u41 :: u42 :: u43 :: u44 :: u45 :: u46 :: u47 :: u48 :: u49 :: u50 :: u51 :: u52 :: u53 :: u54 :: u55 :: u56 :: u57 :: u58 :: u59 :: u60 :: u61 :: u62 :: u63 :: u64 :: u65 :: u66 :: u67 :: u68 :: u69 :: u70 :: u71 :: u72 :: u73 :: u74 :: u75 :: u76 :: u77 :: u78 :: u79 :: u80 :: u81 :: u82 :: u83 :: u84 :: u85 :: u86 :: u87 :: u88 :: u89 :: u90 :: u91 :: u92 :: u93 :: u94 :: u95 :: u96 :: u97 :: u98 :: u99 :: u100 :: u101 :: u102 :: u103 :: u104 :: u105 :: u106 :: u107 :: u108 :: u109 :: u110 :: u111 :: u112 :: u113 :: u114 :: u115 :: u116 :: u117 :: u118 :: u119 :: u120 :: u121 :: u122 :: u123 :: u124 :: u125 :: u126 :: u127 :: u128 :: u129 :: u130 :: u131 :: u132 :: u133 :: u134 :: u135 :: u136 :: u137 :: u138 :: u139 :: u140 :: u141 :: u142 :: u143 :: u144 :: u145 :: u146 :: u147 :: u148 :: u149 :: u150 :: u151 :: u152 :: u153 :: u154 :: u155 :: u156 :: u157 :: u158 :: u159 :: u160 :: u161 :: u162 :: u163 :: u164 :: u165 :: u166 :: u167 :: u168 :: u169 :: u170 :: u171 :: u172 :: u173 :: u174 :: u175 :: u176 :: u177 :: u178 :: u179 :: u180 :: u181 :: u182 :: u183 :: u184 :: u185 :: u186 :: u187 :: u188 :: u189 :: u190 :: u191 :: u192 :: u193 :: u194 :: u195 :: u196 :: u197 :: u198 :: u199 :: u200 :: u201 :: u202 :: u203 :: u204 :: u205 :: u206 :: u207 :: u208 :: u209 :: u210 :: u211 :: u212 :: u213 :: u214 :: u215 :: u216 :: u217 :: u218 :: u219 :: u220 :: u221 :: u222 :: u223 :: u224 :: u225 :: u226 :: u227 :: u228 :: u229 :: u230 :: u231 :: u232 :: u233 :: u234 :: u235 :: u236 :: u237 :: u238 :: u239 :: u240 :: u241 :: u242 :: u243 :: u244 :: u245 :: u246 :: u247 :: u248 :: u249 :: u250 :: u251 :: u252 :: u253 :: u254 :: u255 :: u256 :: u257 :: u258 :: u259 :: u260 :: u261 :: u262 :: u263 :: u264 :: u265 :: u266 :: u267 :: u268 :: u269 :: u270 :: u271 :: u272 :: u273 :: u274 :: u275 :: u276 :: u277 :: u278 :: u279 :: u280 :: u281 :: u282 :: u283 :: u284 :: u285 :: u286 :: u287 :: u288 :: u289 :: u290 :: u291 :: u292 :: u293 :: u294 :: u295 :: u296 :: u297 :: u298 :: u299 :: u300 :: u301 :: u302 :: u303 :: u304 :: u305 :: []), []⟩ wr := by
  conv => arg 2; whnf
  go_loopw [18] (fun i wr => ∃ k : Nat, i = .int .i64 (k : Int) ∧ k ≤ 8 ∧ Hid (VAt wr gv vs) ∧ Hid (OwnT wr (n0 + 3) (.slice (some ⟨g, 0, none⟩) n c) n PD) ∧ Hid (DSt n0 w wr (List.replicate 32 0) (zk hs vs.list k))) (fun i _ => 8 - (intOf i).toNat)
  case atStart => exact ⟨0, rfl, by omega, HV, HO, by rw [zk_zero]; exact HD⟩
  case round =>
    clear HV HO HD
    obtain ⟨k, rfl, hk, HV, HO, HD⟩ := hrel
    by_cases hkl : k < 8
    · have hzl : (zk hs vs.list k).length = 8 := by
        have := zk_len hs vs.list k hl.out rfl (by omega)
        unfold zk
        rw [List.length_append, this, List.length_drop, hl.out]
        omega
      have c0 := cell_map HD.out.sums (k := k) (by rw [hzl]; exact hkl)
      rw [zk_getD hs vs.list k hkl hzl rfl, ← hn1.out] at c0
      have f0 := frozen_of HD.out.sums k
      rw [← hn1.out] at f0
      have c1 := HV.out.at_ k hkl
      have HZ := Lib.hid (zk_succ hs vs.list k hkl hzl rfl)
      have b1 : (k : Int) < 8 := by omega
      have b2 : (0 : Int) ≤ (k : Int) := by omega
      generalize hs.getD k 0 = x at *
      generalize vs.list.getD k 0 = y at *
      go_wp2
      refine wp_region_still_tail 10 (by kernel_rfl) (by kernel_rfl) ?_
      simp only [List.take_succ_cons, List.take_zero, List.drop_succ_cons, List.drop_zero]
      refine wpStill_take (v := ?_) rfl ?_ ?_
      rotate_left
      focus (go_simp; first | done | with_reducible rfl)
      simp only [Act.put, List.setIfInBounds_toArray, List.set_cons_zero, List.set_cons_succ]
      refine wpStill_take (v := ?_) rfl ?_ ?_
      rotate_left
      focus (go_simp; first | done | with_reducible rfl)
      simp only [Act.put, List.setIfInBounds_toArray, List.set_cons_zero, List.set_cons_succ]
      refine wpStill_take (v := ?_) rfl ?_ ?_
      rotate_left
      focus (go_simp; first | done | with_reducible rfl)
      simp only [Act.put, List.setIfInBounds_toArray, List.set_cons_zero, List.set_cons_succ]
      refine wpStill_take (v := ?_) rfl ?_ ?_
      rotate_left
      focus (go_simp; first | done | with_reducible rfl)
      simp only [Act.put, List.setIfInBounds_toArray, List.set_cons_zero, List.set_cons_succ]
      refine wpStill_take (v := ?_) rfl ?_ ?_
      rotate_left
      focus (go_simp; first | done | with_reducible rfl)
      simp only [Act.put, List.setIfInBounds_toArray, List.set_cons_zero, List.set_cons_succ]
      refine wpStill_take (v := ?_) rfl ?_ ?_
      rotate_left
      focus (go_simp; first | done | with_reducible rfl)
      simp only [Act.put, List.setIfInBounds_toArray, List.set_cons_zero, List.set_cons_succ]
      refine wpStill_take (v := ?_) rfl ?_ ?_
      rotate_left
      focus (go_simp; first | done | with_reducible rfl)
      simp only [Act.put, List.setIfInBounds_toArray, List.set_cons_zero, List.set_cons_succ]
      refine wpStill_take (v := ?_) rfl ?_ ?_
      rotate_left
      focus (go_simp; first | done | with_reducible rfl)
      simp only [Act.put, List.setIfInBounds_toArray, List.set_cons_zero, List.set_cons_succ]
      refine wpStill_take (v := ?_) rfl ?_ ?_
      rotate_left
      focus (go_simp; first | done | with_reducible rfl)
      simp only [Act.put, List.setIfInBounds_toArray, List.set_cons_zero, List.set_cons_succ]
      refine wpStill_take (v := ?_) rfl ?_ ?_
      rotate_left
      focus (go_simp; first | done | with_reducible rfl)
      simp only [Act.put, List.setIfInBounds_toArray, List.set_cons_zero, List.set_cons_succ]
      refine wpStill_nil ?_
      clear b1 b2
      go_wp2
      refine ⟨⟨k + 1, by go_num, by omega, Lib.hid ?_, Lib.hid ?_, Lib.hid ?_⟩, by simp [intOf]; omega⟩
      · exact HV.out.setCell (by have := HG.out; have := hn1.out; simp only; omega) _
      · exact HO.out.keep (fun j _ hj => Below.heap_setCell _ _ _ _ (by have := hn1.out; simp only; omega))
      · rw [HZ.out, mod_add]
        exact dst_sum HD.out hn1.out k _
    · obtain rfl : k = 8 := by omega
      go_wp2
      exact ⟨HV, HO, HD⟩
end Go.Proofs.YtbpdeehpeflbeaaDoor
