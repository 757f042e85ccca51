/-
  Several methods, as they are read.
-/
import Derived.Test.YtomlbfkkhhhfkaaDoorFcSig
namespace Go.Proofs.YtomlbfkkhhhfkaaDoor.Fc
open Go.RowKit
set_option linter.unusedVariables false

/-- methods whose parameters lie in memory of their own -/
def PsR (B : Nat) (w : World) (ps : List SgP) : Prop := ∀ p ∈ ps, Sl w 2 TyR p.1.ps (.slice p.2.1 p.2.2.1 p.2.2.2) ∧ Own B w 60 p.2.1
theorem PsR.keep {B : Nat} {w w' : World} {ps : List SgP} (h : PsR B w ps) (hk : ∀ b cur, B ≤ b → w.heap[b]? = some (.cells cur 60 (0, 0)) → w'.heap[b]? = w.heap[b]?) : PsR B w' ps := by
  intro p hp
  obtain ⟨hs, ho⟩ := h p hp
  refine ⟨?_, fun ad ha => ?_⟩
  · obtain ⟨hn, hl, hc, hkk⟩ := hs.at
    refine ⟨p.2.1, p.2.2.2, by rw [hn], by omega, hc, fun i x hi => ?_⟩
    obtain ⟨b, o, cs, ea, hcell, hr⟩ := hkk i x hi
    obtain ⟨b', e1, h1, cur, h2⟩ := ho _ ea
    cases e1
    refine ⟨b, 0, cs, ea, fun j v hv => ?_, hr⟩
    rw [World.cell?_of_block (w := w) (hk b cur h1 h2)]
    exact hcell j v hv
  · obtain ⟨b, e1, h1, cur, h2⟩ := ho ad ha
    exact ⟨b, e1, h1, cur, (hk b cur h1 h2).trans h2⟩
theorem PsR.mods {B q : Nat} {w w' : World} {ps : List SgP} (h : PsR B w ps) (hm : Mods (· = q) w w') (hq : q < B ∨ ∀ cur, w.heap[q]? ≠ some (.cells cur 60 (0, 0))) : PsR B w' ps :=
  h.keep (fun b cur hb hc => hm.block b (lt_of_block hc) (fun e => by
    rcases hq with hq | hq
    · omega
    · exact hq cur (by rw [← e]; exact hc)))
theorem PsR.snoc {B : Nat} {w : World} {ps : List SgP} (h : PsR B w ps) {p : SgP} (hs : Sl w 2 TyR p.1.ps (.slice p.2.1 p.2.2.1 p.2.2.2)) (ho : Own B w 60 p.2.1) : PsR B w (ps ++ [p]) := by
  intro x hx
  simp only [List.mem_append, List.mem_singleton] at hx
  rcases hx with hx | rfl
  · exact h x hx
  · exact ⟨hs, ho⟩
theorem PsR.grown {B base n size : Nat} {v : Value} {x y : World} {xs : List Value} {o : Obj} {ps : List SgP} (h : PsR B x ps) (hrow : x.ownsRow base 63 size v n xs) (hg : (x.alloc o).grownBy y v.ownBlock) : PsR B y ps :=
  h.keep (fun b cur hb hc => by
    have hlt := lt_of_block hc
    rw [hg.block b (by simp; omega) (fun e => by
      rcases hrow.2 with ⟨h0, _⟩ | ⟨g, cap, cur', h0, _, h2, _⟩
      · rw [h0] at e; simp [Value.ownBlock] at e
      · rw [h0] at e
        simp [Value.ownBlock] at e
        subst e
        rw [hc] at h2
        cases h2), Below.heap_alloc _ _ _ hlt])
theorem sgs_of {B : Nat} {w : World} {ps : List SgP} {a : Option Addr} {n c : Nat} (h : PsR B w ps) (hs : Sl w 5 GpR ps (.slice a n c)) : Sl w 5 (SgR w) (ps.map Prod.fst) (.slice a n c) := by
  obtain ⟨hn, hl, hc, hk⟩ := hs.at
  refine ⟨a, c, by simp [hn], by simp; omega, hc, fun i x hi => ?_⟩
  rw [List.getElem?_map, Option.map_eq_some_iff] at hi
  obtain ⟨p, hp, rfl⟩ := hi
  obtain ⟨b, o, cs, ea, hcell, rfl⟩ := hk i p hp
  exact ⟨b, o, _, ea, hcell, p.2.1, p.2.2.1, p.2.2.2, rfl, (h p (List.mem_of_getElem? hp)).1⟩

set_option maxHeartbeats 2000000 in
set_option maxRecDepth 100000 in
theorem many44 (br : Nat) (st : Pk.St) (w : World) (h : Pk.RAt br w st) (hs : st.s.length ≤ 140737488355328) :
    Calls Tryd.prog 84 #[.pointer (some ⟨br, 0, none⟩), .func (.func 85) #[] #[]] w fun e w' => ∃ a n c ps, e = .returned (.slice a n c) ∧ Sl w' 5 GpR ps (.slice a n c) ∧ ps.map Prod.fst = (rdMany (rdSg 40 200) 200 st).1 ∧ PsR w.heap.size w' ps ∧ Own w.heap.size w' 63 a ∧ Pk.RAt br w' (rdMany (rdSg 40 200) 200 st).2 ∧ Mods (· = br) w w' := by
  obtain ⟨i0, hi, hii⟩ : ∃ i, Tryd.prog.info? 63 = some i ∧ (i.size, i.bytes, i.zero.map (fun z => z.cells.size)) = (5, 72, some 5) := Option.map_eq_some_iff.1 (show (Tryd.prog.info? 63).map (fun i => (i.size, i.bytes, i.zero.map (fun z => z.cells.size))) = some (5, 72, some 5) by kernel_rfl)
  simp only [Prod.mk.injEq, Option.map_eq_some_iff] at hii
  obtain ⟨z1, z2, z, ez, z3⟩ := hii
  have hlt := rat_lt h
  have H1 := Lib.hid (Pk.rmany_any br st 200 w h hs)
  have HL := Lib.hid (Pk.rMany_len st 200)
  have HN := Lib.hid (rMany_le st 200)
  have HE : Hid (rdMany (rdSg 40 200) 200 st = rdN (rdSg 40 200) (Pk.rMany st 200).1 (Pk.rMany st 200).2) := Lib.hid rfl
  rw [HE.out]
  generalize Pk.rMany st 200 = r at *
  obtain ⟨n, st1⟩ := r
  dsimp only at H1 HL HN HE ⊢
  have hn : n ≤ 200 := by have := HN.out; omega
  have HLN : Hid (∀ k, (rdN (rdSg 40 200) k st1).2.s.length ≤ 140737488355328) := Lib.hid (fun k => Nat.le_trans (rdN_len (cod_sg 40 200) k st1) (Nat.le_trans HL.out hs))
  have HQ : Hid (∀ w' : World, w'.ownsRow w.heap.size 63 5 (.slice none 0 0) 0 (([] : List SgP).flatMap encG)) := Lib.hid (fun w' => World.ownsRow_nil _ _ _ _)
  clear h HL HE HN
  go_enter Tryd.func84, Tryd.ntmps84
  go_wp2_with (go_at_call 43; refine H1.out.mono ?_; rintro e w1 ⟨rfl, hr1, ho1⟩)
  have HM1 := Lib.hid (mods_on ho1)
  have HR1 := Lib.hid hr1
  clear hr1 ho1 H1
  go_loopw [5, 8] (fun v i wr => ∃ (k : Nat) (ps : List SgP), k ≤ n ∧ i = .int .i64 k ∧ Hid (wr.ownsRow w.heap.size 63 5 v k (ps.flatMap encG)) ∧ Hid (ps.map Prod.fst = (rdN (rdSg 40 200) k st1).1) ∧ Hid (PsR w.heap.size wr ps) ∧ (∃ a m c, v = .slice a m c) ∧ Hid (Pk.RAt br wr (rdN (rdSg 40 200) k st1).2) ∧ Mods (· = br) w wr) (fun _ i _ => n - (intOf i).toNat)
  case atStart => exact ⟨0, [], Nat.zero_le _, rfl, Lib.hid (HQ.out w1), Lib.hid rfl, Lib.hid (by intro p hp; simp at hp), ⟨_, _, _, rfl⟩, HR1, HM1.out⟩
  case round =>
    clear HR1 HM1
    obtain ⟨k, ps, hk, rfl, HO, HPS, HPR, ⟨a, m, c, rfl⟩, HR, hm⟩ := hrel
    have hsr := hm.size
    by_cases hkl : k < n
    · have HP := Lib.hid (sig45 br (rdN (rdSg 40 200) k st1).2 wr HR.out (HLN.out k))
      have HSN : Hid (rdN (rdSg 40 200) (k + 1) st1 = ((rdN (rdSg 40 200) k st1).1 ++ [(rdSg 40 200 (rdN (rdSg 40 200) k st1).2).1], (rdSg 40 200 (rdN (rdSg 40 200) k st1).2).2)) := Lib.hid rfl
      generalize rdN (rdSg 40 200) k st1 = q at *
      generalize rdSg 40 200 q.2 = x at *
      obtain ⟨x, st2⟩ := x
      dsimp only at HP HSN
      go_wp2_with (first
        | (go_at_call 85; refine HP.out.mono ?_; rintro e w2 ⟨a', n', c', rfl, hsl2, hown2, hr2, hm2⟩; have hrow2 := row_mods HO.out hm2 (rat_no HR.out 63 (by decide)); have hs2 := hm2.size)
        | (at_builtin; refine wpList_append_own _ rfl (.tmp 10) (.tmp 14) 23 rfl w.heap.size 63 i0 z 5 72 Tryd.underlying23 hi ez z1 z2 z3 (by decide) _ _ _ rfl (hrow2.alloc _) ⟨w2.heap.size, 0, none⟩ 1 1 [.string x.name, .bool x.st, .slice a' n' c', .string x.rn, .bool x.ra] rfl rfl ?c1 ?c2 ?c3 ?c4 ?c5 ?_))
      case c1 =>
        intro j u hu
        rw [add_pl, Nat.zero_add]
        exact ((Blk.new w2 [.string x.name, .bool x.st, .slice a' n' c', .string x.rn, .bool x.ra] 63).cell j).trans hu
      case c2 => simp [Value.oneCell']
      case c3 => unfold maxLen; omega
      case c4 => omega
      case c5 => simp; omega
      intro v' w3 hown' hgrow hnil
      have hmm := hm.trans hm2 (fun _ _ e => e) (fun _ _ e => e)
      have HM3 := Lib.hid (mods_grown hmm hrow2 hgrow (Nat.le_refl _))
      have HR3 := Lib.hid (rat_grown hr2 hrow2 hgrow hlt)
      have HP3 : Hid (PsR w.heap.size w3 (ps ++ [(x, a', n', c')])) := Lib.hid (PsR.grown (PsR.snoc (HPR.out.mods hm2 (.inr (rat_no HR.out 60 (by decide)))) (p := (x, a', n', c')) hsl2 (own_mono hown2 hsr)) hrow2 hgrow)
      have HPS3 : Hid ((ps ++ [((x, a', n', c') : SgP)]).map Prod.fst = (rdN (rdSg 40 200) (k + 1) st1).1) := Lib.hid (by rw [HSN.out, List.map_append, HPS.out]; rfl)
      obtain ⟨A, m', c'', rfl⟩ := Pk.row_shape hown'
      have HO3 : Hid (w3.ownsRow w.heap.size 63 5 (.slice A m' c'') (k + 1) ((ps ++ [((x, a', n', c') : SgP)]).flatMap encG)) := Lib.hid (by rw [List.flatMap_append, List.flatMap_singleton]; exact hown')
      have HR4 : Hid (Pk.RAt br w3 (rdN (rdSg 40 200) (k + 1) st1).2) := Lib.hid (by rw [HSN.out]; exact HR3.out)
      clear hown' hgrow hnil hrow2 hr2 hm2 HO HR HP hsl2 hown2 HPR HPS
      go_wp2
      go_roundw
      case rel => exact ⟨k + 1, _, by omega, by go_num, HO3, HPS3, HP3, ⟨_, _, _, rfl⟩, HR4, HM3.out⟩
      case measure => simp [intOf]; omega
    · obtain rfl : k = n := by omega
      have hpl : ps.length = k := by have := congrArg List.length HPS.out; rw [List.length_map, rdN_count] at this; exact this
      obtain ⟨a', c'', e1, hsl, hown⟩ := row_sl (enc := encG) (fun _ => rfl) hpl HO.out
      have HSL := Lib.hid hsl
      have HOW := Lib.hid hown
      cases e1
      clear hsl hown HO hpl
      go_wp2
      go_ret
      exact ⟨_, _, _, ps, rfl, HSL.out, HPS.out, HPR.out, HOW.out, HR.out, hm⟩
end Go.Proofs.YtomlbfkkhhhfkaaDoor.Fc
