/-
  An archive's classes.
  An archive's bytes, and its classes: plain facts.
-/
import Derived.Test.YtomlbfkkhhhfkaaDoorCsArc
namespace Go.Proofs.YtomlbfkkhhhfkaaDoor.Fc
open Go.RowKit
set_option linter.unusedVariables false

def rdT (L : Nat) (st : Pk.St) : List UInt8 × Pk.St := Pk.rText st (L : Int)
/-- an archive's texts -/
def unT (s : List UInt8) : List (List UInt8) × Pk.St := rdN (rdT s.length) (Pk.rMany ⟨s, false⟩ 200).1 (Pk.rMany ⟨s, false⟩ 200).2
def decF (t : List UInt8) : Fl := (rdFl ⟨t, false⟩).1
/-- an archive that is right -/
def UnOk (s : List UInt8) : Prop := (∀ t ∈ (unT s).1, DecOk t) ∧ Pk.rDone (unT s).2 = 0
theorem rtext_len (st : Pk.St) (most : Int) : (Pk.rText st most).1.length ≤ st.s.length ∧ (Pk.rText st most).2.s.length ≤ st.s.length := by
  refine ⟨?_, (cod_text most).len st⟩
  have := Pk.rMany_len st most
  unfold Pk.rText
  split
  · simp
  · simp only [List.length_take]; omega
theorem rdT_len (L : Nat) (k : Nat) (st : Pk.St) : (rdN (rdT L) k st).2.s.length ≤ st.s.length := by
  induction k with
  | zero => exact Nat.le_refl _
  | succ k ih => exact Nat.le_trans (rtext_len _ _).2 ih
theorem rdN_mem {α : Type} (p : Pk.St → α × Pk.St) (st : Pk.St) (k : Nat) : ∀ n, k < n → (p (rdN p k st).2).1 ∈ (rdN p n st).1 := by
  intro n
  induction n with
  | zero => omega
  | succ n ih =>
    intro h
    rw [show (rdN p (n + 1) st).1 = (rdN p n st).1 ++ [(p (rdN p n st).2).1] from rfl, List.mem_append, List.mem_singleton]
    rcases Nat.lt_or_ge k n with h' | h'
    · exact .inl (ih h')
    · obtain rfl : k = n := by omega
      exact .inr rfl
theorem done_02 (st : Pk.St) : Pk.rDone st = 0 ∨ Pk.rDone st = 2 := by
  unfold Pk.rDone
  split <;> simp
def GfR (x : FsP) (cs : List Value) : Prop := cs = encFl x
def FsO (B : Nat) (w : World) (ps : List FsP) : Prop := ∀ p ∈ ps, FlO B w p
theorem fls_of {B : Nat} {w : World} {ps : List FsP} {v : Value} (h : FsO B w ps) (hs : Sl w 10 GfR ps v) : Sl w 10 (FlR w) (ps.map FsP.fl) v := by
  obtain ⟨a, c, rfl, hl, hc, hk⟩ := hs
  refine ⟨a, c, by simp, by simpa using hl, hc, fun i x hi => ?_⟩
  rw [List.getElem?_map, Option.map_eq_some_iff] at hi
  obtain ⟨p, hp, rfl⟩ := hi
  obtain ⟨b, o, cs, ea, hcell, rfl⟩ := hk i p hp
  exact ⟨b, o, _, ea, hcell, (h p (List.mem_of_getElem? hp)).flr⟩
theorem FsO.keep {B : Nat} {w w' : World} {ps : List FsP} (h : FsO B w ps) (hk : Kf B w w') : FsO B w' ps := fun p hp => (h p hp).keep hk
theorem Kf.rat {B br : Nat} {w w' : World} {st : Pk.St} (hm : Mods (· = br) w w') (hr : Pk.RAt br w st) : Kf B w w' := Kf.mods hm (fun cur e a2 _ => rat_no hr e a2 cur)
theorem FsO.snoc {B : Nat} {w : World} {ps : List FsP} (h : FsO B w ps) {p : FsP} (hp : FlO B w p) : FsO B w (ps ++ [p]) := by
  intro x hx
  simp only [List.mem_append, List.mem_singleton] at hx
  rcases hx with hx | rfl
  · exact h x hx
  · exact hp
theorem rowgrown_below {B base n size : Nat} {v : Value} {w x y : World} {xs : List Value} {o : Obj} {e : TypeId} (hb : Below B w x) (hrow : x.ownsRow base e size v n xs) (hg : (x.alloc o).grownBy y v.ownBlock) (h : B ≤ base) (hB : B ≤ w.heap.size := by omega) : Below B w y := by
  have hx : Below B w (x.alloc o) := hb.alloc (Nat.le_trans hB hb.size) _
  refine ⟨hg.os.trans hx.os, hg.tape.trans hx.tape, hg.output.trans hx.output, Nat.le_trans hx.size hg.size, fun k hk => ?_⟩
  have h1 : k < (x.alloc o).heap.size := Nat.lt_of_lt_of_le hk (Nat.le_trans hB hx.size)
  rw [hg.block k h1 (fun e => by have := (World.ownsRow.lt hrow k e.symm).1; omega)]
  exact hx.block k hk
def UnV (s : List UInt8) (w : World) (e : Ending) (w' : World) : Prop :=
  ((∃ ps a n c, e = .returned (.tuple #[.slice a n c, .int .i64 0]) ∧ UnOk s ∧ ps.map FsP.fl = (unT s).1.map decF ∧ Sl w' 10 GfR ps (.slice a n c) ∧ FsO w.heap.size w' ps) ∨
   (e = .returned (.tuple #[.slice none 0 0, .int .i64 2]) ∧ ¬ UnOk s)) ∧ Below w.heap.size w w'
set_option maxHeartbeats 4000000 in
set_option maxRecDepth 100000 in
theorem unpack17 (s : List UInt8) (w : World) (hs : s.length ≤ 140737488355328) (hT : TabR w) :
    Calls Tryd.prog 17 #[.string ⟨s.toArray⟩] w (UnV s w) := by
  obtain ⟨i0, hi, hii⟩ : ∃ i, Tryd.prog.info? 35 = some i ∧ (i.size, i.bytes, i.zero.map (fun z => z.cells.size)) = (10, 224, some 10) := Option.map_eq_some_iff.1 (show (Tryd.prog.info? 35).map (fun i => (i.size, i.bytes, i.zero.map (fun z => z.cells.size))) = some (10, 224, some 10) by kernel_rfl)
  simp only [Prod.mk.injEq, Option.map_eq_some_iff] at hii
  obtain ⟨y1, y2, z, ez, y3⟩ := hii
  have HT := Lib.hid hT
  have HR := Lib.hid (Pk.read_any s w)
  have HSL := Lib.hid hs
  clear hT
  unfold UnV
  go_enter Tryd.func17, Tryd.ntmps17
  go_wp2_with fail
  refine HR.out.mono ?_
  rintro e w1 ⟨rfl, hw1⟩
  have hra : Pk.RAt w.heap.size w1 ⟨s, false⟩ := by rw [hw1]; exact Pk.RAt.new w s
  have hb1 : Below w.heap.size w w1 := by rw [hw1]; exact below1 w _
  have hsz1 : w1.heap.size = w.heap.size + 1 := by rw [hw1]; simp
  have HM := Lib.hid (Pk.rmany_any w.heap.size ⟨s, false⟩ 200 w1 hra hs)
  have HN := Lib.hid (rMany_le ⟨s, false⟩ 200)
  have HL := Lib.hid (Pk.rMany_len ⟨s, false⟩ 200)
  have HU : Hid (unT s = rdN (rdT s.length) (Pk.rMany ⟨s, false⟩ 200).1 (Pk.rMany ⟨s, false⟩ 200).2) := Lib.hid rfl
  generalize Pk.rMany ⟨s, false⟩ 200 = r at *
  obtain ⟨n, st1⟩ := r
  dsimp only at HM HN HL HU
  have hn : n ≤ 200 := by have := HN.out; omega
  have HLN : Hid (∀ k, (rdN (rdT s.length) k st1).2.s.length ≤ 140737488355328) := Lib.hid (fun k => Nat.le_trans (rdT_len _ k st1) (Nat.le_trans HL.out hs))
  obtain ⟨br, HBRE⟩ : ∃ b, Hid (b = w.heap.size) := ⟨_, Lib.hid rfl⟩
  have HB1 := Lib.hid hb1
  have hbr1 : br < w1.heap.size := by rw [HBRE.out, hsz1]; omega
  rw [← HBRE.out] at HM ⊢
  clear hw1 hra HR HN HL hb1 hsz1 hs
  go_wp2_with fail
  refine HM.out.mono ?_
  rintro e w2 ⟨rfl, hr2, ho2⟩
  have HR2 := Lib.hid hr2
  have HB2 : Hid (Below w.heap.size w w2) := Lib.hid (HB1.out.trans ((mods_on ho2).below (fun j e => by rw [e, HBRE.out]; exact Nat.le_refl _) (HB1.out.size)))
  clear hr2 ho2 HM HB1 hbr1
  go_wp2
  go_loopw [5, 13] (fun v i wr => ∃ (k : Nat) (ps : List FsP), k ≤ n ∧ i = .int .i64 k ∧ Hid (wr.ownsRow (br + 1) 35 10 v k (ps.flatMap encFl)) ∧ Hid (ps.map FsP.fl = (rdN (rdT s.length) k st1).1.map decF) ∧ Hid (∀ t ∈ (rdN (rdT s.length) k st1).1, DecOk t) ∧ Hid (FsO w.heap.size wr ps) ∧ (∃ a m c, v = .slice a m c) ∧ Hid (Pk.RAt br wr (rdN (rdT s.length) k st1).2) ∧ Hid (Below w.heap.size w wr)) (fun _ i _ => n - (intOf i).toNat)
  case atStart => exact ⟨0, [], Nat.zero_le _, rfl, Lib.hid (World.ownsRow_nil _ _ _ _), Lib.hid rfl, Lib.hid (by intro t ht; simp [rdN] at ht), Lib.hid (by intro p hp; simp at hp), ⟨_, _, _, rfl⟩, HR2, HB2⟩
  case round =>
    clear HR2 HB2
    obtain ⟨k, ps, hk, rfl, HO, HPS, HDK, HFS, ⟨a, m, c, rfl⟩, HR, HB⟩ := hrel
    by_cases hkl : k < n
    · have hrl := rtext_len (rdN (rdT s.length) k st1).2 (s.length : Int)
      have HP := Lib.hid (Pk.rtext_any br (rdN (rdT s.length) k st1).2 (s.length : Int) wr HR.out (HLN.out k))
      have HLT : Hid ((rdT s.length (rdN (rdT s.length) k st1).2).1.length ≤ 140737488355328) := Lib.hid (Nat.le_trans hrl.1 (HLN.out k))
      have HSN : Hid (rdN (rdT s.length) (k + 1) st1 = ((rdN (rdT s.length) k st1).1 ++ [(rdT s.length (rdN (rdT s.length) k st1).2).1], (rdT s.length (rdN (rdT s.length) k st1).2).2)) := Lib.hid rfl
      have HMEM := Lib.hid (rdN_mem (rdT s.length) st1 k n hkl)
      have HP' : Hid (Calls Tryd.prog 44 #[.pointer (some ⟨br, 0, none⟩), .int .i64 (s.length : Int)] wr fun e w' => e = .returned (.string ⟨(rdT s.length (rdN (rdT s.length) k st1).2).1.toArray⟩) ∧ Pk.RAt br w' (rdT s.length (rdN (rdT s.length) k st1).2).2 ∧ Pk.On br wr w') := HP
      clear HP hrl
      generalize rdT s.length (rdN (rdT s.length) k st1).2 = x at *
      obtain ⟨t, st2⟩ := x
      dsimp only at HP' HSN HMEM HLT
      go_wp2_with fail
      refine HP'.out.mono ?_
      rintro e w3 ⟨rfl, hr3, ho3⟩
      have hm3 := mods_on ho3
      have hs3 := hm3.size
      have HO3 := Lib.hid (row_mods HO.out hm3 (rat_no HR.out 35 (by decide)))
      have HFS3 := Lib.hid (HFS.out.keep (Kf.rat hm3 HR.out))
      have HB3 : Hid (Below w.heap.size w w3) := Lib.hid (HB.out.trans (hm3.below (fun j e => by rw [e, HBRE.out]; exact Nat.le_refl _) HB.out.size))
      have HR3 := Lib.hid hr3
      have HD := Lib.hid (decode14 t w3 HLT.out (HT.out.below HB3.out))
      clear hr3 ho3 hm3 HO HFS HB HR HP'
      go_wp2_with fail
      refine HD.out.mono ?_
      rintro e w4 ⟨hv, hb4⟩
      have HO4 := Lib.hid (row_below HO3.out hb4)
      have HFS4 := Lib.hid (HFS3.out.keep (Kf.below hb4))
      have HB4 : Hid (Below w.heap.size w w4) := Lib.hid (HB3.out.trans (hb4.mono HB3.out.size))
      have HR4 : Hid (Pk.RAt br w4 st2) := Lib.hid ((hb4.block br (rat_lt HR3.out)).trans HR3.out)
      have hbw : w.heap.size ≤ w3.heap.size := HB3.out.size
      have hs4 := hb4.size
      have hbr3 := rat_lt HR3.out
      clear hb4 HO3 HFS3 HB3 HR3 HD
      rcases hv with ⟨⟨fl, ⟨a1, n1, c1⟩, ⟨a2, n2, c2⟩, ⟨a3, n3, c3⟩, ⟨a4, n4, c4⟩, ⟨a5, n5, c5⟩, ⟨a6, n6, c6⟩, ⟨a7, n7, c7⟩, ⟨a8, n8, c8⟩⟩, he, hx, hok, hfo⟩ | ⟨rfl, hno⟩
      · have he' : e = .returned (.tuple #[.agg #[.string fl.fc.name, .string fl.fc.sup, .slice a1 n1 c1, .slice a2 n2 c2, .slice a3 n3 c3, .slice a4 n4 c4, .slice a5 n5 c5, .slice a6 n6 c6, .slice a7 n7 c7, .slice a8 n8 c8], .int .i64 0]) := he
        subst he'
        clear he
        have HX : Hid (fl = decF t) := Lib.hid hx
        have HOK := Lib.hid hok
        have HF4 : Hid (FlO w.heap.size w4 ⟨fl, (a1, n1, c1), (a2, n2, c2), (a3, n3, c3), (a4, n4, c4), (a5, n5, c5), (a6, n6, c6), (a7, n7, c7), (a8, n8, c8)⟩) := Lib.hid (hfo.mono hbw)
        clear hx hok hfo
        obtain ⟨W5, HW5⟩ : ∃ W, Hid (W = w4.alloc (.cells #[.string fl.fc.name, .string fl.fc.sup, .slice a1 n1 c1, .slice a2 n2 c2, .slice a3 n3 c3, .slice a4 n4 c4, .slice a5 n5 c5, .slice a6 n6 c6, .slice a7 n7 c7, .slice a8 n8 c8] 35)) := ⟨_, Lib.hid rfl⟩
        have X5 : Hid (Blk W5 w4.heap.size [.string fl.fc.name, .string fl.fc.sup, .slice a1 n1 c1, .slice a2 n2 c2, .slice a3 n3 c3, .slice a4 n4 c4, .slice a5 n5 c5, .slice a6 n6 c6, .slice a7 n7 c7, .slice a8 n8 c8] 35) := Lib.hid (by rw [HW5.out]; exact Blk.new w4 _ 35)
        have hb5 : Below w4.heap.size w4 W5 := by rw [HW5.out]; exact below1 w4 _
        have HO5 := Lib.hid (row_below HO4.out hb5)
        have HFS5 := Lib.hid (HFS4.out.keep (Kf.below hb5))
        have HF5 := Lib.hid (HF4.out.keep (Kf.below hb5))
        have HB5 : Hid (Below w.heap.size w W5) := Lib.hid (HB4.out.trans (hb5.mono HB4.out.size))
        have HR5 : Hid (Pk.RAt br W5 st2) := Lib.hid ((hb5.block br (rat_lt HR4.out)).trans HR4.out)
        have hs5 := hb5.size
        obtain ⟨B5, HB5E⟩ : ∃ b, Hid (b = w4.heap.size) := ⟨_, Lib.hid rfl⟩
        rw [← HB5E.out] at X5 hs4 hs5
        go_upto_region 6 with fail
        rw [← HW5.out, ← HB5E.out]
        clear HW5 HB5E hb5 HO4 HFS4 HF4 HB4 HR4
        have XX := X5.out
        have q0 := XX.cell 0
        have q1 := XX.cell 1
        have q2 := XX.cell 2
        have q3 := XX.cell 3
        have q4 := XX.cell 4
        have q5 := XX.cell 5
        have q6 := XX.cell 6
        have q7 := XX.cell 7
        have q8 := XX.cell 8
        have q9 := XX.cell 9
        simp only [List.getElem?_cons_succ, List.getElem?_cons_zero] at q0 q1 q2 q3 q4 q5 q6 q7 q8 q9
        clear XX
        go_wp2_with (at_builtin; refine wpList_append_own _ rfl (.tmp 26) (.tmp 28) 46 rfl (br + 1) 35 i0 z 10 224 Tryd.underlying46 hi ez y1 y2 y3 (by decide) _ _ _ rfl (HO5.out.alloc _) ⟨W5.heap.size, 0, none⟩ 1 1 [.string fl.fc.name, .string fl.fc.sup, .slice a1 n1 c1, .slice a2 n2 c2, .slice a3 n3 c3, .slice a4 n4 c4, .slice a5 n5 c5, .slice a6 n6 c6, .slice a7 n7 c7, .slice a8 n8 c8] rfl rfl ?c1 ?c2 ?c3 ?c4 ?c5 ?_)
        case c1 =>
          intro j u hu
          rw [add_pl, Nat.zero_add]
          exact ((Blk.new W5 [.string fl.fc.name, .string fl.fc.sup, .slice a1 n1 c1, .slice a2 n2 c2, .slice a3 n3 c3, .slice a4 n4 c4, .slice a5 n5 c5, .slice a6 n6 c6, .slice a7 n7 c7, .slice a8 n8 c8] 35).cell j).trans hu
        case c2 => simp [Value.oneCell']
        case c3 => unfold maxLen; omega
        case c4 => omega
        case c5 => simp; omega
        intro v' w6 hown' hgrow hnil
        have hb6 := Kf.grown (B := w.heap.size) HO5.out hgrow
        have HFS6 : Hid (FsO w.heap.size w6 (ps ++ [(⟨fl, (a1, n1, c1), (a2, n2, c2), (a3, n3, c3), (a4, n4, c4), (a5, n5, c5), (a6, n6, c6), (a7, n7, c7), (a8, n8, c8)⟩ : FsP)])) := Lib.hid ((HFS5.out.keep hb6).snoc (HF5.out.keep hb6))
        have HR6 : Hid (Pk.RAt br w6 (rdN (rdT s.length) (k + 1) st1).2) := Lib.hid (by rw [HSN.out]; exact rat_grown HR5.out HO5.out hgrow (by omega))
        have HB6 : Hid (Below w.heap.size w w6) := Lib.hid (rowgrown_below HB5.out HO5.out hgrow (by rw [HBRE.out]; omega))
        have HPS6 : Hid ((ps ++ [(⟨fl, (a1, n1, c1), (a2, n2, c2), (a3, n3, c3), (a4, n4, c4), (a5, n5, c5), (a6, n6, c6), (a7, n7, c7), (a8, n8, c8)⟩ : FsP)]).map FsP.fl = (rdN (rdT s.length) (k + 1) st1).1.map decF) := Lib.hid (by rw [HSN.out, List.map_append, List.map_append, HPS.out, ← show [fl] = [t].map decF by rw [HX.out]; rfl]; rfl)
        have HDK6 : Hid (∀ t ∈ (rdN (rdT s.length) (k + 1) st1).1, DecOk t) := Lib.hid (by
          rw [HSN.out]
          intro y hy
          simp only [List.mem_append, List.mem_singleton] at hy
          rcases hy with hy | rfl
          · exact HDK.out y hy
          · exact HOK.out)
        obtain ⟨A, m', c'', rfl⟩ := Pk.row_shape hown'
        have HO6 : Hid (w6.ownsRow (br + 1) 35 10 (.slice A m' c'') (k + 1) ((ps ++ [(⟨fl, (a1, n1, c1), (a2, n2, c2), (a3, n3, c3), (a4, n4, c4), (a5, n5, c5), (a6, n6, c6), (a7, n7, c7), (a8, n8, c8)⟩ : FsP)]).flatMap encFl)) := Lib.hid (by rw [List.flatMap_append, List.flatMap_singleton]; exact hown')
        clear hown' hgrow hnil hb6 HO5 HFS5 HF5 HB5 HR5 HX HOK HSN HMEM HPS HDK q0 q1 q2 q3 q4 q5 q6 q7 q8 q9 X5
        go_wp2
        go_roundw
        case rel => exact ⟨k + 1, _, by omega, by go_num, HO6, HPS6, HDK6, HFS6, ⟨_, _, _, rfl⟩, HR6, HB6⟩
        case measure => simp [intOf]; omega
      · have HNO : Hid (¬ UnOk s) := Lib.hid (fun h => hno (h.1 t (by rw [HU.out]; exact HMEM.out)))
        clear hno
        go_wp2_with fail
        exact bodyPost_ret (v := .tuple #[.slice none 0 0, .int .i64 2]) (by simp [results, Tryd.results17, go_sem]) rfl ⟨.inr ⟨rfl, HNO.out⟩, bl_al' HB4.out⟩
    · obtain rfl : k = n := by omega
      have hpl : ps.length = k := by have := congrArg List.length HPS.out; rw [List.length_map, List.length_map, rdN_count] at this; exact this
      obtain ⟨a', c'', e1, hsl, hown⟩ := row_sl (enc := encFl) (fun _ => rfl) hpl HO.out
      have HSL' := Lib.hid hsl
      cases e1
      have HDN := Lib.hid (Pk.done_any br _ wr HR.out)
      have h02 := done_02 (rdN (rdT s.length) k st1).2
      have HUU : Hid (Pk.rDone (rdN (rdT s.length) k st1).2 = 0 → UnOk s) := Lib.hid (fun h => ⟨by rw [HU.out]; exact HDK.out, by rw [HU.out]; exact h⟩)
      have HUN : Hid (Pk.rDone (rdN (rdT s.length) k st1).2 = 2 → ¬ UnOk s) := Lib.hid (fun h hu => by have h2 := hu.2; rw [HU.out] at h2; rw [h] at h2; cases h2)
      have HPM : Hid (ps.map FsP.fl = (unT s).1.map decF) := Lib.hid (by rw [HU.out]; exact HPS.out)
      clear hsl hown HO hpl HPS HDK
      generalize Pk.rDone (rdN (rdT s.length) k st1).2 = d at *
      go_wp2_with fail
      refine HDN.out.mono ?_
      rintro e w3 ⟨rfl, rfl⟩
      rcases h02 with rfl | rfl
      · have HK := Lib.hid (HUU.out rfl)
        clear HUU HUN HDN
        go_wp2
        exact bodyPost_ret (v := .tuple #[.slice a k c, .int .i64 0]) (by simp [results, Tryd.results17, go_sem]) rfl ⟨.inl ⟨ps, _, _, _, rfl, HK.out, HPM.out, HSL'.out, HFS.out⟩, HB.out⟩
      · have HK := Lib.hid (HUN.out rfl)
        clear HUU HUN HDN
        go_wp2
        exact bodyPost_ret (v := .tuple #[.slice none 0 0, .int .i64 2]) (by simp [results, Tryd.results17, go_sem]) rfl ⟨.inr ⟨rfl, HK.out⟩, HB.out⟩
end Go.Proofs.YtomlbfkkhhhfkaaDoor.Fc
namespace Go.Proofs.YtomlbfkkhhhfkaaDoor.Fc
set_option linter.unusedVariables false

theorem done0 {st : Pk.St} (h : Pk.rDone st = 0) : st = ⟨[], false⟩ := by
  unfold Pk.rDone at h
  split at h
  · rename_i hc
    obtain ⟨s, b⟩ := st
    simp only at hc
    rw [hc.1, hc.2]
  · cases h
theorem un_rd (s : List UInt8) : unT s = rdMany (rdT s.length) 200 ⟨s, false⟩ := rfl
theorem cod_un (L : Nat) : Cod (rdMany (rdT L) 200) (manyB Pk.textB) (fun xs => (xs.length < 9223372036854775808 ∧ (xs.length : Int) ≤ max 200 0) ∧ ∀ x ∈ xs, (x.length < 9223372036854775808 ∧ (x.length : Int) ≤ max (L : Int) 0)) :=
  (cod_text (L : Int)).many (fun t => textB_pos t) 200
theorem arcB_eq (xs : List Fl) : arcB xs = manyB Pk.textB (xs.map flB) := by
  unfold arcB manyB Pk.encI
  rw [List.length_map, List.flatMap_map, Int.toNat_natCast]
  rfl
theorem dec_map {ts : List (List UInt8)} (h : ∀ t ∈ ts, DecOk t) : (ts.map decF).map flB = ts := by
  induction ts with
  | nil => rfl
  | cons t ts ih =>
    simp only [List.map_cons]
    rw [ih (fun y hy => h y (by simp [hy]))]
    have := (h t (by simp)).2
    rw [show flB (decF t) = t from this]
/-- what is unpacked is archived again as it was -/
theorem un_sound {s : List UInt8} (h : UnOk s) : arcB ((unT s).1.map decF) = s ∧ (unT s).1.length ≤ 200 := by
  obtain ⟨h1, h2⟩ := h
  have hd := done0 h2
  rw [un_rd] at hd
  have hs := (cod_un s.length).sound s (by rw [hd])
  rw [hd, List.append_nil, ← un_rd] at hs
  refine ⟨?_, by have := hs.2.1.2; omega⟩
  rw [arcB_eq, dec_map h1]
  exact hs.1.symm
theorem dec_of {f : Fl} (h : RightF f) (hn : ∀ z ∈ f.nu, OkI z) : DecOk (flB f) ∧ decF (flB f) = f := by
  have hb := fl_back h hn []
  rw [List.append_nil] at hb
  have he : decF (flB f) = f := by unfold decF; rw [hb]
  refine ⟨⟨?_, ?_⟩, he⟩
  · rw [show (rdFl ⟨flB f, false⟩).1 = decF (flB f) from rfl, he]; exact h
  · rw [show (rdFl ⟨flB f, false⟩).1 = decF (flB f) from rfl, he]
theorem mem_flat {α : Type} (e : α → List UInt8) {xs : List α} {x : α} (h : x ∈ xs) : (e x).length ≤ (xs.flatMap e).length := by
  induction xs with
  | nil => cases h
  | cons y ys ih =>
    simp only [List.flatMap_cons, List.length_append]
    rcases List.mem_cons.1 h with rfl | h
    · omega
    · have := ih h; omega
theorem un_read {xs : List Fl} (hr : ∀ f ∈ xs, RightF f ∧ ∀ z ∈ f.nu, OkI z) (hl : xs.length ≤ 200) (L : Nat) (hL : (arcB xs).length ≤ L) (r : List UInt8) : rdMany (rdT L) 200 ⟨arcB xs ++ r, false⟩ = (xs.map flB, ⟨r, false⟩) := by
  rw [arcB_eq]
  refine (cod_un L).back _ _ ⟨⟨by rw [List.length_map]; omega, by rw [List.length_map]; omega⟩, fun t ht => ?_⟩
  have h1 := mem_flat Pk.textB ht
  obtain ⟨f, hf, rfl⟩ := List.mem_map.1 ht
  have h2 := fl_le (hr f hf).1 (hr f hf).2
  rw [arcB_eq] at hL
  unfold manyB at hL
  rw [List.length_append] at hL
  have h3 : (flB f).length ≤ (Pk.textB (flB f)).length := by unfold Pk.textB; rw [List.length_append]; omega
  exact ⟨by omega, by omega⟩
theorem un_back {xs : List Fl} (hr : ∀ f ∈ xs, RightF f ∧ ∀ z ∈ f.nu, OkI z) (hl : xs.length ≤ 200) : UnOk (arcB xs) ∧ (unT (arcB xs)).1.map decF = xs := by
  have h := un_read hr hl (arcB xs).length (Nat.le_refl _) []
  rw [List.append_nil, ← un_rd] at h
  refine ⟨⟨?_, ?_⟩, ?_⟩
  · rw [h]
    intro t ht
    obtain ⟨f, hf, rfl⟩ := List.mem_map.1 ht
    exact (dec_of (hr f hf).1 (hr f hf).2).1
  · rw [h]; rfl
  · rw [h, List.map_map]
    have : ∀ ys : List Fl, (∀ f ∈ ys, RightF f ∧ ∀ z ∈ f.nu, OkI z) → ys.map (decF ∘ flB) = ys := by
      intro ys
      induction ys with
      | nil => intro _; rfl
      | cons y ys ih => intro hy; simp only [List.map_cons, Function.comp]; rw [(dec_of (hy y (by simp)).1 (hy y (by simp)).2).2]; congr 1; exact ih (fun f hf => hy f (by simp [hf]))
    exact this xs hr
theorem decs_ok (ts : List (List UInt8)) : ∀ f ∈ ts.map decF, ∀ z ∈ f.nu, OkI z := by
  intro f hf
  obtain ⟨t, _, rfl⟩ := List.mem_map.1 hf
  exact rdfl_ok _
theorem decs_right {s : List UInt8} (h : UnOk s) : ∀ f ∈ (unT s).1.map decF, RightF f := by
  intro f hf
  obtain ⟨t, ht, rfl⟩ := List.mem_map.1 hf
  exact (h.1 t ht).1
theorem arcB_len {xs : List Fl} (hr : ∀ f ∈ xs, RightF f ∧ ∀ z ∈ f.nu, OkI z) (hl : xs.length ≤ 200) : (arcB xs).length ≤ 140737488355328 := by
  have h1 := arcs_le xs hr
  have h2 := Pk.encI_len (xs.length : Int) (by omega)
  unfold arcB
  rw [List.length_append]
  have h3 : xs.length * 50000000009 ≤ 200 * 50000000009 := Nat.mul_le_mul_right _ hl
  omega
end Go.Proofs.YtomlbfkkhhhfkaaDoor.Fc
