/-
  Which class's field, or method, it is.
-/
import Derived.Test.YthimpjfmelmhpaaDoorFcFld
import Derived.Test.YthimpjfmelmhpaaDoorFcFace
namespace Go.Proofs.YthimpjfmelmhpaaDoor.Fc
open Go.RowKit
set_option linter.unusedVariables false

def fOne (L : List Fc) (s : ByteArray) (c : ByteArray) : Option (ByteArray × Ty) := (fldF ((fnd L c).getD zF).fs s).map (fun t => (c, t))
def fldOf (L : List Fc) (cls : List ByteArray) (s : ByteArray) : Option (ByteArray × Ty) := cls.findSome? (fOne L s)
def mOne (L : List Fc) (s : ByteArray) (st : Bool) (c : ByteArray) : Option (ByteArray × Sg) := match mthF ((fnd L c).getD zF).ms s with
  | none => none
  | some m => if m.st = st then some (c, m) else none
def mthOf (L : List Fc) (cls : List ByteArray) (s : ByteArray) (st : Bool) : Option (ByteArray × Sg) := cls.findSome? (mOne L s st)
theorem some_at' {α β : Type} {l : List α} {f : α → Option β} {k : Nat} {x : α} {y : β} (hx : l[k]? = some x) (hn : ∀ z ∈ l.take k, f z = none) (hp : f x = some y) : l.findSome? f = some y := by
  have hk : k < l.length := (List.getElem?_eq_some_iff.1 hx).1
  have e : l = l.take k ++ x :: l.drop (k + 1) := by
    have := List.drop_eq_getElem_cons hk
    rw [(List.getElem?_eq_some_iff.1 hx).2] at this
    rw [← this, List.take_append_drop]
  rw [e, List.findSome?_append, List.findSome?_eq_none_iff.2 hn]
  simp [hp]
theorem some_no {α β : Type} {l : List α} {f : α → Option β} {k : Nat} (hk : l.length ≤ k) (hn : ∀ z ∈ l.take k, f z = none) : l.findSome? f = none := by
  rw [List.take_of_length_le hk] at hn
  exact List.findSome?_eq_none_iff.2 hn

theorem out2' {wr : World} {q : Nat} {u0 u1 : Value} (v0 v1 : Value) (hB : Blk wr q [u0, u1] 49) :
    Blk ((wr.setCell ⟨q, 0, none⟩ v0).setCell ⟨q, 1, none⟩ v1) q [v0, v1] 49 ∧ Mods (· = q) wr ((wr.setCell ⟨q, 0, none⟩ v0).setCell ⟨q, 1, none⟩ v1) :=
  ⟨(hB.set 0 v0).set 1 v1, ((Mods.refl (· = q) wr).setCell (p := ⟨q, 0, none⟩) (.inl rfl) _).setCell (p := ⟨q, 1, none⟩) (.inl rfl) _⟩
theorem Tb.blk_ne {B : Nat} {w : World} {tb fm : Nat} {sv : Value} {c : Nat} {L : List Fc} {q : Nat} {cs : List Value} {t : TypeId} (h : Tb B w tb fm sv c L) (hb : Blk w q cs t) : sv ≠ .map (some q) := by
  intro e
  rcases h.seen with e' | ⟨m, S, e', hS, _⟩
  · rw [e] at e'; cases e'
  · rw [e] at e'
    injection e' with e'
    injection e' with e'
    subst e'
    obtain ⟨D, ⟨es, clock, hb', _⟩, _⟩ := hS
    have : w.heap[q]? = some (.cells cs.toArray t (0, 0)) := hb
    rw [hb'] at this
    cases this

/-- a way along classes -/
structure FInv (B tb fm : Nat) (L : List Fc) (w : World) (sv0 : Value) (c0 : Nat) (cls : List ByteArray) (v : Value) (z : List Value) (zt : TypeId) (wr : World) (sv : Value) (c k : Nat) : Prop where
  tab : Tb B wr tb fm sv c L
  stp : Stp tb w sv0 wr sv
  cnt : c ≤ c0 + k
  names : Sl wr 1 StrR cls v
  tlo : tb < w.heap.size
  own : Blk wr w.heap.size z zt
section
variable {B tb fm : Nat} {L : List Fc} {w : World} {sv0 : Value} {c0 : Nat} {cls : List ByteArray} {v : Value} {z : List Value} {zt : TypeId} {wr : World} {sv : Value} {c k : Nat}
theorem FInv.below {w1 : World} (h : FInv B tb fm L w sv0 c0 cls v z zt wr sv c k) (hb : Below wr.heap.size wr w1) : FInv B tb fm L w sv0 c0 cls v z zt w1 sv c k :=
  ⟨h.tab.below hb, h.stp.post hb, h.cnt, strs_keep (Keeps.of_below hb) h.names, h.tlo, h.own.below hb⟩
theorem FInv.looked {w1 : World} {sv2 : Value} {c2 : Nat} (h : FInv B tb fm L w sv0 c0 cls v z zt wr sv c k) (hT2 : Tb B w1 tb fm sv2 c2 L) (hs2 : Stp tb wr sv w1 sv2) (hc2 : c2 ≤ c + 1) : FInv B tb fm L w sv0 c0 cls v z zt w1 sv2 c2 (k + 1) :=
  ⟨hT2, h.stp.trans hs2, by have := h.cnt; omega, strs_keep hs2.keeps h.names, h.tlo, h.own.keep hs2.mods (fun e => by
    rcases e with e | e
    · have := h.tlo; omega
    · exact h.tab.blk_ne h.own e)⟩
theorem FInv.fin {z' : World} (h0 : Tb B w tb fm sv0 c0 L) (h : FInv B tb fm L w sv0 c0 cls v z zt wr sv c k) (hM : Mods (· = w.heap.size) wr z') : Tb B z' tb fm sv c L ∧ Stp tb w sv0 z' sv :=
  ⟨h0.own h.tab h.stp hM (fun k e => by omega) (fun j e e' => h.tab.blk_ne h.own (by rw [e, e'])), h.stp.own hM (fun k e => by omega)⟩
end
/-- what a table tells of a field -/
def FPost (B tb fm : Nat) (L : List Fc) (o : Option (ByteArray × Ty)) (w : World) (sv : Value) (c j : Nat) (e : Ending) (w' : World) : Prop :=
  ∃ sv' c', e = .returned (.tuple #[.string (o.getD (eE, zT)).1, tyV (o.getD (eE, zT)).2, .bool o.isSome]) ∧ Tb B w' tb fm sv' c' L ∧ Stp tb w sv w' sv' ∧ c' ≤ c + j

set_option maxHeartbeats 4000000 in
set_option maxRecDepth 100000 in
theorem fieldOf37 (B tb fm : Nat) (L : List Fc) (cls : List ByteArray) (hcl : ∀ t ∈ cls, t.size ≤ 60) (hln : cls.length ≤ 1000) (a : Option Addr) (n cp : Nat) (s : ByteArray) (w : World) (sv : Value) (c : Nat) (hN : Sl w 1 StrR cls (.slice a n cp)) (hB : B ≤ w.heap.size) (hT : Tb B w tb fm sv c L) (hc : c < 900000000000) :
    Calls Tryd.prog 51 #[.pointer (some ⟨tb, 0, none⟩), .slice a n cp, .string s] w (FPost B tb fm L (fldOf L cls s) w sv c cls.length) := by
  have hlt := hT.blk.lt
  have hn := hN.at.1
  have hl := hN.at.2.1
  have hcc := hN.at.2.2.1
  unfold maxLen at hcc
  have HN := Lib.hid hn
  have HCL := Lib.hid hcl
  have H0 : Hid (∃ sv1 c1, FInv B tb fm L w sv c cls (.slice a n cp) [.string ⟨#[]⟩, .bool false] 49 (w.alloc (.cells #[.string ⟨#[]⟩, .bool false] 49)) sv1 c1 0) := Lib.hid ⟨sv, c, hT.below (below1 _ _), (Stp.refl tb w sv).post (below1 _ _), by omega, strs_keep (Keeps.of_below (below1 _ _)) hN, hlt, Blk.new _ _ _⟩
  have HTW := Lib.hid hT
  clear hT hN hn hcl
  go_enter Tryd.func51, Tryd.ntmps51
  go_wp2
  go_loopw [17] (fun i wr => ∃ k : Nat, k ≤ n ∧ i = .int .i64 k ∧ Hid (∀ z ∈ cls.take k, fOne L s z = none) ∧ Hid (∃ sv1 c1, FInv B tb fm L w sv c cls (.slice a n cp) [.string ⟨#[]⟩, .bool false] 49 wr sv1 c1 k)) (fun i _ => n - (intOf i).toNat)
  case atStart => exact ⟨0, Nat.zero_le _, rfl, Lib.hid (by simp), H0⟩
  case round =>
    obtain ⟨k, hk1, rfl, HA, HI⟩ := hrel
    obtain ⟨sv1, c1, hI⟩ := HI.out
    have hsr := hI.stp.mods.size
    have HR := Lib.hid hI
    clear H0 HI hI
    by_cases hlt2 : k < n
    · obtain ⟨x, hx⟩ : ∃ x, cls[k]? = some x := ⟨_, List.getElem?_eq_getElem (by have := HN.out; omega)⟩
      obtain ⟨g, o, cs, rfl, hcell, rfl⟩ := HR.out.names.at.2.2.2 k x hx
      have c0 : wr.cell? ⟨g, o + k, none⟩ = some (.string x) := by have := hcell 0 _ rfl; simpa using this
      have hxs : x.size ≤ maxLen := by have := HCL.out x (List.mem_of_getElem? hx); unfold maxLen; omega
      have HL := Lib.hid (look_any B tb fm L x hxs wr sv1 c1 HR.out.tab wr sv1 c1 (Stp.refl _ _ _) (by omega) HR.out.tab (by have := HR.out.cnt; have := HN.out; omega))
      have HX := Lib.hid hx
      clear hcell hx
      go_wp2_with fail
      refine HL.out.mono ?_
      rintro e w1 ⟨cs, sv2, c2, rfl, hF, hT2, hs2, hc2⟩
      have HR1 := Lib.hid (HR.out.looked hT2 hs2 hc2)
      have hF1 := hF.keep hs2.keeps
      obtain ⟨x1, x2, x3, y1, y2, y3, rfl, hfs, hms⟩ := hF1
      have HO : Hid (fOne L s x = (fldF ((fnd L x).getD zF).fs s).map (fun t => (x, t))) := Lib.hid rfl
      generalize (fnd L x).getD zF = f at *
      have hk1' := Keeps.of_below (below1 w1 (.cells #[.string f.name, .string f.sup, .slice x1 x2 x3, .slice y1 y2 y3] 35))
      have HFd := Lib.hid (field53 f s x1 x2 x3 y1 y2 y3 (w1.alloc (.cells #[.string f.name, .string f.sup, .slice x1 x2 x3, .slice y1 y2 y3] 35)) (vrs_keep hk1' hfs))
      clear HL hF hT2 hs2 hfs hms hk1' HR
      go_wp2_with fail
      refine HFd.out.mono ?_
      rintro e w2 ⟨rfl, hb2⟩
      have HR2 := Lib.hid ((HR1.out.below (below1 w1 _)).below hb2)
      clear HFd hb2 HR1
      cases hfd : fldF f.fs s with
      | none =>
        have HA2 := Lib.hid (all_snoc (P := fun z => fOne L s z = none) HX.out HA.out (by rw [HO.out, hfd]; rfl))
        simp only [Option.getD_none, Option.isSome_none]
        unfold zT tyV
        clear hfd HO HA
        go_wp2
        go_roundw
        case rel => exact ⟨k + 1, by omega, by go_num, HA2, Lib.hid ⟨_, _, HR2.out.below (below1 _ _)⟩⟩
        case measure => simp [intOf]; omega
      | some t =>
        have HE : Hid (fldOf L cls s = some (x, t)) := Lib.hid (some_at' HX.out HA.out (by rw [HO.out, hfd]; rfl))
        simp only [Option.getD_some, Option.isSome_some]
        unfold tyV
        have r0 : w2.cell? ⟨w.heap.size, 0, none⟩ = some (.string ⟨#[]⟩) := HR2.out.own.cell 0
        have r1 : w2.cell? ⟨w.heap.size, 1, none⟩ = some (.bool false) := HR2.out.own.cell 1
        have f0 := HR2.out.own.frozen 0
        have f1 := HR2.out.own.frozen 1
        have hl3 := HR2.out.own.lt
        obtain ⟨hZ, M⟩ := out2' (.string t.n) (.bool t.a) HR2.out.own
        have hZ2 := hZ.below (below1 _ (.cells #[.string t.n, .bool t.a] 49))
        have z0 := hZ2.cell 0
        have z1 := hZ2.cell 1
        simp only [List.getElem?_cons_zero, List.getElem?_cons_succ] at z0 z1
        have HM := Lib.hid (M.alloc (.cells #[.string t.n, .bool t.a] 49)).drew
        clear hfd HO HA hZ hZ2 M
        go_wp2
        go_region
        go_wp2
        refine bodyPost_ret (v := .tuple #[.string x, .agg #[.string t.n, .bool t.a], .bool true]) (by simp [results, Tryd.results51, go_sem, z0, z1]) rfl ?_
        obtain ⟨h1, h2⟩ := HR2.out.fin HTW.out HM.out
        exact ⟨_, _, by rw [HE.out]; rfl, h1, h2, by have := HR2.out.cnt; have := HN.out; omega⟩
    · have HE : Hid (fldOf L cls s = none) := Lib.hid (some_no (by have := HN.out; omega) HA.out)
      have r0 : wr.cell? ⟨w.heap.size, 0, none⟩ = some (.string ⟨#[]⟩) := HR.out.own.cell 0
      have r1 : wr.cell? ⟨w.heap.size, 1, none⟩ = some (.bool false) := HR.out.own.cell 1
      have f0 := HR.out.own.frozen 0
      have f1 := HR.out.own.frozen 1
      obtain ⟨hZ, M⟩ := out2' (.string ⟨#[]⟩) (.bool false) HR.out.own
      have z0 := hZ.cell 0
      have z1 := hZ.cell 1
      simp only [List.getElem?_cons_zero, List.getElem?_cons_succ] at z0 z1
      have HM := Lib.hid M
      clear hZ M
      go_wp2
      refine bodyPost_ret (v := .tuple #[.string ⟨#[]⟩, .agg #[.string ⟨#[]⟩, .bool false], .bool false]) (by simp [results, Tryd.results51, go_sem, z0, z1]) rfl ?_
      obtain ⟨h1, h2⟩ := HR.out.fin HTW.out HM.out
      exact ⟨sv1, c1, by rw [HE.out]; rfl, h1, h2, by have := HR.out.cnt; have := HN.out; omega⟩
/-- what a table tells of a method -/
def MPost (B tb fm : Nat) (L : List Fc) (o : Option (ByteArray × Sg)) (w : World) (sv : Value) (c j : Nat) (e : Ending) (w' : World) : Prop :=
  ∃ a n cp sv' c', e = .returned (.tuple #[.string (o.getD (eE, zS)).1, .agg #[.string (o.getD (eE, zS)).2.name, .bool (o.getD (eE, zS)).2.st, .slice a n cp, .string (o.getD (eE, zS)).2.rn, .bool (o.getD (eE, zS)).2.ra], .bool o.isSome]) ∧ Sl w' 2 TyR (o.getD (eE, zS)).2.ps (.slice a n cp) ∧ (∀ ad, a = some ad → n ≠ 0 → w.heap.size ≤ ad.block) ∧ Tb B w' tb fm sv' c' L ∧ Stp tb w sv w' sv' ∧ c' ≤ c + j

set_option maxHeartbeats 4000000 in
set_option maxRecDepth 100000 in
theorem methodOf38 (B tb fm : Nat) (L : List Fc) (cls : List ByteArray) (hcl : ∀ t ∈ cls, t.size ≤ 60) (hln : cls.length ≤ 1000) (a : Option Addr) (n cp : Nat) (s : ByteArray) (st : Bool) (w : World) (sv : Value) (c : Nat) (hN : Sl w 1 StrR cls (.slice a n cp)) (hB : B ≤ w.heap.size) (hT : Tb B w tb fm sv c L) (hc : c < 900000000000) :
    Calls Tryd.prog 80 #[.pointer (some ⟨tb, 0, none⟩), .slice a n cp, .string s, .bool st] w (MPost B tb fm L (mthOf L cls s st) w sv c cls.length) := by
  have hlt := hT.blk.lt
  have hn := hN.at.1
  have hl := hN.at.2.1
  have hcc := hN.at.2.2.1
  unfold maxLen at hcc
  have HN := Lib.hid hn
  have HCL := Lib.hid hcl
  have H0 : Hid (∃ sv1 c1, FInv B tb fm L w sv c cls (.slice a n cp) [.string ⟨#[]⟩, .bool false, .slice none 0 0, .string ⟨#[]⟩, .bool false] 51 (w.alloc (.cells #[.string ⟨#[]⟩, .bool false, .slice none 0 0, .string ⟨#[]⟩, .bool false] 51)) sv1 c1 0) := Lib.hid ⟨sv, c, hT.below (below1 _ _), (Stp.refl tb w sv).post (below1 _ _), by omega, strs_keep (Keeps.of_below (below1 _ _)) hN, hlt, Blk.new _ _ _⟩
  have HTW := Lib.hid hT
  clear hT hN hn hcl
  go_enter Tryd.func80, Tryd.ntmps80
  go_wp2
  go_loopw [19] (fun i wr => ∃ k : Nat, k ≤ n ∧ i = .int .i64 k ∧ Hid (∀ z ∈ cls.take k, mOne L s st z = none) ∧ Hid (∃ sv1 c1, FInv B tb fm L w sv c cls (.slice a n cp) [.string ⟨#[]⟩, .bool false, .slice none 0 0, .string ⟨#[]⟩, .bool false] 51 wr sv1 c1 k)) (fun i _ => n - (intOf i).toNat)
  case atStart => exact ⟨0, Nat.zero_le _, rfl, Lib.hid (by simp), H0⟩
  case round =>
    obtain ⟨k, hk1, rfl, HA, HI⟩ := hrel
    obtain ⟨sv1, c1, hI⟩ := HI.out
    have hsr := hI.stp.mods.size
    have HR := Lib.hid hI
    clear H0 HI hI
    by_cases hlt2 : k < n
    · obtain ⟨x, hx⟩ : ∃ x, cls[k]? = some x := ⟨_, List.getElem?_eq_getElem (by have := HN.out; omega)⟩
      obtain ⟨g, o, cs, rfl, hcell, rfl⟩ := HR.out.names.at.2.2.2 k x hx
      have c0 : wr.cell? ⟨g, o + k, none⟩ = some (.string x) := by have := hcell 0 _ rfl; simpa using this
      have hxs : x.size ≤ maxLen := by have := HCL.out x (List.mem_of_getElem? hx); unfold maxLen; omega
      have HL := Lib.hid (look_any B tb fm L x hxs wr sv1 c1 HR.out.tab wr sv1 c1 (Stp.refl _ _ _) (by omega) HR.out.tab (by have := HR.out.cnt; have := HN.out; omega))
      have HX := Lib.hid hx
      clear hcell hx
      go_wp2_with fail
      refine HL.out.mono ?_
      rintro e w1 ⟨cs, sv2, c2, rfl, hF, hT2, hs2, hc2⟩
      have HR1 := Lib.hid (HR.out.looked hT2 hs2 hc2)
      have hF1 := hF.keep hs2.keeps
      obtain ⟨x1, x2, x3, y1, y2, y3, rfl, hfs, hms⟩ := hF1
      have HO : Hid (mOne L s st x = match mthF ((fnd L x).getD zF).ms s with
        | none => none
        | some m => if m.st = st then some (x, m) else none) := Lib.hid rfl
      have hsm := HR1.out.tab.small x
      generalize (fnd L x).getD zF = f at *
      have hk1' := Keeps.of_below (below1 w1 (.cells #[.string f.name, .string f.sup, .slice x1 x2 x3, .slice y1 y2 y3] 35))
      have HFd := Lib.hid (method54 f s x1 x2 x3 y1 y2 y3 (w1.alloc (.cells #[.string f.name, .string f.sup, .slice x1 x2 x3, .slice y1 y2 y3] 35)) (sgs_keep hk1' hms) (fun m hm => by have := (hsm.m1 m hm).2.2.1; omega))
      clear HL hF hT2 hs2 hfs hms hk1' HR hsm
      go_wp2_with fail
      refine HFd.out.mono ?_
      rintro e w2 ⟨pa, pn, pc, rfl, hP, hPO, hb2⟩
      have HR2 := Lib.hid ((HR1.out.below (below1 w1 _)).below hb2)
      have hz1 : w.heap.size < w1.heap.size := HR1.out.own.lt
      have HPO : Hid (∀ ad, pa = some ad → pn ≠ 0 → w.heap.size < ad.block) := Lib.hid (fun ad e hn => by have := hPO ad e hn; simp at this; omega)
      have HP := Lib.hid hP
      clear HFd hb2 HR1 hP hPO
      cases hfd : mthF f.ms s with
      | none =>
        have HA2 := Lib.hid (all_snoc (P := fun z => mOne L s st z = none) HX.out HA.out (by rw [HO.out, hfd]))
        simp only [Option.getD_none, Option.isSome_none]
        unfold zS
        clear hfd HO HA HP HPO
        go_wp2
        go_roundw
        case rel => exact ⟨k + 1, by omega, by go_num, HA2, Lib.hid ⟨_, _, HR2.out.below (below1 _ _)⟩⟩
        case measure => simp [intOf]; omega
      | some m =>
        rw [hfd] at HP
        simp only [Option.getD_some, Option.isSome_some] at HP ⊢
        by_cases hst : m.st = st
        · have HE : Hid (mthOf L cls s st = some (x, m)) := Lib.hid (some_at' HX.out HA.out (by rw [HO.out, hfd]; simp [hst]))
          have hbb : (m.st == st) = true := by simpa using hst
          have r0 : w2.cell? ⟨w.heap.size, 0, none⟩ = some (.string ⟨#[]⟩) := HR2.out.own.cell 0
          have r1 : w2.cell? ⟨w.heap.size, 1, none⟩ = some (.bool false) := HR2.out.own.cell 1
          have r2 : w2.cell? ⟨w.heap.size, 2, none⟩ = some (.slice none 0 0) := HR2.out.own.cell 2
          have r3 : w2.cell? ⟨w.heap.size, 3, none⟩ = some (.string ⟨#[]⟩) := HR2.out.own.cell 3
          have r4 : w2.cell? ⟨w.heap.size, 4, none⟩ = some (.bool false) := HR2.out.own.cell 4
          have f0 := HR2.out.own.frozen 0
          have f1 := HR2.out.own.frozen 1
          have f2 := HR2.out.own.frozen 2
          have f3 := HR2.out.own.frozen 3
          have f4 := HR2.out.own.frozen 4
          have hl3 := HR2.out.own.lt
          obtain ⟨hZ, M⟩ := out5 (.string m.name) (.bool m.st) (.slice pa pn pc) (.string m.rn) (.bool m.ra) HR2.out.own
          have hZ2 := hZ.below (below1 _ (.cells #[.string m.name, .bool m.st, .slice pa pn pc, .string m.rn, .bool m.ra] 51))
          have z0 := hZ2.cell 0
          have z1 := hZ2.cell 1
          have z2 := hZ2.cell 2
          have z3 := hZ2.cell 3
          have z4 := hZ2.cell 4
          simp only [List.getElem?_cons_zero, List.getElem?_cons_succ] at z0 z1 z2 z3 z4
          have HM := Lib.hid (M.alloc (.cells #[.string m.name, .bool m.st, .slice pa pn pc, .string m.rn, .bool m.ra] 51)).drew
          clear hfd HO HA hZ hZ2 M hst
          go_wp2
          go_region
          go_wp2
          refine bodyPost_ret (v := .tuple #[.string x, .agg #[.string m.name, .bool m.st, .slice pa pn pc, .string m.rn, .bool m.ra], .bool true]) (by simp [results, Tryd.results80, go_sem, z0, z1, z2, z3, z4]) rfl ?_
          obtain ⟨h1, h2⟩ := HR2.out.fin HTW.out HM.out
          exact ⟨pa, pn, pc, _, _, by rw [HE.out]; rfl, by rw [HE.out]; exact HP.out.off HM.out (fun ad e hn => by have := HPO.out ad e hn; omega) (fun _ _ h => h), (fun ad e hn => by have := HPO.out ad e hn; omega), h1, h2, by have := HR2.out.cnt; have := HN.out; omega⟩
        · have HA2 := Lib.hid (all_snoc (P := fun z => mOne L s st z = none) HX.out HA.out (by rw [HO.out, hfd]; simp [hst]))
          have hbb : (m.st == st) = false := by simpa using hst
          clear hfd HO HA HP HPO hst
          go_wp2
          go_roundw
          case rel => exact ⟨k + 1, by omega, by go_num, HA2, Lib.hid ⟨_, _, HR2.out.below (below1 _ _)⟩⟩
          case measure => simp [intOf]; omega
    · have HE : Hid (mthOf L cls s st = none) := Lib.hid (some_no (by have := HN.out; omega) HA.out)
      have r0 : wr.cell? ⟨w.heap.size, 0, none⟩ = some (.string ⟨#[]⟩) := HR.out.own.cell 0
      have r1 : wr.cell? ⟨w.heap.size, 1, none⟩ = some (.bool false) := HR.out.own.cell 1
      have r2 : wr.cell? ⟨w.heap.size, 2, none⟩ = some (.slice none 0 0) := HR.out.own.cell 2
      have r3 : wr.cell? ⟨w.heap.size, 3, none⟩ = some (.string ⟨#[]⟩) := HR.out.own.cell 3
      have r4 : wr.cell? ⟨w.heap.size, 4, none⟩ = some (.bool false) := HR.out.own.cell 4
      have f0 := HR.out.own.frozen 0
      have f1 := HR.out.own.frozen 1
      have f2 := HR.out.own.frozen 2
      have f3 := HR.out.own.frozen 3
      have f4 := HR.out.own.frozen 4
      obtain ⟨hZ, M⟩ := out5 (.string ⟨#[]⟩) (.bool false) (.slice none 0 0) (.string ⟨#[]⟩) (.bool false) HR.out.own
      have z0 := hZ.cell 0
      have z1 := hZ.cell 1
      have z2 := hZ.cell 2
      have z3 := hZ.cell 3
      have z4 := hZ.cell 4
      simp only [List.getElem?_cons_zero, List.getElem?_cons_succ] at z0 z1 z2 z3 z4
      have HM := Lib.hid M
      clear hZ M
      go_wp2
      refine bodyPost_ret (v := .tuple #[.string ⟨#[]⟩, .agg #[.string ⟨#[]⟩, .bool false, .slice none 0 0, .string ⟨#[]⟩, .bool false], .bool false]) (by simp [results, Tryd.results80, go_sem, z0, z1, z2, z3, z4]) rfl ?_
      obtain ⟨h1, h2⟩ := HR.out.fin HTW.out HM.out
      exact ⟨none, 0, 0, sv1, c1, by rw [HE.out]; rfl, by rw [HE.out]; exact Sl.nil _ _ _, (fun _ e => by cases e), h1, h2, by have := HR.out.cnt; have := HN.out; omega⟩

set_option maxHeartbeats 2000000 in
set_option maxRecDepth 100000 in
theorem field20 (B tb fm : Nat) (L : List Fc) (hL : L.length ≤ 300) (cl s : ByteArray) (hs : cl.size ≤ maxLen) (w : World) (sv : Value) (c : Nat) (hB : B ≤ w.heap.size) (hT : Tb B w tb fm sv c L) (hc : c < 800000000000) :
    Calls Tryd.prog 29 #[.pointer (some ⟨tb, 0, none⟩), .string cl, .string s] w (FPost B tb fm L (fldOf L (ab L cl).1 s) w sv c 602) := by
  have hlt := hT.blk.lt
  have HA := Lib.hid (above13 B tb fm L hL cl hs (w.alloc (.cells #[.string ⟨#[]⟩, .bool false] 49)) sv c (by simp; omega) (hT.below (below1 _ _)) (by omega))
  have H0 := Lib.hid (show FInv B tb fm L w sv c [] (.slice none 0 0) [.string ⟨#[]⟩, .bool false] 49 (w.alloc (.cells #[.string ⟨#[]⟩, .bool false] 49)) sv c 0 from ⟨hT.below (below1 _ _), (Stp.refl tb w sv).post (below1 _ _), by omega, Sl.nil _ _ _, hlt, Blk.new _ _ _⟩)
  have HSN := Lib.hid (ab_small hT.sm hs)
  have HT := Lib.hid hT
  have hal := ab_len L cl
  clear hT
  go_enter Tryd.func29, Tryd.ntmps29
  go_wp2_with fail
  refine HA.out.mono ?_
  rintro e w1 ⟨v, sv1, c1, rfl, hS, hT1, hs1, hc1⟩
  obtain ⟨a, cp, rfl⟩ := hS.form
  have hst := hs1.pre (below1 _ _)
  have own1 : Blk w1 w.heap.size [.string ⟨#[]⟩, .bool false] 49 := H0.out.own.keep hs1.mods (fun e => by
    rcases e with e | e
    · omega
    · exact H0.out.tab.blk_ne H0.out.own e)
  have HF := Lib.hid (fieldOf37 B tb fm L (ab L cl).1 HSN.out (by omega) a _ cp s w1 sv1 c1 hS (by have := hst.mods.size; omega) hT1 (by omega))
  have HO1 := Lib.hid own1
  have HT1 := Lib.hid hT1
  have HST := Lib.hid hst
  clear HA own1 hs1 hS hT1 hst
  go_wp2_with fail
  refine HF.out.mono ?_
  rintro e w2 ⟨sv2, c2, rfl, hT2, hs2, hc2⟩
  have own2 : Blk w2 w.heap.size [.string ⟨#[]⟩, .bool false] 49 := HO1.out.keep hs2.mods (fun e => by
    rcases e with e | e
    · omega
    · exact HT1.out.blk_ne HO1.out e)
  generalize fldOf L (ab L cl).1 s = o at *
  generalize ho : o.getD (eE, zT) = p at *
  have HOP := Lib.hid ho
  clear ho
  obtain ⟨pc, pt⟩ := p
  unfold tyV
  dsimp only
  have r0 : w2.cell? ⟨w.heap.size, 0, none⟩ = some (.string ⟨#[]⟩) := own2.cell 0
  have r1 : w2.cell? ⟨w.heap.size, 1, none⟩ = some (.bool false) := own2.cell 1
  have f0 := own2.frozen 0
  have f1 := own2.frozen 1
  obtain ⟨hZ, M⟩ := out2' (.string pt.n) (.bool pt.a) own2
  have z0 := hZ.cell 0
  have z1 := hZ.cell 1
  simp only [List.getElem?_cons_zero, List.getElem?_cons_succ] at z0 z1
  have hst2 := HST.out.trans hs2
  have HE := Lib.hid (show Tb B _ tb fm sv2 c2 L ∧ Stp tb w sv _ sv2 from ⟨HT.out.own hT2 hst2 M (fun k e => by omega) (fun j e e' => hT2.blk_ne own2 (by rw [e, e'])), hst2.own M (fun k e => by omega)⟩)
  clear HF hT2 hs2 own2 hZ M hst2
  go_wp2
  refine bodyPost_ret (v := .tuple #[.string pc, .agg #[.string pt.n, .bool pt.a], .bool o.isSome]) (by simp [results, Tryd.results29, go_sem, z0, z1]) rfl ?_
  exact ⟨sv2, c2, by rw [HOP.out], HE.out.1, HE.out.2, by omega⟩

end Go.Proofs.YthimpjfmelmhpaaDoor.Fc
