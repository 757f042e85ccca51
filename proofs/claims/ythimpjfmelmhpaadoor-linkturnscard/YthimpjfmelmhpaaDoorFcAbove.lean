/-
  Those above a class, in memory.
-/
import Derived.Test.YthimpjfmelmhpaaDoorFcLook
import Derived.Test.YthimpjfmelmhpaaDoorFcUp
namespace Go.Proofs.YthimpjfmelmhpaaDoor.Fc
open Go.RowKit
set_option linter.unusedVariables false

theorem info9 : ∃ i, Tryd.prog.info? 9 = some i ∧ (i.size, i.bytes, i.zero.map (fun z => z.cells.size)) = (1, 16, some 1) := Option.map_eq_some_iff.1 (show (Tryd.prog.info? 9).map (fun i => (i.size, i.bytes, i.zero.map (fun z => z.cells.size))) = some (1, 16, some 1) by kernel_rfl)
def strV (l : List ByteArray) : List Value := l.map Value.string
theorem grown_mods {w w' : World} {v : Value} {B : Nat} {e : TypeId} {size n : Nat} {xs : List Value} (h : w.grownBy w' v.ownBlock) (ho : w.ownsRow B e size v n xs) : Mods (fun k => B ≤ k ∧ ∃ cur, w.heap[k]? = some (.cells cur e (0, 0))) w w' := by
  refine ⟨h.os, h.tape, h.output, h.size, fun k hk hn => h.block k hk (fun e => ?_)⟩
  rcases ho.2 with ⟨rfl, _⟩ | ⟨g, cap, cur, rfl, hb, hg, _⟩
  · simp [Value.ownBlock] at e
  · simp [Value.ownBlock] at e
    subst e
    exact hn ⟨hb, cur, hg⟩
/-- one text behind a row of texts -/
theorem app_str {w : World} {B : Nat} {v : Value} {l : List ByteArray} (ho : w.ownsRow B 9 1 v l.length (strV l)) (hl : l.length ≤ 1000) (hB : B ≤ w.heap.size) (s : ByteArray) :
    ∃ v' w', (Builtin.append_ #[30, 30] 73 #[v, .slice (some ⟨w.heap.size, 0, none⟩) 1 1]).run Tryd.prog (w.alloc (.cells #[.string s] 9)) = .ok v' w' ∧ w'.ownsRow B 9 1 v' (l ++ [s]).length (strV (l ++ [s])) ∧ Mods (fun k => B ≤ k ∧ ∃ cur, (w.alloc (.cells #[.string s] 9)).heap[k]? = some (.cells cur 9 (0, 0))) (w.alloc (.cells #[.string s] 9)) w' := by
  obtain ⟨i, hi, hii⟩ := info9
  simp only [Prod.mk.injEq, Option.map_eq_some_iff] at hii
  obtain ⟨e1, e2, z, ez, e3⟩ := hii
  have ho2 : (w.alloc (.cells #[.string s] 9)).ownsRow B 9 1 v l.length (strV l) := by
    refine ⟨ho.1, ?_⟩
    rcases ho.2 with h | ⟨g, cap, cur, h1, h2, h3, h4⟩
    · exact .inl h
    · exact .inr ⟨g, cap, cur, h1, h2, ((below1 w _).block g (lt_of_block h3)).trans h3, h4⟩
  obtain ⟨v', w', hr, h2, h3, h4⟩ := run_append_own (P := Tryd.prog) (w.alloc (.cells #[.string s] 9)) B 30 30 9 i z 1 16 Tryd.underlying30 hi ez e1 e2 e3 (by decide) v l.length (strV l) ho2 ⟨w.heap.size, 0, none⟩ 1 1 [.string s] rfl (fun j u hu => by
      have hb := (Blk.new w [.string s] 9).cell j
      rw [Go.WideShapes.add_plain, Nat.zero_add]
      rw [hu] at hb
      exact hb) (by simp [Value.oneCell']) (by unfold maxLen; omega) (by omega) (by simp; omega)
  refine ⟨v', w', hr, ?_, grown_mods h3 ho2⟩
  have e : strV (l ++ [s]) = strV l ++ [.string s] := by simp [strV]
  rw [e, List.length_append]
  exact h2
theorem row_strs {w : World} {B : Nat} {v : Value} {l : List ByteArray} (ho : w.ownsRow B 9 1 v l.length (strV l)) : Sl w 1 StrR l v := by
  rcases ho.2 with ⟨rfl, h0⟩ | ⟨g, cap, cur, rfl, hb, hg, hn, hcm, hcs, htk⟩
  · rw [List.eq_nil_of_length_eq_zero h0]
    exact Sl.nil _ _ _
  · refine ⟨some ⟨g, 0, none⟩, cap, rfl, hn, hcm, fun i x hi => ⟨g, 0, [.string x], rfl, fun j u hu => ?_, rfl⟩⟩
    have hj : j = 0 := by have := (List.getElem?_eq_some_iff.1 hu).1; simp at this; exact this
    subst hj
    simp at hu
    subst hu
    have h1 : (strV l)[i]? = some (.string x) := by simp [strV, hi]
    rw [← htk, List.getElem?_take] at h1
    split at h1
    · simp only [World.cell?, hg, Nat.zero_add, Nat.mul_one, Nat.add_zero]
      simpa using h1
    · cases h1
theorem row_keep {w w' : World} {B : Nat} {v : Value} {n : Nat} {xs : List Value} {e : TypeId} {size : Nat} {fp : Nat → Prop} (ho : w.ownsRow B e size v n xs) (hm : Mods fp w w') (hn : ∀ g, B ≤ g → (∃ cur, w.heap[g]? = some (.cells cur e (0, 0))) → ¬ fp g) : w'.ownsRow B e size v n xs := by
  refine ⟨ho.1, ?_⟩
  rcases ho.2 with h | ⟨g, cap, cur, h1, h2, h3, h4⟩
  · exact .inl h
  · exact .inr ⟨g, cap, cur, h1, h2, (hm.block g (lt_of_block h3) (hn g h2 ⟨cur, h3⟩)).trans h3, h4⟩

theorem tempty {s : ByteArray} (h : s = eE) : s.toList.isEmpty = true := by rw [h, ByteArray.toList_eq]; rfl
theorem tfull {s : ByteArray} (h : s ≠ eE) : s.toList.isEmpty = false := by
  cases hs : s.toList.isEmpty with
  | false => rfl
  | true =>
    rw [ByteArray.toList_eq] at hs
    refine absurd ?_ h
    obtain ⟨⟨l⟩⟩ := s
    cases l with
    | nil => rfl
    | cons x y => simp at hs
/-- Above, under way. -/
structure AInv (B tb fm : Nat) (L : List Fc) (w : World) (sv0 : Value) (c0 k : Nat) (wr : World) (sv : Value) (c : Nat) (cm : Nat) (acc : List ByteArray) (v : Value) : Prop where
  tab : Tb B wr tb fm sv c L
  stp : Stp tb w sv0 wr sv
  cnt : c ≤ c0 + k
  ne : sv ≠ .map (some cm)
  lo : w.heap.size ≤ cm
  tlo : tb < w.heap.size
  came : ∃ f, MAt wr cm acc.length f ∧ ∀ t, f t = if t ∈ acc then some (.agg #[]) else none
  row : wr.ownsRow w.heap.size 9 1 v acc.length (strV acc)
section
variable {B tb fm : Nat} {L : List Fc} {w : World} {sv0 : Value} {c0 k : Nat} {wr : World} {sv : Value} {c : Nat} {cm : Nat} {acc : List ByteArray} {v : Value}
theorem AInv.below {w1 : World} (h : AInv B tb fm L w sv0 c0 k wr sv c cm acc v) (hb : Below wr.heap.size wr w1) : AInv B tb fm L w sv0 c0 k w1 sv c cm acc v := by
  obtain ⟨f, h1, h2⟩ := h.came
  exact ⟨h.tab.below hb, h.stp.post hb, h.cnt, h.ne, h.lo, h.tlo, ⟨f, h1.keep (fp := fun _ => False) (Mods.of_below hb) id, h2⟩, row_keep (fp := fun _ => False) h.row (Mods.of_below hb) (fun _ _ _ => id)⟩
theorem AInv.looked {w1 : World} {sv2 : Value} {c2 : Nat} (h : AInv B tb fm L w sv0 c0 k wr sv c cm acc v) (hT2 : Tb B w1 tb fm sv2 c2 L) (hs2 : Stp tb wr sv w1 sv2) (hc2 : c2 ≤ c + 1) : AInv B tb fm L w sv0 c0 (k + 1) w1 sv2 c2 cm acc v := by
  obtain ⟨f, h1, h2⟩ := h.came
  have hcl := h1.lt
  have hlo := h.lo
  have htl := h.tlo
  refine ⟨hT2, h.stp.trans hs2, by have := h.cnt; omega, ?_, h.lo, h.tlo, ⟨f, h1.keep hs2.mods (fun e => ?_), h2⟩, row_keep h.row hs2.mods (fun g hg hc e => ?_)⟩
  · rcases hs2.new with e | ⟨j, e, hj⟩
    · rw [e]; exact h.ne
    · rw [e]; intro e; injection e with e; injection e with e; omega
  · rcases e with e | e
    · omega
    · exact h.ne e
  · obtain ⟨cur, hc⟩ := hc
    rcases e with e | e
    · omega
    · rcases h.tab.seen with e' | ⟨m, S, e', hS, _⟩
      · rw [e] at e'; cases e'
      · rw [e] at e'
        injection e' with e'
        injection e' with e'
        subst e'
        obtain ⟨D, ⟨es, clock, hb, _⟩, _⟩ := hS
        rw [hc] at hb
        cases hb
theorem AInv.has {t : ByteArray} (h : AInv B tb fm L w sv0 c0 k wr sv c cm acc v) (ht : t.size ≤ maxLen) : (Instr.lookup 101 (.map (some cm)) (.string t) true).run Tryd.prog wr = .ok (.tuple #[.agg #[], .bool (decide (t ∈ acc))]) wr := by
  obtain ⟨f, h1, h2⟩ := h.came
  have := h1.look Tryd.underlying101 (zero76 wr) ht
  rw [this, h2 t]
  by_cases e : t ∈ acc <;> simp [e]
theorem AInv.add {t : ByteArray} (h0 : Tb B w tb fm sv0 c0 L) (h : AInv B tb fm L w sv0 c0 k wr sv c cm acc v) (ht : t.size ≤ maxLen) (hl : acc.length ≤ 1000) :
    ∃ w3 v' w4, (Instr.mapUpdate 101 (.map (some cm)) (.string t) (.agg #[])).run Tryd.prog wr = .ok () w3 ∧ (Builtin.append_ #[30, 30] 73 #[v, .slice (some ⟨w3.heap.size, 0, none⟩) 1 1]).run Tryd.prog (w3.alloc (.cells #[.string t] 9)) = .ok v' w4 ∧ AInv B tb fm L w sv0 c0 k w4 sv c cm (acc ++ [t]) v' ∧ ∀ b cs, Blk wr b cs 35 → Blk w4 b cs 35 := by
  obtain ⟨f, h1, h2⟩ := h.came
  have hlo := h.lo
  have hsz := h.stp.mods.size
  obtain ⟨w3, hrun, h3, hm⟩ := h1.store Tryd.underlying101 (by unfold maxLen; omega) ht (.agg #[])
  have hcell : ∀ g cur e, wr.heap[g]? = some (.cells cur e (0, 0)) → g ≠ cm := fun g cur e hg e' => by
    subst e'
    obtain ⟨D, ⟨es, clock, hb, _⟩, _⟩ := h1
    rw [hg] at hb
    cases hb
  have hrow3 := row_keep h.row hm (fun g _ hc => let ⟨cur, hc⟩ := hc; hcell g cur 9 hc)
  obtain ⟨v', w4, hr, hrow4, hg⟩ := app_str hrow3 hl (Nat.le_trans hsz hm.size) t
  have hst3 : Stp tb w sv0 w3 sv := h.stp.own hm (fun k e => by omega)
  have hT3 : Tb B w3 tb fm sv c L := h0.own h.tab h.stp hm (fun k e => by omega) (fun j e e' => h.ne (by rw [e, e']))
  have hst4 : Stp tb w sv0 (w3.alloc (.cells #[.string t] 9)) sv := hst3.post (below1 _ _)
  have hT4 := hT3.below (below1 w3 (.cells #[.string t] 9))
  have hmap : ∀ {z : World} {b n : Nat} {f : ByteArray → Option Value}, MAt z b n f → ∀ {B : Nat} {e : TypeId}, ¬ (B ≤ b ∧ ∃ cur, z.heap[b]? = some (.cells cur e (0, 0))) := fun hM _ _ e => by
    obtain ⟨_, cur, hc⟩ := e
    obtain ⟨D, ⟨es, clock, hb, _⟩, _⟩ := hM
    rw [hc] at hb
    cases hb
  have h34 := h3.keep (fp := fun _ => False) (Mods.of_below (below1 w3 (.cells #[.string t] 9))) id
  refine ⟨w3, v', w4, hrun, hr, ⟨h0.own hT4 hst4 hg (fun k e => e.1) (fun j e => ?_), hst4.own hg (fun k e => e.1), h.cnt, h.ne, h.lo, h.tlo, ⟨upd f t (.agg #[]), ?_, fun u => ?_⟩, hrow4⟩, fun b cs hb => ?_⟩
  · rcases hT4.seen with e' | ⟨m, S, e', hS, _⟩
    · rw [e] at e'; cases e'
    · rw [e] at e'
      injection e' with e'
      injection e' with e'
      subst e'
      exact hmap hS
  · rw [List.length_append]
    exact h34.keep hg (hmap h34)
  · unfold upd
    rw [h2 u]
    by_cases e : u = t
    · simp [e]
    · by_cases e' : u ∈ acc <;> simp [e, e']
  · have hb3 : Blk (w3.alloc (.cells #[.string t] 9)) b cs 35 := (hb.keep hm (hcell b _ 35 hb)).below (below1 _ _)
    exact hb3.keep hg (fun e => by
      obtain ⟨_, cur, hc⟩ := e
      have h5 : (w3.alloc (.cells #[.string t] 9)).heap[b]? = some (.cells cs.toArray 35 (0, 0)) := hb3
      rw [hc] at h5
      injection h5 with h5
      injection h5 with _ h5
      cases h5)
end
def lenV : Value → Nat
  | .slice _ n _ => n
  | _ => 0

/-- what Above answers -/
def AbovePost (B tb fm : Nat) (L : List Fc) (s : ByteArray) (w : World) (sv : Value) (c : Nat) (e : Ending) (w' : World) : Prop :=
  ∃ v sv' c', e = .returned (.tuple #[v, .bool (ab L s).2]) ∧ Sl w' 1 StrR (ab L s).1 v ∧ Tb B w' tb fm sv' c' L ∧ Stp tb w sv w' sv' ∧ c' ≤ c + L.length + 1

theorem AInv.done {B tb fm : Nat} {L : List Fc} {w : World} {sv0 : Value} {c0 k : Nat} {wr : World} {sv : Value} {c : Nat} {cm : Nat} {acc : List ByteArray} {v : Value} {s : ByteArray} {r : Bool} (h : AInv B tb fm L w sv0 c0 k wr sv c cm acc v) (he : ab L s = (acc, r)) (hk : k ≤ L.length + 1) : AbovePost B tb fm L s w sv0 c0 (.returned (.tuple #[v, .bool r])) wr := by
  refine ⟨v, sv, c, by rw [he], by rw [he]; exact row_strs h.row, h.tab, h.stp, by have := h.cnt; omega⟩

set_option maxHeartbeats 4000000 in
set_option maxRecDepth 100000 in
theorem above13 (B tb fm : Nat) (L : List Fc) (hL : L.length ≤ 300) (s : ByteArray) (hs : s.size ≤ maxLen) (w : World) (sv : Value) (c : Nat) (hB : B ≤ w.heap.size) (hT : Tb B w tb fm sv c L) (hc : c < 900000000000) :
    Calls Tryd.prog 18 #[.pointer (some ⟨tb, 0, none⟩), .string s] w (AbovePost B tb fm L s w sv c) := by
  have hmm := @run_makeMap Tryd.prog
  have hlt := hT.blk.lt
  have H0 : Hid (∃ sv1 c1, AInv B tb fm L w sv c 0 (w.alloc (.map #[] 0)) sv1 c1 w.heap.size [] (.slice none 0 0)) := Lib.hid ⟨sv, c, hT.below (below1 _ _), (Stp.refl tb w sv).post (below1 _ _), by omega, fun e => by
      rcases hT.seen with e' | ⟨m, S, e', hS, _⟩
      · rw [e] at e'; cases e'
      · rw [e] at e'
        have := hS.lt
        injection e' with e'
        injection e' with e'
        omega, Nat.le_refl _, hlt, ⟨_, MAt.made w, fun t => by simp⟩, ⟨rfl, .inl ⟨rfl, rfl⟩⟩⟩
  have HTW := Lib.hid hT
  clear hT
  go_enter Tryd.func18, Tryd.ntmps18
  go_wp2
  go_loopw [1, 6] (fun n v wr => ∃ (nm : ByteArray) (acc : List ByteArray), n = .string nm ∧ nm.size ≤ maxLen ∧ lenV v = acc.length ∧ (∃ a m c, v = .slice a m c) ∧ Hid (UInv L s acc nm) ∧ Hid (∃ sv1 c1, AInv B tb fm L w sv c acc.length wr sv1 c1 w.heap.size acc v)) (fun _ v _ => L.length + 1 - lenV v)
  case atStart => exact ⟨s, [], rfl, hs, rfl, ⟨_, _, _, rfl⟩, Lib.hid (UInv.start L s), H0⟩
  case round =>
    obtain ⟨nm, acc, rfl, hnm, hlen, ⟨va, vm, vc, rfl⟩, HU, HI⟩ := hrel
    have hle := HU.out.le
    by_cases hne : nm = eE
    · have he := tempty hne
      obtain ⟨sv1, c1, hI⟩ := HI.out
      have HR := Lib.hid hI
      have HE := Lib.hid (HU.out.fin hne)
      clear H0 HI hI hne
      go_wp2
      refine bodyPost_ret (v := .tuple #[.slice va vm vc, .bool true]) (by simp [results, Tryd.results18, go_sem]) rfl ?_
      exact HR.out.done HE.out (by omega)
    · have he := tfull hne
      obtain ⟨sv1, c1, hI⟩ := HI.out
      have hB1 : B ≤ wr.heap.size := Nat.le_trans hB hI.stp.mods.size
      have HL := Lib.hid (look_any B tb fm L nm hnm wr sv1 c1 hI.tab wr sv1 c1 (Stp.refl _ _ _) hB1 hI.tab (by have := hI.cnt; omega))
      have HR := Lib.hid hI
      clear H0 HI hI
      go_wp2_with fail
      refine HL.out.mono ?_
      rintro e w1 ⟨cs, sv2, c2, rfl, hF, hT2, hs2, hc2⟩
      obtain ⟨x1, x2, x3, y1, y2, y3, rfl, _, _⟩ := hF
      have hR1 := HR.out.looked hT2 hs2 hc2
      cases hf : fnd L nm with
      | none =>
        have HE := Lib.hid (HU.out.no hne (.inl hf))
        simp only [Option.getD_none, Option.isSome_none]
        unfold zF
        have hlk := (hR1.below (below1 w1 (.cells #[.string ⟨#[]⟩, .string ⟨#[]⟩, .slice x1 x2 x3, .slice y1 y2 y3] 35))).has hnm
        have HR1 := Lib.hid hR1
        clear hR1 HL HR hT2 hs2
        go_wp2
        refine bodyPost_ret (v := .tuple #[.slice va vm vc, .bool false]) (by simp [results, Tryd.results18, go_sem]) rfl ?_
        exact (HR1.out.below (below2 w1 _ _)).done HE.out (by omega)
      | some x =>
        simp only [Option.getD_some, Option.isSome_some]
        obtain ⟨fn, hfn⟩ : ∃ n, n = x.name := ⟨_, rfl⟩
        rw [← hfn]
        clear hfn
        have hlk0 := (hR1.below (below1 w1 (.cells #[.string fn, .string x.sup, .slice x1 x2 x3, .slice y1 y2 y3] 35))).has hnm
        by_cases hin : nm ∈ acc
        · have HE := Lib.hid (HU.out.no hne (.inr hin))
          have hlk : (Instr.lookup 101 (.map (some w.heap.size)) (.string nm) true).run Tryd.prog (w1.alloc (.cells #[.string fn, .string x.sup, .slice x1 x2 x3, .slice y1 y2 y3] 35)) = .ok (.tuple #[.agg #[], .bool true]) (w1.alloc (.cells #[.string fn, .string x.sup, .slice x1 x2 x3, .slice y1 y2 y3] 35)) := by rw [hlk0]; simp [hin]
          have HR1 := Lib.hid hR1
          clear hR1 HL HR hT2 hs2 hlk0 hin
          go_wp2
          refine bodyPost_ret (v := .tuple #[.slice va vm vc, .bool false]) (by simp [results, Tryd.results18, go_sem]) rfl ?_
          exact (HR1.out.below (below2 w1 _ _)).done HE.out (by omega)
        · have hlk : (Instr.lookup 101 (.map (some w.heap.size)) (.string nm) true).run Tryd.prog (w1.alloc (.cells #[.string fn, .string x.sup, .slice x1 x2 x3, .slice y1 y2 y3] 35)) = .ok (.tuple #[.agg #[], .bool false]) (w1.alloc (.cells #[.string fn, .string x.sup, .slice x1 x2 x3, .slice y1 y2 y3] 35)) := by rw [hlk0]; simp [hin]
          have HU2 := Lib.hid (HU.out.step hne hf hin)
          have hsup : x.sup.size ≤ maxLen := by have := (hT2.sm x (fnd_some hf).1).sup; unfold maxLen; omega
          obtain ⟨w3, v', w4, hrun, hap, hR4, hbox⟩ := AInv.add HTW.out (hR1.below (below2 w1 (.cells #[.string fn, .string x.sup, .slice x1 x2 x3, .slice y1 y2 y3] 35) (.cells #[] 102))) hnm (by omega)
          have hB4 := hbox w1.heap.size [.string fn, .string x.sup, .slice x1 x2 x3, .slice y1 y2 y3] ((Blk.new w1 _ 35).below (below1 _ _))
          have p1 : w4.cell? ⟨w1.heap.size, 1, none⟩ = some (.string x.sup) := hB4.cell 1
          have hl4 := hB4.lt
          have hv4 : ∃ a m c, v' = .slice a m c ∧ m = (acc ++ [nm]).length := by
            rcases hR4.row.2 with ⟨e, e'⟩ | ⟨g, cap, cur, e, _⟩
            · exact ⟨_, _, _, e, by rw [e']⟩
            · exact ⟨_, _, _, e, rfl⟩
          obtain ⟨a', m', c', rfl, hm'⟩ := hv4
          have HR4 : Hid (∃ sv1 c1, AInv B tb fm L w sv c (acc ++ [nm]).length w4 sv1 c1 w.heap.size (acc ++ [nm]) (.slice a' m' c')) := Lib.hid ⟨_, _, by simpa using hR4⟩
          have HM := Lib.hid hm'
          clear hR1 HL HR hT2 hs2 hlk0 hin hbox hB4 hR4 hm'
          go_wp2_with (at_builtin; refine wpList_append_run rfl _ _ 30 rfl rfl rfl rfl hap ?_)
          go_wp2
          go_roundw
          case rel => exact ⟨x.sup, acc ++ [nm], rfl, hsup, HM.out, ⟨_, _, _, rfl⟩, HU2, HR4⟩
          case measure => have hm' := HM.out; simp [lenV] at hlen ⊢; simp at hm'; omega
end Go.Proofs.YthimpjfmelmhpaaDoor.Fc
