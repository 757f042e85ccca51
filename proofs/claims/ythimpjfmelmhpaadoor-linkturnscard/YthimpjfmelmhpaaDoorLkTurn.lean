/-
  What fits together fits together in another order: sizes, places and methods are the same.
  A list of files that is turned: two appends.
  Two images at a time: what a call over one of them turns is none of the other's.
  A class's own methods are found at itself.
  LinkTurns: the walk.
-/
import Derived.Test.YthimpjfmelmhpaaDoorLkW
import Derived.Test.YthimpjfmelmhpaaDoorLkI
import Derived.Deep.RegionLaw
import Derived.Deep.CutRange
namespace Go.Proofs.YthimpjfmelmhpaaDoor.Fc
open Go.RowKit
set_option linter.unusedVariables false
set_option linter.unusedSimpArgs false

/-- two tables that show the same -/
structure EqL (L M : List Fc) : Prop where
  fnd : ∀ s, fnd L s = fnd M s
  len : L.length = M.length
section
variable {L M : List Fc}
theorem EqL.up (h : EqL L M) : ∀ (n : Nat) (acc : List ByteArray) (s : ByteArray), upF L n acc s = upF M n acc s
  | 0, _, _ => rfl
  | n + 1, acc, s => by
    rw [upF, upF, h.fnd]
    cases Go.Proofs.YthimpjfmelmhpaaDoor.Fc.fnd M s with
    | none => rfl
    | some x => simp only [h.up n]
theorem EqL.ab (h : EqL L M) (s : ByteArray) : ab L s = ab M s := by
  unfold Go.Proofs.YthimpjfmelmhpaaDoor.Fc.ab
  rw [h.len, h.up]
theorem EqL.kn (h : EqL L M) (n : ByteArray) : knB L n = knB M n := by
  unfold knB
  rw [h.fnd]
theorem EqL.fld (h : EqL L M) (cls : List ByteArray) (s : ByteArray) : fldOf L cls s = fldOf M cls s := by
  unfold fldOf
  congr 1
  funext c
  unfold fOne
  rw [h.fnd]
theorem EqL.mth (h : EqL L M) (cls : List ByteArray) (s : ByteArray) (st : Bool) : mthOf L cls s st = mthOf M cls s st := by
  unfold mthOf
  congr 1
  funext c
  unfold mOne
  rw [h.fnd]
theorem EqL.chkF (h : EqL L M) (up : List ByteArray) : ∀ l : List Vr, chkF L up l = chkF M up l
  | [] => rfl
  | v :: r => by
    rw [Go.Proofs.YthimpjfmelmhpaaDoor.Fc.chkF, Go.Proofs.YthimpjfmelmhpaaDoor.Fc.chkF, h.kn, h.fld, h.chkF up r]
theorem EqL.knM (h : EqL L M) (m : Sg) : knM L m = knM M m := by
  unfold Go.Proofs.YthimpjfmelmhpaaDoor.Fc.knM
  rw [h.kn, show (fun t : Ty => knB L t.n) = fun t => knB M t.n from funext fun t => h.kn t.n]
theorem EqL.ovr (h : EqL L M) (up : List ByteArray) (m : Sg) : ovr L up m = ovr M up m := by
  unfold Go.Proofs.YthimpjfmelmhpaaDoor.Fc.ovr
  rw [h.mth]
theorem EqL.chkM (h : EqL L M) (up : List ByteArray) : ∀ l : List Sg, chkM L up l = chkM M up l
  | [] => rfl
  | m :: r => by
    rw [Go.Proofs.YthimpjfmelmhpaaDoor.Fc.chkM, Go.Proofs.YthimpjfmelmhpaaDoor.Fc.chkM, h.knM, h.ovr, h.chkM up r]
theorem EqL.brk (h : EqL L M) (s : ByteArray) : brk L s = brk M s := by
  unfold Go.Proofs.YthimpjfmelmhpaaDoor.Fc.brk
  rw [h.fnd s, h.fnd]
theorem EqL.chkG (h : EqL L M) (l : List ByteArray) (b : Bool) (f : Fc) : chkG L l b f = chkG M l b f := by
  cases l with
  | nil => rfl
  | cons x l =>
    cases b with
    | false => rw [Go.Proofs.YthimpjfmelmhpaaDoor.Fc.chkG, Go.Proofs.YthimpjfmelmhpaaDoor.Fc.chkG, h.brk]
    | true => rw [Go.Proofs.YthimpjfmelmhpaaDoor.Fc.chkG, Go.Proofs.YthimpjfmelmhpaaDoor.Fc.chkG, h.chkF, h.chkM]
theorem EqL.chk (h : EqL L M) (s : ByteArray) : chk L s = chk M s := by
  unfold Go.Proofs.YthimpjfmelmhpaaDoor.Fc.chk
  rw [h.ab, h.fnd, h.chkG]
theorem EqL.fdL (h : EqL L M) (x : Mt) : fdL L x = fdL M x := by
  unfold Go.Proofs.YthimpjfmelmhpaaDoor.Fc.fdL
  rw [h.ab]
  congr 1
  funext c
  unfold fdT
  rw [h.fnd]
theorem EqL.okFd (h : EqL L M) : okFd L = okFd M := by
  funext x
  unfold Go.Proofs.YthimpjfmelmhpaaDoor.Fc.okFd
  rw [h.ab, h.fld]
theorem EqL.okB (h : EqL L M) (f : Fl) : okB L f = okB M f := by
  unfold Go.Proofs.YthimpjfmelmhpaaDoor.Fc.okB
  rw [h.okFd, show (fun t : Ty => knB L t.n) = fun t => knB M t.n from funext fun t => h.kn t.n, show (fun c => (Go.Proofs.YthimpjfmelmhpaaDoor.Fc.fnd L c).isSome) = fun c => (Go.Proofs.YthimpjfmelmhpaaDoor.Fc.fnd M c).isSome from funext fun c => by rw [h.fnd],
    show (fun x => (Go.Proofs.YthimpjfmelmhpaaDoor.Fc.fdL L x).isSome) = fun x => (Go.Proofs.YthimpjfmelmhpaaDoor.Fc.fdL M x).isSome from funext fun c => by rw [h.fdL]]
theorem EqL.fitT (h : EqL L M) (f : Fl) : fitT L f = fitT M f := by
  unfold Go.Proofs.YthimpjfmelmhpaaDoor.Fc.fitT
  rw [h.chk, h.okB]
end
theorem fitsT_zero {L : List Fc} : ∀ {l : List Fl}, fitsT L l = 0 ↔ ∀ f ∈ l, fitT L f = 0
  | [] => ⟨fun _ f hf => (by cases hf), fun _ => rfl⟩
  | g :: r => by
    rw [fitsT]
    by_cases h0 : fitT L g = 0
    · rw [if_neg (by simpa using h0), fitsT_zero (l := r)]
      exact ⟨fun h f hf => (List.mem_cons.1 hf).elim (fun e => by rw [e]; exact h0) (h f), fun h f hf => h f (List.mem_cons.2 (.inr hf))⟩
    · rw [if_pos h0]
      exact ⟨fun h => absurd h h0, fun h => h g (by simp)⟩
theorem gat_back : ∀ {ns : List ByteArray} {l : List Fl}, (∀ f ∈ l, RightF f ∧ f.fc.name ∉ ns) → Once l → gat ns l = 0
  | ns, [], _, _ => rfl
  | ns, f :: r, h, ho => by
    rw [gat]
    have h1 := h f (by simp)
    simp only [h1.1, h1.2, not_true, if_false]
    unfold Once at ho
    rw [List.map_cons, List.nodup_cons] at ho
    refine gat_back (fun g hg => ⟨(h g (by simp [hg])).1, fun e => ?_⟩) ho.2
    rcases List.mem_append.1 e with e | e
    · exact (h g (by simp [hg])).2 e
    · rw [List.mem_singleton] at e
      exact ho.1 (List.mem_map.2 ⟨g, hg, e⟩)
theorem lk_iff (fs : List Fl) : lkE fs = 0 ↔ (∀ f ∈ fs, RightF f) ∧ Once fs ∧ ∀ f ∈ fs, fitT (faces fs) f = 0 := by
  rw [lk_ck, ckE]
  constructor
  · intro h
    by_cases h0 : gat [] fs = 0
    · rw [if_neg (by simpa using h0)] at h
      have := gat_ok h0
      exact ⟨fun f hf => (this.1 f hf).1, this.2, fitsT_zero.1 h⟩
    · rw [if_pos h0] at h; exact absurd h h0
  · rintro ⟨h1, h2, h3⟩
    have h0 : gat [] fs = 0 := gat_back (fun f hf => ⟨h1 f hf, by simp⟩) h2
    rw [if_neg (by simpa using h0)]
    exact fitsT_zero.2 h3
theorem flAt_perm {fs gs : List Fl} (hp : fs.Perm gs) (ho : Once fs) (s : ByteArray) : flAt fs s = flAt gs s := by
  have ho2 : Once gs := by unfold Once at ho ⊢; exact (hp.map _).nodup_iff.1 ho
  cases h1 : flAt fs s with
  | none =>
    cases h2 : flAt gs s with
    | none => rfl
    | some g =>
      obtain ⟨hg, hn⟩ := flAt_mem h2
      exact absurd hn (flAt_none h1 g (hp.mem_iff.2 hg))
  | some f =>
    obtain ⟨hf, hn⟩ := flAt_mem h1
    rw [← hn]
    exact (flAt_once ho2 (hp.mem_iff.1 hf)).symm
theorem eql_perm {fs gs : List Fl} (hp : fs.Perm gs) (ho : Once fs) : EqL (faces fs) (faces gs) := by
  have ho2 : Once gs := by unfold Once at ho ⊢; exact (hp.map _).nodup_iff.1 ho
  refine ⟨fun s => ?_, ?_⟩
  · rw [fnd_flAt ho, fnd_flAt ho2, flAt_perm hp ho]
  · unfold faces
    rw [List.length_map, List.length_map, hp.length_eq]
theorem lk_perm1 {fs gs : List Fl} (hp : fs.Perm gs) (h : lkE fs = 0) : lkE gs = 0 := by
  obtain ⟨h1, h2, h3⟩ := (lk_iff fs).1 h
  have ho2 : Once gs := by unfold Once at h2 ⊢; exact (hp.map _).nodup_iff.1 h2
  exact (lk_iff gs).2 ⟨fun f hf => h1 f (hp.mem_iff.2 hf), ho2, fun f hf => by rw [← (eql_perm hp h2).fitT]; exact h3 f (hp.mem_iff.2 hf)⟩
/-- in another order files fit together just as well -/
theorem lk_perm {fs gs : List Fl} (hp : fs.Perm gs) : lkE fs = 0 ↔ lkE gs = 0 := ⟨lk_perm1 hp, lk_perm1 hp.symm⟩
theorem size_perm {fs gs : List Fl} (hp : fs.Perm gs) (ho : Once fs) (s : ByteArray) : sizeF fs s = sizeF gs s := by
  unfold sizeF szL
  rw [(eql_perm hp ho).ab]
  simp only [flAt_perm hp ho]
theorem slot_perm {fs gs : List Fl} (hp : fs.Perm gs) (ho : Once fs) (s fld : ByteArray) : slotF fs s fld = slotF gs s fld := by
  unfold slotF
  rw [(eql_perm hp ho).ab, (eql_perm hp ho).fld]
  cases fldOf (faces gs) (ab (faces gs) s).1 fld with
  | none => rfl
  | some p => simp only [flAt_perm hp ho, size_perm hp ho]
theorem fdM_perm {fs gs : List Fl} (hp : fs.Perm gs) (ho : Once fs) (x : Mt) : fdM fs x = fdM gs x := by
  have ho2 : Once gs := by unfold Once at ho ⊢; exact (hp.map _).nodup_iff.1 ho
  rw [fdM_eq ho, fdM_eq ho2, (eql_perm hp ho).fdL]
/-- a list that is turned -/
theorem turn_perm (fs : List Fl) (k : Nat) : fs.Perm (fs.drop k ++ fs.take k) := by
  have := List.perm_append_comm (l₁ := fs.take k) (l₂ := fs.drop k)
  rwa [List.take_append_drop] at this
end Go.Proofs.YthimpjfmelmhpaaDoor.Fc
namespace Go.Proofs.YthimpjfmelmhpaaDoor.Fc
open Go.RowKit
set_option linter.unusedVariables false
set_option linter.unusedSimpArgs false

/-- files behind a row of files -/
theorem app_fl {w : World} {B : Nat} {v : Value} {n : Nat} {xs : List Value} (ho : w.ownsRow B 44 10 v n xs) (b f m c : Nat) (news : List Value) (hl : news.length = m * 10) (hnews : ∀ j u, news[j]? = some u → w.cell? ⟨b, f + j, none⟩ = some u) (h1 : ∀ u ∈ news, u.oneCell' = true) (hn : n + m ≤ 1000) (hB : B ≤ w.heap.size) :
    ∃ v' w', (Builtin.append_ #[22, 22] 22 #[v, .slice (some ⟨b, f, none⟩) m c]).run Tryd.prog w = .ok v' w' ∧ w'.ownsRow B 44 10 v' (n + m) (xs ++ news) ∧ Mods (fun k => B ≤ k ∧ ∃ cur, w.heap[k]? = some (.cells cur 44 (0, 0))) w w' := by
  obtain ⟨i, hi, hii⟩ := infoF
  simp only [Prod.mk.injEq, Option.map_eq_some_iff] at hii
  obtain ⟨e1, e2, z, ez, e3⟩ := hii
  obtain ⟨v', w', hr, h2, h3, h4⟩ := run_append_own (P := Tryd.prog) w B 22 22 44 i z 10 224 Tryd.underlying22 hi ez e1 e2 e3 (by decide) v n xs ho ⟨b, f, none⟩ m c news hl (fun j u hu => by
      rw [Go.WideShapes.add_plain]
      exact hnews j u hu) h1 (by unfold maxLen; omega) (by omega) hB
  exact ⟨v', w', hr, h2, grown_mods h3 ho⟩
theorem flat_congr {C D : Nat → List Value} : ∀ (m : Nat), (∀ i, i < m → C i = D i) → flat C m = flat D m
  | 0, _ => rfl
  | m + 1, h => by rw [flat_next, flat_next, flat_congr m (fun i hi => h i (by omega)), h m (by omega)]
def catC (C D : Nat → List Value) (m : Nat) : Nat → List Value := fun i => if i < m then C i else D (i - m)
theorem flat_cat (C D : Nat → List Value) (m : Nat) : ∀ k, flat (catC C D m) (m + k) = flat C m ++ flat D k
  | 0 => by
    rw [Nat.add_zero, flat_congr m (D := C) (fun i hi => by unfold catC; rw [if_pos hi])]
    simp [flat]
  | k + 1 => by
    rw [← Nat.add_assoc, flat_next, flat_cat C D m k, flat_next, List.append_assoc]
    unfold catC
    rw [if_neg (by omega), show m + k - m = k by omega]
theorem flr_one {w : World} {x : Fl} {cs : List Value} (h : FlR w x cs) : cs.length = 10 ∧ ∀ u ∈ cs, u.oneCell' = true := by
  obtain ⟨a8, n8, c8, a9, n9, c9, a1, n1, c1, a2, n2, c2, a3, n3, c3, a4, n4, c4, a5, n5, c5, a0, n0, c0, rfl, _⟩ := h
  exact ⟨rfl, by simp [Value.oneCell']⟩
/-- a list that is turned -/
theorem turn_run (fs : List Fl) (b o n cp k : Nat) (w : World) (h : Sl w 10 (FlR w) fs (.slice (some ⟨b, o, none⟩) n cp)) (hn : n ≤ 1000) (hk : k < n) :
    ∃ v1 x1 v2 x2, (Builtin.append_ #[22, 22] 22 #[.slice (some ⟨w.heap.size, 0, none⟩) 0 0, .slice (some ⟨b, o + k * 10, none⟩) (n - k) (cp - k)]).run Tryd.prog (w.alloc (.cells #[] 44)).drew = .ok v1 x1 ∧
      (Builtin.append_ #[22, 22] 22 #[v1, .slice (some ⟨b, o, none⟩) k cp]).run Tryd.prog x1 = .ok v2 x2 ∧ Sl x2 10 (FlR x2) (fs.drop k ++ fs.take k) v2 ∧ Below w.heap.size w x2 := by
  obtain ⟨C, hC⟩ := h.rows
  have hlen : n = fs.length := h.at.1
  have hC1 : ∀ i, i < n → (C i).length = 10 := fun i hi => by obtain ⟨⟨x, _, hx⟩, _⟩ := hC i hi; exact (flr_one hx).1
  have hCc : ∀ i, i < n → ∀ j v, (C i)[j]? = some v → w.cell? ⟨b, o + i * 10 + j, none⟩ = some v := by
    intro i hi j v hv
    obtain ⟨_, b', o', e, hc⟩ := hC i hi
    cases e
    exact hc j v hv
  have hCo : ∀ i, i < n → ∀ u ∈ C i, u.oneCell' = true := fun i hi => by obtain ⟨⟨x, _, hx⟩, _⟩ := hC i hi; exact (flr_one hx).2
  have hwa : Below w.heap.size w (w.alloc (.cells #[] 44)).drew := (below1 w _).drew
  have ho : (w.alloc (.cells #[] 44)).drew.ownsRow w.heap.size 44 10 (.slice (some ⟨w.heap.size, 0, none⟩) 0 0) 0 [] :=
    row_keep (fp := fun _ => False) (World.ownsRow_lit (e := 44) (size := 10) w #[] 0 (Nat.le_refl _) (by unfold maxLen; omega) rfl) (Mods.of_below ((Below.refl _ _).drew)) (fun _ _ _ h => h)
  obtain ⟨v1, x1, hr1, ho1, hm1⟩ := app_fl ho b (o + k * 10) (n - k) (cp - k) (flat (fun i => C (k + i)) (n - k)) (flat_length _ (fun i hi => hC1 _ (by omega)))
    (flat_cells (by omega) (fun i hi => hC1 _ (by omega)) (fun i hi j v hv => by
      have := hCc (k + i) (by omega) j v hv
      rw [show o + (k + i) * 10 + j = o + k * 10 + i * 10 + j by omega] at this
      rw [hwa.cell (World.block_lt_of_cell? _ _ this)]
      exact this))
    (fun u hu => by obtain ⟨i, hi, hu⟩ := flat_mem hu; exact hCo _ (by omega) u hu) (by omega) hwa.size
  have hb1 : Below w.heap.size w x1 := hwa.trans (hm1.below (fun k e => e.1) hwa.size)
  obtain ⟨v2, x2, hr2, ho2, hm2⟩ := app_fl ho1 b o k cp (flat C k) (flat_length _ (fun i hi => hC1 _ (by omega)))
    (flat_cells (by omega) (fun i hi => hC1 _ (by omega)) (fun i hi j v hv => by
      have := hCc i (by omega) j v hv
      rw [hb1.cell (World.block_lt_of_cell? _ _ this)]
      exact this))
    (fun u hu => by obtain ⟨i, hi, hu⟩ := flat_mem hu; exact hCo _ (by omega) u hu) (by omega) hb1.size
  have hb2 : Below w.heap.size w x2 := hb1.trans (hm2.below (fun k e => e.1) hb1.size)
  refine ⟨v1, x1, v2, x2, hr1, hr2, ?_, hb2⟩
  rw [List.nil_append, ← flat_cat, Nat.zero_add] at ho2
  refine row_sl ho2 (by simp; omega) (fun i hi => ?_)
  unfold catC
  by_cases hik : i < n - k
  · rw [if_pos hik]
    obtain ⟨⟨x, hx, hR⟩, _⟩ := hC (k + i) (by omega)
    refine ⟨⟨x, ?_, hR.keep (Keeps.of_below hb2)⟩, hC1 _ (by omega)⟩
    rw [List.getElem?_append_left (by simp; omega), List.getElem?_drop]
    exact hx
  · rw [if_neg hik]
    obtain ⟨⟨x, hx, hR⟩, _⟩ := hC (i - (n - k)) (by omega)
    refine ⟨⟨x, ?_, hR.keep (Keeps.of_below hb2)⟩, hC1 _ (by omega)⟩
    rw [List.getElem?_append_right (by simp; omega), List.length_drop, ← hlen, List.getElem?_take, if_pos (by omega)]
    exact hx
end Go.Proofs.YthimpjfmelmhpaaDoor.Fc
namespace Go.Proofs.YthimpjfmelmhpaaDoor.Fc
open Go.RowKit
set_option linter.unusedVariables false
set_option linter.unusedSimpArgs false

theorem Tb.apart {B tb fm c : Nat} {w w' : World} {sv : Value} {L : List Fc} {fp : Nat → Prop} (h : Tb B w tb fm sv c L) (hm : Mods fp w w') (hk : Keeps w w') (h1 : ¬ fp tb) (h2 : ¬ fp fm) (h3 : ∀ k, sv = .map (some k) → ¬ fp k) : Tb B w' tb fm sv c L := by
  refine ⟨h.blk.keep hm h1, h.faces.keep hm h2 hk, ?_, h.lo, h.los, h.sm⟩
  rcases h.seen with e | ⟨m, S, e, hS, hne⟩
  · exact .inl e
  · exact .inr ⟨m, S, e, hS.keep hm (h3 m e), hne⟩
/-- an image, reckoned from here on -/
def Ih (i : ImS) (sv : Value) (c : Nat) (w : World) : Prop := Im { i with G := w, gv := sv } sv c w
/-- an image's blocks -/
def Bks (i : ImS) (sv : Value) (k : Nat) : Prop := k = i.tb ∨ k = i.fm ∨ k = i.im ∨ k = i.pm ∨ sv = .map (some k)
section
variable {i j : ImS} {sv s1 s2 : Value} {c q1 q2 : Nat} {w w' : World}
theorem Im.ih (h : Im i sv c w) : Ih i sv c w := h.here
theorem Im.blks (h : Im i sv c w) {k : Nat} (hk : Bks i sv k) : k < w.heap.size := by
  rcases hk with rfl | rfl | rfl | rfl | e
  · exact h.tab.blk.lt
  · exact h.tab.faces.lt
  · exact h.lt
  · obtain ⟨g, hg, _⟩ := h.pls
    exact hg.lt
  · rcases h.tab.seen with e2 | ⟨m, S, e2, hS, _⟩
    · rw [e2] at e; cases e
    · rw [e2] at e; cases e; exact hS.lt
theorem Im.blks_lo (h : Im i sv c w) {k : Nat} (hk : Bks i sv k) : i.W0.heap.size ≤ k := by
  have h1 := h.lo
  have h2 := h.imB
  rcases hk with rfl | rfl | rfl | rfl | e
  · have := h.tab.lo; omega
  · exact h.fmlo
  · exact h1
  · exact h.pmlo
  · have := h.tab.los k e; omega
theorem Im.apart (h : Im i sv c w) {fp : Nat → Prop} (hm : Mods fp w w') (hk : Keeps w w') (hW : Below i.W0.heap.size i.W0 w') (hf : ∀ k, Bks i sv k → ¬ fp k) : Ih i sv c w' := by
  obtain ⟨g, hg, hg2⟩ := h.pls
  exact ⟨h.tab.apart hm hk (hf _ (.inl rfl)) (hf _ (.inr (.inl rfl))) (fun k e => hf _ (.inr (.inr (.inr (.inr e))))), h.blk.keep hm (hf _ (.inr (.inr (.inl rfl)))), fls_keep hk h.fls, ⟨g, hg.keep hm (hf _ (.inr (.inr (.inr (.inl rfl))))), hg2⟩, h.imB, h.pmB, Nat.le_trans h.hB hm.size, hW, h.lo, h.fmlo, h.pmlo, Stp.refl _ _ _⟩
/-- an image, told from an earlier world -/
theorem Im.base (h : Im i sv c w) {V : World} (hb : Below V.heap.size V w) (hs : V.heap.size ≤ i.W0.heap.size) : Im { i with W0 := V } sv c w :=
  ⟨h.tab, h.blk, h.fls, h.pls, h.imB, h.pmB, h.hB, hb, Nat.le_trans hs h.lo, Nat.le_trans hs h.fmlo, Nat.le_trans hs h.pmlo, h.gst⟩
end
/-- two images, told from one world -/
structure Two (i j : ImS) (s1 : Value) (q1 : Nat) (s2 : Value) (q2 : Nat) (w : World) : Prop where
  a : Ih i s1 q1 w
  b : Ih j s2 q2 w
  W : i.W0 = j.W0
  dis : ∀ k, Bks i s1 k → ¬ Bks j s2 k
section
variable {i j : ImS} {s1 s2 : Value} {q1 q2 : Nat} {w w' : World}
theorem Two.symm (h : Two i j s1 q1 s2 q2 w) : Two j i s2 q2 s1 q1 w := ⟨h.b, h.a, h.W.symm, fun k h1 h2 => h.dis k h2 h1⟩
theorem Two.below (h : Two i j s1 q1 s2 q2 w) : Below i.W0.heap.size i.W0 w := h.a.below
theorem Two.bel (h : Two i j s1 q1 s2 q2 w) (hb : Below w.heap.size w w') : Two i j s1 q1 s2 q2 w' := ⟨(h.a.bel hb).ih, (h.b.bel hb).ih, h.W, h.dis⟩
/-- a call over the first of two images -/
theorem Two.call (h : Two i j s1 q1 s2 q2 w) {f : Nat} {args : Array Value} {k : Nat} {r : Value} (hc : ∀ i' : ImS, i'.im = i.im → i'.fs = i.fs → Im i' s1 q1 w → Calls Tryd.prog f args w (IPost i' w q1 k r)) :
    Calls Tryd.prog f args w fun e w' => e = .returned r ∧ (∃ s1' q1', Two i j s1' q1' s2 q2 w' ∧ q1' ≤ q1 + k) ∧ Keeps w w' ∧ w.heap.size ≤ w'.heap.size := by
  refine (hc { i with G := w, gv := s1 } rfl rfl h.a).mono ?_
  rintro e w' ⟨s1', q1', he, hI, hk, hb, hq⟩
  have hs : Stp i.tb w s1 w' s1' := hI.gst
  have hsz := hs.mods.size
  have hbj : Below j.W0.heap.size j.W0 w' := by
    have h1 : Below i.W0.heap.size w w' := hb.mono (by have h1 : i.W0.heap.size ≤ i.im := h.a.lo; have h2 : i.im < i.B := h.a.imB; exact Nat.le_trans h1 (Nat.le_of_lt h2))
    have h2 : Below i.W0.heap.size i.W0 w := h.a.below
    have h3 := h2.trans h1
    rw [h.W] at h3
    exact h3
  have hJ : Ih j s2 q2 w' := Im.apart (i := { j with G := w, gv := s2 }) h.b hs.mods hk hbj (fun k hk2 hf => h.dis k (hf.elim .inl (fun e => .inr (.inr (.inr (.inr e))))) hk2)
  refine ⟨he, ⟨s1', q1', ⟨hI.ih, hJ, h.W, ?_⟩, hq⟩, hk, hsz⟩
  intro m h1 h2
  rcases h1 with h1 | h1 | h1 | h1 | h1
  · exact h.dis m (.inl h1) h2
  · exact h.dis m (.inr (.inl h1)) h2
  · exact h.dis m (.inr (.inr (.inl h1))) h2
  · exact h.dis m (.inr (.inr (.inr (.inl h1)))) h2
  · rcases hs.new with e | ⟨m', e, hlt⟩
    · rw [e] at h1
      exact h.dis m (.inr (.inr (.inr (.inr h1)))) h2
    · rw [e] at h1
      cases h1
      have := Im.blks (i := { j with G := w, gv := s2 }) h.b h2
      omega
end
/-- at first -/
theorem two_start {i j : ImS} {s1 s2 : Value} {q1 q2 : Nat} {V w3 w4 : World} (h1 : Im i s1 q1 w3) (h2 : Im j s2 q2 w4) (hi : i.W0 = V) (hj : j.W0 = w3) : Two { i with W0 := V } { j with W0 := V } s1 q1 s2 q2 w4 := by
  have hb3 : Below w3.heap.size w3 w4 := by have := h2.below; rw [hj] at this; exact this
  have hbV : Below V.heap.size V w3 := by have := h1.below; rw [hi] at this; exact this
  have hV := hbV.size
  refine ⟨((h1.bel hb3).base (hbV.trans (hb3.mono hV)) (by rw [hi]; exact Nat.le_refl _)).ih, (h2.base (hbV.trans (hb3.mono hV)) (by rw [hj]; exact hV)).ih, rfl, fun k ha hb => ?_⟩
  have e1 : k < w3.heap.size := h1.blks ha
  have e2 : j.W0.heap.size ≤ k := h2.blks_lo hb
  rw [hj] at e2
  omega
end Go.Proofs.YthimpjfmelmhpaaDoor.Fc
namespace Go.Proofs.YthimpjfmelmhpaaDoor.Fc
open Go.RowKit
set_option linter.unusedVariables false
set_option linter.unusedSimpArgs false

theorem upF_pre {L : List Fc} : ∀ (n : Nat) (acc : List ByteArray) (s : ByteArray), ∃ l, (upF L n acc s).1 = acc ++ l
  | 0, acc, s => ⟨[], by simp [upF]⟩
  | n + 1, acc, s => by
    rw [upF]
    split
    · exact ⟨[], by simp⟩
    · split
      · exact ⟨[], by simp⟩
      · rename_i x hx
        split
        · exact ⟨[], by simp⟩
        · obtain ⟨l, hl⟩ := upF_pre n (acc ++ [s]) x.sup
          exact ⟨s :: l, by rw [hl]; simp⟩
theorem ab_first {L : List Fc} {s : ByteArray} {x : Fc} (hs : s ≠ eE) (h : fnd L s = some x) : ∃ l, (ab L s).1 = s :: l := by
  unfold ab
  rw [upF_step hs h (by simp)]
  obtain ⟨l, hl⟩ := upF_pre (L := L) L.length ([] ++ [s]) x.sup
  exact ⟨l, by rw [hl]; simp⟩
theorem mth_own {f : Fc} (h : RightP f) {s : Sg} (hs : s ∈ f.ms) : mthF f.ms s.name = some s := by
  obtain ⟨j, hj⟩ := List.getElem?_of_mem hs
  cases h1 : mthF f.ms s.name with
  | none =>
    unfold mthF at h1
    have := List.find?_eq_none.1 h1 s hs
    simp at this
  | some m =>
    unfold mthF at h1
    have h2 := List.mem_of_find?_eq_some h1
    have h3 := List.find?_some h1
    simp only [decide_eq_true_eq] at h3
    obtain ⟨i, hi⟩ := List.getElem?_of_mem h2
    rcases Nat.lt_trichotomy i j with e | e | e
    · exact absurd h3 (chain_ne Sg.name (right_ms h) e hi hj)
    · subst e
      rw [hi] at hj
      rw [Option.some.inj hj]
    · exact absurd h3.symm (chain_ne Sg.name (right_ms h) e hj hi)
theorem fd_own {fs : List Fl} (ho : Once fs) {x : Fl} (hx : x ∈ fs) (hr : RightF x) {s : Sg} (hs : s ∈ x.fc.ms) : fdM fs (s, x.fc.name) = some x.fc.name := by
  have hfl := flAt_once ho hx
  have hne : x.fc.name ≠ eE := fun e => by
    have := hr.fc.name
    rw [e] at this
    exact absurd this (by decide)
  have hfn : fnd (faces fs) x.fc.name = some x.fc := by rw [fnd_flAt ho, hfl]; rfl
  obtain ⟨l, hl⟩ := ab_first hne hfn
  unfold fdM
  rw [hl, List.find?_cons]
  have : fdF fs (s, x.fc.name) x.fc.name = true := by
    unfold fdF
    rw [hfl]
    simp [mth_own hr.fc hs]
  rw [this]
end Go.Proofs.YthimpjfmelmhpaaDoor.Fc
namespace Go.Proofs.YthimpjfmelmhpaaDoor.Fc
open Go.RowKit
set_option linter.unusedVariables false
set_option linter.unusedSimpArgs false

/-- append by a run equation, as one step of a region that draws -/
theorem step_append_run {ops : Array Oper} {o : Oper} {a : Act} {w : World} {K : Act → World → Prop} {Q : Exit → Act → World → Prop} {E : Prop} (hg : o.guard = none) (s x : Operand) (t : TypeId) (ho : o.op = .call { callee := .builtin .append, args := #[s, x], argTypes := #[t, t] }) (hty : o.type = t)
    {v u v' : Value} {w' : World} (hr : (Builtin.append_ #[t, t] t #[v, u]).run Tryd.prog w = .ok v' w') (hs : a.eval s = v) (hx : a.eval x = u) (h : K (a.put o.dst v') w') : if Region.wanted o (yielded ops a.tmps) = true then Oper.wp Tryd.prog o a w K Q else E := by
  have hw : Region.wanted o (yielded ops a.tmps) = true := by simp [Region.wanted, hg]
  rw [if_pos hw]
  exact wp_append_run s x t ho hty hs hx hr h
theorem i64_and (n : Int) (j m : Nat) (hj : j ≤ 16) (hm : (BitVec.ofInt 64 m).toNat = 2 ^ j - 1) : ∃ q : Nat, q < 2 ^ j ∧ bits .and .i64 n m = (q : Int) := by
  have key : (BitVec.ofInt 64 n &&& BitVec.ofInt 64 m).toNat = (n % ((2 ^ 64 : Nat) : Int)).toNat % 2 ^ j := by
    rw [BitVec.toNat_and, BitVec.toNat_ofInt, hm, Nat.and_two_pow_sub_one_eq_mod]
  have h2 : 2 ^ j ≤ 2 ^ 16 := Nat.pow_le_pow_right (by omega) hj
  have h3 : (n % ((2 ^ 64 : Nat) : Int)).toNat % 2 ^ j < 2 ^ j := Nat.mod_lt _ (Nat.pow_pos (by omega))
  refine ⟨(n % ((2 ^ 64 : Nat) : Int)).toNat % 2 ^ j, h3, ?_⟩
  show IntKind.i64.wrap ((BitVec.ofInt 64 n &&& BitVec.ofInt 64 m).toNat : Nat) = _
  rw [key, IntKind.wrap_i64]
  omega
set_option maxHeartbeats 16000000 in
set_option maxRecDepth 100000 in
theorem turns4 (fs : List Fl) (a : Option Addr) (n cp : Nat) (x : Int) (W : World) (h : Sl W 10 (FlR W) fs (.slice a n cp)) (hT : TabR W) :
    Calls Tryd.prog 4 #[.slice a n cp, .int .i64 x] W fun e w' => e = .returned (.bool true) ∧ Below W.heap.size W w' := by
  have HSL := Lib.hid h
  have HTB := Lib.hid hT
  obtain ⟨hnn, hl, hcp, hkk⟩ := h.at
  unfold maxLen at hcp
  have HN := Lib.hid hnn
  have HK := Lib.hid hkk
  clear h hT hnn hkk
  go_enter Tryd.func4, Tryd.ntmps4
  go_wp2_with fail
  refine (head6 W HTB.out).mono ?_
  rintro e w1 ⟨rfl, hb1⟩
  have HB1 := Lib.hid hb1
  clear hb1
  go_wp2_with fail
  refine (few7 fs a n cp w1 (fls_keep (Keeps.of_below HB1.out) HSL.out)).mono ?_
  rintro e w2 ⟨r, rfl, hr, hb2⟩
  have HB2 : Hid (Below W.heap.size W w2) := Lib.hid (HB1.out.trans (hb2.mono HB1.out.size))
  clear hb2
  cases r with
  | false =>
    clear hr
    go_wp2
    go_ret
    exact ⟨rfl, HB2.out⟩
  | true =>
  have HFF := Lib.hid (hr rfl)
  clear hr
  have hn8 : n ≤ 8 := by have := HN.out; have := HFF.out.2; omega
  by_cases h0 : n = 0
  · have t1 : ((n : Int) == 0) = true := by simp [h0]
    have t2 : (n == 0) = true := by simp [h0]
    clear h0
    go_wp2
    go_ret
    exact ⟨rfl, HB2.out⟩
  have hn1 : 1 ≤ n := by omega
  have t1 : ((n : Int) == 0) = false := by simp; omega
  have t2 : (n == 0) = false := by simp; omega
  obtain ⟨K, hK, eK⟩ := i64_and x 8 255 (by omega) (by decide)
  simp only [Nat.reducePow] at hK
  have EK : bits .and .i64 x 255 = (K : Int) := eK
  clear eK h0
  go_upto_region 6 with fail
  obtain ⟨k, hkn, ek⟩ : ∃ k : Nat, k < n ∧ (K : Int) % n = k := ⟨K % n, Nat.mod_lt _ (by omega), by simp⟩
  rw [ek]
  clear ek EK hK t1 t2
  obtain ⟨b, o, rfl⟩ : ∃ b o, a = some ⟨b, o, none⟩ := by
    obtain ⟨x0, hx0⟩ : ∃ x0, fs[0]? = some x0 := ⟨fs[0]'(by have := HN.out; omega), List.getElem?_eq_getElem _⟩
    obtain ⟨b, o, cs, e, _⟩ := HK.out 0 x0 hx0
    exact ⟨b, o, e⟩
  obtain ⟨v1, x1, v2, x2, hr1, hr2, hs2, hbx⟩ := turn_run fs b o n cp k w2 (fls_keep (Keeps.of_below HB2.out) HSL.out) (by omega) hkn
  obtain ⟨A2, c2, rfl⟩ := hs2.form
  have hgl : (fs.drop k ++ fs.take k).length = n := by have := HN.out; simp; omega
  rw [hgl] at hs2 hr2
  have HG := Lib.hid hs2
  have HBX : Hid (Below W.heap.size W x2) := Lib.hid (HB2.out.trans (hbx.mono HB2.out.size))
  have HGM : Hid (∀ f ∈ fs.drop k ++ fs.take k, f ∈ fs) := Lib.hid (fun f hf => (turn_perm fs k).mem_iff.2 hf)
  have HPM := Lib.hid (turn_perm fs k)
  generalize fs.drop k ++ fs.take k = gs at *
  have g1 : (cp = k) = False := by simp; omega
  have g2 : (cp == k) = false := by simp; omega
  have g3 : k ≤ n := by omega
  have g4 : n ≤ cp := by omega
  have g5 : k ≤ cp := by omega
  clear hs2 hbx
  go_region_law (first | (refine step_append_run rfl (.tmp 36) (.tmp 39) 22 rfl rfl hr1 (by simp [Act.eval, Act.put]) (by simp [Act.eval, Act.put, g1]) ?_) | (refine step_append_run rfl (.tmp 40) (.tmp 43) 22 rfl rfl hr2 (by simp [Act.eval, Act.put]) (by simp [Act.eval, Act.put]) ?_))
  clear hr1 hr2 g1 g2 g3 g4 g5
  have HLK := Lib.hid (link8 fs (some ⟨b, o, none⟩) n cp x2 (fls_keep (Keeps.of_below HBX.out) HSL.out) (HTB.out.bel HBX.out) (fun f hf => (HFF.out.1 f hf).fwc))
  go_wp2_with fail
  refine HLK.out.mono ?_
  have HLK2 : Hid (∀ z, Below x2.heap.size x2 z → Calls Tryd.prog 8 #[.slice A2 n c2] z (LPost gs z)) := Lib.hid (fun z hz => link8 gs A2 n c2 z (fls_keep (Keeps.of_below hz) HG.out) ((HTB.out.bel HBX.out).bel hz) (fun f hf => (HFF.out.1 f (HGM.out f hf)).fwc))
  have HGL : Hid (gs.length ≤ 8) := Lib.hid (by rw [hgl]; exact hn8)
  clear HLK
  rintro e w3 (⟨h200, _⟩ | ⟨_, hne, rfl, hb3⟩ | ⟨_, hz, i, sv, c, hW, hF, rfl, hI, hc⟩)
  · exfalso
    have := HFF.out.2
    omega
  · have HB3 : Hid (Below W.heap.size W w3) := Lib.hid (HBX.out.trans (hb3.mono HBX.out.size))
    have HC3 := Lib.hid (HLK2.out w3 hb3)
    have hne2 : lkE gs ≠ 0 := fun e => hne ((lk_perm HPM.out).2 e)
    have tz : (lkE fs == 0) = false := by simp [hne]
    have tz2 : (lkE fs != 0) = true := by simp [hne]
    have tz3 : (lkE gs == 0) = false := by simp [hne2]
    clear hb3 hne HLK2
    generalize lkE fs = le at *
    go_wp2_with fail
    refine HC3.out.mono ?_
    rintro e w4 (⟨h200, _⟩ | ⟨_, hne3, rfl, hb4⟩ | ⟨_, hz3, _⟩)
    · exfalso
      have := HGL.out
      omega
    · have HB4 : Hid (Below W.heap.size W w4) := Lib.hid (HB3.out.trans (hb4.mono HB3.out.size))
      clear hb4 HC3 hne3 hne2
      generalize lkE gs = lg at *
      go_wp2
      go_ret
      exact ⟨rfl, HB4.out⟩
    · exact absurd hz3 hne2
  · have HI := Lib.hid hI
    have hbf := hI.below
    rw [hW] at hbf
    have HC3 := Lib.hid (HLK2.out w3 hbf)
    have HB3 : Hid (Below W.heap.size W w3) := Lib.hid (HBX.out.trans (hbf.mono HBX.out.size))
    have hz2 := (lk_perm HPM.out).1 hz
    have HALL := Lib.hid (lk_all hz)
    have HOK := Lib.hid (gat_ok HALL.out.1)
    clear hbf hI hz HLK2
    go_wp2_with fail
    refine HC3.out.mono ?_
    rintro e w4 (⟨h200, _⟩ | ⟨_, hne3, _⟩ | ⟨_, _, j, sv2, q2, hW2, hF2, rfl, hI2, hq2⟩)
    · exfalso
      have := HGL.out
      omega
    · exact absurd hz2 hne3
    · obtain ⟨I, J, hIm, hJm, hIf, hJf, hIW, HTW⟩ : ∃ I J : ImS, i.im = I.im ∧ j.im = J.im ∧ I.fs = fs ∧ J.fs = gs ∧ I.W0 = x2 ∧ Hid (Two I J sv c sv2 q2 w4) := ⟨{ i with W0 := x2 }, { j with W0 := x2 }, rfl, rfl, hF, hF2, rfl, Lib.hid (two_start HI.out hI2 hW hW2)⟩
      rw [hIm, hJm]
      have HIF := Lib.hid hIf
      have HJF := Lib.hid hJf
      have HIW := Lib.hid hIW
      have HFL : Hid (I.fs.length ≤ 300 ∧ J.fs.length ≤ 300) := Lib.hid (by rw [hIf, hJf]; have := HFF.out.2; have := HGL.out; omega)
      clear hI2 HC3 HI hz2 hIm hJm hIf hJf hIW hW hW2 hF hF2
      go_wp2
      go_loopw [64] (fun ii wr => ∃ (kk : Nat) (s1 : Value) (q1 : Nat) (s2 : Value) (qq : Nat), kk ≤ n ∧ ii = .int .i64 kk ∧ Hid (Two I J s1 q1 s2 qq wr) ∧ q1 ≤ 1000000000 + kk * 100000 ∧ qq ≤ 1000000000 + kk * 100000) (fun ii _ => n - (intOf ii).toNat)
      case atStart => exact ⟨0, sv, c, sv2, q2, Nat.zero_le _, rfl, HTW, by omega, by omega⟩
      case round =>
        obtain ⟨kk, s1, q1, s2, qq, hkk, rfl, HT, hq1, hqq⟩ := hrel
        obtain ⟨wq, hwq⟩ : ∃ wq, wq = wr := ⟨_, rfl⟩
        subst hwq
        have HWR : Hid (Below W.heap.size W wq) := Lib.hid (by have h := HT.out.below; rw [HIW.out] at h; exact HBX.out.trans (h.mono HBX.out.size))
        by_cases hlt : kk < n
        · obtain ⟨x, hx⟩ : ∃ x, fs[kk]? = some x := ⟨_, List.getElem?_eq_getElem (by have := HN.out; omega)⟩
          obtain ⟨b', o', cs, hab, hcell, hF⟩ := HK.out kk x hx
          cases hab
          have hwr := HWR.out
          have HFW := Lib.hid (hF.keep (Keeps.of_below hwr))
          obtain ⟨a8, n8, c8, a9, n9, c9, a1, n1, c1, a2, n2, c2, a3, n3, c3, a4, n4, c4, a5, n5, c5, a0, n0, c0, rfl, hfc, hpo, hbd⟩ := id hF
          have k0 : wq.cell? ⟨b, o + kk * 10, none⟩ = some (.string x.fc.name) := (hwr.cell (World.block_lt_of_cell? _ _ (hcell 0 _ rfl))).trans (hcell 0 _ rfl)
          have k1 := (hwr.cell (World.block_lt_of_cell? _ _ (hcell 1 _ rfl))).trans (hcell 1 _ rfl)
          have k2 := (hwr.cell (World.block_lt_of_cell? _ _ (hcell 2 _ rfl))).trans (hcell 2 _ rfl)
          have k3 := (hwr.cell (World.block_lt_of_cell? _ _ (hcell 3 _ rfl))).trans (hcell 3 _ rfl)
          have k4 := (hwr.cell (World.block_lt_of_cell? _ _ (hcell 4 _ rfl))).trans (hcell 4 _ rfl)
          have k5 := (hwr.cell (World.block_lt_of_cell? _ _ (hcell 5 _ rfl))).trans (hcell 5 _ rfl)
          have k6 := (hwr.cell (World.block_lt_of_cell? _ _ (hcell 6 _ rfl))).trans (hcell 6 _ rfl)
          have k7 := (hwr.cell (World.block_lt_of_cell? _ _ (hcell 7 _ rfl))).trans (hcell 7 _ rfl)
          have k8 := (hwr.cell (World.block_lt_of_cell? _ _ (hcell 8 _ rfl))).trans (hcell 8 _ rfl)
          have k9 := (hwr.cell (World.block_lt_of_cell? _ _ (hcell 9 _ rfl))).trans (hcell 9 _ rfl)
          have hgl2 : b < wq.heap.size := World.block_lt_of_cell? _ _ k0
          have hm := List.mem_of_getElem? hx
          have HRF := Lib.hid (HOK.out.1 x hm).1
          have HFA := Lib.hid (flAt_once HOK.out.2 hm)
          have hnm : x.fc.name.size ≤ maxLen := by have := (HFF.out.1 x hm).fc.name; unfold maxLen; omega
          obtain ⟨SZ, hSZ⟩ : ∃ SZ : Nat, SZ = sizeF fs x.fc.name := ⟨_, rfl⟩
          have HSZ1 : Hid (sizeF I.fs x.fc.name = SZ) := Lib.hid (by rw [HIF.out, hSZ])
          have HSZ2 : Hid (sizeF J.fs x.fc.name = SZ) := Lib.hid (by rw [HJF.out, hSZ, size_perm HPM.out HOK.out.2])
          have HSA : Hid (∀ z p1 r1 p2 r2, Two I J p1 r1 p2 r2 z → r1 ≤ 10000000000 → r2 ≤ 10000000000 → Calls Tryd.prog 16 #[.pointer (some ⟨I.im, 0, none⟩), .string x.fc.name] z fun e w' => e = .returned (.int .i64 SZ) ∧ (∃ p1' r1' p2' r2', Two I J p1' r1' p2' r2' w' ∧ r1' ≤ r1 + 301 ∧ r2' ≤ r2 + 301) ∧ Keeps z w' ∧ z.heap.size ≤ w'.heap.size) := Lib.hid (fun z p1 r1 p2 r2 h h1 h2 => (h.call (fun i' e1 e2 hI => by have := size16 i' (by rw [e2]; exact HFL.out.1) p1 r1 z hI (by omega) x.fc.name hnm; rw [e1, e2, HSZ1.out] at this; exact this)).mono (fun e w' ⟨he, ⟨p, r, hT, hr⟩, hk, hs⟩ => ⟨he, ⟨p, r, p2, r2, hT, hr, by omega⟩, hk, hs⟩))
          have HSB : Hid (∀ z p1 r1 p2 r2, Two I J p1 r1 p2 r2 z → r1 ≤ 10000000000 → r2 ≤ 10000000000 → Calls Tryd.prog 16 #[.pointer (some ⟨J.im, 0, none⟩), .string x.fc.name] z fun e w' => e = .returned (.int .i64 SZ) ∧ (∃ p1' r1' p2' r2', Two I J p1' r1' p2' r2' w' ∧ r1' ≤ r1 + 301 ∧ r2' ≤ r2 + 301) ∧ Keeps z w' ∧ z.heap.size ≤ w'.heap.size) := Lib.hid (fun z p1 r1 p2 r2 h h1 h2 => (h.symm.call (fun i' e1 e2 hI => by have := size16 i' (by rw [e2]; exact HFL.out.2) p2 r2 z hI (by omega) x.fc.name hnm; rw [e1, e2, HSZ2.out] at this; exact this)).mono (fun e w' ⟨he, ⟨p, r, hT, hr⟩, hk, hs⟩ => ⟨he, ⟨p1, r1, p, r, hT.symm, by omega, hr⟩, hk, hs⟩))
          obtain ⟨W7, HW7⟩ : ∃ W7, Hid (W7 = wq.alloc (.cells #[.string x.fc.name, .string x.fc.sup, .slice a8 n8 c8, .slice a9 n9 c9, .slice a1 n1 c1, .slice a2 n2 c2, .slice a3 n3 c3, .slice a4 n4 c4, .slice a5 n5 c5, .slice a0 n0 c0] 44)) := ⟨_, Lib.hid rfl⟩
          have HB7 : Hid (Below wq.heap.size wq W7) := Lib.hid (by rw [HW7.out]; exact below1 wq _)
          have HX7 : Hid (Bx wq.heap.size [Value.string x.fc.name, .string x.fc.sup, .slice a8 n8 c8, .slice a9 n9 c9, .slice a1 n1 c1, .slice a2 n2 c2, .slice a3 n3 c3, .slice a4 n4 c4, .slice a5 n5 c5, .slice a0 n0 c0] W7) := Lib.hid (by rw [HW7.out]; exact Bx.new (by
            intro v hv
            simp only [List.mem_cons, List.not_mem_nil, or_false] at hv
            rcases hv with rfl | rfl | rfl | rfl | rfl | rfl | rfl | rfl | rfl | rfl
            all_goals first | exact pl_str _ | exact pl_bool _ | exact pl_slice _ _ _ | exact pl_int _ _))
          have HT7 : Hid (Two I J s1 q1 s2 qq W7.drew) := Lib.hid (HT.out.bel HB7.out.drew)
          have HS7 : Hid (W7.drew.heap.size = W7.heap.size) := Lib.hid rfl
          have HSMX : Hid (x.fc.fs.length ≤ 12 ∧ x.fc.ms.length ≤ 12) := Lib.hid ⟨(HFF.out.1 x hm).fc.fs, (HFF.out.1 x hm).fc.ms⟩
          have HPB : Hid (Sl W 3 VrR x.fc.fs (.slice a8 n8 c8) ∧ Sl W 5 (SgR W) x.fc.ms (.slice a9 n9 c9)) := Lib.hid (by
            obtain ⟨_, _, _, _, _, _, he, hf8, hf9⟩ := hfc
            simp only [List.cons.injEq, Value.slice.injEq, Value.string.injEq, true_and, and_true] at he
            obtain ⟨⟨rfl, rfl, rfl⟩, rfl, rfl, rfl⟩ := he
            exact ⟨hf8, hf9⟩)
          have HXM := Lib.hid hm
          clear hcell hF hx hm hSZ hfc hpo hbd
          go_upto_region 16 with fail
          rw [← HW7.out]
          clear k0 k1 k2 k3 k4 k5 k6 k7 k8 k9
          refine wp_region_held_drew (S := fun z => z.cell? ⟨wq.heap.size, 0, none⟩ = some (.string x.fc.name)) (by kernel_rfl) ?_ (fun hHeld => ?_)
          · exact HX7.out.box 0 _ rfl
          refine wpAnyH_take (i := 0) (v := ?_) rfl (by kernel_rfl) (by kernel_rfl) (by kernel_rfl) (fun _ _ _ h => h) (Or.inl ⟨by rfl, ?_⟩) (by assumption) ?_
          rotate_left
          focus (intro w hSw; go_simp; first | done | with_reducible rfl)
          simp only [Act.put, List.getElem_toArray, List.getElem_cons_zero, List.setIfInBounds_toArray, List.set_cons_zero, List.set_cons_succ]
          refine wpAnyH_take (i := 1) (v := ?_) rfl (by kernel_rfl) (by kernel_rfl) (by kernel_rfl) (fun _ _ _ h => h) (Or.inl ⟨by rfl, ?_⟩) (by assumption) ?_
          rotate_left
          focus (intro w hSw; go_simp; first | done | with_reducible rfl)
          simp only [Act.put, List.getElem_toArray, List.getElem_cons_zero, List.getElem_cons_succ, List.setIfInBounds_toArray, List.set_cons_zero, List.set_cons_succ]
          refine wpAnyH_take (i := 2) (v := ?_) rfl (by kernel_rfl) (by kernel_rfl) (by kernel_rfl) (fun _ _ _ h => h) (Or.inl ⟨by rfl, ?_⟩) (by assumption) ?_
          rotate_left
          focus (intro w hSw; go_simp; first | done | with_reducible rfl)
          simp only [Act.put, List.getElem_toArray, List.getElem_cons_zero, List.getElem_cons_succ, List.setIfInBounds_toArray, List.set_cons_zero, List.set_cons_succ]
          refine wpAnyH_take (i := 3) (v := ?_) rfl (by kernel_rfl) (by kernel_rfl) (by kernel_rfl) (fun _ _ _ h => h) (Or.inl ⟨by rfl, ?_⟩) (by assumption) ?_
          rotate_left
          focus (intro w hSw; go_simp; first | done | with_reducible rfl)
          simp only [Act.put, List.getElem_toArray, List.getElem_cons_zero, List.getElem_cons_succ, List.setIfInBounds_toArray, List.set_cons_zero, List.set_cons_succ]
          refine wpAnyH_take (i := 5) (v := ?_) rfl (by kernel_rfl) (by kernel_rfl) (by kernel_rfl) (fun _ _ _ h => h) (Or.inl ⟨by rfl, ?_⟩) (by assumption) ?_
          rotate_left
          focus (intro w hSw; go_simp; first | done | with_reducible rfl)
          simp only [Act.put, List.getElem_toArray, List.getElem_cons_zero, List.getElem_cons_succ, List.setIfInBounds_toArray, List.set_cons_zero, List.set_cons_succ]
          refine wpAnyH_take (i := 6) (v := ?_) rfl (by kernel_rfl) (by kernel_rfl) (by kernel_rfl) (fun _ _ _ h => h) (Or.inl ⟨by rfl, ?_⟩) (by assumption) ?_
          rotate_left
          focus (intro w hSw; go_simp; first | done | with_reducible rfl)
          simp only [Act.put, List.getElem_toArray, List.getElem_cons_zero, List.getElem_cons_succ, List.setIfInBounds_toArray, List.set_cons_zero, List.set_cons_succ]
          refine wpAnyH_take (i := 7) (v := ?_) rfl (by kernel_rfl) (by kernel_rfl) (by kernel_rfl) (fun _ _ _ h => h) (Or.inl ⟨by rfl, ?_⟩) (by assumption) ?_
          rotate_left
          focus (intro w hSw; go_simp; first | done | with_reducible rfl)
          simp only [Act.put, List.getElem_toArray, List.getElem_cons_zero, List.getElem_cons_succ, List.setIfInBounds_toArray, List.set_cons_zero, List.set_cons_succ]
          refine wpAnyH_take (i := 8) (v := ?_) rfl (by kernel_rfl) (by kernel_rfl) (by kernel_rfl) (fun _ _ _ h => h) (Or.inl ⟨by rfl, ?_⟩) (by assumption) ?_
          rotate_left
          focus (intro w hSw; go_simp; first | done | with_reducible rfl)
          simp only [Act.put, List.getElem_toArray, List.getElem_cons_zero, List.getElem_cons_succ, List.setIfInBounds_toArray, List.set_cons_zero, List.set_cons_succ]
          refine wpAnyH_ready (rs := [4]) (by kernel_rfl) (by simp) ?_
          refine AllReadyH.cons (o := _) rfl (fun K hK => ?_) AllReadyH.nil
          go_simp
          refine (HSA.out _ _ _ _ _ HT7.out (by omega) (by omega)).mono ?_
          rintro e z1 ⟨rfl, ⟨p1, p2, p3, p4, hT, hp2, hp4⟩, hk, hsp⟩
          have HTp := Lib.hid hT
          have HKp := Lib.hid hk
          clear hT
          go_simp
          refine hK.out _ _ (hk _ _ hHeld (pl_str _)) (fun hHeld => ?_)
          clear hK K hk
          try simp only [Act.put, List.getElem_toArray, List.getElem_cons_zero, List.getElem_cons_succ, List.setIfInBounds_toArray, List.set_cons_zero, List.set_cons_succ]
          refine wpAnyH_ready (rs := [9]) (by kernel_rfl) (by simp) ?_
          refine AllReadyH.cons (o := _) rfl (fun K hK => ?_) AllReadyH.nil
          go_simp
          refine (HSB.out _ _ _ _ _ HTp.out (by omega) (by omega)).mono ?_
          rintro e z2 ⟨rfl, ⟨r1, r2, r3, r4, hT, hr2, hr4⟩, hk, hsr⟩
          have HTr := Lib.hid hT
          have HKr := Lib.hid hk
          clear hT
          go_simp
          refine hK.out _ _ (hk _ _ hHeld (pl_str _)) (fun hHeld => ?_)
          clear hK K hk
          try simp only [Act.put, List.getElem_toArray, List.getElem_cons_zero, List.getElem_cons_succ, List.setIfInBounds_toArray, List.set_cons_zero, List.set_cons_succ]
          refine wpAnyH_take (i := 10) (v := ?_) rfl (by kernel_rfl) (by kernel_rfl) (by kernel_rfl) (fun _ _ _ h => h) (Or.inl ⟨by rfl, ?_⟩) (by assumption) ?_
          rotate_left
          focus (intro w hSw; go_simp; first | done | with_reducible rfl)
          simp only [Act.put, List.getElem_toArray, List.getElem_cons_zero, List.getElem_cons_succ, List.setIfInBounds_toArray, List.set_cons_zero, List.set_cons_succ]
          refine wpAnyH_done (by kernel_rfl) ?_ _
          clear hHeld HSA HSB HT HT7
          have HK8 : Hid (Keeps W z2) := Lib.hid ((((Keeps.of_below HWR.out).trans (Keeps.of_below HB7.out.drew)).trans HKp.out).trans HKr.out)
          have y2 : z2.cell? ⟨wq.heap.size, 2, none⟩ = some (.slice a8 n8 c8) := HKr.out _ _ (HKp.out _ _ (HX7.out.box 2 _ rfl) (pl_slice _ _ _)) (pl_slice _ _ _)
          have HY : Hid (z2.cell? ⟨wq.heap.size, 0, none⟩ = some (.string x.fc.name) ∧ z2.cell? ⟨wq.heap.size, 3, none⟩ = some (.slice a9 n9 c9)) := Lib.hid ⟨HKr.out _ _ (HKp.out _ _ (HX7.out.box 0 _ rfl) (pl_str _)) (pl_str _), HKr.out _ _ (HKp.out _ _ (HX7.out.box 3 _ rfl) (pl_slice _ _ _)) (pl_slice _ _ _)⟩
          have HVS := Lib.hid (vrs_keep HK8.out HPB.out.1)
          obtain ⟨em, lm, qm, hkm⟩ := HVS.out.at
          unfold maxLen at qm
          have EM := Lib.hid em
          have HKM := Lib.hid hkm
          have HF12 : Hid (x.fc.fs.length ≤ 12 ∧ x.fc.ms.length ≤ 12) := HSMX
          clear em hkm HKp HKr HX7
          have hn12 : n8 ≤ 12 := by have := HF12.out.1; have := EM.out; omega
          have hszq : wq.heap.size < z2.heap.size := World.block_lt_of_cell? _ _ y2
          obtain ⟨wp, hwp⟩ : ∃ wp, wp = z2 := ⟨_, rfl⟩
          subst hwp
          go_upto_region 19 with fail
          go_loopw [83] (fun ii wr => ∃ (m : Nat) (p1 : Value) (t1 : Nat) (p2 : Value) (t2 : Nat), m ≤ n8 ∧ ii = .int .i64 m ∧ Hid (Two I J p1 t1 p2 t2 wr ∧ Keeps wp wr) ∧ t1 ≤ r2 + m * 2000 ∧ t2 ≤ r4 + m * 2000) (fun ii _ => n8 - (intOf ii).toNat)
          case atStart => exact ⟨0, r1, r2, r3, r4, Nat.zero_le _, rfl, Lib.hid ⟨HTr.out, Keeps.refl _⟩, by omega, by omega⟩
          case round =>
            obtain ⟨m, p1, t1, p2, t2, hm8, rfl, HT, ht1, ht2⟩ := hrel
            obtain ⟨wv, hwv⟩ : ∃ wv, wv = wr := ⟨_, rfl⟩
            subst hwv
            by_cases hlm : m < n8
            · obtain ⟨v, hv⟩ : ∃ v, x.fc.fs[m]? = some v := ⟨_, List.getElem?_eq_getElem (by have := EM.out; omega)⟩
              obtain ⟨gv, ov, cv, hav, hcv, rfl⟩ := HKM.out m v hv
              subst hav
              have u0 : wv.cell? ⟨gv, ov + m * 3, none⟩ = some (.string v.name) := HT.out.2 _ _ (hcv 0 _ rfl) (pl_str _)
              have u1 : wv.cell? ⟨gv, ov + m * 3 + 1, none⟩ = some (.string v.tn) := HT.out.2 _ _ (hcv 1 _ rfl) (pl_str _)
              have u2 : wv.cell? ⟨gv, ov + m * 3 + 2, none⟩ = some (.bool v.ta) := HT.out.2 _ _ (hcv 2 _ rfl) (pl_bool _)
              have hgv : gv < wv.heap.size := World.block_lt_of_cell? _ _ u0
              obtain ⟨W9, HW9⟩ : ∃ W9, Hid (W9 = wv.alloc (.cells #[.string v.name, .string v.tn, .bool v.ta] 68)) := ⟨_, Lib.hid rfl⟩
              have HB9 : Hid (Below wv.heap.size wv W9) := Lib.hid (by rw [HW9.out]; exact below1 wv _)
              have HX9 : Hid (Bx wv.heap.size [Value.string v.name, .string v.tn, .bool v.ta] W9) := Lib.hid (by rw [HW9.out]; exact Bx.new (by
                intro v hv
                simp only [List.mem_cons, List.not_mem_nil, or_false] at hv
                rcases hv with rfl | rfl | rfl
                all_goals first | exact pl_str _ | exact pl_bool _))
              have HN9 : Hid (W9.cell? ⟨wq.heap.size, 0, none⟩ = some (.string x.fc.name)) := Lib.hid (Keeps.of_below HB9.out _ _ (HT.out.2 _ _ HY.out.1 (pl_str _)) (pl_str _))
              have HT9 : Hid (Two I J p1 t1 p2 t2 W9.drew) := Lib.hid (HT.out.1.bel HB9.out.drew)
              have HKV : Hid (Keeps wp W9.drew) := Lib.hid (HT.out.2.trans (Keeps.of_below HB9.out.drew))
              obtain ⟨SL, hSL⟩ : ∃ SL : Int, SL = slotF fs x.fc.name v.name := ⟨_, rfl⟩
              have HL1 : Hid (slotF I.fs x.fc.name v.name = SL) := Lib.hid (by rw [HIF.out, hSL])
              have HL2 : Hid (slotF J.fs x.fc.name v.name = SL) := Lib.hid (by rw [HJF.out, hSL, slot_perm HPM.out HOK.out.2])
              have HSA : Hid (∀ z p1 r1 p2 r2, Two I J p1 r1 p2 r2 z → r1 ≤ 10000000000 → r2 ≤ 10000000000 → Calls Tryd.prog 17 #[.pointer (some ⟨I.im, 0, none⟩), .string x.fc.name, .string v.name] z fun e w' => e = .returned (.int .i64 SL) ∧ (∃ p1' r1' p2' r2', Two I J p1' r1' p2' r2' w' ∧ r1' ≤ r1 + 2000 ∧ r2' ≤ r2) ∧ Keeps z w' ∧ z.heap.size ≤ w'.heap.size) := Lib.hid (fun z p1 r1 p2 r2 h h1 h2 => (h.call (fun i' e1 e2 hI => by have := slot17 i' (by rw [e2]; exact HFL.out.1) p1 r1 z hI (by omega) x.fc.name v.name hnm; rw [e1, e2, HL1.out] at this; exact this)).mono (fun e w' ⟨he, ⟨p, r, hT, hr⟩, hk, hs⟩ => ⟨he, ⟨p, r, p2, r2, hT, hr, Nat.le_refl _⟩, hk, hs⟩))
              have HSB : Hid (∀ z p1 r1 p2 r2, Two I J p1 r1 p2 r2 z → r1 ≤ 10000000000 → r2 ≤ 10000000000 → Calls Tryd.prog 17 #[.pointer (some ⟨J.im, 0, none⟩), .string x.fc.name, .string v.name] z fun e w' => e = .returned (.int .i64 SL) ∧ (∃ p1' r1' p2' r2', Two I J p1' r1' p2' r2' w' ∧ r1' ≤ r1 ∧ r2' ≤ r2 + 2000) ∧ Keeps z w' ∧ z.heap.size ≤ w'.heap.size) := Lib.hid (fun z p1 r1 p2 r2 h h1 h2 => (h.symm.call (fun i' e1 e2 hI => by have := slot17 i' (by rw [e2]; exact HFL.out.2) p2 r2 z hI (by omega) x.fc.name v.name hnm; rw [e1, e2, HL2.out] at this; exact this)).mono (fun e w' ⟨he, ⟨p, r, hT, hr⟩, hk, hs⟩ => ⟨he, ⟨p1, r1, p, r, hT.symm, Nat.le_refl _, hr⟩, hk, hs⟩))
              clear hcv hv hSL
              go_upto_region 21 with fail
              rw [← HW9.out]
              clear u0 u1 u2
              refine wp_region_held_drew (S := fun z => z.cell? ⟨wq.heap.size, 0, none⟩ = some (.string x.fc.name) ∧ z.cell? ⟨wv.heap.size, 0, none⟩ = some (.string v.name)) (by kernel_rfl) ?_ (fun hHeld => ?_)
              · exact ⟨HN9.out, HX9.out.box 0 _ rfl⟩
              refine wpAnyH_take (i := 0) (v := ?_) rfl (by kernel_rfl) (by kernel_rfl) (by kernel_rfl) (fun _ _ _ h => h) (Or.inl ⟨by rfl, ?_⟩) (by assumption) ?_
              rotate_left
              focus (intro w hSw; obtain ⟨e0, e1⟩ := hSw; go_simp; first | done | with_reducible rfl)
              simp only [Act.put, List.getElem_toArray, List.getElem_cons_zero, List.setIfInBounds_toArray, List.set_cons_zero, List.set_cons_succ]
              refine wpAnyH_take (i := 1) (v := ?_) rfl (by kernel_rfl) (by kernel_rfl) (by kernel_rfl) (fun _ _ _ h => h) (Or.inl ⟨by rfl, ?_⟩) (by assumption) ?_
              rotate_left
              focus (intro w hSw; obtain ⟨e0, e1⟩ := hSw; go_simp; first | done | with_reducible rfl)
              simp only [Act.put, List.getElem_toArray, List.getElem_cons_zero, List.getElem_cons_succ, List.setIfInBounds_toArray, List.set_cons_zero, List.set_cons_succ]
              refine wpAnyH_take (i := 2) (v := ?_) rfl (by kernel_rfl) (by kernel_rfl) (by kernel_rfl) (fun _ _ _ h => h) (Or.inl ⟨by rfl, ?_⟩) (by assumption) ?_
              rotate_left
              focus (intro w hSw; obtain ⟨e0, e1⟩ := hSw; go_simp; first | done | with_reducible rfl)
              simp only [Act.put, List.getElem_toArray, List.getElem_cons_zero, List.getElem_cons_succ, List.setIfInBounds_toArray, List.set_cons_zero, List.set_cons_succ]
              refine wpAnyH_take (i := 3) (v := ?_) rfl (by kernel_rfl) (by kernel_rfl) (by kernel_rfl) (fun _ _ _ h => h) (Or.inl ⟨by rfl, ?_⟩) (by assumption) ?_
              rotate_left
              focus (intro w hSw; obtain ⟨e0, e1⟩ := hSw; go_simp; first | done | with_reducible rfl)
              simp only [Act.put, List.getElem_toArray, List.getElem_cons_zero, List.getElem_cons_succ, List.setIfInBounds_toArray, List.set_cons_zero, List.set_cons_succ]
              refine wpAnyH_take (i := 4) (v := ?_) rfl (by kernel_rfl) (by kernel_rfl) (by kernel_rfl) (fun _ _ _ h => h) (Or.inl ⟨by rfl, ?_⟩) (by assumption) ?_
              rotate_left
              focus (intro w hSw; obtain ⟨e0, e1⟩ := hSw; go_simp; first | done | with_reducible rfl)
              simp only [Act.put, List.getElem_toArray, List.getElem_cons_zero, List.getElem_cons_succ, List.setIfInBounds_toArray, List.set_cons_zero, List.set_cons_succ]
              refine wpAnyH_take (i := 5) (v := ?_) rfl (by kernel_rfl) (by kernel_rfl) (by kernel_rfl) (fun _ _ _ h => h) (Or.inl ⟨by rfl, ?_⟩) (by assumption) ?_
              rotate_left
              focus (intro w hSw; obtain ⟨e0, e1⟩ := hSw; go_simp; first | done | with_reducible rfl)
              simp only [Act.put, List.getElem_toArray, List.getElem_cons_zero, List.getElem_cons_succ, List.setIfInBounds_toArray, List.set_cons_zero, List.set_cons_succ]
              refine wpAnyH_take (i := 7) (v := ?_) rfl (by kernel_rfl) (by kernel_rfl) (by kernel_rfl) (fun _ _ _ h => h) (Or.inl ⟨by rfl, ?_⟩) (by assumption) ?_
              rotate_left
              focus (intro w hSw; obtain ⟨e0, e1⟩ := hSw; go_simp; first | done | with_reducible rfl)
              simp only [Act.put, List.getElem_toArray, List.getElem_cons_zero, List.getElem_cons_succ, List.setIfInBounds_toArray, List.set_cons_zero, List.set_cons_succ]
              refine wpAnyH_take (i := 8) (v := ?_) rfl (by kernel_rfl) (by kernel_rfl) (by kernel_rfl) (fun _ _ _ h => h) (Or.inl ⟨by rfl, ?_⟩) (by assumption) ?_
              rotate_left
              focus (intro w hSw; obtain ⟨e0, e1⟩ := hSw; go_simp; first | done | with_reducible rfl)
              simp only [Act.put, List.getElem_toArray, List.getElem_cons_zero, List.getElem_cons_succ, List.setIfInBounds_toArray, List.set_cons_zero, List.set_cons_succ]
              refine wpAnyH_take (i := 9) (v := ?_) rfl (by kernel_rfl) (by kernel_rfl) (by kernel_rfl) (fun _ _ _ h => h) (Or.inl ⟨by rfl, ?_⟩) (by assumption) ?_
              rotate_left
              focus (intro w hSw; obtain ⟨e0, e1⟩ := hSw; go_simp; first | done | with_reducible rfl)
              simp only [Act.put, List.getElem_toArray, List.getElem_cons_zero, List.getElem_cons_succ, List.setIfInBounds_toArray, List.set_cons_zero, List.set_cons_succ]
              refine wpAnyH_take (i := 10) (v := ?_) rfl (by kernel_rfl) (by kernel_rfl) (by kernel_rfl) (fun _ _ _ h => h) (Or.inl ⟨by rfl, ?_⟩) (by assumption) ?_
              rotate_left
              focus (intro w hSw; obtain ⟨e0, e1⟩ := hSw; go_simp; first | done | with_reducible rfl)
              simp only [Act.put, List.getElem_toArray, List.getElem_cons_zero, List.getElem_cons_succ, List.setIfInBounds_toArray, List.set_cons_zero, List.set_cons_succ]
              refine wpAnyH_take (i := 11) (v := ?_) rfl (by kernel_rfl) (by kernel_rfl) (by kernel_rfl) (fun _ _ _ h => h) (Or.inl ⟨by rfl, ?_⟩) (by assumption) ?_
              rotate_left
              focus (intro w hSw; obtain ⟨e0, e1⟩ := hSw; go_simp; first | done | with_reducible rfl)
              simp only [Act.put, List.getElem_toArray, List.getElem_cons_zero, List.getElem_cons_succ, List.setIfInBounds_toArray, List.set_cons_zero, List.set_cons_succ]
              refine wpAnyH_take (i := 12) (v := ?_) rfl (by kernel_rfl) (by kernel_rfl) (by kernel_rfl) (fun _ _ _ h => h) (Or.inl ⟨by rfl, ?_⟩) (by assumption) ?_
              rotate_left
              focus (intro w hSw; obtain ⟨e0, e1⟩ := hSw; go_simp; first | done | with_reducible rfl)
              simp only [Act.put, List.getElem_toArray, List.getElem_cons_zero, List.getElem_cons_succ, List.setIfInBounds_toArray, List.set_cons_zero, List.set_cons_succ]
              refine wpAnyH_ready (rs := [6]) (by kernel_rfl) (by simp) ?_
              refine AllReadyH.cons (o := _) rfl (fun K hK => ?_) AllReadyH.nil
              go_simp
              refine (HSA.out _ _ _ _ _ HT9.out (by omega) (by omega)).mono ?_
              rintro e z3 ⟨rfl, ⟨f1, f2, f3, f4, hT, hf2, hf4⟩, hk, hsf⟩
              have HTf := Lib.hid hT
              have HKf := Lib.hid hk
              clear hT
              go_simp
              refine hK.out _ _ ⟨hk _ _ hHeld.1 (pl_str _), hk _ _ hHeld.2 (pl_str _)⟩ (fun hHeld => ?_)
              clear hK K hk
              try simp only [Act.put, List.getElem_toArray, List.getElem_cons_zero, List.getElem_cons_succ, List.setIfInBounds_toArray, List.set_cons_zero, List.set_cons_succ]
              refine wpAnyH_ready (rs := [13]) (by kernel_rfl) (by simp) ?_
              refine AllReadyH.cons (o := _) rfl (fun K hK => ?_) AllReadyH.nil
              go_simp
              refine (HSB.out _ _ _ _ _ HTf.out (by omega) (by omega)).mono ?_
              rintro e z4 ⟨rfl, ⟨d1, d2, d3, d4, hT, hd2, hd4⟩, hk, hsd⟩
              have HTd := Lib.hid hT
              have HKd := Lib.hid hk
              clear hT
              go_simp
              refine hK.out _ _ ⟨hk _ _ hHeld.1 (pl_str _), hk _ _ hHeld.2 (pl_str _)⟩ (fun hHeld => ?_)
              clear hK K hk
              try simp only [Act.put, List.getElem_toArray, List.getElem_cons_zero, List.getElem_cons_succ, List.setIfInBounds_toArray, List.set_cons_zero, List.set_cons_succ]
              refine wpAnyH_take (i := 14) (v := ?_) rfl (by kernel_rfl) (by kernel_rfl) (by kernel_rfl) (fun _ _ _ h => h) (Or.inl ⟨by rfl, ?_⟩) (by assumption) ?_
              rotate_left
              focus (intro w hSw; obtain ⟨e0, e1⟩ := hSw; go_simp; first | done | with_reducible rfl)
              simp only [Act.put, List.getElem_toArray, List.getElem_cons_zero, List.getElem_cons_succ, List.setIfInBounds_toArray, List.set_cons_zero, List.set_cons_succ]
              refine wpAnyH_done (by kernel_rfl) ?_ _
              clear hHeld HSA HSB HT9 HX9
              have HKZ : Hid (Keeps wp z4) := Lib.hid ((HKV.out.trans HKf.out).trans HKd.out)
              go_wp2
              go_roundw
              case rel => exact ⟨m + 1, d1, d2, d3, d4, by omega, by go_num, Lib.hid ⟨HTd.out, HKZ.out⟩, by omega, by omega⟩
              case measure => simp [intOf]; omega
            · have HMS := Lib.hid (sgs_keep (HK8.out.trans HT.out.2) HPB.out.2)
              obtain ⟨em2, lm2, qm2, hkm2⟩ := HMS.out.at
              unfold maxLen at qm2
              have EG := Lib.hid em2
              have HKG := Lib.hid hkm2
              have hg12 : n9 ≤ 12 := by have := HF12.out.2; omega
              have y3 : wv.cell? ⟨wq.heap.size, 3, none⟩ = some (.slice a9 n9 c9) := HT.out.2 _ _ HY.out.2 (pl_slice _ _ _)
              have HY0 : Hid (wv.cell? ⟨wq.heap.size, 0, none⟩ = some (.string x.fc.name)) := Lib.hid (HT.out.2 _ _ HY.out.1 (pl_str _))
              have hszv : wq.heap.size < wv.heap.size := World.block_lt_of_cell? _ _ y3
              have HTv := Lib.hid HT.out.1
              clear em2 hkm2 EM HKM HVS HK8
              go_upto_region 25 with fail
              go_loopw [107] (fun ii wr => ∃ (l : Nat) (f1 : Value) (f2 : Nat) (f3 : Value) (f4 : Nat), l ≤ n9 ∧ ii = .int .i64 l ∧ Hid (Two I J f1 f2 f3 f4 wr ∧ Keeps wv wr) ∧ f2 ≤ t1 + l * 301 ∧ f4 ≤ t2 + l * 301) (fun ii _ => n9 - (intOf ii).toNat)
              case atStart => exact ⟨0, p1, t1, p2, t2, Nat.zero_le _, rfl, Lib.hid ⟨HTv.out, Keeps.refl _⟩, by omega, by omega⟩
              case round =>
                obtain ⟨l, f1, f2, f3, f4, hl9, rfl, HU, hf2, hf4⟩ := hrel
                obtain ⟨wz, hwz⟩ : ∃ wz, wz = wr := ⟨_, rfl⟩
                subst hwz
                by_cases hll : l < n9
                · obtain ⟨sg, hsg⟩ : ∃ sg, x.fc.ms[l]? = some sg := ⟨_, List.getElem?_eq_getElem (by have := EG.out; omega)⟩
                  obtain ⟨gv, ov, cv, hav, hcv, am, nm, cm, rfl, hps⟩ := HKG.out l sg hsg
                  subst hav
                  have u0 : wz.cell? ⟨gv, ov + l * 5, none⟩ = some (.string sg.name) := HU.out.2 _ _ (hcv 0 _ rfl) (pl_str _)
                  have u1 : wz.cell? ⟨gv, ov + l * 5 + 1, none⟩ = some (.bool sg.st) := HU.out.2 _ _ (hcv 1 _ rfl) (pl_bool _)
                  have u2 : wz.cell? ⟨gv, ov + l * 5 + 2, none⟩ = some (.slice am nm cm) := HU.out.2 _ _ (hcv 2 _ rfl) (pl_slice _ _ _)
                  have u3 : wz.cell? ⟨gv, ov + l * 5 + 3, none⟩ = some (.string sg.rn) := HU.out.2 _ _ (hcv 3 _ rfl) (pl_str _)
                  have u4 : wz.cell? ⟨gv, ov + l * 5 + 4, none⟩ = some (.bool sg.ra) := HU.out.2 _ _ (hcv 4 _ rfl) (pl_bool _)
                  have hgv : gv < wz.heap.size := World.block_lt_of_cell? _ _ u0
                  have HXT : Hid (Sl wz 2 TyR sg.ps (.slice am nm cm)) := Lib.hid (tys_keep HU.out.2 hps)
                  have y0 : (wz.alloc (.cells #[.string sg.name, .bool sg.st, .slice am nm cm, .string sg.rn, .bool sg.ra] 51)).cell? ⟨wq.heap.size, 0, none⟩ = some (.string x.fc.name) := Keeps.of_below (below1 wz _) _ _ (HU.out.2 _ _ HY0.out (pl_str _)) (pl_str _)
                  obtain ⟨W11, HW11⟩ : ∃ W11, Hid (W11 = (wz.alloc (.cells #[.string sg.name, .bool sg.st, .slice am nm cm, .string sg.rn, .bool sg.ra] 51)).alloc (.cells #[.string sg.name, .bool sg.st, .slice am nm cm, .string sg.rn, .bool sg.ra, .string x.fc.name] 58)) := ⟨_, Lib.hid rfl⟩
                  have HB11 : Hid (Below wz.heap.size wz W11) := Lib.hid (by rw [HW11.out]; exact below2 wz _ _)
                  have HX11 : Hid (Bx (wz.heap.size + 1) [Value.string sg.name, .bool sg.st, .slice am nm cm, .string sg.rn, .bool sg.ra, .string x.fc.name] W11) := Lib.hid (by
                    have h := Bx.new (w := wz.alloc (.cells #[.string sg.name, .bool sg.st, .slice am nm cm, .string sg.rn, .bool sg.ra] 51)) (cs := [Value.string sg.name, .bool sg.st, .slice am nm cm, .string sg.rn, .bool sg.ra, .string x.fc.name]) (t := 58) (by
                      intro v hv
                      simp only [List.mem_cons, List.not_mem_nil, or_false] at hv
                      rcases hv with rfl | rfl | rfl | rfl | rfl | rfl
                      all_goals first | exact pl_str _ | exact pl_bool _ | exact pl_slice _ _ _)
                    rw [HW11.out]
                    simpa using h)
                  have HFD : Hid (fdM fs (sg, x.fc.name) = some x.fc.name) := Lib.hid (fd_own HOK.out.2 HXM.out HRF.out (List.mem_of_getElem? hsg))
                  have HT11 : Hid (Two I J f1 f2 f3 f4 W11) := Lib.hid (HU.out.1.bel HB11.out)
                  have HKW := Lib.hid (Keeps.of_below HB11.out)
                  have HFA : Hid (∀ z p1 r1 p2 r2, Two I J p1 r1 p2 r2 z → Keeps wz z → r1 ≤ 10000000000 → r2 ≤ 10000000000 → Calls Tryd.prog 14 #[.pointer (some ⟨I.im, 0, none⟩), .agg #[.string sg.name, .bool sg.st, .slice am nm cm, .string sg.rn, .bool sg.ra, .string x.fc.name]] z fun e w' => e = .returned (.tuple #[.string x.fc.name, .bool true]) ∧ (∃ p1' r1' p2' r2', Two I J p1' r1' p2' r2' w' ∧ r1' ≤ r1 + 301 ∧ r2' ≤ r2) ∧ Keeps z w' ∧ z.heap.size ≤ w'.heap.size) := Lib.hid (fun z p1 r1 p2 r2 h hkz h1 h2 => (h.call (fun i' e1 e2 hI => by have := find14 i' (by rw [e2]; exact HFL.out.1) p1 r1 z hI (by omega) (sg, x.fc.name) am nm cm (tys_keep hkz HXT.out) hnm; rw [e1, e2, HIF.out, HFD.out] at this; exact this)).mono (fun e w' ⟨he, ⟨p, r, hT, hr⟩, hk, hs⟩ => ⟨he, ⟨p, r, p2, r2, hT, hr, Nat.le_refl _⟩, hk, hs⟩))
                  have HFB : Hid (∀ z p1 r1 p2 r2, Two I J p1 r1 p2 r2 z → Keeps wz z → r1 ≤ 10000000000 → r2 ≤ 10000000000 → Calls Tryd.prog 14 #[.pointer (some ⟨J.im, 0, none⟩), .agg #[.string sg.name, .bool sg.st, .slice am nm cm, .string sg.rn, .bool sg.ra, .string x.fc.name]] z fun e w' => e = .returned (.tuple #[.string x.fc.name, .bool true]) ∧ (∃ p1' r1' p2' r2', Two I J p1' r1' p2' r2' w' ∧ r1' ≤ r1 ∧ r2' ≤ r2 + 301) ∧ Keeps z w' ∧ z.heap.size ≤ w'.heap.size) := Lib.hid (fun z p1 r1 p2 r2 h hkz h1 h2 => (h.symm.call (fun i' e1 e2 hI => by have := find14 i' (by rw [e2]; exact HFL.out.2) p2 r2 z hI (by omega) (sg, x.fc.name) am nm cm (tys_keep hkz HXT.out) hnm; rw [e1, e2, HJF.out, ← fdM_perm HPM.out HOK.out.2, HFD.out] at this; exact this)).mono (fun e w' ⟨he, ⟨p, r, hT, hr⟩, hk, hs⟩ => ⟨he, ⟨p1, r1, p, r, hT.symm, Nat.le_refl _, hr⟩, hk, hs⟩))
                  clear hcv hsg hps
                  go_upto_region 28 with fail
                  rw [← HW11.out]
                  clear u0 u1 u2 u3 u4 y0
                  have b0 : W11.cell? ⟨wz.heap.size + 1, 0, none⟩ = some (.string sg.name) := (Keeps.refl W11) _ _ (HX11.out.box 0 _ rfl) (pl_str _)
                  have b1 : W11.cell? ⟨wz.heap.size + 1, 1, none⟩ = some (.bool sg.st) := (Keeps.refl W11) _ _ (HX11.out.box 1 _ rfl) (pl_bool _)
                  have b2 : W11.cell? ⟨wz.heap.size + 1, 2, none⟩ = some (.slice am nm cm) := (Keeps.refl W11) _ _ (HX11.out.box 2 _ rfl) (pl_slice _ _ _)
                  have b3 : W11.cell? ⟨wz.heap.size + 1, 3, none⟩ = some (.string sg.rn) := (Keeps.refl W11) _ _ (HX11.out.box 3 _ rfl) (pl_str _)
                  have b4 : W11.cell? ⟨wz.heap.size + 1, 4, none⟩ = some (.bool sg.ra) := (Keeps.refl W11) _ _ (HX11.out.box 4 _ rfl) (pl_bool _)
                  have b5 : W11.cell? ⟨wz.heap.size + 1, 5, none⟩ = some (.string x.fc.name) := (Keeps.refl W11) _ _ (HX11.out.box 5 _ rfl) (pl_str _)
                  go_wp2_with fail
                  clear b0 b1 b2 b3 b4 b5
                  refine (HFA.out _ _ _ _ _ HT11.out HKW.out (by omega) (by omega)).mono ?_
                  rintro e z5 ⟨rfl, ⟨g1, g2, g3, g4, hT, hg2, hg4⟩, hk, hs5⟩
                  have HT12 := Lib.hid hT
                  have HKA := Lib.hid hk
                  clear hT hk
                  have b0 : z5.cell? ⟨wz.heap.size + 1, 0, none⟩ = some (.string sg.name) := HKA.out _ _ (HX11.out.box 0 _ rfl) (pl_str _)
                  have b1 : z5.cell? ⟨wz.heap.size + 1, 1, none⟩ = some (.bool sg.st) := HKA.out _ _ (HX11.out.box 1 _ rfl) (pl_bool _)
                  have b2 : z5.cell? ⟨wz.heap.size + 1, 2, none⟩ = some (.slice am nm cm) := HKA.out _ _ (HX11.out.box 2 _ rfl) (pl_slice _ _ _)
                  have b3 : z5.cell? ⟨wz.heap.size + 1, 3, none⟩ = some (.string sg.rn) := HKA.out _ _ (HX11.out.box 3 _ rfl) (pl_str _)
                  have b4 : z5.cell? ⟨wz.heap.size + 1, 4, none⟩ = some (.bool sg.ra) := HKA.out _ _ (HX11.out.box 4 _ rfl) (pl_bool _)
                  have b5 : z5.cell? ⟨wz.heap.size + 1, 5, none⟩ = some (.string x.fc.name) := HKA.out _ _ (HX11.out.box 5 _ rfl) (pl_str _)
                  go_wp2_with fail
                  clear b0 b1 b2 b3 b4 b5
                  refine (HFB.out _ _ _ _ _ HT12.out (HKW.out.trans HKA.out) (by omega) (by omega)).mono ?_
                  rintro e z6 ⟨rfl, ⟨d1, d2, d3, d4, hT, hd2, hd4⟩, hk, hs6⟩
                  have HT13 := Lib.hid hT
                  have HKZ : Hid (Keeps wv z6) := Lib.hid (((HU.out.2.trans HKW.out).trans HKA.out).trans hk)
                  clear hT hk
                  have y6 : z6.cell? ⟨wq.heap.size, 0, none⟩ = some (.string x.fc.name) := HKZ.out _ _ HY0.out (pl_str _)
                  go_wp2
                  go_roundw
                  case rel => exact ⟨l + 1, d1, d2, d3, d4, by omega, by go_num, Lib.hid ⟨HT13.out, HKZ.out⟩, by omega, by omega⟩
                  case measure => simp [intOf]; omega
                · have HTE := Lib.hid HU.out.1
                  go_wp2
                  go_roundw
                  case rel => exact ⟨kk + 1, f1, f2, f3, f4, by omega, by go_num, HTE, by omega, by omega⟩
                  case measure => simp [intOf]; omega
        · go_wp2
          go_ret
          exact ⟨rfl, HWR.out⟩
end Go.Proofs.YthimpjfmelmhpaaDoor.Fc
