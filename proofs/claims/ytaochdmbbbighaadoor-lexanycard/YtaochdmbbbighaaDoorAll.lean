/-
  All tokens of a text.
-/
import Derived.Test.YtaochdmbbbighaaDoorNext
import Derived.Maps.AppendAt
import Derived.Deep.AppendLies
import Derived.OwnWalk
namespace Go.Proofs.YtaochdmbbbighaaDoor
open Go.RowKit

/-- a fault as a value -/
@[reducible] def fltV (e l c : Int) : Value := .agg #[.int .i64 e, .int .i64 l, .int .i64 c]
/-- the cells of a token at its place -/
def tcells (l : Bs) (x : Nat × Tok) : List Value := [.int .i64 (x.2.kind : Int), .string (str x.2.text), .int .i64 (x.2.num : Int), .int .i64 (posL l x.1 : Int), .int .i64 (posC l x.1 : Int)]
/-- what All tells -/
def AllPost (l : Bs) (ts : List (Nat × Tok)) (r : Option (Nat × Nat)) (w : World) (e : Ending) (w' : World) : Prop :=
  Below w.heap.size w w' ∧ match r with
    | none => ∃ v, e = .returned (.tuple #[v, fltV 0 0 0]) ∧ w'.ownsRow w.heap.size 34 5 v ts.length (ts.flatMap (tcells l))
    | some (er, p) => e = .returned (.tuple #[.slice none 0 0, fltV er (posL l p) (posC l p)])

theorem row_keep {fp : Nat → Prop} {w w' : World} {base e size n : Nat} {v : Value} {xs : List Value} (h : w.ownsRow base e size v n xs) (m : Mods fp w w') (hn : ∀ k, v.ownBlock = some k → ¬ fp k) : w'.ownsRow base e size v n xs := by
  refine ⟨h.1, ?_⟩
  rcases h.2 with h2 | ⟨g, cap, cur, rfl, h3, h4, h5⟩
  · exact .inl h2
  · exact .inr ⟨g, cap, cur, rfl, h3, by rw [m.block g (heap_some_lt h4) (hn g rfl)]; exact h4, h5⟩
theorem row_block {w : World} {base e size n : Nat} {v : Value} {xs : List Value} (h : w.ownsRow base e size v n xs) : ∀ k, v.ownBlock = some k → base ≤ k ∧ k < w.heap.size := by
  intro k hk
  rcases h.2 with ⟨rfl, _⟩ | ⟨g, cap, cur, rfl, h3, h4, h5⟩
  · cases hk
  · cases hk; exact ⟨h3, heap_some_lt h4⟩
theorem row_base {w : World} {base base' e size n : Nat} {v : Value} {xs : List Value} (h : w.ownsRow base e size v n xs) (hb : base' ≤ base) : w.ownsRow base' e size v n xs := by
  refine ⟨h.1, ?_⟩
  rcases h.2 with h2 | ⟨g, cap, cur, rfl, h3, h5⟩
  · exact .inl h2
  · exact .inr ⟨g, cap, cur, rfl, by omega, h5⟩
def lenOf : Value → Nat
  | .slice _ n _ => n
  | _ => 0
theorem row_len {w : World} {base e size n : Nat} {v : Value} {xs : List Value} (h : w.ownsRow base e size v n xs) : lenOf v = n := by
  rcases h.2 with ⟨rfl, h0⟩ | ⟨g, cap, cur, rfl, _⟩
  · exact h0.symm
  · rfl

set_option maxHeartbeats 400000 in
theorem all_long (s : ByteArray) (w : World) (h : 65536 < s.size) :
    Calls Tryd.prog 10 #[.string s] w fun e w' => e = .returned (.tuple #[.slice none 0 0, fltV 4 1 1]) ∧ Below w.heap.size w w' := by
  go_enter Tryd.func10, Tryd.ntmps10
  go_wp2
  exact bodyPost_ret (v := .tuple #[.slice none 0 0, fltV 4 1 1]) (by simp [results, Tryd.results10, go_sem]) rfl ⟨rfl, (Below.refl _ _).alloc (Nat.le_refl _) _⟩

theorem infoTok : (Tryd.prog.info? 34).map (fun i => (i.zero, i.size, i.bytes)) = some (some (.agg #[.int .i64 0, .string ⟨#[]⟩, .int .i64 0, .int .i64 0, .int .i64 0]), 5, 48) := by kernel_rfl
theorem info_parts {P : Program} {t : TypeId} {z : Value} {n b : Nat} (h : (P.info? t).map (fun i => (i.zero, i.size, i.bytes)) = some (some z, n, b)) : ∃ i, P.info? t = some i ∧ i.zero = some z ∧ i.size = n ∧ i.bytes = b := by
  cases hi : P.info? t with
  | none => rw [hi] at h; simp at h
  | some i => rw [hi] at h; simp at h; exact ⟨i, rfl, h.1, h.2.1, h.2.2⟩

theorem results_rev {fn : Func} {p s : Tmp} {ty : TypeId} {a : Addr} {v u : Value} {tmps : Array Value} {P : Program} {w : World} (h : fn.results = #[.tmp s, .cell p ty]) (ha : tmps.getD p undef = .pointer (some a)) (hu : tmps.getD s undef = u) (hv : (loadVar ty a).run P w = .ok v w) :
    (results fn tmps).run P w = .ok (.tuple #[u, v]) w := by
  subst hu
  rw [Array.getD_eq_getD_getElem?] at ha
  simp only [results, h]
  simp [ha, asAddr, hv, Result.andThen]
@[reducible] def put3 (w : World) (b : Nat) (a0 a1 a2 : Value) : World := ((w.setCell ⟨b, 0, none⟩ a0).setCell ⟨b, 1, none⟩ a1).setCell ⟨b, 2, none⟩ a2
theorem put3_blk {w : World} {b t : Nat} {x0 x1 x2 : Value} (h : w.heap[b]? = some (.cells #[x0, x1, x2] t (0, 0))) (a0 a1 a2 : Value) : (put3 w b a0 a1 a2).heap[b]? = some (.cells #[a0, a1, a2] t (0, 0)) := by
  simp [World.setCell, Array.getElem?_modify, h]
theorem Mods.put3 {fp : Nat → Prop} {x y : World} (h : Mods fp x y) {b : Nat} (hb : fp b ∨ x.heap.size ≤ b) (a0 a1 a2 : Value) : Mods fp x (put3 y b a0 a1 a2) :=
  ((h.setCell (p := ⟨b, 0, none⟩) hb _).setCell (p := ⟨b, 1, none⟩) hb _).setCell (p := ⟨b, 2, none⟩) hb _
theorem info28 : (Tryd.prog.info? 28).map (·.size) = some 3 := by kernel_rfl
theorem flt_load {w : World} {b : Nat} {x0 x1 x2 : Value} (h : w.heap[b]? = some (.cells #[x0, x1, x2] 28 (0, 0))) : (loadVar 28 ⟨b, 0, none⟩).run Tryd.prog w = .ok (.agg #[x0, x1, x2]) w :=
  run_loadVar_row w b 28 28 _ _ _ h Tryd.underlying28 rfl info28
theorem weak {fp fq : Nat → Prop} {x y : World} (h : Mods fp x y) (h1 : ∀ i, i < x.heap.size → fp i → fq i) : Mods fq x y := ⟨h.os, h.tape, h.output, h.size, fun i hi hn => h.block i hi (fun e => hn (h1 i hi e))⟩

theorem tcells_one (l : Bs) (x : Nat × Tok) : ∀ u ∈ tcells l x, u.oneCell' = true := by
  intro u hu
  simp only [tcells, List.mem_cons, List.not_mem_nil, or_false] at hu
  rcases hu with rfl | rfl | rfl | rfl | rfl <;> rfl
theorem tcells_new (l : Bs) (x : Nat × Tok) (w : World) (b : Nat) (h : w.heap[b]? = some (.cells (tcells l x).toArray 34 (0, 0))) : ∀ j u, (tcells l x)[j]? = some u → w.cell? ((⟨b, 0, none⟩ : Addr).add j) = some u := by
  intro j u hu
  have e : (⟨b, 0, none⟩ : Addr).add j = ⟨b, j, none⟩ := by unfold Addr.add; split <;> simp_all
  rw [e, cell_of_row w b j _ _ _ h]
  simpa using hu
theorem two_new (w : World) (X Y : Obj) : ((w.alloc X).alloc Y).heap[w.heap.size + 1]? = some Y ∧ ((w.alloc X).alloc Y).heap[w.heap.size]? = some X := by
  constructor
  · show ((w.heap.push _).push _)[w.heap.size + 1]? = _
    rw [Array.getElem?_push, if_pos (by simp)]
  · show ((w.heap.push _).push _)[w.heap.size]? = _
    rw [Array.getElem?_push, if_neg (by simp), Array.getElem?_push, if_pos rfl]
theorem Mods.of_grown {a b : World} {row : Option Nat} (h : a.grownBy b row) : Mods (fun k => row = some k) a b := ⟨h.os, h.tape, h.output, h.size, fun k hk hn => h.block k hk (fun e => hn e.symm)⟩

theorem blk3 {w : World} {b t : Nat} {x0 x1 x2 : Value} (h : w.heap[b]? = some (.cells #[x0, x1, x2] t (0, 0))) :
    w.cell? ⟨b, 0, none⟩ = some x0 ∧ w.cell? ⟨b, 1, none⟩ = some x1 ∧ w.cell? ⟨b, 2, none⟩ = some x2 ∧ w.frozen? ⟨b, 0, none⟩ = false ∧ w.frozen? ⟨b, 1, none⟩ = false ∧ w.frozen? ⟨b, 2, none⟩ = false := by
  simp [World.cell?, World.frozen?, h]

/-- what holds ahead of each round -/
structure AL (s : ByteArray) (ts : List (Nat × Tok)) (r : Option (Nat × Nat)) (w : World) (v : Value) (wr : World) (pre : List (Nat × Tok)) (o : Nat) (rest : List (Nat × Tok)) : Prop where
  eq : ts = pre ++ rest
  lx : Lx s.data.toList o rest r
  le : o ≤ s.size
  rd : RAt wr (w.heap.size + 1) s o
  flt : wr.heap[w.heap.size]? = some (.cells #[.int .i64 0, .int .i64 0, .int .i64 0] 28 (0, 0))
  row : wr.ownsRow (w.heap.size + 2) 34 5 v pre.length (pre.flatMap (tcells s.data.toList))
  mods : Mods (fun k => w.heap.size ≤ k) w wr

set_option maxHeartbeats 1000000 in
set_option maxRecDepth 100000 in
theorem all_any (s : ByteArray) (hs : s.size ≤ 65536) (w : World) (h1 : TabS w 1 marksL) (h2 : TabS w 2 wordsL) (hw : 2 < w.heap.size) (ts : List (Nat × Tok)) (r : Option (Nat × Nat)) (hL : Lx s.data.toList 0 ts r) :
    Calls Tryd.prog 10 #[.string s] w (AllPost s.data.toList ts r w) := by
  obtain ⟨i0, hi, hz0, hz1, hz2⟩ := info_parts infoTok
  have HTS : Hid (ts.length ≤ 65537) := Lib.hid (by have := hL.len (Nat.zero_le _); simp at this; omega)
  have HI := Lib.hid hi
  have HZ := Lib.hid hz0
  have HZ1 := Lib.hid hz1
  have HZ2 := Lib.hid hz2
  clear hi hz0 hz1 hz2
  go_enter Tryd.func10, Tryd.ntmps10
  go_wp2
  go_loopw [5] (fun v wr => ∃ pre o rest, AL s ts r w v wr pre o rest) (fun v _ => ts.length + 1 - lenOf v)
  case atStart =>
    refine ⟨[], 0, ts, rfl, hL, Nat.zero_le _, ?_, ?_, ⟨rfl, .inl ⟨rfl, rfl⟩⟩, ((Mods.refl _ w).alloc _).alloc _⟩
    · show ((w.heap.push _).push _)[w.heap.size + 1]? = _
      rw [Array.getElem?_push, if_pos (by simp)]
      rfl
    · show ((w.heap.push _).push _)[w.heap.size]? = _
      rw [Array.getElem?_push, if_neg (by simp), Array.getElem?_push, if_pos rfl]
  case round =>
    obtain ⟨pre, o, rest, al⟩ := hrel
    have hT1 := h1.mods al.mods (by omega)
    have hT2 := h2.mods al.mods (by omega)
    obtain ⟨p, hp⟩ : ∃ p, p = o + skipN false (s.data.toList.drop o) := ⟨_, rfl⟩
    rcases hf : first (s.data.toList.drop p) with ⟨t, er⟩
    have hrl := row_len al.row
    have hsz : w.heap.size + 1 < wr.heap.size := heap_some_lt al.rd
    have HC := Lib.hid (next_any s hs (w.heap.size + 1) o al.le wr al.rd (by omega) hT1 hT2 p hp (t, er) hf)
    have HAL := Lib.hid al
    have HP := Lib.hid hp
    have HF := Lib.hid hf
    have HRL := Lib.hid hrl
    clear al hp hf hrl hT1 hT2
    by_cases he : er = 0
    · subst he
      go_wp2_with fail
      refine HC.out.mono ?_
      rintro e w2 ⟨rfl, hR2, hM2⟩
      have hsz2 : w.heap.size + 1 < w2.heap.size := by have := hM2.size; omega
      have hrow2 := row_keep HAL.out.row hM2 (fun k hk e => by have := (row_block HAL.out.row k hk).1; omega)
      have HB2 := Lib.hid (row_block hrow2)
      have hm3 : Mods (fun _ => False) w2 ((w2.alloc (.cells #[.int .i64 (t.kind : Int), .string (str t.text), .int .i64 (t.num : Int), .int .i64 (posL s.data.toList p : Int), .int .i64 (posC s.data.toList p : Int)] 34)).alloc (.cells #[.int .i64 (t.kind : Int), .string (str t.text), .int .i64 (t.num : Int), .int .i64 (posL s.data.toList p : Int), .int .i64 (posC s.data.toList p : Int)] 34)) := ((Mods.refl _ w2).alloc _).alloc _
      have HROW := Lib.hid (row_keep hrow2 hm3 (fun _ _ => id))
      have HNEW := Lib.hid (tcells_new s.data.toList (p, t) ((w2.alloc (.cells #[.int .i64 (t.kind : Int), .string (str t.text), .int .i64 (t.num : Int), .int .i64 (posL s.data.toList p : Int), .int .i64 (posC s.data.toList p : Int)] 34)).alloc (.cells #[.int .i64 (t.kind : Int), .string (str t.text), .int .i64 (t.num : Int), .int .i64 (posL s.data.toList p : Int), .int .i64 (posC s.data.toList p : Int)] 34)) (w2.heap.size + 1) (two_new w2 (.cells #[.int .i64 (t.kind : Int), .string (str t.text), .int .i64 (t.num : Int), .int .i64 (posL s.data.toList p : Int), .int .i64 (posC s.data.toList p : Int)] 34) (.cells #[.int .i64 (t.kind : Int), .string (str t.text), .int .i64 (t.num : Int), .int .i64 (posL s.data.toList p : Int), .int .i64 (posC s.data.toList p : Int)] 34)).1)
      have HONE := Lib.hid (tcells_one s.data.toList (p, t))
      have hpl : pre.length + 1 ≤ 65537 := by
        have h1 := HTS.out
        rw [HAL.out.eq, List.length_append] at h1
        have h2 : 0 < rest.length := by
          rcases hq : rest with _ | ⟨x, y⟩
          · have h3 := HAL.out.lx
            rw [hq] at h3
            cases h3 with
            | bad _ p' hp' t' e' h4 he' => rw [← HP.out] at hp'; subst hp'; rw [HF.out] at h4; cases h4; exact absurd rfl he'
          · simp
        omega
      have HL1 : Hid (pre.length + 1 ≤ maxLen) := Lib.hid (by unfold maxLen; omega)
      have HL2 : Hid ((pre.length + 1) * 48 ≤ 140737488355328) := Lib.hid (by omega)
      have HB : Hid (w.heap.size + 2 ≤ ((w2.alloc (.cells #[.int .i64 (t.kind : Int), .string (str t.text), .int .i64 (t.num : Int), .int .i64 (posL s.data.toList p : Int), .int .i64 (posC s.data.toList p : Int)] 34)).alloc (.cells #[.int .i64 (t.kind : Int), .string (str t.text), .int .i64 (t.num : Int), .int .i64 (posL s.data.toList p : Int), .int .i64 (posC s.data.toList p : Int)] 34)).heap.size) := Lib.hid (by simp; omega)
      have HF3 : Hid (((w2.alloc (.cells #[.int .i64 (t.kind : Int), .string (str t.text), .int .i64 (t.num : Int), .int .i64 (posL s.data.toList p : Int), .int .i64 (posC s.data.toList p : Int)] 34)).alloc (.cells #[.int .i64 (t.kind : Int), .string (str t.text), .int .i64 (t.num : Int), .int .i64 (posL s.data.toList p : Int), .int .i64 (posC s.data.toList p : Int)] 34)).heap[w.heap.size]? = some (.cells #[.int .i64 0, .int .i64 0, .int .i64 0] 28 (0, 0))) := Lib.hid (by rw [hm3.block _ (by omega) id, hM2.block _ (by omega) (by omega)]; exact HAL.out.flt)
      have HT3 := Lib.hid (two_new w2 (.cells #[.int .i64 (t.kind : Int), .string (str t.text), .int .i64 (t.num : Int), .int .i64 (posL s.data.toList p : Int), .int .i64 (posC s.data.toList p : Int)] 34) (.cells #[.int .i64 (t.kind : Int), .string (str t.text), .int .i64 (t.num : Int), .int .i64 (posL s.data.toList p : Int), .int .i64 (posC s.data.toList p : Int)] 34)).2
      have HR3 := Lib.hid (hR2.mods hm3 id)
      have HM3 : Hid (Mods (fun k => w.heap.size ≤ k) w ((w2.alloc (.cells #[.int .i64 (t.kind : Int), .string (str t.text), .int .i64 (t.num : Int), .int .i64 (posL s.data.toList p : Int), .int .i64 (posC s.data.toList p : Int)] 34)).alloc (.cells #[.int .i64 (t.kind : Int), .string (str t.text), .int .i64 (t.num : Int), .int .i64 (posL s.data.toList p : Int), .int .i64 (posC s.data.toList p : Int)] 34))) := Lib.hid ((HAL.out.mods.trans (weak hM2 (fun i _ e => by omega))).trans (weak hm3 (fun _ _ e => e.elim)))
      clear hrow2 hm3 hR2 hM2
      have HRB := Lib.hid (row_block HAL.out.row)
      by_cases hk : t.kind = 0
      · have hk1 : ((t.kind : Int) == 0) = true := by rw [beq_iff_eq]; omega
        have HK := Lib.hid hk
        clear hk
        go_wp2_with (first | (at_builtin; refine wpList_append_lies _ rfl _ _ 23 rfl (w.heap.size + 2) 34 i0 _ 5 48 Tryd.underlying23 HI.out HZ.out HZ1.out HZ2.out rfl (by decide) u5 pre.length (pre.flatMap (tcells s.data.toList)) rfl HROW.out ⟨w2.heap.size + 1, 0, none⟩ 1 1 (tcells s.data.toList (p, t)) rfl rfl HNEW.out HONE.out (by omega) HL1.out HL2.out HB.out _ rfl ?_; intro g cap w4 hrow4 hgr hat hlt; have HG := Lib.hid (Mods.of_grown hgr); have hT4 := HT3.out; rw [← HG.out.block w2.heap.size (by simp; omega) (fun e => by have := (HB2.out _ e).2; omega)] at hT4; have c6 := (blk5 hT4).1; have hF4 := HF3.out; rw [← HG.out.block w.heap.size (by simp; omega) (fun e => by have := (HB2.out _ e).1; have := (row_block HAL.out.row _ e).1; omega)] at hF4; have HF4 := Lib.hid hF4; have hz4 : w.heap.size < w4.heap.size := heap_some_lt hF4; obtain ⟨d0, d1, d2, e0, e1, e2⟩ := blk3 hF4; have HROW4 := Lib.hid hrow4; clear hrow4 hgr hat hT4 hF4))
        have hr := HAL.out.lx.unique (.fin o p HP.out t HF.out HK.out)
        have z0 := put3_blk HF4.out (.int .i64 0) (.int .i64 0) (.int .i64 0)
        have m0 : Mods (· = w.heap.size) w4 (put3 w4 w.heap.size (.int .i64 0) (.int .i64 0) (.int .i64 0)) := (Mods.refl (· = w.heap.size) w4).put3 (.inl rfl) _ _ _
        unfold put3 at z0 m0
        generalize ((w4.setCell ⟨w.heap.size, 0, none⟩ (.int .i64 0)).setCell ⟨w.heap.size, 1, none⟩ (.int .i64 0)).setCell ⟨w.heap.size, 2, none⟩ (.int .i64 0) = w5 at z0 m0 ⊢
        have mm : Mods (fun k => w.heap.size ≤ k) w w5 := (HM3.out.trans (weak HG.out (fun i _ e => by have := (HRB.out _ e).1; omega))).trans (weak m0 (fun i _ e => by omega))
        refine bodyPost_ret (v := .tuple #[.slice (some ⟨g, 0, none⟩) (pre.length + 1) cap, fltV 0 0 0]) (results_rev Tryd.results10 rfl rfl (flt_load z0)) rfl ⟨mm.below (fun _ e => e) (Nat.le_refl _), ?_⟩
        rw [hr.2]
        refine ⟨_, rfl, ?_⟩
        rw [HAL.out.eq, hr.1]
        have h5 := row_base (row_keep HROW4.out m0 (fun k hk e => by have := (row_block HROW4.out k hk).1; omega)) (show w.heap.size ≤ w.heap.size + 2 by omega)
        rw [List.flatMap_append, List.length_append]
        simpa using h5
      · have hk1 : ((t.kind : Int) == 0) = false := by rw [beq_eq_false_iff_ne]; omega
        have hk2 : ¬ (t.kind : Int) = 0 := by omega
        go_wp2_with (first | (at_builtin; refine wpList_append_lies _ rfl _ _ 23 rfl (w.heap.size + 2) 34 i0 _ 5 48 Tryd.underlying23 HI.out HZ.out HZ1.out HZ2.out rfl (by decide) u5 pre.length (pre.flatMap (tcells s.data.toList)) rfl HROW.out ⟨w2.heap.size + 1, 0, none⟩ 1 1 (tcells s.data.toList (p, t)) rfl rfl HNEW.out HONE.out (by omega) HL1.out HL2.out HB.out _ rfl ?_; intro g cap w4 hrow4 hgr hat hlt; have HG := Lib.hid (Mods.of_grown hgr); have hT4 := HT3.out; rw [← HG.out.block w2.heap.size (by simp; omega) (fun e => by have := (HB2.out _ e).2; omega)] at hT4; have c6 := (blk5 hT4).1; have hF4 := HF3.out; rw [← HG.out.block w.heap.size (by simp; omega) (fun e => by have := (HB2.out _ e).1; have := (row_block HAL.out.row _ e).1; omega)] at hF4; have HF4 := Lib.hid hF4; have hz4 : w.heap.size < w4.heap.size := heap_some_lt hF4; obtain ⟨d0, d1, d2, e0, e1, e2⟩ := blk3 hF4; have HROW4 := Lib.hid hrow4; clear hrow4 hgr hat hT4 hF4))
        go_roundw
        case rel =>
          have h3 := HAL.out.lx
          obtain ⟨ts', hlx, hre⟩ : ∃ ts', Lx s.data.toList (p + t.text.length) ts' r ∧ rest = (p, t) :: ts' := by
            cases h3 with
            | bad _ p' hp' t' e' h4 he' => rw [← HP.out] at hp'; subst hp'; rw [HF.out] at h4; cases h4; exact absurd rfl he'
            | fin _ p' hp' t' h4 hk' => rw [← HP.out] at hp'; subst hp'; rw [HF.out] at h4; cases h4; exact absurd hk' hk
            | more _ p' hp' t' h4 hk' ts' r' hr' => rw [← HP.out] at hp'; subst hp'; rw [HF.out] at h4; cases h4; exact ⟨ts', hr', rfl⟩
          refine ⟨pre ++ [(p, t)], p + t.text.length, ts', ?_, hlx, ?_, ?_, HF4.out, ?_, HM3.out.trans (weak HG.out (fun i _ e => by have := (HRB.out _ e).1; omega))⟩
          · rw [HAL.out.eq, hre]; simp
          · have h5 := (first_more HF.out hk).2
            have h6 := (skip_place (l := s.data.toList) (by simpa using HAL.out.le) HP.out).2
            simp at h5 h6
            omega
          · exact HR3.out.mods HG.out (fun e => by have := (HRB.out _ e).1; omega)
          · have h5 := HROW4.out
            rw [List.flatMap_append, List.length_append]
            simpa using h5
        case measure =>
          have h5 := HRL.out
          rw [h5]
          show ts.length + 1 - (pre.length + 1) < _
          have h6 := HTS.out
          have h7 := congrArg List.length HAL.out.eq
          rw [List.length_append] at h7
          omega
    · have he1 : ((er : Int) != 0) = true := by rw [bne_iff_ne]; omega
      have he2 : ¬ (er : Int) = 0 := by omega
      go_wp2_with fail
      refine HC.out.mono ?_
      rintro e w2 ⟨rfl, hR2, hM2⟩
      have hsz2 : w.heap.size + 1 < w2.heap.size := by have := hM2.size; omega
      have hsz3 : w.heap.size < w2.heap.size := by omega
      have hF2 : w2.heap[w.heap.size]? = some (.cells #[.int .i64 0, .int .i64 0, .int .i64 0] 28 (0, 0)) := by rw [hM2.block _ (by omega) (by omega)]; exact HAL.out.flt
      have c0 : w2.cell? ⟨w.heap.size, 0, none⟩ = some (.int .i64 0) := by simp [World.cell?, hF2]
      have c1 : w2.cell? ⟨w.heap.size, 1, none⟩ = some (.int .i64 0) := by simp [World.cell?, hF2]
      have c2 : w2.cell? ⟨w.heap.size, 2, none⟩ = some (.int .i64 0) := by simp [World.cell?, hF2]
      have f0 : w2.frozen? ⟨w.heap.size, 0, none⟩ = false := by simp [World.frozen?, hF2]
      have f1 : w2.frozen? ⟨w.heap.size, 1, none⟩ = false := by simp [World.frozen?, hF2]
      have f2 : w2.frozen? ⟨w.heap.size, 2, none⟩ = false := by simp [World.frozen?, hF2]
      have HF2 := Lib.hid hF2
      have HR2 := Lib.hid hR2
      have HM2 := Lib.hid hM2
      clear hF2 hR2 hM2
      go_wp2_with fail
      go_region
      go_wp2
      have z0 := put3_blk HF2.out (.int .i64 (er : Int)) (.int .i64 (posL s.data.toList p : Int)) (.int .i64 (posC s.data.toList p : Int))
      have m0 : Mods (fun k => w.heap.size ≤ k) w (put3 w2 w.heap.size (.int .i64 (er : Int)) (.int .i64 (posL s.data.toList p : Int)) (.int .i64 (posC s.data.toList p : Int))) := (HAL.out.mods.trans (weak HM2.out (fun i _ e => by omega))).put3 (.inl (Nat.le_refl _)) _ _ _
      unfold put3 at z0 m0
      generalize ((w2.setCell ⟨w.heap.size, 0, none⟩ (.int .i64 (er : Int))).setCell ⟨w.heap.size, 1, none⟩ (.int .i64 (posL s.data.toList p : Int))).setCell ⟨w.heap.size, 2, none⟩ (.int .i64 (posC s.data.toList p : Int)) = w3 at z0 m0 ⊢
      have m1 := (Mods.refl (fun _ => False) w3).alloc (.cells #[.int .i64 (t.kind : Int), .string (str t.text), .int .i64 (t.num : Int), .int .i64 (posL s.data.toList p : Int), .int .i64 (posC s.data.toList p : Int)] 34) |>.drew
      generalize (w3.alloc (.cells #[.int .i64 (t.kind : Int), .string (str t.text), .int .i64 (t.num : Int), .int .i64 (posL s.data.toList p : Int), .int .i64 (posC s.data.toList p : Int)] 34)).drew = w4 at m1 ⊢
      have z1 : w4.heap[w.heap.size]? = some (.cells #[.int .i64 (er : Int), .int .i64 (posL s.data.toList p : Int), .int .i64 (posC s.data.toList p : Int)] 28 (0, 0)) := by rw [m1.block _ (heap_some_lt z0) id]; exact z0
      have mm : Mods (fun k => w.heap.size ≤ k) w w4 := m0.trans (weak m1 (fun _ _ e => e.elim))
      refine bodyPost_ret (v := .tuple #[.slice none 0 0, fltV er (posL s.data.toList p) (posC s.data.toList p)]) (results_rev Tryd.results10 rfl rfl (flt_load z1)) rfl ⟨mm.below (fun _ e => e) (Nat.le_refl _), ?_⟩
      have hr : rest = [] ∧ r = some (er, p) := HAL.out.lx.unique (.bad o p HP.out t er HF.out he)
      rw [hr.2]
end Go.Proofs.YtaochdmbbbighaaDoor
