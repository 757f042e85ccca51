/-
  The statements' own digest: the state between its loops, and the lists.
-/
import Derived.Test.YtbpdeehpeflbeaaDoorDigRow
import Derived.OwnWalk
namespace Go.Proofs.YtbpdeehpeflbeaaDoor
open Go.RowKit

/-- blocks n0 (the answer), n0 + 1 (the sums), n0 + 2 (K) -/
structure DSt (n0 : Nat) (w wr : World) (out hs : List Nat) : Prop where
  out : wr.heap[n0]? = some (.cells (out.map U8).toArray 24 (0, 0))
  sums : wr.heap[n0 + 1]? = some (.cells (hs.map U32).toArray 38 (0, 0))
  ks : wr.heap[n0 + 2]? = some (.cells (K.map U32).toArray 38 (0, 0))
  below : Below n0 w wr
  size : n0 + 3 ≤ wr.heap.size

theorem DSt.keep {n0 : Nat} {w x y : World} {out hs : List Nat} (h : DSt n0 w x out hs) (hb : Below (n0 + 3) x y) : DSt n0 w y out hs :=
  ⟨(hb.block _ (by omega)).trans h.out, (hb.block _ (by omega)).trans h.sums, (hb.block _ (by omega)).trans h.ks,
   ⟨hb.os.trans h.below.os, hb.tape.trans h.below.tape, hb.output.trans h.below.output, Nat.le_trans h.below.size hb.size, fun k hk => (hb.block k (by omega)).trans (h.below.block k hk)⟩, Nat.le_trans h.size hb.size⟩
theorem below_grow {n : Nat} {x y : World} {row : Option Nat} (h : x.grownBy y row) (hn : n ≤ x.heap.size) (hr : ∀ k, row = some k → n ≤ k) : Below n x y :=
  ⟨h.os, h.tape, h.output, h.size, fun k hk => h.block k (by omega) (fun e => by have := hr k e.symm; omega)⟩
theorem DSt.alloc {n0 : Nat} {w x : World} {out hs : List Nat} (h : DSt n0 w x out hs) (o : Obj) : DSt n0 w (x.alloc o) out hs := h.keep ((Below.refl _ _).alloc h.size o)
theorem DSt.setCell {n0 : Nat} {w x : World} {out hs : List Nat} (h : DSt n0 w x out hs) {p : Addr} (hp : n0 + 3 ≤ p.block) (u : Value) : DSt n0 w (x.setCell p u) out hs :=
  h.keep ⟨rfl, rfl, rfl, by simp [World.setCell], fun k hk => Below.heap_setCell _ _ _ _ (by omega)⟩
theorem DSt.drew {n0 : Nat} {w x : World} {out hs : List Nat} (h : DSt n0 w x out hs) : DSt n0 w x.drew out hs := h.keep ⟨rfl, rfl, rfl, Nat.le_refl _, fun _ _ => rfl⟩
theorem DSt.drewN {n0 : Nat} {w x : World} {out hs : List Nat} (h : DSt n0 w x out hs) (n : Nat) : DSt n0 w (x.drewN n) out hs := h.keep ⟨rfl, rfl, rfl, Nat.le_refl _, fun _ _ => rfl⟩
theorem cell_of_map {w : World} {b k : Nat} {l : List Nat} {ty : TypeId} {f : Nat → Value} (h : w.heap[b]? = some (.cells (l.map f).toArray ty (0, 0))) (hk : k < l.length) : w.cell? ⟨b, k, none⟩ = some (f (l.getD k 0)) := by
  have e : w.cell? ⟨b, k, none⟩ = (l.map f)[k]? := by simp [World.cell?, h]
  rw [e]
  simp [List.getElem?_eq_getElem hk, List.getD]
theorem frozen_of {w : World} {b : Nat} {cs : Array Value} {ty : TypeId} (h : w.heap[b]? = some (.cells cs ty (0, 0))) (k : Nat) : w.frozen? ⟨b, k, none⟩ = false := by simp [World.frozen?, h]
theorem set_map {w : World} {b k : Nat} {l : List Nat} {ty : TypeId} {f : Nat → Value} (h : w.heap[b]? = some (.cells (l.map f).toArray ty (0, 0))) (v : Nat) : (w.setCell ⟨b, k, none⟩ (f v)).heap[b]? = some (.cells ((l.set k v).map f).toArray ty (0, 0)) := by
  rw [setCell_eq_setRow w b k _ ty (0, 0) _ h, setRow_heap w b _ _ ty (0, 0) h]
  congr 2
  rw [List.map_set]
  simp
theorem OwnT.keep {x y : World} {base n : Nat} {v : Value} {xs : List Nat} (h : OwnT x base v n xs) (hb : ∀ k, k < x.heap.size → base ≤ k → y.heap[k]? = x.heap[k]?) : OwnT y base v n xs := by
  obtain ⟨hl, g, cap, cur, fz, rfl, hbg, hc, rest⟩ := h
  exact ⟨hl, g, cap, cur, fz, rfl, hbg, (hb g (lt_of_block hc) hbg).trans hc, rest⟩
theorem OwnT.shape {x : World} {base n : Nat} {v : Value} {xs : List Nat} (h : OwnT x base v n xs) : ∃ g cap, v = .slice (some ⟨g, 0, none⟩) n cap ∧ base ≤ g ∧ g < x.heap.size := by
  obtain ⟨hl, g, cap, cur, fz, rfl, hbg, hc, rest⟩ := h
  exact ⟨g, cap, rfl, hbg, lt_of_block hc⟩
theorem OwnT.cell {x : World} {base n g c : Nat} {xs : List Nat} (h : OwnT x base (.slice (some ⟨g, 0, none⟩) n c) n xs) (k : Nat) (hk : k < n) : x.cell? ⟨g, k, none⟩ = some (U8 (xs.getD k 0)) := by
  obtain ⟨hl, g', cap, cur, fz, e, hbg, hc, _, hnc, _, hcs, ht⟩ := h
  cases e
  rw [cell_of_row x g k cur 5 fz hc]
  have h1 : (cur.toList.take n)[k]? = cur[k]? := by rw [List.getElem?_take, if_pos hk]; simp
  rw [← h1, ht, List.getElem?_map, List.getD_eq_getElem?_getD, List.getElem?_eq_getElem (by omega)]
  rfl

theorem new_two (w : World) (A B : Obj) : ((w.alloc A).alloc B).heap[w.heap.size + 1]? = some B := by
  have := heap_alloc_new (w.alloc A) B
  rwa [World.size_alloc] at this
theorem new_three (w : World) (A B C : Obj) : (((w.alloc A).alloc B).alloc C).heap[w.heap.size + 2]? = some C := by
  have := heap_alloc_new ((w.alloc A).alloc B) C
  rwa [World.size_alloc, World.size_alloc] at this

/-- what is laid behind the bytes: so many noughts -/
def zs (L : Nat) : Nat := (119 - L % 64) % 64
theorem zs_lt (L : Nat) : zs L < 64 := Nat.mod_lt _ (by omega)
theorem zs_mod (L : Nat) : (L + 1 + zs L) % 64 = 56 := by unfold zs; omega
theorem zs_not (L j : Nat) (h : j < zs L) : (L + 1 + j) % 64 ≠ 56 := by unfold zs at h; omega
theorem rep_snoc (l : List Nat) (j x : Nat) : l ++ 128 :: List.replicate j x ++ [x] = l ++ 128 :: List.replicate (j + 1) x := by
  rw [List.replicate_succ', List.append_assoc]
  rfl
/-- the first i bytes of a count -/
def cnt (n i : Nat) : List Nat := (List.range i).map fun i => n / 2 ^ (56 - 8 * i) % 256
theorem cnt_snoc (n i : Nat) : cnt n (i + 1) = cnt n i ++ [n / 2 ^ (56 - 8 * i) % 256] := by
  unfold cnt
  rw [List.range_succ, List.map_append]
  rfl
theorem cnt8 (n : Nat) : cnt n 8 = countB n := rfl
theorem padded_length (l : List Nat) : (padded l).length = l.length + 1 + zs l.length + 8 := by
  unfold padded
  simp [countB, zs]
  omega
theorem padded_mod (l : List Nat) : (padded l).length % 64 = 0 := by
  rw [padded_length]
  have := zs_mod l.length
  omega

/-- the state within a block's rounds: a row of 64 words besides -/
structure RSt (n0 g c n gw : Nat) (w : World) (PD hs W : List Nat) (wr : World) : Prop where
  st : DSt n0 w wr (List.replicate 32 0) hs
  own : OwnT wr (n0 + 3) (.slice (some ⟨g, 0, none⟩) n c) n PD
  row : wr.heap[gw]? = some (.cells (W.map U32).toArray 38 (0, 0))
  len : W.length = 64
  ne : gw ≠ g
  ge : n0 + 3 ≤ gw

section
variable {n0 g c n gw : Nat} {w : World} {PD hs W : List Nat} {wr : World}
theorem RSt.set_ (h : RSt n0 g c n gw w PD hs W wr) (i v : Nat) : RSt n0 g c n gw w PD hs (W.set i v) (wr.setCell ⟨gw, i, none⟩ (U32 v)) :=
  ⟨h.st.setCell h.ge _, by
    obtain ⟨hl, g', cap, cur, fz, e, hbg, hc, rest⟩ := h.own
    cases e
    exact ⟨hl, g, c, cur, fz, rfl, hbg, (Below.heap_setCell _ _ _ _ (by exact Ne.symm h.ne)).trans hc, rest⟩, set_map h.row v, by rw [List.length_set]; exact h.len, h.ne, h.ge⟩
theorem RSt.drewN (h : RSt n0 g c n gw w PD hs W wr) (k : Nat) : RSt n0 g c n gw w PD hs W (wr.drewN k) := ⟨h.st.drewN k, h.own, h.row, h.len, h.ne, h.ge⟩
theorem RSt.drew (h : RSt n0 g c n gw w PD hs W wr) : RSt n0 g c n gw w PD hs W wr.drew := ⟨h.st.drew, h.own, h.row, h.len, h.ne, h.ge⟩
theorem RSt.alloc (h : RSt n0 g c n gw w PD hs W wr) (o : Obj) : RSt n0 g c n gw w PD hs W (wr.alloc o) := ⟨h.st.alloc o, h.own.alloc o, (Below.heap_alloc _ _ _ (lt_of_block h.row)).trans h.row, h.len, h.ne, h.ge⟩
theorem RSt.word (h : RSt n0 g c n gw w PD hs W wr) (i : Nat) (hi : i < 64) : wr.cell? ⟨gw, i, none⟩ = some (.int .u32 ((W.getD i 0 : Nat) : Int)) := cell_map h.row (by rw [h.len]; exact hi)
theorem RSt.frozen (h : RSt n0 g c n gw w PD hs W wr) (i : Nat) : wr.frozen? ⟨gw, i, none⟩ = false := frozen_of h.row i
theorem RSt.byte (h : RSt n0 g c n gw w PD hs W wr) (i : Nat) (hi : i < n) : wr.cell? ⟨g, i, none⟩ = some (.int .u8 ((PD.getD i 0 : Nat) : Int)) := h.own.cell i hi
end

theorem info38 : (Tryd.prog.info? 38).map (fun i => (i.size, i.bytes, i.zero)) = some (1, 4, some (.int .u32 0)) := by kernel_rfl
theorem mk64 (w : World) : (Instr.makeSlice 47 (.int .i64 64) (.int .i64 64)).run Tryd.prog w = .ok (.slice (some ⟨w.heap.size, 0, none⟩) 64 64) (w.alloc (.cells ((List.replicate 64 0).map U32).toArray 38)) := by
  have h := info38
  cases hi : Tryd.prog.info? 38 with
  | none => simp [hi] at h
  | some i =>
    simp [hi] at h
    obtain ⟨h1, h2, h3⟩ := h
    have hr := run_make (P := Tryd.prog) w 47 38 i _ Tryd.underlying47 hi h3 .i64 .i64 64 64 (by omega) (Int.le_refl _) (by rw [h2]; decide) (by decide)
    rw [h1] at hr
    rw [hr, show madeCells (Value.int .u32 0).cells (Int.toNat 64 * 1) = ((List.replicate 64 0).map U32).toArray by kernel_rfl]
    rfl
theorem padded_lt (l : List Nat) (h : ∀ x ∈ l, x < 256) : ∀ x ∈ padded l, x < 256 := by
  intro x hx
  unfold padded countB at hx
  simp only [List.mem_append, List.mem_cons, List.mem_replicate, List.mem_map] at hx
  rcases hx with hx | rfl | ⟨_, rfl⟩ | ⟨i, _, rfl⟩
  · exact h x hx
  · omega
  · omega
  · exact Nat.mod_lt _ (by omega)
theorem cut_getD (l : List Nat) (a i : Nat) (hi : i < 64) : ((l.drop a).take 64).getD i 0 = l.getD (a + i) 0 := by
  simp only [List.getD_eq_getElem?_getD]
  rw [List.getElem?_take, if_pos hi, List.getElem?_drop]
theorem word_sum (x c : Nat) (hc : c < 256) : ((x : Int) * 256 % 4294967296 + (c : Int)) % 4294967296 = ((x * 256 % 4294967296 + c : Nat) : Int) := by omega
theorem words1_len (bl : List Nat) : ∀ k, (words1 bl k).length = 64
  | 0 => by simp [words1]
  | k + 1 => by rw [words1, wordStep, List.length_set]; exact words1_len bl k
theorem rot_lit (n : Nat) (c : Int) (hc : c = (n : Int)) (hn : 1 ≤ n) (hn' : n ≤ 31) (x : Nat) (hx : x < 4294967296) (w : World) :
    Calls Tryd.prog 17 #[.int .u32 x, .int .u64 c] w fun e w' => e = .returned (.int .u32 (rotr n x : Nat)) ∧ w = w' := by
  subst hc
  exact rot_any x n hn hn' hx w
end Go.Proofs.YtbpdeehpeflbeaaDoor
