/-
  A file whose pieces lie in memory of their own.
-/
import Derived.Test.YtomlbfkkhhhfkaaDoorCsReads8
namespace Go.Proofs.YtomlbfkkhhhfkaaDoor.Fc
open Go.RowKit
set_option linter.unusedVariables false

/-- what lies in blocks that aren't a row of bodies, a reader, or a file, stays -/
def Kb (B : Nat) (w w' : World) : Prop := ∀ b cur (e : TypeId), e ≠ 69 → e ≠ 120 → e ≠ 35 → B ≤ b → w.heap[b]? = some (.cells cur e (0, 0)) → w'.heap[b]? = w.heap[b]?
/-- likewise, rows of bodies too -/
def Kf (B : Nat) (w w' : World) : Prop := ∀ b cur (e : TypeId), e ≠ 120 → e ≠ 35 → B ≤ b → w.heap[b]? = some (.cells cur e (0, 0)) → w'.heap[b]? = w.heap[b]?
theorem Kf.kb {B : Nat} {w w' : World} (h : Kf B w w') : Kb B w w' := fun b cur e _ a2 a3 => h b cur e a2 a3
theorem Kb.refl (B : Nat) (w : World) : Kb B w w := fun _ _ _ _ _ _ _ _ => rfl
theorem Kb.trans {B : Nat} {x y z : World} (h : Kb B x y) (k : Kb B y z) : Kb B x z := fun b cur e a1 a2 a3 hb hc => by
  have h1 := h b cur e a1 a2 a3 hb hc
  rw [k b cur e a1 a2 a3 hb (h1.trans hc), h1]
theorem Kb.mods {B q : Nat} {w w' : World} (hm : Mods (· = q) w w') (hq : ∀ cur (e : TypeId), e ≠ 69 → e ≠ 120 → e ≠ 35 → w.heap[q]? ≠ some (.cells cur e (0, 0))) : Kb B w w' := fun b cur e a1 a2 a3 hb hc =>
  hm.block b (lt_of_block hc) (fun e' => hq cur e a1 a2 a3 (by rw [← e']; exact hc))
theorem Kb.rat {B br : Nat} {w w' : World} {st : Pk.St} (hm : Mods (· = br) w w') (hr : Pk.RAt br w st) : Kb B w w' := Kb.mods hm (fun cur e _ a2 _ => rat_no hr e a2 cur)
theorem Kb.grown {B base n size : Nat} {v : Value} {x y : World} {xs : List Value} {o : Obj} (hrow : x.ownsRow base 69 size v n xs) (hg : (x.alloc o).grownBy y v.ownBlock) : Kb B x y := fun b cur e a1 a2 a3 hb hc => by
  have hlt := lt_of_block hc
  rw [hg.block b (by simp; omega) (fun e' => by
    rcases hrow.2 with ⟨h0, _⟩ | ⟨g, cap, cur', h0, _, h2, _⟩
    · rw [h0] at e'; simp [Value.ownBlock] at e'
    · rw [h0] at e'
      simp [Value.ownBlock] at e'
      subst e'
      rw [hc] at h2
      cases h2
      exact a1 rfl), Below.heap_alloc _ _ _ hlt]
/-- a face's pieces -/
structure FcO (B : Nat) (w : World) (f : Fc) (ps : List SgP) (a1 : Option Addr) (n1 c1 : Nat) (a2 : Option Addr) (n2 c2 : Nat) : Prop where
  fs : Sl w 3 VrR f.fs (.slice a1 n1 c1)
  ms : Sl w 5 GpR ps (.slice a2 n2 c2)
  mm : ps.map Prod.fst = f.ms
  pp : PsR B w ps
  o1 : Own B w 75 a1
  o2 : Own B w 63 a2
theorem FcO.keep {B : Nat} {w w' : World} {f : Fc} {ps : List SgP} {a1 a2 : Option Addr} {n1 c1 n2 c2 : Nat} (h : FcO B w f ps a1 n1 c1 a2 n2 c2) (hk : Kb B w w') : FcO B w' f ps a1 n1 c1 a2 n2 c2 := by
  have k1 := h.fs.kept h.o1 (fun b cur => hk b cur 75 (by decide) (by decide) (by decide))
  have k2 := h.ms.kept h.o2 (fun b cur => hk b cur 63 (by decide) (by decide) (by decide))
  exact ⟨k1.1, k2.1, h.mm, h.pp.keep (fun b cur => hk b cur 60 (by decide) (by decide) (by decide)), k1.2, k2.2⟩
theorem FcO.mono {B B' : Nat} {w : World} {f : Fc} {ps : List SgP} {a1 a2 : Option Addr} {n1 c1 n2 c2 : Nat} (h : FcO B w f ps a1 n1 c1 a2 n2 c2) (hb : B' ≤ B) : FcO B' w f ps a1 n1 c1 a2 n2 c2 :=
  ⟨h.fs, h.ms, h.mm, h.pp.mono hb, own_mono h.o1 hb, own_mono h.o2 hb⟩
theorem PoO.mono {B B' : Nat} {w : World} {p : Po} {ps : List MpP} {a1 a2 a3 a4 a5 : Option Addr} {n1 c1 n2 c2 n3 c3 n4 c4 n5 c5 : Nat} (h : PoO B w p ps a1 n1 c1 a2 n2 c2 a3 n3 c3 a4 n4 c4 a5 n5 c5) (hb : B' ≤ B) : PoO B' w p ps a1 n1 c1 a2 n2 c2 a3 n3 c3 a4 n4 c4 a5 n5 c5 :=
  ⟨h.nu, h.cl, h.ty, h.fd, h.gm, h.mt, h.pm.mono hb, own_mono h.o1 hb, own_mono h.o2 hb, own_mono h.o3 hb, own_mono h.o4 hb, own_mono h.o5 hb⟩
/-- a file with its slices -/
structure FsP where
  fl : Fl
  s1 : Option Addr × Nat × Nat
  s2 : Option Addr × Nat × Nat
  s3 : Option Addr × Nat × Nat
  s4 : Option Addr × Nat × Nat
  s5 : Option Addr × Nat × Nat
  s6 : Option Addr × Nat × Nat
  s7 : Option Addr × Nat × Nat
  s8 : Option Addr × Nat × Nat
abbrev slv (s : Option Addr × Nat × Nat) : Value := .slice s.1 s.2.1 s.2.2
abbrev encFl (x : FsP) : List Value := [.string x.fl.fc.name, .string x.fl.fc.sup, slv x.s1, slv x.s2, slv x.s3, slv x.s4, slv x.s5, slv x.s6, slv x.s7, slv x.s8]
/-- a file's pieces -/
def FlO (B : Nat) (w : World) (x : FsP) : Prop := ∃ sps mps bps, FcO B w x.fl.fc sps x.s1.1 x.s1.2.1 x.s1.2.2 x.s2.1 x.s2.2.1 x.s2.2.2 ∧ PoO B w x.fl.po mps x.s3.1 x.s3.2.1 x.s3.2.2 x.s4.1 x.s4.2.1 x.s4.2.2 x.s5.1 x.s5.2.1 x.s5.2.2 x.s6.1 x.s6.2.1 x.s6.2.2 x.s7.1 x.s7.2.1 x.s7.2.2 ∧ Sl w 3 GbR bps (slv x.s8) ∧ bps.map Prod.fst = x.fl.bd ∧ PbR B w bps ∧ Own B w 69 x.s8.1
theorem FlO.keep {B : Nat} {w w' : World} {x : FsP} (h : FlO B w x) (hk : Kf B w w') : FlO B w' x := by
  obtain ⟨sps, mps, bps, h1, h2, h3, h4, h5, h6⟩ := h
  have k := h3.kept h6 (fun b cur => hk b cur 69 (by decide) (by decide))
  exact ⟨sps, mps, bps, h1.keep hk.kb, h2.keep hk.kb, k.1, h4, h5.keep (fun b cur => hk b cur 66 (by decide) (by decide)), k.2⟩
theorem FlO.mono {B B' : Nat} {w : World} {x : FsP} (h : FlO B w x) (hb : B' ≤ B) : FlO B' w x := by
  obtain ⟨sps, mps, bps, h1, h2, h3, h4, h5, h6⟩ := h
  exact ⟨sps, mps, bps, h1.mono hb, h2.mono hb, h3, h4, h5.mono hb, own_mono h6 hb⟩
theorem FlO.flr {B : Nat} {w : World} {x : FsP} (h : FlO B w x) : FlR w x.fl (encFl x) := by
  obtain ⟨sps, mps, bps, h1, h2, h3, h4, h5, h6⟩ := h
  have k1 := sgs_of h1.pp h1.ms
  rw [h1.mm] at k1
  have k2 := mts_of h2.pm h2.gm
  rw [h2.mt] at k2
  have k3 := bds_of h5 h3
  rw [h4] at k3
  exact ⟨x.s1.1, x.s1.2.1, x.s1.2.2, x.s2.1, x.s2.2.1, x.s2.2.2, x.s3.1, x.s3.2.1, x.s3.2.2, x.s4.1, x.s4.2.1, x.s4.2.2, x.s5.1, x.s5.2.1, x.s5.2.2, x.s6.1, x.s6.2.1, x.s6.2.2, x.s7.1, x.s7.2.1, x.s7.2.2, x.s8.1, x.s8.2.1, x.s8.2.2, rfl,
    ⟨_, _, _, _, _, _, rfl, h1.fs, k1⟩, ⟨h2.nu, h2.cl, h2.ty, h2.fd, k2⟩, k3⟩
theorem Kf.mods {B q : Nat} {w w' : World} (hm : Mods (· = q) w w') (hq : ∀ cur (e : TypeId), e ≠ 120 → e ≠ 35 → w.heap[q]? ≠ some (.cells cur e (0, 0))) : Kf B w w' := fun b cur e a2 a3 hb hc =>
  hm.block b (lt_of_block hc) (fun e' => hq cur e a2 a3 (by rw [← e']; exact hc))
theorem Kf.below {B : Nat} {w w' : World} (h : Below w.heap.size w w') : Kf B w w' := fun b cur e _ _ hb hc => h.block b (lt_of_block hc)
theorem Kf.trans {B : Nat} {x y z : World} (h : Kf B x y) (k : Kf B y z) : Kf B x z := fun b cur e a2 a3 hb hc => by
  have h1 := h b cur e a2 a3 hb hc
  rw [k b cur e a2 a3 hb (h1.trans hc), h1]
theorem Kf.grown {B base n size : Nat} {v : Value} {x y : World} {xs : List Value} {o : Obj} (hrow : x.ownsRow base 35 size v n xs) (hg : (x.alloc o).grownBy y v.ownBlock) : Kf B x y := fun b cur e a2 a3 hb hc => by
  have hlt := lt_of_block hc
  rw [hg.block b (by simp; omega) (fun e' => by
    rcases hrow.2 with ⟨h0, _⟩ | ⟨g, cap, cur', h0, _, h2, _⟩
    · rw [h0] at e'; simp [Value.ownBlock] at e'
    · rw [h0] at e'
      simp [Value.ownBlock] at e'
      subst e'
      rw [hc] at h2
      cases h2
      exact a3 rfl), Below.heap_alloc _ _ _ hlt]
end Go.Proofs.YtomlbfkkhhhfkaaDoor.Fc
