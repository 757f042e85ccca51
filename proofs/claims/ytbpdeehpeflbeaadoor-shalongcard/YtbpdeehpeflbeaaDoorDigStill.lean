/-
  Single steps of a region that only reads, with calls that only read, in the order of its text.
-/
import Derived.Test.YtbpdeehpeflbeaaDoorDigSt
import Derived.StillTailTactics
namespace Go.Proofs.YtbpdeehpeflbeaaDoor
open Go.RowKit

section
variable {P : Program} {ops : Array Oper} {w : World} {Q : Act → Prop} {o : Oper} {rest : List Oper} {a : Act}
theorem wpStill_take {v : Value} (hw : Region.wanted o (yielded ops a.tmps) = true) (he : (execOp a.eval o).run P w = .ok (.value v) w) (h : wpStill P ops w Q rest (a.put o.dst v)) : wpStill P ops w Q (o :: rest) a := by
  unfold wpStill
  rw [if_pos hw]
  unfold Oper.still
  rw [he]
  exact ⟨rfl, h⟩
theorem wpStill_call {v : Value} {f : FuncId} {args : Array Value} (hw : Region.wanted o (yielded ops a.tmps) = true) (he : (execOp a.eval o).run P w = .ok (.enter f args) w) (hc : Calls P f args w fun e w'' => e = .returned v ∧ w'' = w)
    (h : wpStill P ops w Q rest (a.put o.dst v)) : wpStill P ops w Q (o :: rest) a := by
  unfold wpStill
  rw [if_pos hw]
  unfold Oper.still
  rw [he]
  exact ⟨rfl, v, hc, h⟩
end
def loopsOf : Code → List Code
  | .loop c => .loop c :: loopsOf c
  | .seq a b => loopsOf a ++ loopsOf b
  | .block _ c => loopsOf c
  | .scope c => loopsOf c
  | .cond _ a b => loopsOf a ++ loopsOf b
  | _ => []
/-- the digest's loops, in the order of its text -/
noncomputable def loopCode (i : Nat) : Code := ((Tryd.f10.body.map loopsOf).getD []).getD i .skip
theorem rotq (n : Nat) (c : Int) (hc : c = (n : Int)) (hn : 1 ≤ n) (hn' : n ≤ 31) (x : Nat) (hx : x < 4294967296) (w : World) :
    Calls Tryd.prog 17 #[.int .u32 x, .int .u64 c] w fun e w' => e = .returned (.int .u32 (rotr n x : Nat)) ∧ w' = w := (rot_lit n c hc hn hn' x hx w).mono fun _ _ h => ⟨h.1, h.2.symm⟩
end Go.Proofs.YtbpdeehpeflbeaaDoor
