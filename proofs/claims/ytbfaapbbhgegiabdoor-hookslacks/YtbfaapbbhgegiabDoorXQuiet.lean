/- In a region that draws its order: a struct of many cells is loaded. -/
import Derived.Test.YtbfaapbbhgegiabDoorXRow
namespace Go.Proofs.YtbfaapbbhgegiabDoor
open Go.RowKit
set_option linter.unusedVariables false

theorem wpq_ld {ops : Array Oper} {rest : List Oper} {op : Oper} {a : Act} {w0 : World} {Q : Act → Prop} {t n : Nat} (hr : Row t n) (hw : Region.wanted op (yielded ops a.tmps) = true) (x : Operand) (ho : op.op = .load t x) {B o : Nat} {vs : List Value}
    (hx : a.eval x = .pointer (some ⟨B, o, none⟩)) (hB : ∀ y : Cl w0, y.w.rangeAt B o vs) (hl : vs.length = n)
    (h : wpQuiet Tryd.prog ops (fun w' => ∃ x : Cl w0, w' = x.w) Q rest (a.put op.dst (.agg vs.toArray))) : wpQuiet Tryd.prog ops (fun w' => ∃ x : Cl w0, w' = x.w) Q (op :: rest) a := by
  obtain ⟨⟨d, h1, h2⟩, h3⟩ := hr
  refine BigFrame.wpQuiet_want hw fun K hK => ⟨_, fun w hw' => ?_, hK _ h⟩
  obtain ⟨y, rfl⟩ := hw'
  unfold Oper.quietAt execOp
  simp only [ho, hx, Instr.loadAt, Instr.sureAddr, Sem.run_bind, Sem.run_pure, Result.andThen_ok, run_loadVar_mid y.w B o t vs d (hB y) h1 h2 (by rw [hl]; exact h3)]
  exact ⟨rfl, rfl⟩
theorem Cl.rng {w0 : World} {B o : Nat} {vs : List Value} (h : w0.rangeAt B o vs) (y : Cl w0) : y.w.rangeAt B o vs := fun j v hv => y.cell (h j v hv)
end Go.Proofs.YtbfaapbbhgegiabDoor
