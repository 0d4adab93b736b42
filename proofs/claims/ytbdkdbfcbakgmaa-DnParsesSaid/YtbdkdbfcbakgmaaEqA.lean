/- Two records of texts: equal or not. -/
import Derived.Test.YtbdkdbfcbakgmaaDnE
import Derived.Laws.StructEq
namespace Go.Proofs.Ytbdkdbfcbakgmaa
open Go.RowKit
set_option maxRecDepth 100000

theorem eqInA (w : World) (a b : Av) : (Op.equalIn 10000 37 (.agg #[sv a.1, sv a.2]) (.agg #[sv b.1, sv b.2])).run Try.prog w = .ok (decide (a = b)) w := by
  rw [run_equalIn_agg w 9999 37 _ _ (by kernel_rfl) (by kernel_rfl)]
  simp only [Program.fieldsOf, Try.underlying37]
  obtain ⟨a1, a2⟩ := a
  obtain ⟨b1, b2⟩ := b
  by_cases h1 : a1 = b1 <;> by_cases h2 : a2 = b2 <;> simp [Op.eqFields, part, go_sem, run_equalIn_string w _ 9 _ _ Try.underlying9, h1, h2]
theorem eqA (w : World) (a b : Av) : (binOp .eql 37 (.agg #[sv a.1, sv a.2]) (.agg #[sv b.1, sv b.2])).run Try.prog w = .ok (.bool (decide (a = b))) w := by
  rw [run_eql_struct, eqInA]; rfl
theorem neqA (w : World) (a b : Av) : (binOp .neq 37 (.agg #[sv a.1, sv a.2]) (.agg #[sv b.1, sv b.2])).run Try.prog w = .ok (.bool (!decide (a = b))) w := by
  rw [run_neq_struct, eqInA]; rfl
theorem guardA (w : World) (op : BinOp) (x y : Operand) (xs ys : Array Value) : (eqGuard op 37 x y (.agg xs) (.agg ys)).run Try.prog w = .ok () w :=
  run_eqGuard_agg w op _ x y xs ys (by kernel_rfl)
end Go.Proofs.Ytbdkdbfcbakgmaa
