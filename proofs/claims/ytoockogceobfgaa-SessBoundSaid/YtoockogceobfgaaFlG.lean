/- filter: whether a filter may be: the document's. -/
import Derived.Test.YtoockogceobfgaaFlE
import Derived.Test.YtoockogceobfgaaDnGm
namespace Go.Proofs.Ytoockogceobfgaa
open Go.RowKit
set_option maxRecDepth 100000

end Go.Proofs.Ytoockogceobfgaa
namespace Go.Proofs.Ytoockogceobfgaa
open Go.RowKit
set_option maxRecDepth 100000

theorem n0 (q : Nat) : (decide ((0 : Int) < (q : Int)) = !decide (q = 0)) ∧ (decide (0 < q) = !decide (q = 0)) := by
  by_cases h : q = 0
  · subst h; exact ⟨rfl, rfl⟩
  · rw [dfalse h]; exact ⟨dtrue (by omega), dtrue (by omega)⟩
theorem n1 (q : Nat) : (decide ((q : Int) < 1) = !decide (1 ≤ q)) ∧ (decide (q < 1) = !decide (1 ≤ q)) := by
  by_cases h : 1 ≤ q
  · rw [dtrue h]; exact ⟨dfalse (by omega), dfalse (by omega)⟩
  · rw [dfalse h]; exact ⟨dtrue (by omega), dtrue (by omega)⟩
theorem n2 (q : Nat) : (decide ((1 : Int) < (q : Int)) = decide (1 < q)) := decide_eq_decide.2 (by omega)
end Go.Proofs.Ytoockogceobfgaa
