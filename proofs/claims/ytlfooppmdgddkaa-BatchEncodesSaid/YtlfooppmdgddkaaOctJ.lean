/- octet: a number has as few bytes as it can: the statement's own walk. -/
import Derived.Test.YtlfooppmdgddkaaOctH
namespace Go.Proofs.Ytlfooppmdgddkaa
open Go.RowKit
set_option maxRecDepth 100000

theorem enc7_step (V : Nat) : (enc7 V).length = 1 + (if V / 128 = 0 then 0 else (enc7 (V / 128)).length) := by
  by_cases h : V < 128
  · rw [enc7_lo h, if_pos (by omega)]; rfl
  · rw [enc7_hi h, if_neg (by omega)]; simp; omega
end Go.Proofs.Ytlfooppmdgddkaa
