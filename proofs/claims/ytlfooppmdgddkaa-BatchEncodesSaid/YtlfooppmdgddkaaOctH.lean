/- octet: the examples that each statement looks at. -/
import Derived.Test.YtlfooppmdgddkaaOctF
namespace Go.Proofs.Ytlfooppmdgddkaa
open Go.RowKit
set_option maxRecDepth 100000

/-- The block that a Writer's variable begins as, and numbers handed to it. -/
theorem known_start (w : World) : Wr ((w.alloc (.cells #[.slice none 0 0] 84)).alloc (.cells #[.int .i64 1, .int .i64 300] 3)) w.heap.size (.slice none 0 0) [] ∧
    Is ((w.alloc (.cells #[.slice none 0 0] 84)).alloc (.cells #[.int .i64 1, .int .i64 300] 3)) (fun k => k = w.heap.size + 1) (.slice (some ⟨w.heap.size + 1, 0, none⟩) 2 2) [1, 300] := by
  refine ⟨⟨(Blk.new _ _ _).alloc _, Own.nil _ _⟩, ?_⟩
  have := Sl.lit (w.alloc (.cells #[.slice none 0 0] 84)) 3 [iv 1, iv 300] (by simp [maxLen])
  rw [show (w.alloc (.cells #[.slice none 0 0] 84)).heap.size = w.heap.size + 1 by simp] at this
  exact this
end Go.Proofs.Ytlfooppmdgddkaa
