/- index: the known case. -/
import Derived.Test.YtacmbomnjedbeaaIxJ
import Derived.Test.YtacmbomnjedbeaaIxM
import Derived.Test.YtacmbomnjedbeaaIxO
namespace Go.Proofs.Ytacmbomnjedbeaa
open Go.RowKit Go.Maps
def KnownI : Prop := ∀ w : World, Calls Try.prog 11 #[] w fun e w' => e = .returned (.bool true) ∧ Ext w w'
set_option maxRecDepth 100000

theorem known_rows {G : Tx} (h : riseT G ∧ ∀ x, x ∈ G ↔ ∃ t ∈ grm [97, 98, 99, 97, 98] ([97, 98, 99, 97, 98].length - 2), x = lx t) : G = [[97, 98, 99], [98, 99, 97], [99, 97, 98]] := by
  have e : grm [97, 98, 99, 97, 98] ([97, 98, 99, 97, 98].length - 2) = [(97, 98, 99), (98, 99, 97), (99, 97, 98)] := by decide
  obtain ⟨h1, h2⟩ := h
  rw [e] at h2
  refine riseT_ext h1 ?_ fun x => ?_
  · unfold riseT
    decide
  · rw [h2]
    simp [lx]
set_option maxHeartbeats 4000000 in
theorem known21_holds : KnownI := fun w => by
  have hg := grams_any sortT_holds (w := w) [97, 98, 99, 97, 98] (by decide)
  go_enter Try.func11, Try.ntmps11
  go_wp2_with fail
  refine hg.mono ?_
  rintro e w1 ⟨u, G, rfl, hG, hf, hr, x1⟩
  obtain rfl := known_rows hr
  clear hg hr
  have ht : Ts (w1.alloc (.cells #[sv [97, 98, 99], sv [98, 99, 97], sv [99, 97, 98]] 9)) (fun k => k = w1.heap.size) (.slice (some ⟨w1.heap.size, 0, none⟩) 3 3) [[97, 98, 99], [98, 99, 97], [99, 97, 98]] := Sl.lit w1 9 [sv [97, 98, 99], sv [98, 99, 97], sv [99, 97, 98]] (by simp [maxLen])
  have hc' := texts21_any (hG.sl.alloc (.cells #[sv [97, 98, 99], sv [98, 99, 97], sv [99, 97, 98]] 9)) ht
  clear ht
  go_wp2_with fail
  refine hc'.mono ?_
  rintro e w2 ⟨rfl, x2⟩
  go_wp2_with fail
  go_ret
  exact ⟨rfl, ext_trans (x1.alloc _) x2⟩
end Go.Proofs.Ytacmbomnjedbeaa
