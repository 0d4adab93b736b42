/- ber: what is known. -/
import Derived.Test.YtcffefadagfdcaaBerF
import Derived.Lib.SlBytesConst
namespace Go.Proofs.Ytcffefadagfdcaa
open Go.RowKit
set_option maxRecDepth 100000

theorem isw_129 {k : Nat} (h : IsW (-129) k) : k = 2 := by
  obtain ⟨h1, h2, h3, h4⟩ := h
  have e1 : ¬ Fits (-129) 1 := by unfold Fits; decide
  have e2 : Fits (-129) 2 := by unfold Fits; decide
  have e3 : Fits (-129) 3 := by unfold Fits; decide
  have e4 : Fits (-129) 4 := by unfold Fits; decide
  have e5 : Fits (-129) 5 := by unfold Fits; decide
  have e6 : Fits (-129) 6 := by unfold Fits; decide
  have e7 : Fits (-129) 7 := by unfold Fits; decide
  obtain rfl | rfl | rfl | rfl | rfl | rfl | rfl | rfl : k = 1 ∨ k = 2 ∨ k = 3 ∨ k = 4 ∨ k = 5 ∨ k = 6 ∨ k = 7 ∨ k = 8 := by omega
  · exact absurd h3 e1
  · rfl
  · exact absurd e2 (h4.resolve_left (by omega))
  · exact absurd e3 (h4.resolve_left (by omega))
  · exact absurd e4 (h4.resolve_left (by omega))
  · exact absurd e5 (h4.resolve_left (by omega))
  · exact absurd e6 (h4.resolve_left (by omega))
  · exact absurd e7 (h4.resolve_left (by omega))

theorem known_row24 (w : World) : Rw ((w.alloc (.cells #[.int .u8 97] 5 (1, 2))).alloc (.cells #[.slice (some ⟨w.heap.size, 0, none⟩) 1 1] 24)) (fun k => w.heap.size ≤ k) (.slice (some ⟨w.heap.size + 1, 0, none⟩) 1 1) [[97]] := by
  have hb : Bs (w.alloc (.cells #[.int .u8 97] 5 (1, 2))) (fun k => k = w.heap.size) (.slice (some ⟨w.heap.size, 0, none⟩) 1 1) [97] := Bs.text w 5 [97] (1, 2) (by simp [maxLen])
  have := Rw.one 24 hb
  rw [show (w.alloc (.cells #[.int .u8 97] 5 (1, 2))).heap.size = w.heap.size + 1 by simp] at this
  exact this.mono (fun k _ h => by rcases h with h | h <;> omega)

set_option maxHeartbeats 1000000 in
theorem known24_any {w : World} : Calls Try.prog 26 #[] w fun e w' => e = .returned (.bool true) ∧ Ext w w' := by
  have kc := fun (w : World) (C : Array Value) (n c : Nat) => Lib.run_convert_bytes_const (P := Try.prog) w 24 5 C n c Try.underlying24 Try.underlying5
  go_enter Try.func26, Try.ntmps26
  go_wp2_with fail
  refine (int_any (w := w) (-129) (by omega) (by omega)).mono ?_
  rintro e w1 ⟨k, v1, rfl, hk, g1, g2, g3⟩
  obtain rfl := isw_129 hk
  rw [show bes (-129) 2 = [255, 127] by decide] at g1
  have kc1 := run_conv (P := Try.prog) Try.underlying24 Try.underlying5 Try.underlying9 g1.sl
  clear hk g1 g2
  go_wp2_with fail
  have hx2 := ext_trans g3 (((Mod.refl (fun _ => False) w1).alloc (.cells #[.int .u8 97] 5 (1, 2))).alloc (.cells #[.slice (some ⟨w1.heap.size, 0, none⟩) 1 1] 24))
  refine (tag_any 4 (known_row24 w1) (by simp)).mono ?_
  rintro e w2 ⟨v2, rfl, m1, m2, m3⟩
  rw [show ((4 : UInt8) :: lay ([[97]] : List (List UInt8)).flatten.length ++ ([[97]] : List (List UInt8)).flatten) = [4, 1, 97] from rfl] at m1
  have kc2 := run_conv (P := Try.prog) Try.underlying24 Try.underlying5 Try.underlying9 m1.sl
  have hx3 := ext_trans hx2 m3
  clear m1 m2 m3 kc1 hx2 g3
  go_wp2_with fail
  go_ret
  exact ⟨rfl, hx3⟩
end Go.Proofs.Ytcffefadagfdcaa
