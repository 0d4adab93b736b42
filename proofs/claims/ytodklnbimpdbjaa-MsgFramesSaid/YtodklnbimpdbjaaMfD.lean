/- msg: a bare unbind's parts. -/
import Derived.Test.YtodklnbimpdbjaaMfC
import Derived.Test.YtodklnbimpdbjaaToB
namespace Go.Proofs.Ytodklnbimpdbjaa
open Go.RowKit
set_option maxRecDepth 100000

theorem isw_1 {k : Nat} (h : IsW 1 k) : k = 1 := by
  obtain ⟨h1, h2, h3, h4⟩ := h
  have e1 : Fits 1 1 := by unfold Fits; decide
  have e2 : Fits 1 2 := by unfold Fits; decide
  have e3 : Fits 1 3 := by unfold Fits; decide
  have e4 : Fits 1 4 := by unfold Fits; decide
  have e5 : Fits 1 5 := by unfold Fits; decide
  have e6 : Fits 1 6 := by unfold Fits; decide
  have e7 : Fits 1 7 := by unfold Fits; decide
  obtain rfl | rfl | rfl | rfl | rfl | rfl | rfl | rfl : k = 1 ∨ k = 2 ∨ k = 3 ∨ k = 4 ∨ k = 5 ∨ k = 6 ∨ k = 7 ∨ k = 8 := by omega
  · rfl
  · exact absurd e1 (h4.resolve_left (by omega))
  · exact absurd e2 (h4.resolve_left (by omega))
  · exact absurd e3 (h4.resolve_left (by omega))
  · exact absurd e4 (h4.resolve_left (by omega))
  · exact absurd e5 (h4.resolve_left (by omega))
  · exact absurd e6 (h4.resolve_left (by omega))
  · exact absurd e7 (h4.resolve_left (by omega))
set_option maxHeartbeats 4000000 in
theorem num1_any {w : World} : Calls Try.prog 14 #[.int .u8 2, .int .i64 1] w fun e w' => ∃ v', e = .returned v' ∧ Own w' 5 v' (([2, 1, 1] : List UInt8).map bv) ∧ Ext w w' := by
  go_enter Try.func14, Try.ntmps14
  go_wp2_with fail
  refine (int_any (w := w) 1 (by omega) (by omega)).mono ?_
  rintro e w1 ⟨k, v1, rfl, hk, g1, g2, g3⟩
  obtain rfl := isw_1 hk
  rw [show bes 1 1 = [1] by decide] at g1
  obtain ⟨A1, c1, hv1⟩ := g1.shape
  subst hv1
  have hr := Rw.one 22 g1.sl
  have hx2 := fun cs => mext_trans g3 ((Mod.refl (fun _ => False) w1).alloc (.cells cs 22))
  clear hk
  go_wp2_with fail
  refine (tag_any 2 hr (by simp)).mono ?_
  rintro e w2 ⟨v2, rfl, m1, m2, m3⟩
  rw [show ((2 : UInt8) :: lay ([[1]] : List (List UInt8)).flatten.length ++ ([[1]] : List (List UInt8)).flatten) = [2, 1, 1] from rfl] at m1
  go_wp2_with fail
  go_ret
  exact ⟨_, rfl, m1, mext_trans (hx2 _) m3⟩
set_option maxHeartbeats 4000000 in
theorem text0_any {w : World} : Calls Try.prog 29 #[.int .u8 4, .string ⟨#[]⟩] w fun e w' => ∃ v', e = .returned v' ∧ Ext w w' := by
  go_enter Try.func29, Try.ntmps29
  go_wp2_with ((with_reducible show wpList _ _ _ (⟨some 7, _, _, _, _, _⟩ :: _) _ _); refine wp_tob Try.underlying9 Try.underlying22 Try.underlying5 (l := []) (by simp) rfl (.tmp 6) rfl rfl ?_; intro cp w1 k1 k2 k3; clear k3)
  have hr := Rw.one 22 k1
  have hx2 := mext_trans k2 ((Mod.refl (fun _ => False) w1).alloc (.cells #[.slice (some ⟨w.heap.size, 0, none⟩) ([] : List UInt8).length cp] 22))
  refine (tag_any 4 hr (by simp)).mono ?_
  rintro e w2 ⟨v2, rfl, m1, m2, m3⟩
  go_wp2_with fail
  go_ret
  exact ⟨_, rfl, mext_trans hx2 m3⟩
set_option maxHeartbeats 4000000 in
theorem fits0_any {w : World} : Calls Try.prog 10 #[.agg #[.int .i64 1, .int .i64 2, .string ⟨#[]⟩, .string ⟨#[]⟩, .int .i64 0, .int .i64 0, .int .i64 0, .string ⟨#[]⟩, .string ⟨#[]⟩, .slice none 0 0, .slice none 0 0, .slice none 0 0, .slice none 0 0, .slice none 0 0, .string ⟨#[]⟩, .bool false, .bool false, .string ⟨#[]⟩, .string ⟨#[]⟩, .string ⟨#[]⟩, .int .i64 0]] w fun e w' => e = .returned (.bool true) ∧ Ext w w' := by
  go_enter Try.func10, Try.ntmps10
  go_wp2_with fail
  go_ret
  exact ⟨rfl, (Mod.refl _ w).alloc _⟩
set_option maxHeartbeats 4000000 in
theorem body0_any {w : World} : Calls Try.prog 16 #[.agg #[.int .i64 1, .int .i64 2, .string ⟨#[]⟩, .string ⟨#[]⟩, .int .i64 0, .int .i64 0, .int .i64 0, .string ⟨#[]⟩, .string ⟨#[]⟩, .slice none 0 0, .slice none 0 0, .slice none 0 0, .slice none 0 0, .slice none 0 0, .string ⟨#[]⟩, .bool false, .bool false, .string ⟨#[]⟩, .string ⟨#[]⟩, .string ⟨#[]⟩, .int .i64 0]] w fun e w' => e = .returned (.slice none 0 0) ∧ Ext w w' := by
  have B : Blk (w.alloc (.cells #[.int .i64 1, .int .i64 2, .string ⟨#[]⟩, .string ⟨#[]⟩, .int .i64 0, .int .i64 0, .int .i64 0, .string ⟨#[]⟩, .string ⟨#[]⟩, .slice none 0 0, .slice none 0 0, .slice none 0 0, .slice none 0 0, .slice none 0 0, .string ⟨#[]⟩, .bool false, .bool false, .string ⟨#[]⟩, .string ⟨#[]⟩, .string ⟨#[]⟩, .int .i64 0] 42)) w.heap.size 42 #[.int .i64 1, .int .i64 2, .string ⟨#[]⟩, .string ⟨#[]⟩, .int .i64 0, .int .i64 0, .int .i64 0, .string ⟨#[]⟩, .string ⟨#[]⟩, .slice none 0 0, .slice none 0 0, .slice none 0 0, .slice none 0 0, .slice none 0 0, .string ⟨#[]⟩, .bool false, .bool false, .string ⟨#[]⟩, .string ⟨#[]⟩, .string ⟨#[]⟩, .int .i64 0] := Blk.new w _ _
  have x0 : Ext w (w.alloc (.cells #[.int .i64 1, .int .i64 2, .string ⟨#[]⟩, .string ⟨#[]⟩, .int .i64 0, .int .i64 0, .int .i64 0, .string ⟨#[]⟩, .string ⟨#[]⟩, .slice none 0 0, .slice none 0 0, .slice none 0 0, .slice none 0 0, .slice none 0 0, .string ⟨#[]⟩, .bool false, .bool false, .string ⟨#[]⟩, .string ⟨#[]⟩, .string ⟨#[]⟩, .int .i64 0] 42)) := (Mod.refl _ w).alloc _
  go_enter Try.func16, Try.ntmps16
  go_wp2_with fail
  refine text0_any.mono ?_
  rintro e w1 ⟨v1, rfl, x1⟩
  have c1 : w1.cell? ⟨w.heap.size, 1, none⟩ = some (.int .i64 2) := (B.mod x1 (fun h => h)).cell 1
  have hx := mext_trans x0 x1
  clear B x0 x1
  go_wp2_with fail
  go_ret
  exact ⟨rfl, hx⟩
end Go.Proofs.Ytodklnbimpdbjaa
