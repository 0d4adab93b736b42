/- ber: a number takes so few bytes as it may: the statement's own walk. -/
import Derived.Test.YtcffefadagfdcaaBerM
namespace Go.Proofs.Ytcffefadagfdcaa
open Go.RowKit
set_option maxRecDepth 100000

theorem fits_of {a : Int} {j : Nat} (h1j : 1 ≤ j) (hj8 : j ≤ 8) (h0 : -((2 ^ (8 * j) : Nat) : Int) ≤ 2 * a) (h1 : 2 * a < ((2 ^ (8 * j) : Nat) : Int)) : Fits a j := by
  obtain rfl | rfl | rfl | rfl | rfl | rfl | rfl | rfl : j = 1 ∨ j = 2 ∨ j = 3 ∨ j = 4 ∨ j = 5 ∨ j = 6 ∨ j = 7 ∨ j = 8 := by omega
  · have e1 : (2 : Int) ^ (8 * 1 - 1) = 128 := by decide
    have e2 : 2 ^ (8 * 1) = 256 := by decide
    unfold Fits
    rw [e1]
    rw [e2] at h0 h1
    omega
  · have e1 : (2 : Int) ^ (8 * 2 - 1) = 32768 := by decide
    have e2 : 2 ^ (8 * 2) = 65536 := by decide
    unfold Fits
    rw [e1]
    rw [e2] at h0 h1
    omega
  · have e1 : (2 : Int) ^ (8 * 3 - 1) = 8388608 := by decide
    have e2 : 2 ^ (8 * 3) = 16777216 := by decide
    unfold Fits
    rw [e1]
    rw [e2] at h0 h1
    omega
  · have e1 : (2 : Int) ^ (8 * 4 - 1) = 2147483648 := by decide
    have e2 : 2 ^ (8 * 4) = 4294967296 := by decide
    unfold Fits
    rw [e1]
    rw [e2] at h0 h1
    omega
  · have e1 : (2 : Int) ^ (8 * 5 - 1) = 549755813888 := by decide
    have e2 : 2 ^ (8 * 5) = 1099511627776 := by decide
    unfold Fits
    rw [e1]
    rw [e2] at h0 h1
    omega
  · have e1 : (2 : Int) ^ (8 * 6 - 1) = 140737488355328 := by decide
    have e2 : 2 ^ (8 * 6) = 281474976710656 := by decide
    unfold Fits
    rw [e1]
    rw [e2] at h0 h1
    omega
  · have e1 : (2 : Int) ^ (8 * 7 - 1) = 36028797018963968 := by decide
    have e2 : 2 ^ (8 * 7) = 72057594037927936 := by decide
    unfold Fits
    rw [e1]
    rw [e2] at h0 h1
    omega
  · exact fits8 a
theorem fits1 {a : Int} (h : Fits a 1) (h0 : -9223372036854775808 ≤ a) (h1 : a ≤ 9223372036854775807) : -128 ≤ a ∧ a ≤ 127 := by
  unfold Fits at h
  rw [show (2 : Int) ^ (8 * 1 - 1) = 128 by decide] at h
  omega

set_option maxHeartbeats 2000000 in
theorem law_shortest {w : World} (a : Int) (h0 : -9223372036854775808 ≤ a) (h1 : a ≤ 9223372036854775807) :
    Calls Try.prog 13 #[.int .i64 a] w fun e w' => e = .returned (.bool true) ∧ Ext w w' := by
  go_enter Try.func13, Try.ntmps13
  go_wp2_with fail
  refine (int_any a h0 h1).mono ?_
  rintro e w1 ⟨k, v1, rfl, hk, g1, g2, hx1⟩
  obtain ⟨k1, k8, kf, kl⟩ := hk
  have hbl := bes_len a k
  by_cases hk1 : k = 1
  · subst hk1
    obtain ⟨f0, f1⟩ := fits1 kf h0 h1
    obtain ⟨A1, c1, rfl⟩ := g1.shape
    rw [List.length_map, hbl] at g1 ⊢
    go_wp2_with fail
    refine known24_any.mono ?_
    rintro e w6 ⟨rfl, hx6⟩
    go_wp2_with fail
    go_ret
    exact ⟨rfl, ext_trans hx1 hx6⟩
  · obtain ⟨j, rfl⟩ : ∃ j, k = j + 1 := ⟨k - 1, by omega⟩
    have hnf : ¬ Fits a j := kl.resolve_left hk1
    have hne : sval (bes a j) ≠ a := by
      intro he
      have hb := sval_bd (l := bes a j) (by intro h; have := congrArg List.length h; rw [bes_len] at this; simp at this; omega)
      rw [bes_len, he] at hb
      exact hnf (fits_of (by omega) (by omega) hb.1 hb.2)
    have hfr : frm (bes a j) = (sval (bes a j), 0) := by unfold frm; rw [bes_len, if_neg (by omega)]
    have hmn : (sval (bes a j) != a) = true := by rw [bne_iff_ne]; exact hne
    obtain ⟨g, cap, rfl, y1, y2, y3⟩ : ∃ g cap, v1 = .slice (some ⟨g, 0, none⟩) (bes a (j + 1)).length cap ∧ (bes a (j + 1)).length ≤ cap ∧ cap ≤ 9223372036854775807 ∧ g < w1.heap.size := by
      rcases g1.form with ⟨_, h⟩ | ⟨g, cap, h, h2, h3, h4⟩
      · exact absurd (congrArg List.length h) (by simp [bes_len])
      · rw [List.length_map] at h h2; exact ⟨g, cap, h, h2, by simpa [maxLen] using h3, h4⟩
    have hrest := Bs.rest (m := 1) g1.sl (by rw [hbl]; omega)
    rw [show (bes a (j + 1)).drop 1 = bes a j from rfl, hbl, show j + 1 - 1 = j by omega] at hrest
    simp only [Option.map_some, add_lit] at hrest
    rw [hbl] at g1 y1 ⊢
    have hc1 : ¬ cap = 1 := by omega
    have hc2 : (1 : Int) ≤ (cap : Int) := by omega
    have hj1 : 1 ≤ j := by omega
    have hj7 : j ≤ 7 := by omega
    clear g1 g2 kf kl hnf hne hbl
    go_wp2_with fail
    refine (from_any hrest).mono ?_
    rintro e w2 ⟨rfl, rfl⟩
    rw [hfr]
    generalize sval (bes a j) = m at *
    clear hfr hrest
    go_wp2_with fail
    refine known24_any.mono ?_
    rintro e w6 ⟨rfl, hx6⟩
    go_wp2_with fail
    go_ret
    exact ⟨rfl, ext_trans hx1 hx6⟩
end Go.Proofs.Ytcffefadagfdcaa
