/- dn: the law Parses. -/
import Derived.Test.YtbdkdbfcbakgmaaDnQF
import Derived.Test.YtbdkdbfcbakgmaaDnPL
namespace Go.Proofs.Ytbdkdbfcbakgmaa
open Go.RowKit
set_option maxRecDepth 100000

theorem parseB_fits (s : List UInt8) (hs : s.length ≤ 1000000) : (parseB s).1.length * 32 ≤ 140737488351232 := by
  unfold parseB
  split
  · simp
  · unfold outP
    split
    · simp
    · split
      · rename_i h; have := h.1; dsimp only; omega
      · simp

set_option maxHeartbeats 8000000 in
theorem dnParses_walk {w : World} {s : List UInt8} (hs : s.length ≤ 140737488351232) :
    Calls Try.prog 3 #[sv s] w fun e w' => e = .returned (.bool true) ∧ Ext w w' := by
  have hsz := sv_size s
  by_cases hb : 600 < s.length
  · have hb1 : decide ((600 : Int) < (s.length : Int)) = true := dtrue (by omega)
    go_enter Try.func3, Try.ntmps3
    go_wp2_with fail
    go_ret
    exact ⟨rfl, Mod.refl _ _⟩
  have hb1 : decide ((600 : Int) < (s.length : Int)) = false := dfalse (by omega)
  have hf := Lib.hid (parseB_fits s (by omega))
  have hpa := fun wx => parse_any (w := wx) s (by omega)
  have hpq := fun wx => qparse_any (w := wx) s (by omega)
  obtain ⟨L, hL⟩ : ∃ L, L = (parseB s).1 := ⟨_, rfl⟩
  obtain ⟨n, hn⟩ : ∃ n, n = (parseB s).2 := ⟨_, rfl⟩
  rw [← hL] at hf
  rw [← hL, ← hn] at hpa hpq
  clear hL hn
  have hnn : ((n : Int) == (n : Int)) = true := beq_self_eq_true _
  obtain ⟨q, hq⟩ : ∃ q, q = decide (isTyp s) := ⟨_, rfl⟩
  have qq : (q == q) = true := by cases q <;> rfl
  obtain ⟨F, hF⟩ : ∃ F, F = foldB s := ⟨_, rfl⟩
  have ff := bb_of F
  go_enter Try.func3, Try.ntmps3
  go_wp2_with fail
  refine (hpa _).mono ?_
  rintro e w1 ⟨v1, rfl, p1, _, x1⟩
  go_wp2_with fail
  refine (hpq _).mono ?_
  rintro e w2 ⟨v2, rfl, p2, _, x2⟩
  have p1' := p1.ext x2
  replace x2 := ext_trans x1 x2
  clear x1 p1 hpa hpq
  go_wp2_with fail
  refine (names13_any p1'.rc p2.rc hf.out).mono ?_
  rintro e w3 ⟨rfl, x3⟩
  rw [dtrue rfl]
  replace x3 := ext_trans x2 x3
  clear x2 p1' p2
  go_wp2_with fail
  refine (type_any s (by omega)).mono ?_
  rintro e w4 ⟨rfl, hw4⟩
  rw [← hq, hw4]
  clear hw4 w4
  go_wp2_with fail
  refine (rtype_any s (by omega)).mono ?_
  rintro e w4 ⟨rfl, hw4⟩
  rw [← hq, hw4]
  clear hw4 w4 hq
  go_wp2_with fail
  refine (fold_any s hs).mono ?_
  rintro e w5 ⟨rfl, x5⟩
  rw [← hF]
  replace x5 := ext_trans x3 x5
  clear x3
  go_wp2_with fail
  refine (rfold_any s hs).mono ?_
  rintro e w6 ⟨rfl, x6⟩
  rw [← hF]
  replace x6 := ext_trans x5 x6
  clear x5 hF
  go_wp2_with fail
  refine known13_any.mono ?_
  rintro e wk ⟨rfl, xk⟩
  go_wp2_with fail
  go_ret
  exact ⟨rfl, ext_trans x6 xk⟩
end Go.Proofs.Ytbdkdbfcbakgmaa
