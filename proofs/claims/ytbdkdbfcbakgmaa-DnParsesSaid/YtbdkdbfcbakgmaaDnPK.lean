/- dn: the law Alike. -/
import Derived.Test.YtbdkdbfcbakgmaaDnPJ
namespace Go.Proofs.Ytbdkdbfcbakgmaa
open Go.RowKit
set_option maxRecDepth 100000

theorem under_self (L : List Av) : underN L L := ⟨Nat.le_refl _, by rw [Nat.sub_self, List.drop_zero]; exact rfl⟩
theorem under_nil (L : List Av) : underN L [] := ⟨Nat.zero_le _, by simp [sameN]⟩
theorem under_drop (L : List Av) (k : Nat) (hk : k ≤ L.length) : underN L (L.drop k) := by
  refine ⟨by simp, ?_⟩
  have : L.length - (L.drop k).length = k := by rw [List.length_drop]; omega
  rw [this]; exact rfl
theorem fits_wN {L : List Av} (h : wN L ≤ 1000) : Fits L := fits_of (by omega)
theorem nil_as (w : World) : As w (fun b => b < w.heap.size) (.slice none 0 0) ([] : List Av) := ⟨none, 0, rfl, Nat.le_refl _, by simp [maxLen], by simp, rfl, fun j u hu => by simp at hu⟩

set_option maxHeartbeats 8000000 in
theorem dnAlike_walk {w : World} {v0 v1 : Value} {a b : List Av} (h0 : As w (fun _ => True) v0 a) (h1 : As w (fun _ => True) v1 b) (f0 : Fits a) (f1 : Fits b) :
    Calls Try.prog 6 #[v0, v1] w fun e w' => e = .returned (.bool true) ∧ Ext w w' := by
  go_enter Try.func6, Try.ntmps6
  go_wp2_with fail
  refine (heavy13_any h0 f0).mono ?_
  rintro e w1 ⟨q, rfl, g0, x1⟩
  cases q
  case true =>
    go_wp2_with fail
    go_ret
    exact ⟨rfl, x1⟩
  replace g0 := Lib.hid (g0 rfl)
  go_wp2_with fail
  refine (heavy13_any (h1.ext x1) f1).mono ?_
  rintro e w2 ⟨q, rfl, g1, x2⟩
  replace x2 := ext_trans x1 x2
  cases q
  case true =>
    go_wp2_with fail
    go_ret
    exact ⟨rfl, x2⟩
  replace g1 := Lib.hid (g1 rfl)
  clear x1
  obtain ⟨s, hs⟩ : ∃ s, s = decide (sameN a b) := ⟨_, rfl⟩
  obtain ⟨u, hu⟩ : ∃ u, u = decide (underN a b) := ⟨_, rfl⟩
  have ss : (s == s) = true := by cases s <;> rfl
  have uu : (u == u) = true := by cases u <;> rfl
  go_wp2_with fail
  refine (same_any (h0.ext x2) (h1.ext x2) f0 f1).mono ?_
  rintro e w3 ⟨rfl, x3⟩
  replace x3 := ext_trans x2 x3
  clear x2
  rw [← hs]
  go_wp2_with fail
  refine (rsame_any (h0.there x3) (h1.there x3) f0 f1).mono ?_
  rintro e w4 ⟨rfl, x4⟩
  replace x4 := ext_trans x3 x4
  clear x3
  rw [← hs]
  go_wp2_with fail
  refine (under_any (h0.ext x4) (h1.ext x4) f0 f1).mono ?_
  rintro e w5 ⟨rfl, x5⟩
  replace x5 := ext_trans x4 x5
  clear x4
  rw [← hu]
  go_wp2_with fail
  refine (runder_any (h0.there x5) (h1.there x5) f0 f1).mono ?_
  rintro e w6 ⟨rfl, x6⟩
  replace x6 := ext_trans x5 x6
  clear x5
  rw [← hu]
  go_wp2_with fail
  refine (same_any (h0.ext x6) (h0.ext x6) f0 f0).mono ?_
  rintro e w7 ⟨rfl, x7⟩
  replace x7 := ext_trans x6 x7
  clear x6
  rw [dtrue (show sameN a a from rfl)]
  go_wp2_with fail
  refine (under_any (h0.ext x7) (h0.ext x7) f0 f0).mono ?_
  rintro e w8 ⟨rfl, x8⟩
  replace x8 := ext_trans x7 x8
  clear x7
  rw [dtrue (under_self a)]
  go_wp2_with fail
  refine (under_any (h0.ext x8) (nil_as _) f0 (fits_of (by simp [wN]))).mono ?_
  rintro e w9 ⟨rfl, x9⟩
  replace x9 := ext_trans x8 x9
  clear x8
  rw [dtrue (under_nil a)]
  go_wp2_with fail
  refine (up_any (h0.there x9) f0.2).mono ?_
  rintro e wu ⟨vu, rfl, pu, _, xu⟩
  replace xu := ext_trans x9 xu
  clear x9
  have fu : Fits (a.drop 1) := fits_of (by have := wN_drop a 1; have := g0.out; omega)
  have hdr : underN a (a.drop 1) := by
    by_cases ha : a.length = 0
    · obtain rfl : a = [] := List.eq_nil_of_length_eq_zero ha
      exact under_self []
    · exact under_drop a 1 (by omega)
  go_wp2_with fail
  refine (under_any (h0.ext xu) pu.rc f0 fu).mono ?_
  rintro e wz ⟨rfl, xz⟩
  rw [dtrue hdr]
  clear hdr
  replace xz := ext_trans xu xz
  go_wp2_with fail
  refine known13_any.mono ?_
  rintro e wk ⟨rfl, xk⟩
  go_wp2_with fail
  go_ret
  exact ⟨rfl, ext_trans xz xk⟩
end Go.Proofs.Ytbdkdbfcbakgmaa
