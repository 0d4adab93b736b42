/- level: what a file may be, and how two stand; both sides. -/
import Derived.Test.YtmjkgibeljbloaaLvA
namespace Go.Proofs.Ytmjkgibeljbloaa
open Go.RowKit
set_option maxRecDepth 100000

def keyP (s : List UInt8) : Prop := 1 ≤ s.length ∧ s.length ≤ 4096
instance (s : List UInt8) : Decidable (keyP s) := by unfold keyP; infer_instance
/-- A file alone may be. -/
def fitF (f : Fl) (n : Int) : Prop := 1 ≤ f.id ∧ f.id < n ∧ 0 ≤ f.lev ∧ f.lev ≤ 4 ∧ 1 ≤ f.size ∧ f.size ≤ 1048576 ∧ keyP f.first ∧ keyP f.last ∧ leT f.first f.last
instance (f : Fl) (n : Int) : Decidable (fitF f n) := by unfold fitF; infer_instance
/-- Two files may stand side by side. -/
def riseF (a b : Fl) : Prop := if a.lev = b.lev then (if a.lev = 0 then a.id < b.id else Op.bytesLess a.last b.first = true) else a.lev < b.lev
instance (a b : Fl) : Decidable (riseF a b) := by unfold riseF; infer_instance
/-- One stands ahead of the other. -/
def aheadF (a b : Fl) : Prop := if a.lev = b.lev then (if a.lev = 0 then a.id < b.id else Op.bytesLess a.first b.first = true) else a.lev < b.lev
instance (a b : Fl) : Decidable (aheadF a b) := by unfold aheadF; infer_instance
section
variable {w : World}
set_option maxHeartbeats 4000000 in
theorem isKey_any (s : List UInt8) (hs : s.length ≤ 140737488351232) : Calls Try.prog 60 #[sv s] w fun e w' => e = .returned (.bool (decide (keyP s))) ∧ w' = w := by
  have hz := sv_size s
  by_cases h1 : 1 ≤ s.length
  case neg =>
    have q1 : decide ((1 : Int) ≤ (s.length : Int)) = false := dfalse (by omega)
    have q1' : decide (1 ≤ s.length) = false := dfalse h1
    have hR : Hid (decide (keyP s) = false) := Lib.hid (dfalse fun h => h1 h.1)
    go_enter Try.func60, Try.ntmps60
    go_wp2_with fail
    go_ret
    exact ⟨by rw [hR.out]; rfl, rfl⟩
  have q1 : decide ((1 : Int) ≤ (s.length : Int)) = true := dtrue (by omega)
  have q1' : decide (1 ≤ s.length) = true := dtrue h1
  by_cases h2 : s.length ≤ 4096
  case neg =>
    have q2 : decide ((s.length : Int) ≤ (4096 : Int)) = false := dfalse (by omega)
    have q2' : decide (s.length ≤ 4096) = false := dfalse h2
    have hR : Hid (decide (keyP s) = false) := Lib.hid (dfalse fun h => h2 h.2)
    go_enter Try.func60, Try.ntmps60
    go_wp2_with fail
    go_ret
    exact ⟨by rw [hR.out]; rfl, rfl⟩
  have q2 : decide ((s.length : Int) ≤ (4096 : Int)) = true := dtrue (by omega)
  have q2' : decide (s.length ≤ 4096) = true := dtrue h2
  have hR : Hid (decide (keyP s) = true) := Lib.hid (dtrue ⟨h1, h2⟩)
  go_enter Try.func60, Try.ntmps60
  go_wp2_with fail
  go_ret
  exact ⟨by rw [hR.out]; rfl, rfl⟩
set_option maxHeartbeats 4000000 in
theorem key11_any (s : List UInt8) (hs : s.length ≤ 140737488351232) : Calls Try.prog 61 #[sv s] w fun e w' => e = .returned (.bool (decide (keyP s))) ∧ w' = w := by
  have hz := sv_size s
  by_cases h1 : 1 ≤ s.length
  case neg =>
    have q1 : decide ((1 : Int) ≤ (s.length : Int)) = false := dfalse (by omega)
    have q1' : decide (1 ≤ s.length) = false := dfalse h1
    have hR : Hid (decide (keyP s) = false) := Lib.hid (dfalse fun h => h1 h.1)
    go_enter Try.func61, Try.ntmps61
    go_wp2_with fail
    go_ret
    exact ⟨by rw [hR.out]; rfl, rfl⟩
  have q1 : decide ((1 : Int) ≤ (s.length : Int)) = true := dtrue (by omega)
  have q1' : decide (1 ≤ s.length) = true := dtrue h1
  by_cases h2 : s.length ≤ 4096
  case neg =>
    have q2 : decide ((s.length : Int) ≤ (4096 : Int)) = false := dfalse (by omega)
    have q2' : decide (s.length ≤ 4096) = false := dfalse h2
    have hR : Hid (decide (keyP s) = false) := Lib.hid (dfalse fun h => h2 h.2)
    go_enter Try.func61, Try.ntmps61
    go_wp2_with fail
    go_ret
    exact ⟨by rw [hR.out]; rfl, rfl⟩
  have q2 : decide ((s.length : Int) ≤ (4096 : Int)) = true := dtrue (by omega)
  have q2' : decide (s.length ≤ 4096) = true := dtrue h2
  have hR : Hid (decide (keyP s) = true) := Lib.hid (dtrue ⟨h1, h2⟩)
  go_enter Try.func61, Try.ntmps61
  go_wp2_with fail
  go_ret
  exact ⟨by rw [hR.out]; rfl, rfl⟩
set_option maxHeartbeats 16000000 in
theorem fits_any (f : Fl) (n : Int) (hf : FFits f) : Calls Try.prog 37 #[.agg (fia f), .int .i64 n] w fun e w' => e = .returned (.bool (decide (fitF f n))) ∧ Ext w w' := by
  obtain ⟨i, l, z, a, b⟩ := f
  obtain ⟨hf1, hf2⟩ := hf
  simp only at hf1 hf2
  obtain ⟨c0, c1, c2, c3, c4⟩ := boxedF w ⟨i, l, z, a, b⟩
  have hx : Ext w (w.alloc (.cells (fia ⟨i, l, z, a, b⟩) 48)) := (Mod.refl _ w).alloc _
  obtain ⟨w0, hw0⟩ : ∃ w0, w0 = w.alloc (.cells (fia ⟨i, l, z, a, b⟩) 48) := ⟨_, rfl⟩
  rw [← hw0] at c0 c1 c2 c3 c4 hx
  replace hw0 := Lib.hid hw0
  have ka := fun wx => isKey_any (w := wx) a hf1
  have kb := fun wx => isKey_any (w := wx) b hf2
  clear hf1 hf2
  have hfit : fitF ⟨i, l, z, a, b⟩ n ↔ (1 ≤ i ∧ i < n ∧ 0 ≤ l ∧ l ≤ 4 ∧ 1 ≤ z ∧ z ≤ 1048576 ∧ keyP a ∧ keyP b ∧ leT a b) := Iff.rfl
  by_cases h0 : 1 ≤ i
  case neg =>
    have hR : Hid (decide (fitF ⟨i, l, z, a, b⟩ n) = false) := Lib.hid (dfalse fun h => h0 (hfit.1 h).1)
    have q0 : decide ((1 : Int) ≤ i) = false := dfalse h0
    clear hfit h0
    go_enter Try.func37, Try.ntmps37
    go_upto_region 1 with fail
    rw [← hw0.out]
    go_wp2_with (first | (go_at_call 60; with_reducible refine (ka _).mono ?_; rintro e' w' ⟨rfl, rfl⟩) | (go_at_call 60; with_reducible refine (kb _).mono ?_; rintro e' w' ⟨rfl, rfl⟩))
    go_ret
    exact ⟨by rw [hR.out]; rfl, hx⟩
  have q0 : decide ((1 : Int) ≤ i) = true := dtrue h0
  by_cases h1 : i < n
  case neg =>
    have hR : Hid (decide (fitF ⟨i, l, z, a, b⟩ n) = false) := Lib.hid (dfalse fun h => h1 (hfit.1 h).2.1)
    have q1 : decide (i < n) = false := dfalse h1
    clear hfit h0 h1
    go_enter Try.func37, Try.ntmps37
    go_upto_region 1 with fail
    rw [← hw0.out]
    go_wp2_with (first | (go_at_call 60; with_reducible refine (ka _).mono ?_; rintro e' w' ⟨rfl, rfl⟩) | (go_at_call 60; with_reducible refine (kb _).mono ?_; rintro e' w' ⟨rfl, rfl⟩))
    go_ret
    exact ⟨by rw [hR.out]; rfl, hx⟩
  have q1 : decide (i < n) = true := dtrue h1
  by_cases h2 : 0 ≤ l
  case neg =>
    have hR : Hid (decide (fitF ⟨i, l, z, a, b⟩ n) = false) := Lib.hid (dfalse fun h => h2 (hfit.1 h).2.2.1)
    have q2 : decide ((0 : Int) ≤ l) = false := dfalse h2
    clear hfit h0 h1 h2
    go_enter Try.func37, Try.ntmps37
    go_upto_region 1 with fail
    rw [← hw0.out]
    go_wp2_with (first | (go_at_call 60; with_reducible refine (ka _).mono ?_; rintro e' w' ⟨rfl, rfl⟩) | (go_at_call 60; with_reducible refine (kb _).mono ?_; rintro e' w' ⟨rfl, rfl⟩))
    go_ret
    exact ⟨by rw [hR.out]; rfl, hx⟩
  have q2 : decide ((0 : Int) ≤ l) = true := dtrue h2
  by_cases h3 : l ≤ 4
  case neg =>
    have hR : Hid (decide (fitF ⟨i, l, z, a, b⟩ n) = false) := Lib.hid (dfalse fun h => h3 (hfit.1 h).2.2.2.1)
    have q3 : decide (l ≤ (4 : Int)) = false := dfalse h3
    clear hfit h0 h1 h2 h3
    go_enter Try.func37, Try.ntmps37
    go_upto_region 1 with fail
    rw [← hw0.out]
    go_wp2_with (first | (go_at_call 60; with_reducible refine (ka _).mono ?_; rintro e' w' ⟨rfl, rfl⟩) | (go_at_call 60; with_reducible refine (kb _).mono ?_; rintro e' w' ⟨rfl, rfl⟩))
    go_ret
    exact ⟨by rw [hR.out]; rfl, hx⟩
  have q3 : decide (l ≤ (4 : Int)) = true := dtrue h3
  by_cases h4 : 1 ≤ z
  case neg =>
    have hR : Hid (decide (fitF ⟨i, l, z, a, b⟩ n) = false) := Lib.hid (dfalse fun h => h4 (hfit.1 h).2.2.2.2.1)
    have q4 : decide ((1 : Int) ≤ z) = false := dfalse h4
    clear hfit h0 h1 h2 h3 h4
    go_enter Try.func37, Try.ntmps37
    go_upto_region 1 with fail
    rw [← hw0.out]
    go_wp2_with (first | (go_at_call 60; with_reducible refine (ka _).mono ?_; rintro e' w' ⟨rfl, rfl⟩) | (go_at_call 60; with_reducible refine (kb _).mono ?_; rintro e' w' ⟨rfl, rfl⟩))
    go_ret
    exact ⟨by rw [hR.out]; rfl, hx⟩
  have q4 : decide ((1 : Int) ≤ z) = true := dtrue h4
  by_cases h5 : z ≤ 1048576
  case neg =>
    have hR : Hid (decide (fitF ⟨i, l, z, a, b⟩ n) = false) := Lib.hid (dfalse fun h => h5 (hfit.1 h).2.2.2.2.2.1)
    have q5 : decide (z ≤ (1048576 : Int)) = false := dfalse h5
    clear hfit h0 h1 h2 h3 h4 h5
    go_enter Try.func37, Try.ntmps37
    go_upto_region 1 with fail
    rw [← hw0.out]
    go_wp2_with (first | (go_at_call 60; with_reducible refine (ka _).mono ?_; rintro e' w' ⟨rfl, rfl⟩) | (go_at_call 60; with_reducible refine (kb _).mono ?_; rintro e' w' ⟨rfl, rfl⟩))
    go_ret
    exact ⟨by rw [hR.out]; rfl, hx⟩
  have q5 : decide (z ≤ (1048576 : Int)) = true := dtrue h5
  by_cases h6 : keyP a
  case neg =>
    have hR : Hid (decide (fitF ⟨i, l, z, a, b⟩ n) = false) := Lib.hid (dfalse fun h => h6 (hfit.1 h).2.2.2.2.2.2.1)
    have q6 : decide (keyP a) = false := dfalse h6
    simp only [q6] at ka
    clear hfit h0 h1 h2 h3 h4 h5 h6
    go_enter Try.func37, Try.ntmps37
    go_upto_region 1 with fail
    rw [← hw0.out]
    go_wp2_with (first | (go_at_call 60; with_reducible refine (ka _).mono ?_; rintro e' w' ⟨rfl, rfl⟩) | (go_at_call 60; with_reducible refine (kb _).mono ?_; rintro e' w' ⟨rfl, rfl⟩))
    go_ret
    exact ⟨by rw [hR.out]; rfl, hx⟩
  have q6 : decide (keyP a) = true := dtrue h6
  simp only [q6] at ka
  by_cases h7 : keyP b
  case neg =>
    have hR : Hid (decide (fitF ⟨i, l, z, a, b⟩ n) = false) := Lib.hid (dfalse fun h => h7 (hfit.1 h).2.2.2.2.2.2.2.1)
    have q7 : decide (keyP b) = false := dfalse h7
    simp only [q7] at kb
    clear hfit h0 h1 h2 h3 h4 h5 h6 h7
    go_enter Try.func37, Try.ntmps37
    go_upto_region 1 with fail
    rw [← hw0.out]
    go_wp2_with (first | (go_at_call 60; with_reducible refine (ka _).mono ?_; rintro e' w' ⟨rfl, rfl⟩) | (go_at_call 60; with_reducible refine (kb _).mono ?_; rintro e' w' ⟨rfl, rfl⟩))
    go_ret
    exact ⟨by rw [hR.out]; rfl, hx⟩
  have q7 : decide (keyP b) = true := dtrue h7
  simp only [q7] at kb
  by_cases h8 : leT a b
  case neg =>
    have hR : Hid (decide (fitF ⟨i, l, z, a, b⟩ n) = false) := Lib.hid (dfalse fun h => h8 (hfit.1 h).2.2.2.2.2.2.2.2)
    have q8 : (Op.bytesLess a b || a == b) = false := by rw [leT_iff] at h8; simpa using h8
    clear hfit h0 h1 h2 h3 h4 h5 h6 h7 h8
    go_enter Try.func37, Try.ntmps37
    go_upto_region 1 with fail
    rw [← hw0.out]
    go_wp2_with (first | (go_at_call 60; with_reducible refine (ka _).mono ?_; rintro e' w' ⟨rfl, rfl⟩) | (go_at_call 60; with_reducible refine (kb _).mono ?_; rintro e' w' ⟨rfl, rfl⟩))
    go_ret
    exact ⟨by rw [hR.out]; rfl, hx⟩
  have q8 : (Op.bytesLess a b || a == b) = true := leT_iff.1 h8
  have hR : Hid (decide (fitF ⟨i, l, z, a, b⟩ n) = true) := Lib.hid (dtrue (hfit.2 ⟨h0, h1, h2, h3, h4, h5, h6, h7, h8⟩))
  clear hfit h0 h1 h2 h3 h4 h5 h6 h7 h8
  go_enter Try.func37, Try.ntmps37
  go_upto_region 1 with fail
  rw [← hw0.out]
  go_wp2_with (first | (go_at_call 60; with_reducible refine (ka _).mono ?_; rintro e' w' ⟨rfl, rfl⟩) | (go_at_call 60; with_reducible refine (kb _).mono ?_; rintro e' w' ⟨rfl, rfl⟩))
  go_ret
  exact ⟨by rw [hR.out]; rfl, hx⟩
set_option maxHeartbeats 16000000 in
theorem one11_any (f : Fl) (n : Int) (hf : FFits f) : Calls Try.prog 39 #[.agg (fia f), .int .i64 n] w fun e w' => e = .returned (.bool (decide (fitF f n))) ∧ Ext w w' := by
  obtain ⟨i, l, z, a, b⟩ := f
  obtain ⟨hf1, hf2⟩ := hf
  simp only at hf1 hf2
  obtain ⟨c0, c1, c2, c3, c4⟩ := boxedF w ⟨i, l, z, a, b⟩
  have hx : Ext w (w.alloc (.cells (fia ⟨i, l, z, a, b⟩) 48)) := (Mod.refl _ w).alloc _
  obtain ⟨w0, hw0⟩ : ∃ w0, w0 = w.alloc (.cells (fia ⟨i, l, z, a, b⟩) 48) := ⟨_, rfl⟩
  rw [← hw0] at c0 c1 c2 c3 c4 hx
  replace hw0 := Lib.hid hw0
  have ka := fun wx => key11_any (w := wx) a hf1
  have kb := fun wx => key11_any (w := wx) b hf2
  clear hf1 hf2
  have hfit : fitF ⟨i, l, z, a, b⟩ n ↔ (1 ≤ i ∧ i < n ∧ 0 ≤ l ∧ l ≤ 4 ∧ 1 ≤ z ∧ z ≤ 1048576 ∧ keyP a ∧ keyP b ∧ leT a b) := Iff.rfl
  by_cases h0 : 1 ≤ i
  case neg =>
    have hR : Hid (decide (fitF ⟨i, l, z, a, b⟩ n) = false) := Lib.hid (dfalse fun h => h0 (hfit.1 h).1)
    have q0 : decide ((1 : Int) ≤ i) = false := dfalse h0
    clear hfit h0
    go_enter Try.func39, Try.ntmps39
    go_upto_region 1 with fail
    rw [← hw0.out]
    go_wp2_with (first | (go_at_call 61; with_reducible refine (ka _).mono ?_; rintro e' w' ⟨rfl, rfl⟩) | (go_at_call 61; with_reducible refine (kb _).mono ?_; rintro e' w' ⟨rfl, rfl⟩))
    go_ret
    exact ⟨by rw [hR.out]; rfl, hx⟩
  have q0 : decide ((1 : Int) ≤ i) = true := dtrue h0
  by_cases h1 : i < n
  case neg =>
    have hR : Hid (decide (fitF ⟨i, l, z, a, b⟩ n) = false) := Lib.hid (dfalse fun h => h1 (hfit.1 h).2.1)
    have q1 : decide (i < n) = false := dfalse h1
    clear hfit h0 h1
    go_enter Try.func39, Try.ntmps39
    go_upto_region 1 with fail
    rw [← hw0.out]
    go_wp2_with (first | (go_at_call 61; with_reducible refine (ka _).mono ?_; rintro e' w' ⟨rfl, rfl⟩) | (go_at_call 61; with_reducible refine (kb _).mono ?_; rintro e' w' ⟨rfl, rfl⟩))
    go_ret
    exact ⟨by rw [hR.out]; rfl, hx⟩
  have q1 : decide (i < n) = true := dtrue h1
  by_cases h2 : 0 ≤ l
  case neg =>
    have hR : Hid (decide (fitF ⟨i, l, z, a, b⟩ n) = false) := Lib.hid (dfalse fun h => h2 (hfit.1 h).2.2.1)
    have q2 : decide ((0 : Int) ≤ l) = false := dfalse h2
    clear hfit h0 h1 h2
    go_enter Try.func39, Try.ntmps39
    go_upto_region 1 with fail
    rw [← hw0.out]
    go_wp2_with (first | (go_at_call 61; with_reducible refine (ka _).mono ?_; rintro e' w' ⟨rfl, rfl⟩) | (go_at_call 61; with_reducible refine (kb _).mono ?_; rintro e' w' ⟨rfl, rfl⟩))
    go_ret
    exact ⟨by rw [hR.out]; rfl, hx⟩
  have q2 : decide ((0 : Int) ≤ l) = true := dtrue h2
  by_cases h3 : l ≤ 4
  case neg =>
    have hR : Hid (decide (fitF ⟨i, l, z, a, b⟩ n) = false) := Lib.hid (dfalse fun h => h3 (hfit.1 h).2.2.2.1)
    have q3 : decide (l ≤ (4 : Int)) = false := dfalse h3
    clear hfit h0 h1 h2 h3
    go_enter Try.func39, Try.ntmps39
    go_upto_region 1 with fail
    rw [← hw0.out]
    go_wp2_with (first | (go_at_call 61; with_reducible refine (ka _).mono ?_; rintro e' w' ⟨rfl, rfl⟩) | (go_at_call 61; with_reducible refine (kb _).mono ?_; rintro e' w' ⟨rfl, rfl⟩))
    go_ret
    exact ⟨by rw [hR.out]; rfl, hx⟩
  have q3 : decide (l ≤ (4 : Int)) = true := dtrue h3
  by_cases h4 : 1 ≤ z
  case neg =>
    have hR : Hid (decide (fitF ⟨i, l, z, a, b⟩ n) = false) := Lib.hid (dfalse fun h => h4 (hfit.1 h).2.2.2.2.1)
    have q4 : decide ((1 : Int) ≤ z) = false := dfalse h4
    clear hfit h0 h1 h2 h3 h4
    go_enter Try.func39, Try.ntmps39
    go_upto_region 1 with fail
    rw [← hw0.out]
    go_wp2_with (first | (go_at_call 61; with_reducible refine (ka _).mono ?_; rintro e' w' ⟨rfl, rfl⟩) | (go_at_call 61; with_reducible refine (kb _).mono ?_; rintro e' w' ⟨rfl, rfl⟩))
    go_ret
    exact ⟨by rw [hR.out]; rfl, hx⟩
  have q4 : decide ((1 : Int) ≤ z) = true := dtrue h4
  by_cases h5 : z ≤ 1048576
  case neg =>
    have hR : Hid (decide (fitF ⟨i, l, z, a, b⟩ n) = false) := Lib.hid (dfalse fun h => h5 (hfit.1 h).2.2.2.2.2.1)
    have q5 : decide (z ≤ (1048576 : Int)) = false := dfalse h5
    clear hfit h0 h1 h2 h3 h4 h5
    go_enter Try.func39, Try.ntmps39
    go_upto_region 1 with fail
    rw [← hw0.out]
    go_wp2_with (first | (go_at_call 61; with_reducible refine (ka _).mono ?_; rintro e' w' ⟨rfl, rfl⟩) | (go_at_call 61; with_reducible refine (kb _).mono ?_; rintro e' w' ⟨rfl, rfl⟩))
    go_ret
    exact ⟨by rw [hR.out]; rfl, hx⟩
  have q5 : decide (z ≤ (1048576 : Int)) = true := dtrue h5
  by_cases h6 : keyP a
  case neg =>
    have hR : Hid (decide (fitF ⟨i, l, z, a, b⟩ n) = false) := Lib.hid (dfalse fun h => h6 (hfit.1 h).2.2.2.2.2.2.1)
    have q6 : decide (keyP a) = false := dfalse h6
    simp only [q6] at ka
    clear hfit h0 h1 h2 h3 h4 h5 h6
    go_enter Try.func39, Try.ntmps39
    go_upto_region 1 with fail
    rw [← hw0.out]
    go_wp2_with (first | (go_at_call 61; with_reducible refine (ka _).mono ?_; rintro e' w' ⟨rfl, rfl⟩) | (go_at_call 61; with_reducible refine (kb _).mono ?_; rintro e' w' ⟨rfl, rfl⟩))
    go_ret
    exact ⟨by rw [hR.out]; rfl, hx⟩
  have q6 : decide (keyP a) = true := dtrue h6
  simp only [q6] at ka
  by_cases h7 : keyP b
  case neg =>
    have hR : Hid (decide (fitF ⟨i, l, z, a, b⟩ n) = false) := Lib.hid (dfalse fun h => h7 (hfit.1 h).2.2.2.2.2.2.2.1)
    have q7 : decide (keyP b) = false := dfalse h7
    simp only [q7] at kb
    clear hfit h0 h1 h2 h3 h4 h5 h6 h7
    go_enter Try.func39, Try.ntmps39
    go_upto_region 1 with fail
    rw [← hw0.out]
    go_wp2_with (first | (go_at_call 61; with_reducible refine (ka _).mono ?_; rintro e' w' ⟨rfl, rfl⟩) | (go_at_call 61; with_reducible refine (kb _).mono ?_; rintro e' w' ⟨rfl, rfl⟩))
    go_ret
    exact ⟨by rw [hR.out]; rfl, hx⟩
  have q7 : decide (keyP b) = true := dtrue h7
  simp only [q7] at kb
  by_cases h8 : leT a b
  case neg =>
    have hR : Hid (decide (fitF ⟨i, l, z, a, b⟩ n) = false) := Lib.hid (dfalse fun h => h8 (hfit.1 h).2.2.2.2.2.2.2.2)
    have q8 : (Op.bytesLess a b || a == b) = false := by rw [leT_iff] at h8; simpa using h8
    clear hfit h0 h1 h2 h3 h4 h5 h6 h7 h8
    go_enter Try.func39, Try.ntmps39
    go_upto_region 1 with fail
    rw [← hw0.out]
    go_wp2_with (first | (go_at_call 61; with_reducible refine (ka _).mono ?_; rintro e' w' ⟨rfl, rfl⟩) | (go_at_call 61; with_reducible refine (kb _).mono ?_; rintro e' w' ⟨rfl, rfl⟩))
    go_ret
    exact ⟨by rw [hR.out]; rfl, hx⟩
  have q8 : (Op.bytesLess a b || a == b) = true := leT_iff.1 h8
  have hR : Hid (decide (fitF ⟨i, l, z, a, b⟩ n) = true) := Lib.hid (dtrue (hfit.2 ⟨h0, h1, h2, h3, h4, h5, h6, h7, h8⟩))
  clear hfit h0 h1 h2 h3 h4 h5 h6 h7 h8
  go_enter Try.func39, Try.ntmps39
  go_upto_region 1 with fail
  rw [← hw0.out]
  go_wp2_with (first | (go_at_call 61; with_reducible refine (ka _).mono ?_; rintro e' w' ⟨rfl, rfl⟩) | (go_at_call 61; with_reducible refine (kb _).mono ?_; rintro e' w' ⟨rfl, rfl⟩))
  go_ret
  exact ⟨by rw [hR.out]; rfl, hx⟩
set_option maxHeartbeats 8000000 in
theorem rise_any (f g : Fl) : Calls Try.prog 38 #[.agg (fia f), .agg (fia g)] w fun e w' => e = .returned (.bool (decide (riseF f g))) ∧ Ext w w' := by
  obtain ⟨i, l, z, a, b⟩ := f
  obtain ⟨i', l', z', a', b'⟩ := g
  obtain ⟨⟨c0, c1, c2, c3, c4⟩, ⟨d0, d1, d2, d3, d4⟩⟩ := boxedF2 w ⟨i, l, z, a, b⟩ ⟨i', l', z', a', b'⟩
  have hx : Ext w ((w.alloc (.cells (fia ⟨i, l, z, a, b⟩) 48)).alloc (.cells (fia ⟨i', l', z', a', b'⟩) 48)) := ((Mod.refl _ w).alloc _).alloc _
  obtain ⟨w0, hw0⟩ : ∃ w0, w0 = (w.alloc (.cells (fia ⟨i, l, z, a, b⟩) 48)).alloc (.cells (fia ⟨i', l', z', a', b'⟩) 48) := ⟨_, rfl⟩
  rw [← hw0] at c0 c1 c2 c3 c4 d0 d1 d2 d3 d4 hx
  replace hw0 := Lib.hid hw0
  have hdef : riseF ⟨i, l, z, a, b⟩ ⟨i', l', z', a', b'⟩ = if l = l' then (if l = 0 then i < i' else Op.bytesLess b a' = true) else l < l' := rfl
  by_cases h0 : l = l'
  case neg =>
    have q0 : (l != l') = true := by rw [bne_iff_ne]; exact h0
    have q0' : (l == l') = false := by rw [beq_eq_false_iff_ne]; exact h0
    have hR : Hid (decide (riseF ⟨i, l, z, a, b⟩ ⟨i', l', z', a', b'⟩) = decide (l < l')) := Lib.hid (decide_eq_decide.2 (by rw [hdef, if_neg h0]))
    clear hdef h0
    go_enter Try.func38, Try.ntmps38
    go_upto_region 1 with fail
    rw [← hw0.out]
    go_wp2_with fail
    go_ret
    exact ⟨by rw [hR.out]; rfl, hx⟩
  have q0 : (l != l') = false := by rw [bne_eq_false_iff_eq]; exact h0
  have q0' : (l == l') = true := by rw [beq_iff_eq]; exact h0
  by_cases h1 : l = 0
  case neg =>
    have q1 : (l == 0) = false := by rw [beq_eq_false_iff_ne]; exact h1
    have hR : Hid (decide (riseF ⟨i, l, z, a, b⟩ ⟨i', l', z', a', b'⟩) = Op.bytesLess b a') := Lib.hid (by rw [Bool.eq_iff_iff, decide_eq_true_eq, hdef, if_pos h0, if_neg h1])
    clear hdef h0 h1
    go_enter Try.func38, Try.ntmps38
    go_upto_region 1 with fail
    rw [← hw0.out]
    go_wp2_with fail
    go_ret
    exact ⟨by rw [hR.out]; rfl, hx⟩
  have q1 : (l == 0) = true := by rw [beq_iff_eq]; exact h1
  have hR : Hid (decide (riseF ⟨i, l, z, a, b⟩ ⟨i', l', z', a', b'⟩) = decide (i < i')) := Lib.hid (decide_eq_decide.2 (by rw [hdef, if_pos h0, if_pos h1]))
  clear hdef h0 h1
  go_enter Try.func38, Try.ntmps38
  go_upto_region 1 with fail
  rw [← hw0.out]
  go_wp2_with fail
  go_ret
  exact ⟨by rw [hR.out]; rfl, hx⟩
set_option maxHeartbeats 8000000 in
theorem ahead11_any (f g : Fl) : Calls Try.prog 40 #[.agg (fia f), .agg (fia g)] w fun e w' => e = .returned (.bool (decide (aheadF f g))) ∧ Ext w w' := by
  obtain ⟨i, l, z, a, b⟩ := f
  obtain ⟨i', l', z', a', b'⟩ := g
  obtain ⟨⟨c0, c1, c2, c3, c4⟩, ⟨d0, d1, d2, d3, d4⟩⟩ := boxedF2 w ⟨i, l, z, a, b⟩ ⟨i', l', z', a', b'⟩
  have hx : Ext w ((w.alloc (.cells (fia ⟨i, l, z, a, b⟩) 48)).alloc (.cells (fia ⟨i', l', z', a', b'⟩) 48)) := ((Mod.refl _ w).alloc _).alloc _
  obtain ⟨w0, hw0⟩ : ∃ w0, w0 = (w.alloc (.cells (fia ⟨i, l, z, a, b⟩) 48)).alloc (.cells (fia ⟨i', l', z', a', b'⟩) 48) := ⟨_, rfl⟩
  rw [← hw0] at c0 c1 c2 c3 c4 d0 d1 d2 d3 d4 hx
  replace hw0 := Lib.hid hw0
  have hdef : aheadF ⟨i, l, z, a, b⟩ ⟨i', l', z', a', b'⟩ = if l = l' then (if l = 0 then i < i' else Op.bytesLess a a' = true) else l < l' := rfl
  by_cases h0 : l = l'
  case neg =>
    have q0 : (l != l') = true := by rw [bne_iff_ne]; exact h0
    have q0' : (l == l') = false := by rw [beq_eq_false_iff_ne]; exact h0
    have hR : Hid (decide (aheadF ⟨i, l, z, a, b⟩ ⟨i', l', z', a', b'⟩) = decide (l < l')) := Lib.hid (decide_eq_decide.2 (by rw [hdef, if_neg h0]))
    clear hdef h0
    go_enter Try.func40, Try.ntmps40
    go_upto_region 1 with fail
    rw [← hw0.out]
    go_wp2_with fail
    go_ret
    exact ⟨by rw [hR.out]; rfl, hx⟩
  have q0 : (l != l') = false := by rw [bne_eq_false_iff_eq]; exact h0
  have q0' : (l == l') = true := by rw [beq_iff_eq]; exact h0
  by_cases h1 : l = 0
  case neg =>
    have q1 : (l == 0) = false := by rw [beq_eq_false_iff_ne]; exact h1
    have hR : Hid (decide (aheadF ⟨i, l, z, a, b⟩ ⟨i', l', z', a', b'⟩) = Op.bytesLess a a') := Lib.hid (by rw [Bool.eq_iff_iff, decide_eq_true_eq, hdef, if_pos h0, if_neg h1])
    clear hdef h0 h1
    go_enter Try.func40, Try.ntmps40
    go_upto_region 1 with fail
    rw [← hw0.out]
    go_wp2_with fail
    go_ret
    exact ⟨by rw [hR.out]; rfl, hx⟩
  have q1 : (l == 0) = true := by rw [beq_iff_eq]; exact h1
  have hR : Hid (decide (aheadF ⟨i, l, z, a, b⟩ ⟨i', l', z', a', b'⟩) = decide (i < i')) := Lib.hid (decide_eq_decide.2 (by rw [hdef, if_pos h0, if_pos h1]))
  clear hdef h0 h1
  go_enter Try.func40, Try.ntmps40
  go_upto_region 1 with fail
  rw [← hw0.out]
  go_wp2_with fail
  go_ret
  exact ⟨by rw [hR.out]; rfl, hx⟩
end
end Go.Proofs.Ytmjkgibeljbloaa
