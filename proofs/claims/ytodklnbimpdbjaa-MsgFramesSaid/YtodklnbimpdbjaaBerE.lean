/- ber: Next. -/
import Derived.Test.YtodklnbimpdbjaaBerD
import Derived.Deep.DeepCutAuto
import Derived.Deep.RegionHeld3
import Derived.BigQuiet
import Derived.Deep.QuietTactic
namespace Go.Proofs.Ytodklnbimpdbjaa
open Go.RowKit
set_option maxRecDepth 100000

theorem results_tmp4 {fn : Func} {t u v x : Tmp} (h : fn.results = #[.tmp t, .tmp u, .tmp v, .tmp x]) (tmps : Array Value) (P : Program) (w : World) :
    (results fn tmps).run P w = .ok (.tuple #[tmps.getD t undef, tmps.getD u undef, tmps.getD v undef, tmps.getD x undef]) w := by
  simp [results, h]
theorem bfin_ok {a n len : Nat} (h : (bfin a n len).2.2 = 0) (ha : a ≤ len) : (bfin a n len).1 = a ∧ (bfin a n len).2.1 = a + n ∧ a + n ≤ len ∧ n ≤ 65536 := by
  unfold bfin at h ⊢
  by_cases h1 : 65536 < n
  · rw [if_pos h1] at h; cases h
  rw [if_neg h1] at h ⊢
  by_cases h2 : len - a < n
  · rw [if_pos h2] at h; cases h
  rw [if_neg h2]
  exact ⟨rfl, rfl, by omega, by omega⟩
theorem blook_ok {l : List UInt8} (h : (blook l).2.2 = 0) : 2 ≤ (blook l).1 ∧ (blook l).1 ≤ (blook l).2.1 ∧ (blook l).2.1 ≤ l.length := by
  unfold blook at h ⊢
  split at h
  · cases h
  rw [if_neg (by assumption)]
  split at h
  · cases h
  rw [if_neg (by assumption)]
  split at h
  · cases h
  rw [if_neg (by assumption)]
  split at h
  · rw [if_pos (by assumption)]
    have := bfin_ok h (by omega)
    omega
  rw [if_neg (by assumption)]
  split at h
  · cases h
  rw [if_neg (by assumption)]
  split at h
  · cases h
  rw [if_neg (by assumption)]
  have := bfin_ok h (by omega)
  omega
/-- The first one, and what stands behind. -/
def bnext (l : List UInt8) : UInt8 × List UInt8 × List UInt8 × Nat :=
  if (blook l).2.2 = 0 then (l.getD 0 0, (l.drop (blook l).1).take ((blook l).2.1 - (blook l).1), l.drop (blook l).2.1, 0) else (0, [], [], (blook l).2.2)

end Go.Proofs.Ytodklnbimpdbjaa
