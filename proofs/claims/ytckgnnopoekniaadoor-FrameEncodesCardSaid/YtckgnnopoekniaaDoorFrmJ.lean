/- frame: the statements' look at rows. -/
import Derived.Test.YtckgnnopoekniaaDoorFrmI
namespace Go.Proofs.YtckgnnopoekniaaDoor
open Go.RowKit
set_option maxRecDepth 100000

set_option maxHeartbeats 1000000 in
theorem rows_any {w : World} {S T : Nat → Prop} {u v : Value} {L M : List (List UInt8)} (h : Rw w S u L) (h' : Rw w T v M) :
    Calls Tryd.prog 19 #[u, v] w fun e w' => e = .returned (.bool (decide (L = M))) ∧ ∃ k, w' = w.drewN k := by
  have hL0 := h
  have hM0 := h'
  obtain ⟨A, c, vs, rfl, h1, h2, h3, h4, h5, h6⟩ := h.open_
  obtain ⟨A', c', vs', rfl, h1', h2', h3', h4', h5', h6'⟩ := h'.open_
  by_cases hl : L.length = M.length
  · have HL := Lib.hid hl
    have hb : ((L.length : Int) != (M.length : Int)) = false := by simp [hl]
    clear hl
    go_enter Tryd.func19, Tryd.ntmps19
    go_wp2_with fail
    go_loopw [5] (fun i wr => ∃ k n : Nat, k ≤ L.length ∧ i = .int .i64 k ∧ wr = w.drewN n ∧ Hid (L.take k = M.take k)) (fun i _ => L.length - (intOf i).toNat)
    case atStart => exact ⟨0, 0, Nat.zero_le _, rfl, rfl, rfl⟩
    case round =>
      obtain ⟨k, n, hk, rfl, rfl, hr⟩ := hrel
      by_cases hlt : k < L.length
      · have hlt' : k < M.length := by have := HL.out; omega
        obtain ⟨ad, x, rfl, hB, hc, hbs⟩ := row_at h4 h5 h6 hlt
        obtain ⟨ad', x', rfl, hB', hc', hbs'⟩ := row_at h4' h5' h6' hlt'
        have hlm : (k : Int) < (M.length : Int) := by omega
        have hc2 : (w.drewN n).cell? (ad.add k) = some x := hc
        have hc2' : (w.drewN n).cell? (ad'.add k) = some x' := hc'
        have hb2 := hbs.drewN n
        have hb2' := hbs'.drewN n
        obtain ⟨wn, hwn⟩ : ∃ wn, wn = w.drewN n := ⟨_, rfl⟩
        rw [← hwn] at hc2 hc2' hb2 hb2' ⊢
        replace hwn := Lib.hid hwn
        clear hc hc' hbs hbs'
        have hs := fun m => same_any (hb2.drewN m) (hb2'.drewN m)
        by_cases he : L[k] = M[k]
        · simp only [decide_eq_true he] at hs
          replace hs := Lib.hid hs
          replace he := Lib.hid he
          go_wp2
          go_quiet ((go_at_call 10; exact Calls.quiet_of (hs.out _)))
          go_wp2
          exact ⟨⟨k + 1, n + nq, by omega, by go_num, by rw [hwn.out]; simp, Lib.hid (take_next hlt hlt' hr.out he.out)⟩, by simp [intOf]; omega⟩
        · simp only [decide_eq_false he] at hs
          replace hs := Lib.hid hs
          replace he := Lib.hid he
          go_wp2
          go_quiet ((go_at_call 10; exact Calls.quiet_of (hs.out _)))
          go_wp2
          go_ret
          have : L ≠ M := by rintro rfl; exact he.out rfl
          exact ⟨by simp [this], n + nq, by rw [hwn.out]; simp⟩
      · go_wp2
        go_ret
        refine ⟨?_, n, rfl⟩
        have : L = M := by
          have h1 := hr.out
          rwa [List.take_of_length_le (by omega), List.take_of_length_le (by have := HL.out; omega)] at h1
        simp [this]
  · have hb : ((L.length : Int) != (M.length : Int)) = true := by simp; omega
    have hn : decide (L = M) = false := by simp; rintro rfl; exact hl rfl
    rw [hn]
    clear hn
    go_enter Tryd.func19, Tryd.ntmps19
    go_wp2
    go_ret
    exact ⟨rfl, 0, rfl⟩
end Go.Proofs.YtckgnnopoekniaaDoor
