/- sort.Search: the least place at which a question is answered yes. -/
import Derived.Test.YthohghnfiicndaaDoorCelD
import Derived.Deep.QuietTactic
import Derived.Shelf.Abstract
namespace Go.Proofs.YthohghnfiicndaaDoor
open Go.RowKit
set_option maxRecDepth 100000

set_option maxHeartbeats 4000000 in
theorem search_any {w : World} (g : Nat) (cb : Array Value) (n : Nat) (p : Nat → Bool) (hn : n ≤ 1000000000) (eg : ∀ args w, (callFunc g args).run Tryd.prog w = .ok (.enter g args) w)
    (hf : ∀ w1, Ext w w1 → ∀ i, i < n → Calls Tryd.prog g (#[.int .i64 (i : Nat)] ++ cb) w1 fun e w' => e = .returned (.bool (p i)) ∧ Ext w1 w')
    (hmono : ∀ a b, a ≤ b → b < n → p a = true → p b = true) :
    Calls Tryd.prog 51 #[.int .i64 (n : Nat), .func (.func g) #[] cb] w fun e w' => ∃ m : Nat, e = .returned (.int .i64 (m : Nat)) ∧ m ≤ n ∧ (∀ t, t < m → p t = false) ∧ (∀ t, m ≤ t → t < n → p t = true) ∧ Ext w w' := by
  replace hf := Lib.hid hf
  replace hmono := Lib.hid hmono
  go_enter Tryd.func51, Tryd.ntmps51
  go_wp2_with fail
  go_loopw [5, 6] (fun s5 s6 wr => ∃ lo hi : Nat, s5 = .int .i64 lo ∧ s6 = .int .i64 hi ∧ lo ≤ hi ∧ hi ≤ n ∧ Hid ((∀ t, t < lo → p t = false) ∧ (∀ t, hi ≤ t → t < n → p t = true)) ∧ Ext w wr) (fun a b _ => (intOf b - intOf a).toNat)
  case atStart => exact ⟨0, n, rfl, rfl, Nat.zero_le _, Nat.le_refl _, Lib.hid ⟨fun t ht => absurd ht (Nat.not_lt_zero _), fun t h1 h2 => by omega⟩, Mod.refl _ _⟩
  case round =>
    obtain ⟨lo, hi, rfl, rfl, hlh, hin, I, hx⟩ := hrel
    by_cases hlt : lo < hi
    · have hc := hf.out _ hx ((lo + hi) / 2) (by omega)
      rw [show (((lo + hi) / 2 : Nat) : Int) = ((lo : Int) + (hi : Int)) / 2 by omega] at hc
      have hb : decide ((lo : Int) < (hi : Int)) = true := decide_eq_true (by omega)
      cases hp : p ((lo + hi) / 2) <;> rw [hp] at hc
      · have I2 := Lib.hid (show (∀ t, t < (lo + hi) / 2 + 1 → p t = false) ∧ (∀ t, hi ≤ t → t < n → p t = true) from ⟨fun t ht => (by
          cases h : p t with
          | false => rfl
          | true => have := hmono.out t ((lo + hi) / 2) (by omega) (by omega) h; rw [hp] at this; cases this), I.out.2⟩)
        clear hp I
        go_wp2_with (go_at_fn g; refine hc.mono ?_; rintro e w' ⟨rfl, x1⟩)
        exact ⟨⟨(lo + hi) / 2 + 1, hi, by go_num, rfl, by omega, hin, I2, ext_trans hx x1⟩, by simp [intOf] <;> omega⟩
      · have I2 := Lib.hid (show (∀ t, t < lo → p t = false) ∧ (∀ t, (lo + hi) / 2 ≤ t → t < n → p t = true) from ⟨I.out.1, fun t ht htn => hmono.out ((lo + hi) / 2) t ht htn hp⟩)
        clear hp I
        go_wp2_with (go_at_fn g; refine hc.mono ?_; rintro e w' ⟨rfl, x1⟩)
        exact ⟨⟨lo, (lo + hi) / 2, rfl, by go_num, by omega, by omega, I2, ext_trans hx x1⟩, by simp [intOf] <;> omega⟩
    · obtain rfl : hi = lo := by omega
      have hb : decide ((hi : Int) < (hi : Int)) = false := decide_eq_false (by omega)
      go_wp2_with fail
      go_ret
      exact ⟨hi, rfl, hin, I.out.1, I.out.2, hx⟩
end Go.Proofs.YthohghnfiicndaaDoor
