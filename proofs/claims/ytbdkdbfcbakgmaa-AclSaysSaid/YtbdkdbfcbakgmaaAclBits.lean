/- Rights as bits. -/
import Derived.Test.YtbdkdbfcbakgmaaAclB
namespace Go.Proofs.Ytbdkdbfcbakgmaa
open Go.RowKit
set_option maxRecDepth 100000

theorem and16 (a b : Nat) : a &&& b = 16 * (a / 16 &&& b / 16) + (a % 16 &&& b % 16) := by
  have h1 : (a &&& b) / 2 ^ 4 = a / 2 ^ 4 &&& b / 2 ^ 4 := Nat.and_div_two_pow
  have h2 : (a &&& b) % 2 ^ 4 = a % 2 ^ 4 &&& b % 2 ^ 4 := Nat.and_mod_two_pow
  have := Nat.div_add_mod (a &&& b) (2 ^ 4)
  rw [h1, h2] at this
  exact this.symm
theorem i64_and_nat (a b : Nat) (ha : a < 9223372036854775808) (hb : b < 9223372036854775808) : bits .and .i64 (a : Int) (b : Int) = ((a &&& b : Nat) : Int) := by
  have ha' : (BitVec.ofInt 64 (a : Int)).toNat = a := by rw [BitVec.toNat_ofInt]; omega
  have hb' : (BitVec.ofInt 64 (b : Int)).toNat = b := by rw [BitVec.toNat_ofInt]; omega
  show IntKind.i64.wrap ((BitVec.ofInt 64 (a : Int) &&& BitVec.ofInt 64 (b : Int)).toNat : Nat) = _
  rw [BitVec.toNat_and, ha', hb', IntKind.wrap_i64]
  have : a &&& b ≤ a := Nat.and_le_left
  omega
theorem andNot15 (n : Int) (h1 : -9223372036854775808 ≤ n) (h2 : n ≤ 9223372036854775807) : bits .andNot .i64 n 15 = 0 ↔ 0 ≤ n ∧ n ≤ 15 := by
  obtain ⟨x, hx⟩ : ∃ x, x = (BitVec.ofInt 64 n).toNat := ⟨_, rfl⟩
  have hxn : x = (n % 18446744073709551616).toNat := by rw [hx, BitVec.toNat_ofInt]; rfl
  have hm : (~~~ (BitVec.ofInt 64 15)).toNat = 18446744073709551600 := by decide
  have hb : bits .andNot .i64 n 15 = IntKind.i64.wrap ((x &&& 18446744073709551600 : Nat) : Int) := by
    show IntKind.i64.wrap ((BitVec.ofInt 64 n &&& ~~~ (BitVec.ofInt 64 15)).toNat : Nat) = _
    rw [BitVec.toNat_and, hm, ← hx]
  have ha : x &&& 18446744073709551600 = 16 * (x / 16) := by
    rw [and16]
    have e1 : x / 16 &&& 18446744073709551600 / 16 = x / 16 := by
      show x / 16 &&& (2 ^ 60 - 1) = x / 16
      rw [Nat.and_two_pow_sub_one_eq_mod]
      omega
    have e2 : x % 16 &&& 18446744073709551600 % 16 = 0 := by
      show x % 16 &&& 0 = 0
      exact Nat.and_zero _
    rw [e1, e2]; omega
  rw [hb, ha, IntKind.wrap_i64]
  omega
theorem small_bits : ∀ a : Fin 16, a.val ≠ 0 → a.val &&& (a.val - 1) = 0 → a.val = 1 ∨ a.val = 2 ∨ a.val = 4 ∨ a.val = 8 := by decide
theorem covers_iff {rights right : Int} (h1 : 1 ≤ rights) (h2 : rights ≤ 15) (h3 : right ≤ 9223372036854775807) : coversR rights right ↔ (right = 1 ∨ right = 2 ∨ right = 4 ∨ right = 8) ∧ bits .and .i64 rights right ≠ 0 := by
  constructor
  · rintro ⟨g1, g2, g3⟩
    refine ⟨?_, g3⟩
    obtain ⟨n, rfl⟩ : ∃ n : Nat, right = (n : Int) := ⟨right.toNat, by omega⟩
    obtain ⟨m, rfl⟩ : ∃ m : Nat, rights = (m : Int) := ⟨rights.toNat, by omega⟩
    rw [show ((n : Int) - 1) = ((n - 1 : Nat) : Int) by omega, i64_and_nat n (n - 1) (by omega) (by omega)] at g2
    rw [i64_and_nat m n (by omega) (by omega)] at g3
    have g2' : n &&& (n - 1) = 0 := by omega
    have g3' : m &&& n ≠ 0 := by omega
    have hr : n % 16 ≠ 0 := by
      intro h0
      apply g3'
      rw [and16, h0, Nat.and_zero, show m / 16 = 0 by omega, Nat.zero_and]
    have hs := and16 n (n - 1)
    rw [g2', show (n - 1) / 16 = n / 16 by omega, show (n - 1) % 16 = n % 16 - 1 by omega, Nat.and_self] at hs
    have hq : n / 16 = 0 := by omega
    have hz : n % 16 &&& (n % 16 - 1) = 0 := by omega
    have := small_bits ⟨n % 16, by omega⟩ hr hz
    simp only at this
    omega
  · rintro ⟨g1, g2⟩
    refine ⟨by omega, ?_, g2⟩
    rcases g1 with rfl | rfl | rfl | rfl <;> decide
end Go.Proofs.Ytbdkdbfcbakgmaa
