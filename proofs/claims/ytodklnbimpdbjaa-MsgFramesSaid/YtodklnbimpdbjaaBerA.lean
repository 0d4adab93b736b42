/- ber: numbers as bytes. -/
import Derived.Test.YtodklnbimpdbjaaOctR
import Derived.Test.YtodklnbimpdbjaaOctF
import Derived.Test.YtodklnbimpdbjaaSized
namespace Go.Proofs.Ytodklnbimpdbjaa
open Go.RowKit
set_option maxRecDepth 100000

/-- The byte of n at place i. -/
def bt (n : Int) (i : Nat) : UInt8 := UInt8.ofNat ((n / 2 ^ (8 * i)) % 256).toNat
/-- k bytes of n, the greatest first. -/
def bes (n : Int) : Nat → List UInt8
  | 0 => []
  | k + 1 => bt n k :: bes n k
/-- Bytes as a number. -/
def uval (l : List UInt8) : Nat := l.foldl (fun a c => a * 256 + c.toNat) 0

theorem bt_val (n : Int) (i : Nat) : ((bt n i).toNat : Int) = (n / 2 ^ (8 * i)) % 256 := by
  unfold bt
  have h0 : 0 ≤ (n / 2 ^ (8 * i)) % 256 := Int.emod_nonneg _ (by omega)
  have h1 : (n / 2 ^ (8 * i)) % 256 < 256 := Int.emod_lt_of_pos _ (by omega)
  rw [u8_ofNat' _ (by omega)]; omega
theorem bes_len (n : Int) : ∀ k, (bes n k).length = k
  | 0 => rfl
  | k + 1 => by rw [bes, List.length_cons, bes_len n k]
theorem foldl_from (l : List UInt8) : ∀ a : Nat, l.foldl (fun a c => a * 256 + c.toNat) a = a * 2 ^ (8 * l.length) + uval l := by
  induction l with
  | nil => intro a; simp [uval]
  | cons c l ih =>
    intro a
    unfold uval
    rw [List.foldl_cons, List.foldl_cons, ih, ih (0 * 256 + c.toNat), List.length_cons, show 8 * (l.length + 1) = 8 + 8 * l.length by omega, Nat.pow_add]
    rw [show (2 : Nat) ^ 8 = 256 from rfl]
    generalize 2 ^ (8 * l.length) = P
    rw [Nat.zero_mul, Nat.zero_add, Nat.add_mul, Nat.mul_assoc]
    omega
theorem uval_cons (c : UInt8) (l : List UInt8) : uval (c :: l) = c.toNat * 2 ^ (8 * l.length) + uval l := by
  unfold uval
  rw [List.foldl_cons, foldl_from]
  unfold uval
  simp
theorem uval_snoc (l : List UInt8) (c : UInt8) : uval (l ++ [c]) = uval l * 256 + c.toNat := by simp [uval]
theorem uval_lt (l : List UInt8) : uval l < 2 ^ (8 * l.length) := by
  induction l with
  | nil => simp [uval]
  | cons c l ih =>
    rw [uval_cons, List.length_cons, show 8 * (l.length + 1) = 8 + 8 * l.length by omega, Nat.pow_add]
    have := c.toNat_lt
    have h2 : (c.toNat + 1) * 2 ^ (8 * l.length) ≤ 2 ^ 8 * 2 ^ (8 * l.length) := Nat.mul_le_mul_right _ (by omega)
    rw [Nat.add_mul] at h2
    omega
theorem uval_bes (n : Int) : ∀ k, (uval (bes n k) : Int) = n % 2 ^ (8 * k)
  | 0 => by simp [uval, bes]
  | k + 1 => by
    rw [bes, uval_cons, bes_len, Int.natCast_add, Int.natCast_mul, bt_val, uval_bes n k]
    have h1 := Int.emod_def n (2 ^ (8 * k))
    have h2 := Int.emod_def (n / 2 ^ (8 * k)) 256
    have h3 := Int.emod_def n (2 ^ (8 * (k + 1)))
    have h5 : (2 : Int) ^ (8 * (k + 1)) = 2 ^ (8 * k) * 256 := by rw [show 8 * (k + 1) = 8 * k + 8 by omega, Int.pow_add]; rfl
    have h4 : n / 2 ^ (8 * k) / 256 = n / 2 ^ (8 * (k + 1)) := by
      rw [Int.ediv_ediv_of_nonneg (Int.pow_nonneg (by omega)), h5]
    have h6 : ((2 ^ (8 * k) : Nat) : Int) = (2 : Int) ^ (8 * k) := by simp
    rw [h1, h2, h3, h4, h5, h6]
    generalize (2 : Int) ^ (8 * k) = P
    generalize n / (P * 256 : Int) = r
    generalize n / (P : Int) = q
    have e1 : (q - 256 * r) * P = P * q - P * 256 * r := by rw [Int.sub_mul, Int.mul_comm q P, Int.mul_comm (256 * r) P, Int.mul_assoc]
    rw [e1]; omega
theorem uval_nat (n k : Nat) (h : n < 2 ^ (8 * k)) : uval (bes n k) = n := by
  have h1 := uval_bes n k
  have h2 : ((2 ^ (8 * k) : Nat) : Int) = (2 : Int) ^ (8 * k) := by simp
  rw [← h2] at h1
  have h3 : ((n % 2 ^ (8 * k) : Nat) : Int) = (n : Int) % ((2 ^ (8 * k) : Nat) : Int) := Int.natCast_emod _ _
  rw [Nat.mod_eq_of_lt h] at h3
  omega
/-- How many bytes a length takes behind its first one. -/
def lw (n : Nat) : Nat := if n < 256 then 1 else if n < 65536 then 2 else 3
theorem lw_pos (n : Nat) : 1 ≤ lw n ∧ lw n ≤ 3 := by
  unfold lw
  split
  · omega
  · split <;> omega
theorem lw_lt {n : Nat} (h : n < 16777216) : n < 2 ^ (8 * lw n) := by
  unfold lw
  split
  · simpa using ‹n < 256›
  · split
    · simpa using ‹n < 65536›
    · simpa using h
theorem lw_of {n k : Nat} (h0 : 1 ≤ k) (h1 : n < 2 ^ (8 * k)) (h2 : k = 1 ∨ 2 ^ (8 * (k - 1)) ≤ n) (h3 : k ≤ 3) : lw n = k := by
  unfold lw
  obtain rfl | rfl | rfl : k = 1 ∨ k = 2 ∨ k = 3 := by omega
  · have h1' : n < 256 := h1
    rw [if_pos h1']
  · have h1' : n < 65536 := h1
    have h2' : 2 = 1 ∨ 256 ≤ n := h2
    rw [if_neg (by omega), if_pos h1']
  · have h2' : 3 = 1 ∨ 65536 ≤ n := h2
    rw [if_neg (by omega), if_neg (by omega)]
/-- A length as bytes. -/
def lay (n : Nat) : List UInt8 := if n < 128 then [UInt8.ofNat n] else UInt8.ofNat (128 + lw n) :: bes n (lw n)
theorem lay_len (n : Nat) : 1 ≤ (lay n).length ∧ (lay n).length ≤ 4 := by
  unfold lay
  have := lw_pos n
  split
  · simp
  · simp [bes_len]; omega
end Go.Proofs.Ytodklnbimpdbjaa
