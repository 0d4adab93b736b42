/- ber: look, Next. -/
import Derived.Test.YtodklnbimpdbjaaBerC
namespace Go.Proofs.Ytodklnbimpdbjaa
open Go.RowKit
set_option maxRecDepth 100000

theorem i64_or_byte (m : Int) (c : Nat) (hc : c < 256) : bits .or .i64 (IntKind.i64.wrap (m * 256)) (c : Int) = IntKind.i64.wrap (m * 256 + c) := by
  show IntKind.i64.wrap (((BitVec.ofInt 64 (IntKind.i64.wrap (m * 256)) ||| BitVec.ofInt 64 (c : Int)).toNat : Nat) : Int) = _
  have h1 : (BitVec.ofInt 64 (IntKind.i64.wrap (m * 256))).toNat = 2 ^ 8 * (m % 72057594037927936).toNat := by
    rw [BitVec.toNat_ofInt, IntKind.wrap_i64]
    have : 0 ≤ m % 72057594037927936 := Int.emod_nonneg _ (by omega)
    omega
  have h2 : (BitVec.ofInt 64 (c : Int)).toNat = c := by
    rw [BitVec.toNat_ofInt]; omega
  rw [BitVec.toNat_or, h1, h2, ← Nat.two_pow_add_eq_or_of_lt (by omega), IntKind.wrap_i64, IntKind.wrap_i64]
  have : 0 ≤ m % 72057594037927936 := Int.emod_nonneg _ (by omega)
  have h3 : ((2 ^ 8 * (m % 72057594037927936).toNat + c : Nat) : Int) = 256 * (m % 72057594037927936) + c := by
    rw [Int.natCast_add, Int.natCast_mul, Int.toNat_of_nonneg this]; rfl
  rw [h3]
  omega
theorem i64_or_small (m c : Nat) (hm : m < 36028797018963968) (hc : c < 256) : bits .or .i64 ((m : Int) * 256) (c : Int) = ((m * 256 + c : Nat) : Int) := by
  have h := i64_or_byte m c hc
  rw [IntKind.wrap_i64, IntKind.wrap_i64] at h
  have e1 : ((m : Int) * 256 + 9223372036854775808) % 18446744073709551616 - 9223372036854775808 = (m : Int) * 256 := by omega
  rw [e1] at h
  rw [h]; omega

def bfin (at_ n len : Nat) : Nat × Nat × Nat := if 65536 < n then (0, 0, 5) else if len - at_ < n then (0, 0, 2) else (at_, at_ + n, 0)
/-- Where the first one's body begins and ends. -/
def blook (l : List UInt8) : Nat × Nat × Nat :=
  if l.length = 0 then (0, 0, 2)
  else if l.getD 0 0 &&& 31 = 31 then (0, 0, 3)
  else if l.length = 1 then (0, 0, 2)
  else if (l.getD 1 0).toNat < 128 then bfin 2 (l.getD 1 0).toNat l.length
  else if (l.getD 1 0).toNat - 128 = 0 ∨ 4 < (l.getD 1 0).toNat - 128 then (0, 0, 3)
  else if l.length < 2 + ((l.getD 1 0).toNat - 128) then (0, 0, 2)
  else bfin (2 + ((l.getD 1 0).toNat - 128)) (uval ((l.drop 2).take ((l.getD 1 0).toNat - 128))) l.length

end Go.Proofs.Ytodklnbimpdbjaa
