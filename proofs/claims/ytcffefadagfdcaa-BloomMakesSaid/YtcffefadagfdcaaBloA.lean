/- bloom: Hash, bits. -/
import Derived.Test.YtcffefadagfdcaaStrB
import Derived.Test.YtcffefadagfdcaaBerB
namespace Go.Proofs.Ytcffefadagfdcaa
open Go.RowKit
set_option maxRecDepth 100000

def fnvS (h : Nat) (c : UInt8) : Nat := (h ^^^ c.toNat) * 16777619 % 4294967296
/-- A text's number. -/
def fnv (l : List UInt8) : Nat := l.foldl fnvS 2166136261
theorem fnv_snoc (l : List UInt8) (c : UInt8) : fnv (l ++ [c]) = fnvS (fnv l) c := by
  unfold fnv
  rw [List.foldl_append, List.foldl_cons, List.foldl_nil]
theorem fcast (y : Nat) : ((y * 16777619 % 4294967296 : Nat) : Int) = (y : Int) * 16777619 % 4294967296 := by omega
theorem fnvS_lt (h : Nat) (c : UInt8) : fnvS h c < 4294967296 := by
  unfold fnvS
  generalize (h ^^^ c.toNat) * 16777619 = x
  omega
theorem fold_lt (l : List UInt8) : ∀ h, h < 4294967296 → l.foldl fnvS h < 4294967296 := by
  induction l with
  | nil => intro h hh; exact hh
  | cons c l ih => intro h _; exact ih _ (fnvS_lt h c)
theorem fnv_lt (l : List UInt8) : fnv l < 4294967296 := fold_lt l _ (by omega)
theorem sv_get (l : List UInt8) (k : Nat) (h : k < l.length) (h' : k < (⟨l.toArray⟩ : ByteArray).size) : (⟨l.toArray⟩ : ByteArray)[k]'h' = l[k] := by
  show l.toArray[k] = l[k]
  simp
theorem sv_size (l : List UInt8) : (⟨l.toArray⟩ : ByteArray).size = l.length := by
  show l.toArray.size = l.length
  simp

set_option maxHeartbeats 1000000 in
theorem hash_any {w : World} (l : List UInt8) (hl : l.length ≤ 9223372036854775807) :
    Calls Try.prog 17 #[sv l] w fun e w' => e = .returned (.int .u32 (fnv l)) ∧ w' = w := by
  have hsz := sv_size l
  go_enter Try.func17, Try.ntmps17
  go_wp2_with fail
  go_loop [3, 7] (fun h i => ∃ k : Nat, k ≤ l.length ∧ i = .int .i64 k ∧ h = .int .u32 (fnv (l.take k) : Nat)) (fun _ i => l.length - (intOf i).toNat)
  case atStart => exact ⟨0, Nat.zero_le _, rfl, rfl⟩
  case round =>
    obtain ⟨k, hk, rfl, rfl⟩ := hrel
    by_cases hlt : k < l.length
    · have hsn : fnv (l.take (k + 1)) = fnvS (fnv (l.take k)) l[k] := by
        rw [List.take_succ_eq_append_getElem hlt, fnv_snoc]
      have hfl := fnv_lt (l.take k)
      obtain ⟨b, hbk⟩ : ∃ b, b = l[k] := ⟨_, rfl⟩
      have hg : ∀ h', (⟨l.toArray⟩ : ByteArray)[k]'h' = b := fun h' => (sv_get l k hlt h').trans hbk.symm
      rw [← hbk] at hsn
      clear hbk
      have hb := b.toNat_lt
      have hx := u32_xor_nat (fnv (l.take k)) b.toNat hfl (by omega)
      have hxs : fnvS (fnv (l.take k)) b = (fnv (l.take k) ^^^ b.toNat) * 16777619 % 4294967296 := rfl
      generalize fnvS (fnv (l.take k)) b = z at *
      generalize fnv (l.take k) ^^^ b.toNat = y at *
      generalize fnv (l.take k) = f at *
      replace hsn := Lib.hid hsn
      replace hxs := Lib.hid hxs
      have hb2 : (b.toNat : Int) % 4294967296 = (b.toNat : Int) := by omega
      go_wp2_with fail
      exact ⟨⟨k + 1, by omega, by go_num, by rw [hsn.out, hxs.out, fcast]⟩, by simp [intOf] <;> omega⟩
    · rw [List.take_of_length_le (by omega)]
      go_wp2_with fail
      go_ret
      exact ⟨rfl, rfl⟩
end Go.Proofs.Ytcffefadagfdcaa
