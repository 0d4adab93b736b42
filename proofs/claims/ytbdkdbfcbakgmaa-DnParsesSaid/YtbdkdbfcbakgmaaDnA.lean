/- dn: letters, types. -/
import Derived.Test.YtbdkdbfcbakgmaaRec
import Derived.Test.YtbdkdbfcbakgmaaOctR
namespace Go.Proofs.Ytbdkdbfcbakgmaa
open Go.RowKit
set_option maxRecDepth 100000

theorem sv_get (l : List UInt8) (k : Nat) (h : k < l.length) (h' : k < (⟨l.toArray⟩ : ByteArray).size) : (⟨l.toArray⟩ : ByteArray)[k]'h' = l[k] := by
  show l.toArray[k] = l[k]
  simp
theorem sv_size (l : List UInt8) : (⟨l.toArray⟩ : ByteArray).size = l.length := by
  show l.toArray.size = l.length
  simp
theorem sv_list (l : List UInt8) : (⟨l.toArray⟩ : ByteArray).toList = l := by
  simp
theorem bool_eq {p : Prop} [Decidable p] {b : Bool} (h : b = true ↔ p) : b = decide p := by
  rw [Bool.eq_iff_iff, decide_eq_true_eq]; exact h

theorem ret_bool {b : Bool} {p : Prop} [Decidable p] {w w' : World} (h : b = true ↔ p) (hw : w' = w) : Ending.returned (.bool b) = .returned (.bool (decide p)) ∧ w' = w := ⟨by rw [bool_eq h], hw⟩

def letN (p : Nat) : Prop := (97 ≤ p ∧ p ≤ 122) ∨ (65 ≤ p ∧ p ≤ 90)
instance (p : Nat) : Decidable (letN p) := inferInstanceAs (Decidable (_ ∨ _))
def typN (p : Nat) : Prop := letN p ∨ (48 ≤ p ∧ p ≤ 57) ∨ p = 45
instance (p : Nat) : Decidable (typN p) := inferInstanceAs (Decidable (_ ∨ _))
/-- Is a text a type? -/
def isTyp (s : List UInt8) : Prop := 1 ≤ s.length ∧ s.length ≤ 32 ∧ letN (s.getD 0 0).toNat ∧ ∀ b ∈ s, typN b.toNat
instance (s : List UInt8) : Decidable (isTyp s) := inferInstanceAs (Decidable (_ ∧ _))

set_option maxHeartbeats 1000000 in
theorem letter_any {w : World} (p : Nat) :
    Calls Try.prog 52 #[.int .u8 (p : Int)] w fun e w' => e = .returned (.bool (decide (letN p))) ∧ w' = w := by
  go_enter Try.func52, Try.ntmps52
  go_wp2_with fail
  all_goals go_ret
  all_goals refine ret_bool ?_ rfl
  all_goals unfold letN
  all_goals simp
  all_goals omega
set_option maxHeartbeats 1000000 in
theorem rletter_any {w : World} (p : Nat) :
    Calls Try.prog 54 #[.int .u8 (p : Int)] w fun e w' => e = .returned (.bool (decide (letN p))) ∧ w' = w := by
  go_enter Try.func54, Try.ntmps54
  go_wp2_with fail
  all_goals go_ret
  all_goals refine ret_bool ?_ rfl
  all_goals unfold letN
  all_goals simp
  all_goals omega
set_option maxHeartbeats 1000000 in
theorem inType_any {w : World} (p : Nat) :
    Calls Try.prog 53 #[.int .u8 (p : Int)] w fun e w' => e = .returned (.bool (decide (typN p))) ∧ w' = w := by
  go_enter Try.func53, Try.ntmps53
  go_wp2_with fail
  refine (letter_any p).mono ?_
  rintro e w1 ⟨rfl, rfl⟩
  obtain ⟨q, hq⟩ : ∃ q, q = decide (letN p) := ⟨_, rfl⟩
  rw [← hq]
  replace hq := Lib.hid hq
  cases q
  all_goals go_wp2_with fail
  all_goals go_ret
  all_goals refine ret_bool ?_ rfl
  all_goals have hq' := hq.out
  all_goals unfold typN
  all_goals simp at hq' ⊢
  all_goals (try simp only [hq', true_or, false_or])
  all_goals (try omega)
end Go.Proofs.Ytbdkdbfcbakgmaa
