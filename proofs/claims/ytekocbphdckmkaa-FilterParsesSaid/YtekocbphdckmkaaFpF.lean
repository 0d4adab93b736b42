/- filter: the library's IndexAny at the four signs, at any text. -/
import Derived.Test.YtekocbphdckmkaaFpE
import Derived.Laws.Runes
import Derived.Laws.RangeAny
import Derived.Shelf.Lays
import Derived.Shelf.Strings.IndexAnyAll
namespace Go.Proofs.Ytekocbphdckmkaa
open Go.Shelf Go.RowKit
set_option maxRecDepth 100000

def lay153_ren : Go.Shelf.Ren := ⟨fun | 153 => 53 | 152 => 59 | 226 => 60 | 227 => 61 | 228 => 62 | 137 => 48 | 119 => 65 | 224 => 66 | 225 => 67 | 217 => 58 | 266 => 64 | n => n, fun | 9 => 9 | 3 => 3 | 4 => 4 | 5 => 5 | 21 => 21 | 117 => 80 | 116 => 79 | 0 => 0 | 46 => 69 | 124 => 86 | n => n, fun | n => n⟩
theorem lay153 : Go.Proofs.Lays.n153 Try.prog lay153_ren := {
  mixed := by kernel_rfl
  f119 := Try.func65.trans (congrArg some (by kernel_rfl))
  f137 := Try.func48.trans (congrArg some (by kernel_rfl))
  f152 := Try.func59.trans (congrArg some (by kernel_rfl))
  f153 := Try.func53.trans (congrArg some (by kernel_rfl))
  f217 := Try.func58.trans (congrArg some (by kernel_rfl))
  f224 := Try.func66.trans (congrArg some (by kernel_rfl))
  f225 := Try.func67.trans (congrArg some (by kernel_rfl))
  f226 := Try.func60.trans (congrArg some (by kernel_rfl))
  f227 := Try.func61.trans (congrArg some (by kernel_rfl))
  f228 := Try.func62.trans (congrArg some (by kernel_rfl))
  f266 := Try.func64.trans (congrArg some (by kernel_rfl))
  t0 := Try.underlying0
  a0 := Try.isAgg0
  z0 := Try.sizeOf0
  v0 := Try.zeroValue0
  t3 := Try.underlying3
  a3 := Try.isAgg3
  z3 := Try.sizeOf3
  v3 := Try.zeroValue3
  t4 := Try.underlying4
  a4 := Try.isAgg4
  z4 := Try.sizeOf4
  v4 := Try.zeroValue4
  t5 := Try.underlying5
  a5 := Try.isAgg5
  z5 := Try.sizeOf5
  v5 := Try.zeroValue5
  t9 := Try.underlying9
  a9 := Try.isAgg9
  z9 := Try.sizeOf9
  v9 := Try.zeroValue9
  t21 := Try.underlying21
  a21 := Try.isAgg21
  z21 := Try.sizeOf21
  v21 := Try.zeroValue21
  t46 := Try.underlying69
  a46 := Try.isAgg69
  z46 := Try.sizeOf69
  v46 := Try.zeroValue69
  t116 := Try.underlying79
  a116 := Try.isAgg79
  z116 := Try.sizeOf79
  t117 := Try.underlying80
  a117 := Try.isAgg80
  z117 := Try.sizeOf80
  v117 := Try.zeroValue80
  t124 := Try.underlying86
  a124 := Try.isAgg86
  z124 := Try.sizeOf86
  v124 := Try.zeroValue86 }
theorem decode_skip (s : ByteArray) (pos : Nat) (h : pos < s.size) (ha : 128 ≤ (s[pos]'h).toNat) : ∀ j, j < (Utf8.decode s pos).2 → pos + j < s.size ∧ 128 ≤ (s.get! (pos + j)).toNat := by
  have hn : ¬ (s[pos]'h).toNat < 128 := by omega
  have h0 : pos + 0 < s.size ∧ 128 ≤ (s.get! (pos + 0)).toNat := ⟨h, by rw [get_at s pos h]; exact ha⟩
  have hc : ∀ k, (decide (pos + k < s.size) && (s.get! (pos + k)).toNat / 64 == 2) = true → pos + k < s.size ∧ 128 ≤ (s.get! (pos + k)).toNat := fun k hk => by
    rw [Bool.and_eq_true_iff] at hk
    have h1 := of_decide_eq_true hk.1
    have h2 := beq_iff_eq.1 hk.2
    exact ⟨h1, by omega⟩
  have hone : ∀ j, j < 1 → pos + j < s.size ∧ 128 ≤ (s.get! (pos + j)).toNat := fun j hj => by
    obtain rfl : j = 0 := by omega
    exact h0
  simp only [Utf8.decode, get_at s pos h, hn, if_false]
  split
  · rename_i h1
    rw [Bool.and_eq_true_iff] at h1
    split
    · intro j hj
      match j, hj with
      | 0, _ => exact h0
      | 1, _ => exact hc 1 h1.2
    · exact hone
  · split
    · rename_i h1
      rw [Bool.and_eq_true_iff, Bool.and_eq_true_iff] at h1
      split
      · intro j hj
        match j, hj with
        | 0, _ => exact h0
        | 1, _ => exact hc 1 h1.1.2
        | 2, _ => exact hc 2 h1.2
      · exact hone
    · split
      · rename_i h1
        rw [Bool.and_eq_true_iff, Bool.and_eq_true_iff, Bool.and_eq_true_iff] at h1
        split
        · intro j hj
          match j, hj with
          | 0, _ => exact h0
          | 1, _ => exact hc 1 h1.1.1.2
          | 2, _ => exact hc 2 h1.1.2
          | 3, _ => exact hc 3 h1.2
        · exact hone
      · exact hone
/-- The four signs. -/
def sgns : List UInt8 := [61, 62, 60, 126]
set_option maxHeartbeats 2000000 in
theorem vrune_any {w : World} (r : Int) : Calls Try.prog 65 #[.int .i32 r] w fun e w' => e = .returned (.bool (Utf8.valid r)) ∧ w' = w := by
  rw [validRune_eq]
  unfold validRune
  by_cases h1 : 0 ≤ r ∧ r < 55296
  · rw [decide_eq_true (.inl h1)]
    have a1 : decide ((0 : Int) ≤ r) = true := decide_eq_true h1.1
    have a2 : decide (r < 55296) = true := decide_eq_true h1.2
    go_enter Try.func65, Try.ntmps65
    go_wp2_with fail
    go_ret
    exact ⟨rfl, rfl⟩
  have hq : (decide ((0 : Int) ≤ r) = false) ∨ (decide ((0 : Int) ≤ r) = true ∧ decide (r < 55296) = false) := by
    by_cases h : 0 ≤ r
    · exact .inr ⟨decide_eq_true h, decide_eq_false (fun h2 => h1 ⟨h, h2⟩)⟩
    · exact .inl (decide_eq_false h)
  by_cases h2 : 57343 < r ∧ r ≤ 1114111
  · rw [decide_eq_true (.inr h2)]
    have a1 : decide ((57343 : Int) < r) = true := decide_eq_true h2.1
    have a2 : decide (r ≤ 1114111) = true := decide_eq_true h2.2
    clear h1 h2
    rcases hq with b1 | ⟨b1, b2⟩
    all_goals
      go_enter Try.func65, Try.ntmps65
      go_wp2_with fail
      go_ret
      exact ⟨rfl, rfl⟩
  · rw [decide_eq_false (fun h => h.elim h1 h2)]
    have hp : (decide ((57343 : Int) < r) = false) ∨ (decide ((57343 : Int) < r) = true ∧ decide (r ≤ 1114111) = false) := by
      by_cases h : 57343 < r
      · exact .inr ⟨decide_eq_true h, decide_eq_false (fun h3 => h2 ⟨h, h3⟩)⟩
      · exact .inl (decide_eq_false h)
    clear h1 h2
    rcases hq with b1 | ⟨b1, b2⟩ <;> rcases hp with c1 | ⟨c1, c2⟩
    all_goals
      go_enter Try.func65, Try.ntmps65
      go_wp2_with fail
      go_ret
      exact ⟨rfl, rfl⟩
end Go.Proofs.Ytekocbphdckmkaa
