/- dn: letters, types. -/
import Derived.Test.YtekocbphdckmkaaRecB
import Derived.Test.YtekocbphdckmkaaOctR
namespace Go.Proofs.Ytekocbphdckmkaa
open Go.RowKit
set_option maxRecDepth 100000

theorem sv_get (l : List UInt8) (k : Nat) (_h : k < l.length) (h' : k < (⟨l.toArray⟩ : ByteArray).size) : (⟨l.toArray⟩ : ByteArray)[k]'h' = l[k] := by
  show l.toArray[k] = l[k]
  simp
theorem sv_size (l : List UInt8) : (⟨l.toArray⟩ : ByteArray).size = l.length := by
  show l.toArray.size = l.length
  simp
theorem sv_list (l : List UInt8) : (⟨l.toArray⟩ : ByteArray).toList = l := by
  simp
theorem bool_eq {p : Prop} [Decidable p] {b : Bool} (h : b = true ↔ p) : b = decide p := by
  rw [Bool.eq_iff_iff, decide_eq_true_eq]; exact h

theorem ret_bool {b : Bool} {p : Prop} [Decidable p] {w w' : World} (h : b = true ↔ p) (hw : w' = w) : Ending.returned (.bool b) = .returned (.bool (decide p)) ∧ w' = w := ⟨by rw [bool_eq h], hw⟩

def letN (p : Nat) : Prop := (97 ≤ p ∧ p ≤ 122) ∨ (65 ≤ p ∧ p ≤ 90)
instance (p : Nat) : Decidable (letN p) := inferInstanceAs (Decidable (_ ∨ _))
def typN (p : Nat) : Prop := letN p ∨ (48 ≤ p ∧ p ≤ 57) ∨ p = 45
instance (p : Nat) : Decidable (typN p) := inferInstanceAs (Decidable (_ ∨ _))
/-- Is a text a type? -/
def isTyp (s : List UInt8) : Prop := 1 ≤ s.length ∧ s.length ≤ 32 ∧ letN (s.getD 0 0).toNat ∧ ∀ b ∈ s, typN b.toNat
instance (s : List UInt8) : Decidable (isTyp s) := inferInstanceAs (Decidable (_ ∧ _))

set_option maxHeartbeats 1000000 in
theorem letter_any {w : World} (p : Nat) :
    Calls Try.prog 50 #[.int .u8 (p : Int)] w fun e w' => e = .returned (.bool (decide (letN p))) ∧ w' = w := by
  go_enter Try.func50, Try.ntmps50
  go_wp2_with fail
  all_goals go_ret
  all_goals refine ret_bool ?_ rfl
  all_goals unfold letN
  all_goals simp
  all_goals omega
set_option maxHeartbeats 1000000 in
theorem rletter_any {w : World} (p : Nat) :
    Calls Try.prog 52 #[.int .u8 (p : Int)] w fun e w' => e = .returned (.bool (decide (letN p))) ∧ w' = w := by
  go_enter Try.func52, Try.ntmps52
  go_wp2_with fail
  all_goals go_ret
  all_goals refine ret_bool ?_ rfl
  all_goals unfold letN
  all_goals simp
  all_goals omega
set_option maxHeartbeats 1000000 in
theorem inType_any {w : World} (p : Nat) :
    Calls Try.prog 51 #[.int .u8 (p : Int)] w fun e w' => e = .returned (.bool (decide (typN p))) ∧ w' = w := by
  go_enter Try.func51, Try.ntmps51
  go_wp2_with fail
  refine (letter_any p).mono ?_
  rintro e w1 ⟨rfl, rfl⟩
  obtain ⟨q, hq⟩ : ∃ q, q = decide (letN p) := ⟨_, rfl⟩
  rw [← hq]
  replace hq := Lib.hid hq
  cases q
  all_goals go_wp2_with fail
  all_goals go_ret
  all_goals refine ret_bool ?_ rfl
  all_goals have hq' := hq.out
  all_goals unfold typN
  all_goals simp at hq' ⊢
  all_goals (try simp only [hq', true_or, false_or])
  all_goals (try omega)
end Go.Proofs.Ytekocbphdckmkaa
namespace Go.Proofs.Ytekocbphdckmkaa
open Go.RowKit
set_option maxRecDepth 100000

theorem ret_no {p : Prop} [Decidable p] {w w' : World} (h : ¬ p) (hw : w' = w) : Ending.returned (.bool false) = .returned (.bool (decide p)) ∧ w' = w := ⟨by rw [decide_eq_false h], hw⟩
theorem ret_yes {p : Prop} [Decidable p] {w w' : World} (h : p) (hw : w' = w) : Ending.returned (.bool true) = .returned (.bool (decide p)) ∧ w' = w := ⟨by rw [decide_eq_true h], hw⟩
theorem dtrue {p : Prop} [Decidable p] (h : p) : decide p = true := decide_eq_true h
theorem dfalse {p : Prop} [Decidable p] (h : ¬ p) : decide p = false := decide_eq_false h
theorem getD_at (s : List UInt8) {k : Nat} (h : k < s.length) : s.getD k 0 = s[k] := by rw [List.getD_eq_getElem?_getD, List.getElem?_eq_getElem h]; rfl

set_option maxHeartbeats 2000000 in
theorem type_any {w : World} (s : List UInt8) (hl : s.length ≤ 9223372036854775807) :
    Calls Try.prog 39 #[sv s] w fun e w' => e = .returned (.bool (decide (isTyp s))) ∧ w' = w := by
  have hsz := sv_size s
  by_cases h1 : s.length < 1
  · have hb : decide ((s.length : Int) < 1) = true := dtrue (by omega)
    go_enter Try.func39, Try.ntmps39
    go_wp2_with fail
    go_ret
    exact ret_no (fun h => by have := h.1; omega) rfl
  have hb1 : decide ((s.length : Int) < 1) = false := dfalse (by omega)
  by_cases h2 : 32 < s.length
  · have hb : decide ((32 : Int) < (s.length : Int)) = true := dtrue (by omega)
    go_enter Try.func39, Try.ntmps39
    go_wp2_with fail
    go_ret
    exact ret_no (fun h => by have := h.2.1; omega) rfl
  have hb2 : decide ((32 : Int) < (s.length : Int)) = false := dfalse (by omega)
  have h0 : 0 < s.length := by omega
  obtain ⟨b, hbk⟩ : ∃ b, b = s[0] := ⟨_, rfl⟩
  have hg : ∀ h', (⟨s.toArray⟩ : ByteArray)[0]'h' = b := fun h' => (sv_get s 0 h0 h').trans hbk.symm
  have hgd : s.getD 0 0 = b := by rw [getD_at s h0, hbk]
  replace hbk := Lib.hid hbk
  by_cases h3 : letN b.toNat
  · go_enter Try.func39, Try.ntmps39
    go_wp2_with fail
    refine (letter_any b.toNat).mono ?_
    rintro e w1 ⟨rfl, rfl⟩
    rw [decide_eq_true h3]
    go_wp2_with fail
    go_loop [20] (fun i => ∃ k : Nat, k ≤ s.length ∧ i = .int .i64 k ∧ ∀ (j : Nat) (hj : j < s.length), j < k → typN s[j].toNat) (fun i => s.length - (intOf i).toNat)
    case atStart => exact ⟨0, Nat.zero_le _, rfl, fun j _ h => by omega⟩
    case round =>
      obtain ⟨k, hk, rfl, hall⟩ := hrel
      replace hall := Lib.hid hall
      by_cases hlt : k < s.length
      · have hbl : decide ((k : Int) < (s.length : Int)) = true := dtrue (by omega)
        obtain ⟨c, hck⟩ : ∃ c, c = s[k] := ⟨_, rfl⟩
        have hg : ∀ h', (⟨s.toArray⟩ : ByteArray)[k]'h' = c := fun h' => (sv_get s k hlt h').trans hck.symm
        replace hck := Lib.hid hck
        go_wp2_with fail
        refine (inType_any c.toNat).mono ?_
        rintro e w1 ⟨rfl, rfl⟩
        by_cases h4 : typN c.toNat
        · rw [decide_eq_true h4]
          go_wp2_with fail
          refine ⟨⟨k + 1, by omega, by go_num, fun j hj hjk => ?_⟩, by simp [intOf] <;> omega⟩
          by_cases hj2 : j < k
          · exact hall.out j hj hj2
          · obtain rfl : j = k := by omega
            rw [← hck.out]; exact h4
        · rw [decide_eq_false h4]
          go_wp2_with fail
          go_ret
          exact ret_no (fun h => h4 (by rw [hck.out]; exact h.2.2.2 _ (List.getElem_mem _))) rfl
      · have hbl : decide ((k : Int) < (s.length : Int)) = false := dfalse (by omega)
        go_wp2_with fail
        go_ret
        exact ret_yes ⟨by omega, by omega, by rw [hgd]; exact h3, fun x hx => by
          obtain ⟨j, hj, rfl⟩ := List.mem_iff_getElem.1 hx
          exact hall.out j hj (by omega)⟩ rfl
  · go_enter Try.func39, Try.ntmps39
    go_wp2_with fail
    refine (letter_any b.toNat).mono ?_
    rintro e w1 ⟨rfl, rfl⟩
    rw [decide_eq_false h3]
    go_wp2_with fail
    go_ret
    exact ret_no (fun h => h3 (by rw [← hgd]; exact h.2.2.1)) rfl
end Go.Proofs.Ytekocbphdckmkaa
namespace Go.Proofs.Ytekocbphdckmkaa
open Go.RowKit
set_option maxRecDepth 100000

def low (b : UInt8) : UInt8 := if 65 ≤ b.toNat ∧ b.toNat ≤ 90 then b + 32 else b
def fstep (o : List UInt8) (b : UInt8) : List UInt8 := if low b = 32 ∧ (o = [] ∨ o.getLast? = some 32) then o else o ++ [low b]
def fcut (o : List UInt8) : List UInt8 := if o.getLast? = some 32 then o.dropLast else o
/-- A text in which case and blanks do not count. -/
def foldB (s : List UInt8) : List UInt8 := fcut (s.foldl fstep [])
theorem fold_snoc (s : List UInt8) {k : Nat} (h : k < s.length) : (s.take (k + 1)).foldl fstep [] = fstep ((s.take k).foldl fstep []) s[k] := by
  rw [List.take_succ_eq_append_getElem h, List.foldl_append, List.foldl_cons, List.foldl_nil]
theorem fstep_len (o : List UInt8) (b : UInt8) : (fstep o b).length ≤ o.length + 1 := by
  unfold fstep; split <;> simp
theorem ffold_len (s : List UInt8) : ∀ o, (s.foldl fstep o).length ≤ o.length + s.length := by
  induction s with
  | nil => intro o; simp
  | cons b s ih => intro o; rw [List.foldl_cons]; have := ih (fstep o b); have := fstep_len o b; simp only [List.length_cons]; omega
theorem fcut_len (o : List UInt8) : (fcut o).length ≤ o.length := by
  unfold fcut; split <;> simp
theorem foldB_len (s : List UInt8) : (foldB s).length ≤ s.length := by
  have := fcut_len (s.foldl fstep []); have := ffold_len s []; unfold foldB; simp at *; omega
theorem low_up {b : UInt8} (h : 65 ≤ b.toNat ∧ b.toNat ≤ 90) : (low b).toNat = b.toNat + 32 := by
  unfold low
  rw [if_pos h, UInt8.toNat_add]
  show (b.toNat + 32) % 256 = _
  omega
theorem low_no {b : UInt8} (h : ¬ (65 ≤ b.toNat ∧ b.toNat ≤ 90)) : low b = b := by
  unfold low
  rw [if_neg h]
theorem last_get (o : List UInt8) (h : 0 < o.length) : o.getLast? = some o[o.length - 1] := by
  rw [List.getLast?_eq_getElem?, List.getElem?_eq_getElem (by omega)]
theorem fstep_out {o : List UInt8} {b : UInt8} (h : (low b).toNat ≠ 32) : fstep o b = o ++ [low b] := by
  unfold fstep
  rw [if_neg (fun hh => h (by rw [hh.1]; rfl))]
theorem fstep_out2 {o : List UInt8} {b : UInt8} {m : Nat} (hm : o.length = m + 1) (h : o[m].toNat ≠ 32) : fstep o b = o ++ [low b] := by
  unfold fstep
  rw [if_neg]
  rintro ⟨_, rfl | h2⟩
  · simp at hm
  · rw [last_get o (by omega)] at h2
    have : o[o.length - 1] = o[m] := by congr 1; omega
    rw [this] at h2
    exact h (by rw [Option.some.inj h2]; rfl)
theorem fstep_skip0 {b : UInt8} (h : low b = 32) : fstep [] b = [] := by
  unfold fstep
  rw [if_pos ⟨h, .inl rfl⟩]
theorem fstep_skip {o : List UInt8} {b : UInt8} {m : Nat} (hm : o.length = m + 1) (hb : low b = 32) (h : o[m].toNat = 32) : fstep o b = o := by
  unfold fstep
  rw [if_pos]
  refine ⟨hb, .inr ?_⟩
  rw [last_get o (by omega)]
  have : o[o.length - 1] = o[m] := by congr 1; omega
  rw [this]
  congr 1
  exact UInt8.toNat_inj.1 h
theorem fcut_no {o : List UInt8} {m : Nat} (hm : o.length = m + 1) (h : o[m].toNat ≠ 32) : fcut o = o := by
  unfold fcut
  rw [if_neg]
  rw [last_get o (by omega)]
  have : o[o.length - 1] = o[m] := by congr 1; omega
  rw [this]
  intro h2
  exact h (by rw [Option.some.inj h2]; rfl)
theorem fcut_yes {o : List UInt8} {m : Nat} (hm : o.length = m + 1) (h : o[m].toNat = 32) : fcut o = o.take m := by
  unfold fcut
  rw [if_pos]
  · rw [List.dropLast_eq_take, hm]; rfl
  · rw [last_get o (by omega)]
    have : o[o.length - 1] = o[m] := by congr 1; omega
    rw [this]
    congr 1
    exact UInt8.toNat_inj.1 h

end Go.Proofs.Ytekocbphdckmkaa
