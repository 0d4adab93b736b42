/- block: keys that begin alike. -/
import Derived.Test.YtlfooppmdgddkaaCelL
namespace Go.Proofs.Ytlfooppmdgddkaa
open Go.RowKit
set_option maxRecDepth 100000

def shB (i : Nat) : UInt8 := UInt8.ofNat (65 + i)
def shC (P : List UInt8) (i : Nat) : Ce := ⟨P ++ [shB i], [], false, 1⟩
def shD (P : List UInt8) (i : Nat) : Ce := ⟨shB i :: P, [], false, 1⟩
def shL (f : Nat → Ce) (n : Nat) : List Ce := (List.range n).map f
theorem shL_len (f : Nat → Ce) (n : Nat) : (shL f n).length = n := by unfold shL; simp
theorem shL_snoc (f : Nat → Ce) (n : Nat) : shL f (n + 1) = shL f n ++ [f n] := by unfold shL; rw [List.range_succ, List.map_append]; rfl
theorem shL_at (f : Nat → Ce) {n i : Nat} (h : i < n) : (shL f n).getD i default = f i := by
  rw [getD_c _ (by rw [shL_len]; exact h)]
  unfold shL
  simp
theorem shB_nat {i : Nat} (h : i < 60) : (shB i).toNat = 65 + i := by
  unfold shB
  rw [UInt8.toNat_ofNat']
  omega
theorem shB_lt {i : Nat} (h : i + 1 < 60) : shB i < shB (i + 1) := by
  rw [UInt8.lt_iff_toNat_lt, shB_nat (by omega), shB_nat h]
  omega
theorem shB_ne {i : Nat} (h : i + 1 < 60) : shB i ≠ shB (i + 1) := fun e => by
  have := congrArg UInt8.toNat e
  rw [shB_nat (by omega), shB_nat h] at this
  omega
theorem less_app : ∀ (P x y : List UInt8), Op.bytesLess (P ++ x) (P ++ y) = Op.bytesLess x y
  | [], _, _ => rfl
  | a :: P, x, y => by
    show (decide (a < a) || (a == a && Op.bytesLess (P ++ x) (P ++ y))) = _
    rw [less_app P x y, decide_eq_false (by simp)]
    simp
theorem less_head {a b : UInt8} (h : a < b) (x y : List UInt8) : Op.bytesLess (a :: x) (b :: y) = true := by
  show (decide (a < b) || (a == b && Op.bytesLess x y)) = true
  rw [decide_eq_true h]
  rfl
theorem comm_app : ∀ (P : List UInt8) {a b : UInt8}, a ≠ b → ∀ (x y : List UInt8), comm (P ++ a :: x) (P ++ b :: y) = P.length
  | [], a, b, h, x, y => if_neg h
  | c :: P, a, b, h, x, y => by
    show (if c = c then comm (P ++ a :: x) (P ++ b :: y) + 1 else 0) = _
    rw [if_pos rfl, comm_app P h x y]
    rfl
theorem comm_nil (k : List UInt8) : comm [] k = 0 := by
  have := (comm_le [] k).1
  simpa using this
theorem enc7_one {u : Nat} (h : u < 128) : (enc7 u).length = 1 := by rw [enc7_lo h]; rfl
theorem encC_one (a key : List UInt8) (h : key.length < 128) : (encC a ⟨key, [], false, 1⟩).length = 5 + (key.length - comm a key) := by
  have hc := (comm_le a key).2
  unfold encC
  simp only [List.length_append, List.length_drop, clamp_one]
  rw [enc7_one (by omega : comm a key < 128), enc7_one (by omega : key.length - comm a key < 128), enc7_one (by omega : (1 : Nat) < 128)]
  simp only [Bool.false_eq_true, if_false, List.length_append, List.length_nil]
  rw [enc7_one (by omega : (0 : Nat) < 128)]
  omega

theorem shL_mem {f : Nat → Ce} {n : Nat} {c : Ce} (h : c ∈ shL f n) : ∃ i, i < n ∧ c = f i := by
  unfold shL at h
  obtain ⟨i, hi, rfl⟩ := List.mem_map.1 h
  exact ⟨i, List.mem_range.1 hi, rfl⟩
theorem sh_rise {f : Nat → Ce} {n : Nat} (h1 : ∀ i, i < n → isC (f i)) (h2 : ∀ i, i + 1 < n → lessC (f i) (f (i + 1)) = true) : riseN (shL f n) = 0 := by
  unfold riseN
  rw [if_pos (fun c hc => by obtain ⟨i, hi, rfl⟩ := shL_mem hc; exact h1 i hi), if_pos]
  intro i hi h0
  rw [shL_len] at hi
  obtain ⟨j, rfl⟩ : ∃ j, i = j + 1 := ⟨i - 1, by omega⟩
  rw [show j + 1 - 1 = j by omega, shL_at f (by omega), shL_at f hi]
  exact h2 j hi
theorem shC_is {P : List UInt8} (h : P.length ≤ 100) (i : Nat) : isC (shC P i) := by
  refine ⟨?_, ?_, ?_, ?_, ?_, ?_⟩ <;> simp [shC] <;> omega
theorem shD_is {P : List UInt8} (h : P.length ≤ 100) (i : Nat) : isC (shD P i) := by
  refine ⟨?_, ?_, ?_, ?_, ?_, ?_⟩ <;> simp [shD] <;> omega
theorem shC_less (P : List UInt8) {i : Nat} (h : i + 1 < 60) : lessC (shC P i) (shC P (i + 1)) = true := by
  unfold lessC
  rw [if_neg]
  · show Op.bytesLess (P ++ [shB i]) (P ++ [shB (i + 1)]) = true
    rw [less_app]
    exact less_head (shB_lt h) _ _
  · intro e
    have e2 := List.append_cancel_left (show P ++ [shB i] = P ++ [shB (i + 1)] from e)
    injection e2 with e3
    exact shB_ne h e3
theorem shD_less (P : List UInt8) {i : Nat} (h : i + 1 < 60) : lessC (shD P i) (shD P (i + 1)) = true := by
  unfold lessC
  rw [if_neg]
  · exact less_head (shB_lt h) _ _
  · intro e
    injection (show shB i :: P = shB (i + 1) :: P from e) with e3
    exact shB_ne h e3
theorem shC_rise {P : List UInt8} {n : Nat} (h : P.length ≤ 100) (hn : n ≤ 60) : riseN (shL (shC P) n) = 0 := sh_rise (fun i _ => shC_is h i) (fun i hi => shC_less P (by omega))
theorem shD_rise {P : List UInt8} {n : Nat} (h : P.length ≤ 100) (hn : n ≤ 60) : riseN (shL (shD P) n) = 0 := sh_rise (fun i _ => shD_is h i) (fun i hi => shD_less P (by omega))
theorem sh_wC {f : Nat → Ce} {m : Nat} (h : ∀ i, (f i).key.length = m + 1 ∧ (f i).val = []) : ∀ n, wC (shL f n) = n * (m + 2)
  | 0 => by unfold shL wC; simp
  | n + 1 => by
    rw [shL_snoc, wC_append, sh_wC h n, Nat.succ_mul]
    obtain ⟨h1, h2⟩ := h n
    have : wC [f n] = 1 + (f n).key.length + (f n).val.length := by unfold wC; simp
    rw [this, h1, h2]
    simp only [List.length_nil]
    omega
theorem shC_wC (P : List UInt8) (n : Nat) : wC (shL (shC P) n) = n * (P.length + 2) := sh_wC (fun i => ⟨by simp [shC], rfl⟩) n
theorem shD_wC (P : List UInt8) (n : Nat) : wC (shL (shD P) n) = n * (P.length + 2) := sh_wC (fun i => ⟨by simp [shD], rfl⟩) n

theorem shD_to {P : List UInt8} {n : Nat} (h : P.length ≤ 100) (hn : n ≤ 60) : ∀ k, k ≤ n → (encTo (shL (shD P) n) k).length = k * (P.length + 6)
  | 0, _ => by unfold encTo; simp
  | k + 1, hk => by
    rw [encTo_snoc, List.length_append, shD_to h hn k (by omega), shL_at _ (by omega), Nat.succ_mul]
    have e : (encC (aheadC (shL (shD P) n) k) (shD P k)).length = 5 + ((shB k :: P).length - comm (aheadC (shL (shD P) n) k) (shB k :: P)) := encC_one _ _ (by simp only [List.length_cons]; omega)
    have hc : comm (aheadC (shL (shD P) n) k) (shB k :: P) = 0 := by
      unfold aheadC
      by_cases h4 : k % 4 = 0
      · rw [if_pos h4, comm_nil]
      · obtain ⟨j, rfl⟩ : ∃ j, k = j + 1 := ⟨k - 1, by omega⟩
        rw [if_neg h4, show j + 1 - 1 = j by omega, shL_at _ (by omega)]
        exact comm_app [] (shB_ne (by omega)) P P
    rw [e, hc]
    simp only [List.length_cons]
    omega
theorem shC_to {P : List UInt8} {n : Nat} (h : P.length ≤ 100) (hn : n ≤ 60) : ∀ k, k ≤ n → (encTo (shL (shC P) n) k).length = 6 * k + (k + 3) / 4 * P.length
  | 0, _ => by unfold encTo; simp
  | k + 1, hk => by
    rw [encTo_snoc, List.length_append, shC_to h hn k (by omega), shL_at _ (by omega)]
    have e : (encC (aheadC (shL (shC P) n) k) (shC P k)).length = 5 + ((P ++ [shB k]).length - comm (aheadC (shL (shC P) n) k) (P ++ [shB k])) := encC_one _ _ (by simp only [List.length_append, List.length_cons, List.length_nil]; omega)
    rw [e]
    unfold aheadC
    by_cases h4 : k % 4 = 0
    · rw [if_pos h4, comm_nil, show (k + 1 + 3) / 4 = (k + 3) / 4 + 1 by omega, Nat.succ_mul ((k + 3) / 4)]
      simp only [List.length_append, List.length_cons, List.length_nil]
      omega
    · obtain ⟨j, rfl⟩ : ∃ j, k = j + 1 := ⟨k - 1, by omega⟩
      rw [if_neg h4, show j + 1 - 1 = j by omega, shL_at _ (by omega)]
      have : comm (shC P j).key (P ++ [shB (j + 1)]) = P.length := comm_app P (shB_ne (by omega)) [] []
      rw [this, show (j + 1 + 1 + 3) / 4 = (j + 1 + 3) / 4 by omega]
      simp only [List.length_append, List.length_cons, List.length_nil]
      omega
theorem shD_len {P : List UInt8} {n : Nat} (h : P.length ≤ 100) (hn : n ≤ 60) : (encB (shL (shD P) n)).length = n * (P.length + 6) := by
  unfold encB
  rw [shL_len, shD_to h hn n (Nat.le_refl _)]
theorem shC_len {P : List UInt8} {n : Nat} (h : P.length ≤ 100) (hn : n ≤ 60) : (encB (shL (shC P) n)).length = 6 * n + (n + 3) / 4 * P.length := by
  unfold encB
  rw [shL_len, shC_to h hn n (Nat.le_refl _)]
end Go.Proofs.Ytlfooppmdgddkaa
