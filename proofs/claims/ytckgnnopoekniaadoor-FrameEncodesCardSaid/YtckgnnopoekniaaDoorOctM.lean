/- octet: the check sum of rows is that of all of them in one; a byte that is another one has another sum: the statement's own walk. -/
import Derived.Test.YtckgnnopoekniaaDoorOctL
namespace Go.Proofs.YtckgnnopoekniaaDoor
open Go.RowKit
set_option maxRecDepth 100000
/- ANOTHER BYTE, ANOTHER SUM -/

theorem gstep_top (s : Nat) (h : s < 4294967296) : (2147483648 ≤ gstep s) ↔ s % 2 = 1 := by
  have tb : ∀ n, n < 4294967296 → (2147483648 ≤ n ↔ n.testBit 31 = true) := by
    intro n hn
    rw [Nat.testBit_eq_decide_div_mod_eq, decide_eq_true_eq]
    omega
  rw [tb _ (gstep_lt h)]
  unfold gstep
  split
  · rename_i ho
    rw [Nat.testBit_xor]
    have h1 : (s / 2).testBit 31 = false := by
      rw [Nat.testBit_eq_decide_div_mod_eq, decide_eq_false_iff_not]; omega
    have h2 : (3988292384 : Nat).testBit 31 = true := by decide
    simp [h1, h2, ho]
  · rename_i ho
    have h1 : (s / 2).testBit 31 = false := by
      rw [Nat.testBit_eq_decide_div_mod_eq, decide_eq_false_iff_not]; omega
    simp [h1, ho]
theorem gstep_inj {s t : Nat} (hs : s < 4294967296) (ht : t < 4294967296) (h : gstep s = gstep t) : s = t := by
  have h1 := gstep_top s hs
  have h2 := gstep_top t ht
  rw [h] at h1
  have h3 : s % 2 = 1 ↔ t % 2 = 1 := h1.symm.trans h2
  unfold gstep at h
  by_cases ho : s % 2 = 1
  · rw [if_pos ho, if_pos (h3.1 ho)] at h
    have h4 : s / 2 = t / 2 := by
      have := congrArg (· ^^^ 3988292384) h
      simpa [Nat.xor_assoc] using this
    have := h3.1 ho
    omega
  · rw [if_neg ho, if_neg (fun h => ho (h3.2 h))] at h
    have : ¬ t % 2 = 1 := fun h => ho (h3.2 h)
    omega
theorem gsteps_inj (n : Nat) {s t : Nat} (hs : s < 4294967296) (ht : t < 4294967296) (h : gsteps n s = gsteps n t) : s = t := by
  induction n with
  | zero => exact h
  | succ n ih => exact ih (gstep_inj (gsteps_lt n hs) (gsteps_lt n ht) h)
theorem bstep_inj_s {s t : Nat} (b : UInt8) (hs : s < 4294967296) (ht : t < 4294967296) (h : bstep s b = bstep t b) : s = t := by
  rw [bstep_eq, bstep_eq] at h
  have hb := b.toNat_lt
  have := gsteps_inj 8 (xor_lt32 hs (by omega)) (xor_lt32 ht (by omega)) h
  have := congrArg (· ^^^ b.toNat) this
  simpa [Nat.xor_assoc] using this
theorem bstep_inj_b {s : Nat} {a b : UInt8} (hs : s < 4294967296) (h : bstep s a = bstep s b) : a = b := by
  rw [bstep_eq, bstep_eq] at h
  have ha := a.toNat_lt
  have hb := b.toNat_lt
  have h1 := gsteps_inj 8 (xor_lt32 hs (by omega)) (xor_lt32 hs (by omega)) h
  have h2 := congrArg (s ^^^ ·) h1
  simp only [← Nat.xor_assoc, Nat.xor_self, Nat.zero_xor] at h2
  exact UInt8.toNat_inj.1 h2
theorem crc_inj (l : List UInt8) : ∀ {s t : Nat}, s < 4294967296 → t < 4294967296 → crc s l = crc t l → s = t := by
  induction l with
  | nil => intro s t _ _ h; exact h
  | cons b l ih => intro s t hs ht h; exact bstep_inj_s b hs ht (ih (bstep_lt b hs) (bstep_lt b ht) h)
theorem sumOf_set (l : List UInt8) (i : Nat) (c : UInt8) (hi : i < l.length) (hc : c ≠ l[i]) : sumOf (l.set i c) ≠ sumOf l := by
  intro h
  unfold sumOf at h
  have h1 : crc 4294967295 (l.set i c) = crc 4294967295 l := by
    have := congrArg (4294967295 ^^^ ·) h
    simp only [← Nat.xor_assoc, Nat.xor_self, Nat.zero_xor] at this
    exact this
  rw [List.set_eq_take_append_cons_drop, if_pos hi] at h1
  have e : l = l.take i ++ l[i] :: l.drop (i + 1) := by rw [← List.drop_eq_getElem_cons hi, List.take_append_drop]
  have h2 : crc 4294967295 l = crc 4294967295 (l.take i ++ l[i] :: l.drop (i + 1)) := by rw [← e]
  rw [h2, crc_append, crc_append] at h1
  have hp : crc 4294967295 (l.take i) < 4294967296 := crc_lt _ _ (by omega)
  have h3 := crc_inj (l.drop (i + 1)) (bstep_lt c hp) (bstep_lt l[i] hp) h1
  exact hc (bstep_inj_b hp h3)
end Go.Proofs.YtckgnnopoekniaaDoor
