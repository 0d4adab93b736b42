/- ber: FromInt. -/
import Derived.Test.YtcffefadagfdcaaBerJ
namespace Go.Proofs.Ytcffefadagfdcaa
open Go.RowKit
set_option maxRecDepth 100000

/-- Bytes as a number that may be below nought. -/
def sval (l : List UInt8) : Int := (uval l : Int) - (if 128 ≤ (l.getD 0 0).toNat then ((2 ^ (8 * l.length) : Nat) : Int) else 0)
theorem getD_snoc (l : List UInt8) (c : UInt8) (h : l ≠ []) : (l ++ [c]).getD 0 0 = l.getD 0 0 := by
  cases l with
  | nil => exact absurd rfl h
  | cons a l => rfl
theorem pow_next (k : Nat) : 2 ^ (8 * (k + 1)) = 2 ^ (8 * k) * 256 := by
  rw [show 8 * (k + 1) = 8 * k + 8 by omega, Nat.pow_add]
theorem sval_snoc (l : List UInt8) (c : UInt8) (h : l ≠ []) : sval (l ++ [c]) = sval l * 256 + c.toNat := by
  unfold sval
  rw [getD_snoc l c h, uval_snoc, List.length_append, List.length_singleton, pow_next]
  generalize 2 ^ (8 * l.length) = P
  generalize uval l = u
  split <;> omega
theorem sval_bd {l : List UInt8} (h : l ≠ []) : -((2 ^ (8 * l.length) : Nat) : Int) ≤ 2 * sval l ∧ 2 * sval l < ((2 ^ (8 * l.length) : Nat) : Int) := by
  cases l with
  | nil => exact absurd rfl h
  | cons c l =>
    unfold sval
    have h1 := uval_lt l
    have h2 := c.toNat_lt
    have e : (c :: l).getD 0 0 = c := rfl
    rw [e, uval_cons, List.length_cons, pow_next]
    generalize 2 ^ (8 * l.length) = P at *
    generalize uval l = u at *
    generalize c.toNat = d at *
    by_cases h3 : 128 ≤ d
    · rw [if_pos h3]
      have h4 := Nat.mul_le_mul_right P h3
      have h5 := Nat.mul_le_mul_right P (show d ≤ 255 by omega)
      generalize d * P = q at *
      omega
    · rw [if_neg h3]
      have h5 := Nat.mul_le_mul_right P (show d ≤ 127 by omega)
      generalize d * P = q at *
      omega
theorem sval_bd8 {l : List UInt8} (h : l ≠ []) (k : Nat) (hk : l.length ≤ k) : -((2 ^ (8 * k) : Nat) : Int) ≤ 2 * sval l ∧ 2 * sval l < ((2 ^ (8 * k) : Nat) : Int) := by
  have h1 := sval_bd h
  have h2 : 2 ^ (8 * l.length) ≤ 2 ^ (8 * k) := Nat.pow_le_pow_right (by omega) (by omega)
  omega
theorem i64_or_in (m : Int) (c : Nat) (h0 : -36028797018963968 ≤ m) (h1 : m < 36028797018963968) (hc : c < 256) : bits .or .i64 (m * 256) (c : Int) = m * 256 + c := by
  have h := i64_or_byte m c hc
  rw [IntKind.wrap_i64, IntKind.wrap_i64] at h
  have e1 : (m * 256 + 9223372036854775808) % 18446744073709551616 - 9223372036854775808 = m * 256 := by omega
  rw [e1] at h
  rw [h]; omega
theorem i8_byte (b : Nat) (h : b < 256) : IntKind.i8.wrap (b : Int) = if b < 128 then (b : Int) else (b : Int) - 256 := by
  have all : ∀ b : Fin 256, IntKind.i8.wrap (b.val : Int) = if b.val < 128 then (b.val : Int) else (b.val : Int) - 256 := by decide +kernel
  exact all ⟨b, h⟩
/-- FromInt's answer. -/
def frm (l : List UInt8) : Int × Nat := if l.length < 1 ∨ 8 < l.length then (0, 3) else (sval l, 0)

set_option maxHeartbeats 1000000 in
theorem from_any {w : World} {S : Nat → Prop} {v : Value} {l : List UInt8} (h : Bs w S v l) :
    Calls Try.prog 27 #[v] w fun e w' => e = .returned (.tuple #[.int .i64 (frm l).1, .int .i64 ((frm l).2 : Nat)]) ∧ w' = w := by
  obtain ⟨o, ho⟩ : ∃ o, o = frm l := ⟨_, rfl⟩
  rw [← ho]
  unfold frm at ho
  obtain ⟨A, c, rfl, h1, h2, h3, h4⟩ := h.open_
  clear h
  by_cases e0 : l.length < 1
  · rw [if_pos (.inl e0)] at ho
    subst ho
    go_enter Try.func27, Try.ntmps27
    go_wp2_with fail
    go_ret2
    exact ⟨rfl, rfl⟩
  by_cases e1 : 8 < l.length
  · rw [if_pos (.inr e1)] at ho
    subst ho
    go_enter Try.func27, Try.ntmps27
    go_wp2_with fail
    go_ret2
    exact ⟨rfl, rfl⟩
  rw [if_neg (by omega)] at ho
  obtain ⟨ad, hA, hB, hc0⟩ := h4.byte (k := 0) (by omega)
  subst hA
  rw [show ad.add 0 = ad by simp [Addr.add]] at hc0
  have hcell : ∀ j, (hj : j + 1 < l.length) → w.cell? ⟨ad.block, ad.off + 1 + j, none⟩ = some (.int .u8 (l[j + 1].toNat : Int)) := fun j hj => by
    obtain ⟨ad9, hA9, hB9, hc9⟩ := h4.byte (k := j + 1) (by omega)
    injection hA9 with hA9
    subst hA9
    rw [show (⟨ad.block, ad.off + 1 + j, none⟩ : Addr) = ad.add (j + 1) by simp [Addr.add]; omega, hc9]
  have hs1 : sval (l.take 1) = if l[0].toNat < 128 then (l[0].toNat : Int) else (l[0].toNat : Int) - 256 := by
    have : l.take 1 = [l[0]] := by rw [List.take_succ_eq_append_getElem (by omega)]; simp
    rw [this]
    unfold sval
    have e : ([l[0]] : List UInt8).getD 0 0 = l[0] := rfl
    rw [e, uval_cons]
    simp only [List.length_nil, uval, List.foldl_nil, List.length_cons]
    split <;> split <;> omega
  have hb0 := l[0].toNat_lt
  have hpos : 0 < l.length := by omega
  generalize l[0].toNat = b0 at *
  clear e0 h4
  obtain ⟨s0, hs0⟩ : ∃ s0, s0 = sval (l.take 1) := ⟨_, rfl⟩
  have hb1 : b0 < 256 := hb0
  have hw8 : IntKind.i8.wrap (b0 : Int) = s0 := by
    rw [hs0, hs1]
    exact i8_byte b0 hb1
  have hs2 : -128 ≤ s0 ∧ s0 < 128 := by
    rw [hs0, hs1]; split <;> omega
  have hw64 : wrap64 s0 = s0 := by unfold wrap64; omega
  replace hs0 := Lib.hid hs0
  clear hs1 hs2
  by_cases hcap : c = 1
  · have hl1 : l.length = 1 := by omega
    rw [hl1]
    subst hcap
    have hsv : sval l = s0 := by rw [hs0.out, List.take_of_length_le (by omega)]
    clear hcell hpos e1 hl1 h1
    subst ho
    go_enter Try.func27, Try.ntmps27
    go_wp2_with fail
    go_loop [4, 23] (fun n i => n = .int .i64 s0 ∧ i = .int .i64 0) (fun _ _ => 0)
    case atStart => exact ⟨by first | rfl | rw [hw64], rfl⟩
    case round =>
      obtain ⟨rfl, rfl⟩ := hrel
      go_wp2_with fail
      go_ret2
      exact ⟨by first | rfl | rw [hsv], rfl⟩
  go_enter Try.func27, Try.ntmps27
  go_wp2_with fail
  go_loop [4, 23] (fun n i => ∃ j : Nat, j + 1 ≤ l.length ∧ i = .int .i64 j ∧ n = .int .i64 (sval (l.take (j + 1)))) (fun _ i => l.length - (intOf i).toNat)
  case atStart => exact ⟨0, by omega, rfl, by rw [hw64, hs0.out]⟩
  case round =>
    obtain ⟨j, hj, rfl, rfl⟩ := hrel
    by_cases hlt : j + 1 < l.length
    · have hc9 := hcell j hlt
      have hne : l.take (j + 1) ≠ [] := by intro h; have := congrArg List.length h; simp at this; subst this; simp at hpos
      have hsn : sval (l.take (j + 1 + 1)) = sval (l.take (j + 1)) * 256 + l[j + 1].toNat := by
        rw [List.take_succ_eq_append_getElem hlt, sval_snoc _ _ hne]
      have hbd := sval_bd8 hne 7 (by rw [List.length_take]; omega)
      have hb := l[j + 1].toNat_lt
      replace hsn := Lib.hid hsn
      rw [show ((2 ^ (8 * 7) : Nat) : Int) = 72057594037927936 by decide] at hbd
      generalize l[j + 1].toNat = b at *
      generalize sval (l.take (j + 1)) = u at *
      have hor := i64_or_in u b (by omega) (by omega) (by omega)
      have hu0 : -36028797018963968 ≤ u := by omega
      have hu1 : u < 36028797018963968 := by omega
      have hjl : j < l.length - 1 := by omega
      clear hcell hbd hne
      go_wp2_with fail
      exact ⟨⟨j + 1, by omega, by go_num, by rw [hsn.out]⟩, by simp [intOf] <;> omega⟩
    · rw [List.take_of_length_le (by omega)]
      have hjl : ¬ j < l.length - 1 := by omega
      clear hcell
      go_wp2_with fail
      go_ret2
      subst ho
      exact ⟨rfl, rfl⟩
end Go.Proofs.Ytcffefadagfdcaa
