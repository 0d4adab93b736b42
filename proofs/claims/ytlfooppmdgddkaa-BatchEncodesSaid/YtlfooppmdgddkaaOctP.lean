/- octet: rows as bytes, and back: the statement's own walk. -/
import Derived.Test.YtlfooppmdgddkaaOctO
namespace Go.Proofs.Ytlfooppmdgddkaa
open Go.RowKit
set_option maxRecDepth 100000

theorem takeB_enc (p rest : List UInt8) (h : p.length ≤ 4611686018427387904) : takeB (some (enc7 p.length ++ p ++ rest)) = (p, some rest) := by
  unfold takeB
  rw [List.append_assoc, takeN_enc _ _ h]
  simp only [takeRaw]
  rw [if_neg (by simp only [List.length_append]; omega)]
  simp
theorem encr_drop (L : List (List UInt8)) (k : Nat) (h : k < L.length) : encr (L.drop k) = enc7 L[k].length ++ L[k] ++ encr (L.drop (k + 1)) := by
  unfold encr
  rw [List.drop_eq_getElem_cons h, List.flatMap_cons]
theorem encr_one (p : List UInt8) : encr [p] = enc7 p.length ++ p := by simp [encr]
theorem encr_len (L : List (List UInt8)) : (encr L).length ≤ 10 * weight L := by
  unfold encr weight
  induction L with
  | nil => simp
  | cons a L ih =>
    have h2 : (enc7 a.length).length ≤ a.length + 1 := by
      by_cases h : a.length < 128
      · rw [enc7_lo h]; simp
      · have := enc7_length a.length a.length (by
          have h1 : a.length < 2 ^ a.length := Nat.lt_two_pow_self
          have h2 : 2 ^ a.length ≤ 2 ^ (7 * (a.length + 1)) := Nat.pow_le_pow_right (by omega) (by omega)
          omega)
        exact this
    simp only [List.flatMap_cons, List.length_append, List.map_cons, List.sum_cons]
    omega
theorem len_le_weight (L : List (List UInt8)) (k : Nat) (h : k < L.length) : L[k].length ≤ weight L := by
  have h1 := weight_snoc L k h
  have h2 := weight_take L (k + 1)
  omega
theorem roomy_begin {w : World} {A : Option Addr} {c : Nat} {l : List UInt8} (h : Own w 5 (.slice A (l.length + 1) c) ((l ++ [171]).map bv)) : Bs w (own (.slice A (l.length + 1) c)) (.slice A l.length c) l := by
  have h1 : Bs w (own (.slice A (l.length + 1) c)) (.slice A (l ++ [171]).length c) (l ++ [171]) := by
    have e : (l ++ [(171 : UInt8)]).length = l.length + 1 := by simp
    rw [e]; exact h.sl
  have := Bs.begin h1 (m := l.length) (by simp)
  rwa [List.take_append_of_le_length (Nat.le_refl _), List.take_of_length_le (Nat.le_refl _)] at this
end Go.Proofs.Ytlfooppmdgddkaa
