/- octet: numbers as bytes, and back: the statement's own walk. -/
import Derived.Deep.RegionWith
import Derived.Test.YtlfooppmdgddkaaOctJ
namespace Go.Proofs.Ytlfooppmdgddkaa
open Go.RowKit
set_option maxRecDepth 100000

theorem numF_enc7 (f : Nat) : ∀ (i acc V : Nat) (rest : List UInt8), (enc7 V).length ≤ f → (0 < i → 0 < V) → acc + V * 128 ^ i ≤ 4611686018427387904 →
    numF f i acc (enc7 V ++ rest) = some (acc + V * 128 ^ i, rest) := by
  induction f with
  | zero => intro i acc V rest h; have := enc7_pos V; omega
  | succ f ih =>
    intro i acc V rest h h0 hb
    by_cases hv : V < 128
    · rw [enc7_lo hv]
      have e := u8_ofNat V (by omega)
      have e2 : (UInt8.ofNat V).toNat = V := by omega
      simp only [List.cons_append, List.nil_append, numF, e2]
      rw [if_neg (by omega), Nat.mod_eq_of_lt hv, if_neg (by omega)]
    · rw [enc7_hi hv] at h ⊢
      have e := u8_ofNat (V % 128 + 128) (by omega)
      have e2 : (UInt8.ofNat (V % 128 + 128)).toNat = V % 128 + 128 := by omega
      simp only [List.cons_append, numF, e2]
      rw [if_pos (by omega), show (V % 128 + 128) % 128 = V % 128 by omega]
      have e3 : acc + V % 128 * 128 ^ i + V / 128 * 128 ^ (i + 1) = acc + V * 128 ^ i := by
        rw [Nat.pow_succ, Nat.add_assoc]
        congr 1
        have : V / 128 * (128 ^ i * 128) = (V / 128 * 128) * 128 ^ i := by rw [Nat.mul_comm (128 ^ i) 128, Nat.mul_assoc]
        rw [this, ← Nat.add_mul]
        congr 1; omega
      rw [ih (i + 1) _ (V / 128) rest (by simpa using h) (fun _ => by omega) (by rw [e3]; exact hb), e3]
/-- What was laid is taken as it was. -/
theorem takeN_enc (V : Nat) (rest : List UInt8) (h : V ≤ 4611686018427387904) : takeN (some (enc7 V ++ rest)) = (V, some rest) := by
  have := numF_enc7 9 0 0 V rest (enc7_length 8 V (by omega)) (by omega) (by omega)
  simp only [Nat.pow_zero, Nat.mul_one, Nat.zero_add] at this
  simp only [takeN, takeNum, this]
theorem clamp_le (v : Int) : clamp v ≤ 4611686018427387904 := by unfold clamp; omega
theorem encs_drop (l : List Int) (k : Nat) (h : k < l.length) : encs (l.drop k) = enc7 (clamp l[k]) ++ encs (l.drop (k + 1)) := by
  unfold encs
  rw [List.drop_eq_getElem_cons h, List.flatMap_cons]
theorem Rd.drewN {w : World} {b : Nat} {S : Nat → Prop} {v : Value} {st : Option (List UInt8)} (h : Rd w b S v st) (n : Nat) : Rd (w.drewN n) b S v st := ⟨h.blk, h.row, h.off⟩
end Go.Proofs.Ytlfooppmdgddkaa
