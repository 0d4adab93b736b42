/- ber: what a tag's bytes begin with; cut short. -/
import Derived.Test.YtcffefadagfdcaaBerE
namespace Go.Proofs.Ytcffefadagfdcaa
open Go.RowKit
set_option maxRecDepth 100000

theorem blook_two (t c : UInt8) (r : List UInt8) (ht : ¬ t &&& 31 = 31) : blook (t :: c :: r) = if c.toNat < 128 then bfin 2 c.toNat (r.length + 2) else if c.toNat - 128 = 0 ∨ 4 < c.toNat - 128 then (0, 0, 3) else if r.length < c.toNat - 128 then (0, 0, 2) else bfin (2 + (c.toNat - 128)) (uval (r.take (c.toNat - 128))) (r.length + 2) := by
  unfold blook
  rw [if_neg (by simp), if_neg (by simpa using ht), if_neg (by simp)]
  have e1 : (t :: c :: r).getD 1 0 = c := rfl
  have e2 : (t :: c :: r).length = r.length + 2 := rfl
  have e3 : (t :: c :: r).drop 2 = r := rfl
  rw [e1, e2, e3]
  by_cases h1 : c.toNat < 128
  · rw [if_pos h1, if_pos h1]
  rw [if_neg h1, if_neg h1]
  by_cases h2 : c.toNat - 128 = 0 ∨ 4 < c.toNat - 128
  · rw [if_pos h2, if_pos h2]
  rw [if_neg h2, if_neg h2]
  by_cases h3 : r.length < c.toNat - 128
  · rw [if_pos (by omega), if_pos h3]
  · rw [if_neg (by omega), if_neg h3]
/-- hd says a length of n. -/
def Hd (hd : List UInt8) (n : Nat) : Prop := (n < 128 ∧ hd = [UInt8.ofNat n]) ∨ ∃ k ks, 1 ≤ k ∧ k ≤ 4 ∧ ks.length = k ∧ uval ks = n ∧ hd = UInt8.ofNat (128 + k) :: ks
theorem lay_hd {n : Nat} (h : n < 16777216) : Hd (lay n) n := by
  unfold lay
  by_cases h1 : n < 128
  · rw [if_pos h1]; exact .inl ⟨h1, rfl⟩
  · rw [if_neg h1]
    have := lw_pos n
    exact .inr ⟨lw n, bes n (lw n), this.1, by omega, bes_len _ _, uval_nat n _ (lw_lt h), rfl⟩
theorem ofNat_val {n : Nat} (h : n < 256) : (UInt8.ofNat n).toNat = n := UInt8.toNat_ofNat_of_lt' h
theorem blook_hd {t : UInt8} {hd : List UInt8} {n : Nat} (ht : ¬ t &&& 31 = 31) (h : Hd hd n) (x : List UInt8) : blook (t :: hd ++ x) = bfin (1 + hd.length) n (1 + hd.length + x.length) := by
  rcases h with ⟨h1, rfl⟩ | ⟨k, ks, h1, h2, rfl, rfl, rfl⟩
  · show blook (t :: UInt8.ofNat n :: x) = _
    rw [blook_two t _ x ht, ofNat_val (by omega), if_pos h1]
    show bfin 2 n (x.length + 2) = bfin 2 n (2 + x.length)
    rw [Nat.add_comm]
  · show blook (t :: UInt8.ofNat (128 + ks.length) :: (ks ++ x)) = _
    rw [blook_two t _ _ ht, ofNat_val (by omega), if_neg (by omega), show 128 + ks.length - 128 = ks.length by omega, if_neg (by omega), if_neg (by simp)]
    rw [List.take_left, List.length_cons, List.length_append]
    congr 1 <;> omega
theorem bnext_hd {t : UInt8} {hd body rest : List UInt8} (ht : ¬ t &&& 31 = 31) (h : Hd hd body.length) (hb : body.length ≤ 65536) : bnext (t :: hd ++ body ++ rest) = (t, body, rest, 0) := by
  have e := blook_hd ht h (body ++ rest)
  rw [← List.append_assoc] at e
  have e2 : bfin (1 + hd.length) body.length (1 + hd.length + (body ++ rest).length) = (1 + hd.length, 1 + hd.length + body.length, 0) := by
    unfold bfin
    rw [if_neg (by omega), if_neg (by rw [List.length_append]; omega)]
  rw [e2] at e
  unfold bnext
  rw [e, if_pos rfl]
  have e3 : (t :: hd ++ body ++ rest).drop (1 + hd.length) = body ++ rest := by
    rw [show t :: hd ++ body ++ rest = (t :: hd) ++ (body ++ rest) by simp, show 1 + hd.length = (t :: hd).length by simp; omega]
    exact List.drop_left
  have e4 : (t :: hd ++ body ++ rest).drop (1 + hd.length + body.length) = rest := by
    rw [show 1 + hd.length + body.length = (t :: hd ++ body).length by simp; omega]
    exact List.drop_left
  show ((t :: hd ++ body ++ rest).getD 0 0, ((t :: hd ++ body ++ rest).drop (1 + hd.length)).take (1 + hd.length + body.length - (1 + hd.length)), (t :: hd ++ body ++ rest).drop (1 + hd.length + body.length), 0) = _
  rw [e3, e4, show 1 + hd.length + body.length - (1 + hd.length) = body.length by omega, List.take_left]
  rfl
theorem blook_cut {t : UInt8} {hd body : List UInt8} (ht : ¬ t &&& 31 = 31) (h : Hd hd body.length) (hb : body.length ≤ 65536) {j : Nat} (hj : j < (t :: hd ++ body).length) : (blook ((t :: hd ++ body).take j)).2.2 = 2 := by
  match j with
  | 0 => rfl
  | 1 =>
    show (blook [t]).2.2 = 2
    unfold blook
    rw [if_neg (by simp), if_neg (by simpa using ht), if_pos (by simp)]
  | j + 2 =>
    rcases h with ⟨h1, rfl⟩ | ⟨k, ks, h1, h2, rfl, h3, rfl⟩
    · show (blook (t :: UInt8.ofNat body.length :: body.take j)).2.2 = 2
      rw [blook_two t _ _ ht, ofNat_val (by omega), if_pos h1]
      unfold bfin
      simp only [List.cons_append, List.nil_append, List.length_cons] at hj
      rw [if_neg (by omega), if_pos (by rw [List.length_take]; omega)]
    · show (blook (t :: UInt8.ofNat (128 + ks.length) :: (ks ++ body).take j)).2.2 = 2
      rw [blook_two t _ _ ht, ofNat_val (by omega), if_neg (by omega), show 128 + ks.length - 128 = ks.length by omega, if_neg (by omega)]
      simp only [List.cons_append, List.length_cons, List.length_append] at hj
      by_cases h5 : ((ks ++ body).take j).length < ks.length
      · rw [if_pos h5]
      · rw [if_neg h5]
        rw [List.length_take, List.length_append] at h5
        have h6 : ((ks ++ body).take j).take ks.length = ks := by
          rw [List.take_take, Nat.min_eq_left (by omega), List.take_left]
        rw [h6, h3]
        unfold bfin
        rw [if_neg (by omega), if_pos (by rw [List.length_take, List.length_append]; omega)]
theorem bnext_err {l : List UInt8} {e : Nat} (h : (blook l).2.2 = e) (he : e ≠ 0) : bnext l = (0, [], [], e) := by
  unfold bnext
  rw [h, if_neg he]
end Go.Proofs.Ytcffefadagfdcaa
