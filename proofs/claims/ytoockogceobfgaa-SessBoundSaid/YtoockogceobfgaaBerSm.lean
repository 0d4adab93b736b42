/- ber: what a tag's bytes begin with; cut short. -/
import Derived.Test.YtoockogceobfgaaBerGm
import Derived.Deep.RegionHeld3
import Derived.Test.YtoockogceobfgaaWords
import Derived.Deep.DeepCutAuto
import Derived.BigQuiet
import Derived.Deep.QuietTactic
namespace Go.Proofs.Ytoockogceobfgaa
open Go.RowKit
set_option maxRecDepth 100000

theorem blook_two (t c : UInt8) (r : List UInt8) (ht : ¬ t &&& 31 = 31) : blook (t :: c :: r) = if c.toNat < 128 then bfin 2 c.toNat (r.length + 2) else if c.toNat - 128 = 0 ∨ 4 < c.toNat - 128 then (0, 0, 3) else if r.length < c.toNat - 128 then (0, 0, 2) else bfin (2 + (c.toNat - 128)) (uval (r.take (c.toNat - 128))) (r.length + 2) := by
  unfold blook
  rw [if_neg (by simp), if_neg (by simpa using ht), if_neg (by simp)]
  have e1 : (t :: c :: r).getD 1 0 = c := rfl
  have e2 : (t :: c :: r).length = r.length + 2 := rfl
  have e3 : (t :: c :: r).drop 2 = r := rfl
  rw [e1, e2, e3]
  by_cases h1 : c.toNat < 128
  · rw [if_pos h1, if_pos h1]
  rw [if_neg h1, if_neg h1]
  by_cases h2 : c.toNat - 128 = 0 ∨ 4 < c.toNat - 128
  · rw [if_pos h2, if_pos h2]
  rw [if_neg h2, if_neg h2]
  by_cases h3 : r.length < c.toNat - 128
  · rw [if_pos (by omega), if_pos h3]
  · rw [if_neg (by omega), if_neg h3]
/-- hd says a length of n. -/
def Hd (hd : List UInt8) (n : Nat) : Prop := (n < 128 ∧ hd = [UInt8.ofNat n]) ∨ ∃ k ks, 1 ≤ k ∧ k ≤ 4 ∧ ks.length = k ∧ uval ks = n ∧ hd = UInt8.ofNat (128 + k) :: ks
theorem lay_hd {n : Nat} (h : n < 16777216) : Hd (lay n) n := by
  unfold lay
  by_cases h1 : n < 128
  · rw [if_pos h1]; exact .inl ⟨h1, rfl⟩
  · rw [if_neg h1]
    have := lw_pos n
    exact .inr ⟨lw n, bes n (lw n), this.1, by omega, bes_len _ _, uval_nat n _ (lw_lt h), rfl⟩
theorem ofNat_val {n : Nat} (h : n < 256) : (UInt8.ofNat n).toNat = n := UInt8.toNat_ofNat_of_lt' h
theorem blook_hd {t : UInt8} {hd : List UInt8} {n : Nat} (ht : ¬ t &&& 31 = 31) (h : Hd hd n) (x : List UInt8) : blook (t :: hd ++ x) = bfin (1 + hd.length) n (1 + hd.length + x.length) := by
  rcases h with ⟨h1, rfl⟩ | ⟨k, ks, h1, h2, rfl, rfl, rfl⟩
  · show blook (t :: UInt8.ofNat n :: x) = _
    rw [blook_two t _ x ht, ofNat_val (by omega), if_pos h1]
    show bfin 2 n (x.length + 2) = bfin 2 n (2 + x.length)
    rw [Nat.add_comm]
  · show blook (t :: UInt8.ofNat (128 + ks.length) :: (ks ++ x)) = _
    rw [blook_two t _ _ ht, ofNat_val (by omega), if_neg (by omega), show 128 + ks.length - 128 = ks.length by omega, if_neg (by omega), if_neg (by simp)]
    rw [List.take_left, List.length_cons, List.length_append]
    congr 1 <;> omega
theorem bnext_hd {t : UInt8} {hd body rest : List UInt8} (ht : ¬ t &&& 31 = 31) (h : Hd hd body.length) (hb : body.length ≤ 65536) : bnext (t :: hd ++ body ++ rest) = (t, body, rest, 0) := by
  have e := blook_hd ht h (body ++ rest)
  rw [← List.append_assoc] at e
  have e2 : bfin (1 + hd.length) body.length (1 + hd.length + (body ++ rest).length) = (1 + hd.length, 1 + hd.length + body.length, 0) := by
    unfold bfin
    rw [if_neg (by omega), if_neg (by rw [List.length_append]; omega)]
  rw [e2] at e
  unfold bnext
  rw [e, if_pos rfl]
  have e3 : (t :: hd ++ body ++ rest).drop (1 + hd.length) = body ++ rest := by
    rw [show t :: hd ++ body ++ rest = (t :: hd) ++ (body ++ rest) by simp, show 1 + hd.length = (t :: hd).length by simp; omega]
    exact List.drop_left
  have e4 : (t :: hd ++ body ++ rest).drop (1 + hd.length + body.length) = rest := by
    rw [show 1 + hd.length + body.length = (t :: hd ++ body).length by simp; omega]
    exact List.drop_left
  show ((t :: hd ++ body ++ rest).getD 0 0, ((t :: hd ++ body ++ rest).drop (1 + hd.length)).take (1 + hd.length + body.length - (1 + hd.length)), (t :: hd ++ body ++ rest).drop (1 + hd.length + body.length), 0) = _
  rw [e3, e4, show 1 + hd.length + body.length - (1 + hd.length) = body.length by omega, List.take_left]
  rfl
theorem blook_cut {t : UInt8} {hd body : List UInt8} (ht : ¬ t &&& 31 = 31) (h : Hd hd body.length) (hb : body.length ≤ 65536) {j : Nat} (hj : j < (t :: hd ++ body).length) : (blook ((t :: hd ++ body).take j)).2.2 = 2 := by
  match j with
  | 0 => rfl
  | 1 =>
    show (blook [t]).2.2 = 2
    unfold blook
    rw [if_neg (by simp), if_neg (by simpa using ht), if_pos (by simp)]
  | j + 2 =>
    rcases h with ⟨h1, rfl⟩ | ⟨k, ks, h1, h2, rfl, h3, rfl⟩
    · show (blook (t :: UInt8.ofNat body.length :: body.take j)).2.2 = 2
      rw [blook_two t _ _ ht, ofNat_val (by omega), if_pos h1]
      unfold bfin
      simp only [List.cons_append, List.nil_append, List.length_cons] at hj
      rw [if_neg (by omega), if_pos (by rw [List.length_take]; omega)]
    · show (blook (t :: UInt8.ofNat (128 + ks.length) :: (ks ++ body).take j)).2.2 = 2
      rw [blook_two t _ _ ht, ofNat_val (by omega), if_neg (by omega), show 128 + ks.length - 128 = ks.length by omega, if_neg (by omega)]
      simp only [List.cons_append, List.length_cons, List.length_append] at hj
      by_cases h5 : ((ks ++ body).take j).length < ks.length
      · rw [if_pos h5]
      · rw [if_neg h5]
        rw [List.length_take, List.length_append] at h5
        have h6 : ((ks ++ body).take j).take ks.length = ks := by
          rw [List.take_take, Nat.min_eq_left (by omega), List.take_left]
        rw [h6, h3]
        unfold bfin
        rw [if_neg (by omega), if_pos (by rw [List.length_take, List.length_append]; omega)]
theorem bnext_err {l : List UInt8} {e : Nat} (h : (blook l).2.2 = e) (he : e ≠ 0) : bnext l = (0, [], [], e) := by
  unfold bnext
  rw [h, if_neg he]
end Go.Proofs.Ytoockogceobfgaa
namespace Go.Proofs.Ytoockogceobfgaa
open Go.RowKit
set_option maxRecDepth 100000

theorem and31 (t : UInt8) : bits .and .u8 (t.toNat : Int) 31 = ((t &&& 31).toNat : Int) := u8_and_nat t.toNat 31 t.toNat_lt (by omega)
theorem and31_eq (t : UInt8) : ((((t &&& 31).toNat : Nat) : Int) == 31) = decide (t &&& 31 = 31) := by
  rw [Bool.eq_iff_iff, beq_iff_eq, decide_eq_true_eq, ← UInt8.toNat_inj, show (31 : UInt8).toNat = 31 from rfl]
  omega
theorem and31_ex (t : UInt8) : ∃ z : Int, bits .and .u8 (t.toNat : Int) 31 = z ∧ (z == 31) = decide (t &&& 31 = 31) := ⟨_, and31 t, and31_eq t⟩
theorem i64_and16 (a : Int) : bits .and .i64 a 65535 = a % 65536 := by
  show IntKind.i64.wrap (((BitVec.ofInt 64 a &&& BitVec.ofInt 64 65535).toNat : Nat) : Int) = _
  rw [BitVec.toNat_and, show (BitVec.ofInt 64 65535).toNat = 2 ^ 16 - 1 by decide, Nat.and_two_pow_sub_one_eq_mod, BitVec.toNat_ofInt]
  have : 0 ≤ a % 18446744073709551616 := Int.emod_nonneg _ (by omega)
  have h2 : ((a % ((2 ^ 64 : Nat) : Int)).toNat : Int) = a % 18446744073709551616 := by
    rw [Int.toNat_of_nonneg (by exact this)]; rfl
  have h3 : (((a % ((2 ^ 64 : Nat) : Int)).toNat % 2 ^ 16 : Nat) : Int) = a % 65536 := by
    rw [Int.natCast_emod, h2]; omega
  rw [h3, IntKind.wrap_i64]
  omega
theorem list_beq (l : List UInt8) : (l == l) = true := by simp

end Go.Proofs.Ytoockogceobfgaa
namespace Go.Proofs.Ytoockogceobfgaa
open Go.RowKit
set_option maxRecDepth 100000

/-- Bytes as a number that may be below nought. -/
def sval (l : List UInt8) : Int := (uval l : Int) - (if 128 ≤ (l.getD 0 0).toNat then ((2 ^ (8 * l.length) : Nat) : Int) else 0)
theorem getD_snoc (l : List UInt8) (c : UInt8) (h : l ≠ []) : (l ++ [c]).getD 0 0 = l.getD 0 0 := by
  cases l with
  | nil => exact absurd rfl h
  | cons a l => rfl
theorem pow_next (k : Nat) : 2 ^ (8 * (k + 1)) = 2 ^ (8 * k) * 256 := by
  rw [show 8 * (k + 1) = 8 * k + 8 by omega, Nat.pow_add]
theorem sval_snoc (l : List UInt8) (c : UInt8) (h : l ≠ []) : sval (l ++ [c]) = sval l * 256 + c.toNat := by
  unfold sval
  rw [getD_snoc l c h, uval_snoc, List.length_append, List.length_singleton, pow_next]
  generalize 2 ^ (8 * l.length) = P
  generalize uval l = u
  split <;> omega
theorem sval_bd {l : List UInt8} (h : l ≠ []) : -((2 ^ (8 * l.length) : Nat) : Int) ≤ 2 * sval l ∧ 2 * sval l < ((2 ^ (8 * l.length) : Nat) : Int) := by
  cases l with
  | nil => exact absurd rfl h
  | cons c l =>
    unfold sval
    have h1 := uval_lt l
    have h2 := c.toNat_lt
    have e : (c :: l).getD 0 0 = c := rfl
    rw [e, uval_cons, List.length_cons, pow_next]
    generalize 2 ^ (8 * l.length) = P at *
    generalize uval l = u at *
    generalize c.toNat = d at *
    by_cases h3 : 128 ≤ d
    · rw [if_pos h3]
      have h4 := Nat.mul_le_mul_right P h3
      have h5 := Nat.mul_le_mul_right P (show d ≤ 255 by omega)
      generalize d * P = q at *
      omega
    · rw [if_neg h3]
      have h5 := Nat.mul_le_mul_right P (show d ≤ 127 by omega)
      generalize d * P = q at *
      omega
theorem sval_bd8 {l : List UInt8} (h : l ≠ []) (k : Nat) (hk : l.length ≤ k) : -((2 ^ (8 * k) : Nat) : Int) ≤ 2 * sval l ∧ 2 * sval l < ((2 ^ (8 * k) : Nat) : Int) := by
  have h1 := sval_bd h
  have h2 : 2 ^ (8 * l.length) ≤ 2 ^ (8 * k) := Nat.pow_le_pow_right (by omega) (by omega)
  omega
theorem i64_or_in (m : Int) (c : Nat) (h0 : -36028797018963968 ≤ m) (h1 : m < 36028797018963968) (hc : c < 256) : bits .or .i64 (m * 256) (c : Int) = m * 256 + c := by
  have h := i64_or_byte m c hc
  rw [IntKind.wrap_i64, IntKind.wrap_i64] at h
  have e1 : (m * 256 + 9223372036854775808) % 18446744073709551616 - 9223372036854775808 = m * 256 := by omega
  rw [e1] at h
  rw [h]; omega
theorem i8_byte (b : Nat) (h : b < 256) : IntKind.i8.wrap (b : Int) = if b < 128 then (b : Int) else (b : Int) - 256 := by
  have all : ∀ b : Fin 256, IntKind.i8.wrap (b.val : Int) = if b.val < 128 then (b.val : Int) else (b.val : Int) - 256 := by decide +kernel
  exact all ⟨b, h⟩
/-- FromInt's answer. -/
def frm (l : List UInt8) : Int × Nat := if l.length < 1 ∨ 8 < l.length then (0, 3) else (sval l, 0)

set_option maxHeartbeats 1000000 in
theorem from_any {w : World} {S : Nat → Prop} {v : Value} {l : List UInt8} (h : Bs w S v l) :
    Calls Try.prog 78 #[v] w fun e w' => e = .returned (.tuple #[.int .i64 (frm l).1, .int .i64 ((frm l).2 : Nat)]) ∧ w' = w := by
  obtain ⟨o, ho⟩ : ∃ o, o = frm l := ⟨_, rfl⟩
  rw [← ho]
  unfold frm at ho
  obtain ⟨A, c, rfl, h1, h2, h3, h4⟩ := h.open_
  clear h
  by_cases e0 : l.length < 1
  · rw [if_pos (.inl e0)] at ho
    subst ho
    go_enter Try.func78, Try.ntmps78
    go_wp2_with fail
    go_ret2
    exact ⟨rfl, rfl⟩
  by_cases e1 : 8 < l.length
  · rw [if_pos (.inr e1)] at ho
    subst ho
    go_enter Try.func78, Try.ntmps78
    go_wp2_with fail
    go_ret2
    exact ⟨rfl, rfl⟩
  rw [if_neg (by omega)] at ho
  obtain ⟨ad, hA, hB, hc0⟩ := h4.byte (k := 0) (by omega)
  subst hA
  rw [show ad.add 0 = ad by simp [Addr.add]] at hc0
  have hcell : ∀ j, (hj : j + 1 < l.length) → w.cell? ⟨ad.block, ad.off + 1 + j, none⟩ = some (.int .u8 (l[j + 1].toNat : Int)) := fun j hj => by
    obtain ⟨ad9, hA9, hB9, hc9⟩ := h4.byte (k := j + 1) (by omega)
    injection hA9 with hA9
    subst hA9
    rw [show (⟨ad.block, ad.off + 1 + j, none⟩ : Addr) = ad.add (j + 1) by simp [Addr.add]; omega, hc9]
  have hs1 : sval (l.take 1) = if l[0].toNat < 128 then (l[0].toNat : Int) else (l[0].toNat : Int) - 256 := by
    have : l.take 1 = [l[0]] := by rw [List.take_succ_eq_append_getElem (by omega)]; simp
    rw [this]
    unfold sval
    have e : ([l[0]] : List UInt8).getD 0 0 = l[0] := rfl
    rw [e, uval_cons]
    simp only [List.length_nil, uval, List.foldl_nil, List.length_cons]
    split <;> split <;> omega
  have hb0 := l[0].toNat_lt
  have hpos : 0 < l.length := by omega
  generalize l[0].toNat = b0 at *
  clear e0 h4
  obtain ⟨s0, hs0⟩ : ∃ s0, s0 = sval (l.take 1) := ⟨_, rfl⟩
  have hb1 : b0 < 256 := hb0
  have hw8 : IntKind.i8.wrap (b0 : Int) = s0 := by
    rw [hs0, hs1]
    exact i8_byte b0 hb1
  have hs2 : -128 ≤ s0 ∧ s0 < 128 := by
    rw [hs0, hs1]; split <;> omega
  have hw64 : wrap64 s0 = s0 := by unfold wrap64; omega
  replace hs0 := Lib.hid hs0
  clear hs1 hs2
  by_cases hcap : c = 1
  · have hl1 : l.length = 1 := by omega
    rw [hl1]
    subst hcap
    have hsv : sval l = s0 := by rw [hs0.out, List.take_of_length_le (by omega)]
    clear hcell hpos e1 hl1 h1
    subst ho
    go_enter Try.func78, Try.ntmps78
    go_wp2_with fail
    go_loop [4, 23] (fun n i => n = .int .i64 s0 ∧ i = .int .i64 0) (fun _ _ => 0)
    case atStart => exact ⟨by first | rfl | rw [hw64], rfl⟩
    case round =>
      obtain ⟨rfl, rfl⟩ := hrel
      go_wp2_with fail
      go_ret2
      exact ⟨by first | rfl | rw [hsv], rfl⟩
  go_enter Try.func78, Try.ntmps78
  go_wp2_with fail
  go_loop [4, 23] (fun n i => ∃ j : Nat, j + 1 ≤ l.length ∧ i = .int .i64 j ∧ n = .int .i64 (sval (l.take (j + 1)))) (fun _ i => l.length - (intOf i).toNat)
  case atStart => exact ⟨0, by omega, rfl, by rw [hw64, hs0.out]⟩
  case round =>
    obtain ⟨j, hj, rfl, rfl⟩ := hrel
    by_cases hlt : j + 1 < l.length
    · have hc9 := hcell j hlt
      have hne : l.take (j + 1) ≠ [] := by intro h; have := congrArg List.length h; simp at this; subst this; simp at hpos
      have hsn : sval (l.take (j + 1 + 1)) = sval (l.take (j + 1)) * 256 + l[j + 1].toNat := by
        rw [List.take_succ_eq_append_getElem hlt, sval_snoc _ _ hne]
      have hbd := sval_bd8 hne 7 (by rw [List.length_take]; omega)
      have hb := l[j + 1].toNat_lt
      replace hsn := Lib.hid hsn
      rw [show ((2 ^ (8 * 7) : Nat) : Int) = 72057594037927936 by decide] at hbd
      generalize l[j + 1].toNat = b at *
      generalize sval (l.take (j + 1)) = u at *
      have hor := i64_or_in u b (by omega) (by omega) (by omega)
      have hu0 : -36028797018963968 ≤ u := by omega
      have hu1 : u < 36028797018963968 := by omega
      have hjl : j < l.length - 1 := by omega
      clear hcell hbd hne
      go_wp2_with fail
      exact ⟨⟨j + 1, by omega, by go_num, by rw [hsn.out]⟩, by simp [intOf] <;> omega⟩
    · rw [List.take_of_length_le (by omega)]
      have hjl : ¬ j < l.length - 1 := by omega
      clear hcell
      go_wp2_with fail
      go_ret2
      subst ho
      exact ⟨rfl, rfl⟩
end Go.Proofs.Ytoockogceobfgaa
namespace Go.Proofs.Ytoockogceobfgaa
open Go.RowKit
set_option maxRecDepth 100000

theorem fits_of {a : Int} {j : Nat} (h1j : 1 ≤ j) (hj8 : j ≤ 8) (h0 : -((2 ^ (8 * j) : Nat) : Int) ≤ 2 * a) (h1 : 2 * a < ((2 ^ (8 * j) : Nat) : Int)) : FitsI a j := by
  obtain rfl | rfl | rfl | rfl | rfl | rfl | rfl | rfl : j = 1 ∨ j = 2 ∨ j = 3 ∨ j = 4 ∨ j = 5 ∨ j = 6 ∨ j = 7 ∨ j = 8 := by omega
  · have e1 : (2 : Int) ^ (8 * 1 - 1) = 128 := by decide
    have e2 : 2 ^ (8 * 1) = 256 := by decide
    unfold FitsI
    rw [e1]
    rw [e2] at h0 h1
    omega
  · have e1 : (2 : Int) ^ (8 * 2 - 1) = 32768 := by decide
    have e2 : 2 ^ (8 * 2) = 65536 := by decide
    unfold FitsI
    rw [e1]
    rw [e2] at h0 h1
    omega
  · have e1 : (2 : Int) ^ (8 * 3 - 1) = 8388608 := by decide
    have e2 : 2 ^ (8 * 3) = 16777216 := by decide
    unfold FitsI
    rw [e1]
    rw [e2] at h0 h1
    omega
  · have e1 : (2 : Int) ^ (8 * 4 - 1) = 2147483648 := by decide
    have e2 : 2 ^ (8 * 4) = 4294967296 := by decide
    unfold FitsI
    rw [e1]
    rw [e2] at h0 h1
    omega
  · have e1 : (2 : Int) ^ (8 * 5 - 1) = 549755813888 := by decide
    have e2 : 2 ^ (8 * 5) = 1099511627776 := by decide
    unfold FitsI
    rw [e1]
    rw [e2] at h0 h1
    omega
  · have e1 : (2 : Int) ^ (8 * 6 - 1) = 140737488355328 := by decide
    have e2 : 2 ^ (8 * 6) = 281474976710656 := by decide
    unfold FitsI
    rw [e1]
    rw [e2] at h0 h1
    omega
  · have e1 : (2 : Int) ^ (8 * 7 - 1) = 36028797018963968 := by decide
    have e2 : 2 ^ (8 * 7) = 72057594037927936 := by decide
    unfold FitsI
    rw [e1]
    rw [e2] at h0 h1
    omega
  · exact fits8 a
theorem fits1 {a : Int} (h : FitsI a 1) (h0 : -9223372036854775808 ≤ a) (h1 : a ≤ 9223372036854775807) : -128 ≤ a ∧ a ≤ 127 := by
  unfold FitsI at h
  rw [show (2 : Int) ^ (8 * 1 - 1) = 128 by decide] at h
  omega

end Go.Proofs.Ytoockogceobfgaa
namespace Go.Proofs.Ytoockogceobfgaa
open Go.RowKit
set_option maxRecDepth 100000

def fbo (l : List UInt8) : Bool × Nat := if l.length = 1 then (decide (l.getD 0 0 ≠ 0), 0) else (false, 3)
theorem fromb_any {w : World} {S : Nat → Prop} {v : Value} {l : List UInt8} (h : Bs w S v l) :
    Calls Try.prog 111 #[v] w fun e w' => e = .returned (.tuple #[.bool (fbo l).1, .int .i64 ((fbo l).2 : Nat)]) ∧ w' = w := by
  obtain ⟨o, ho⟩ : ∃ o, o = fbo l := ⟨_, rfl⟩
  rw [← ho]
  unfold fbo at ho
  obtain ⟨A, c, rfl, h1, h2, h3, h4⟩ := h.open_
  clear h
  by_cases e0 : l.length = 1
  · rw [if_pos e0] at ho
    obtain ⟨ad, hA, hB, hc0⟩ := h4.byte (k := 0) (by omega)
    subst hA
    rw [show ad.add 0 = ad by simp [Addr.add]] at hc0
    rw [show l.getD 0 0 = l[0] by rw [List.getD_eq_getElem?_getD, List.getElem?_eq_getElem (by omega)]; rfl] at ho
    have hb : ((l.length : Int) != 1) = false := by rw [e0]; rfl
    have hi0 : 0 < l.length := by omega
    generalize l[0] = b0 at *
    have hb0 : ((b0.toNat : Int) != 0) = decide (b0 ≠ 0) := by
      rw [Bool.eq_iff_iff, bne_iff_ne, decide_eq_true_eq, ne_eq, ne_eq, ← UInt8.toNat_inj, show (0 : UInt8).toNat = 0 from rfl]; omega
    generalize decide (b0 ≠ 0) = q at *
    generalize b0.toNat = b at *
    subst ho
    clear e0
    go_enter Try.func111, Try.ntmps111
    go_wp2_with fail
    go_ret2
    exact ⟨rfl, rfl⟩
  · rw [if_neg e0] at ho
    have hb : ((l.length : Int) != 1) = true := by rw [bne_iff_ne]; omega
    subst ho
    go_enter Try.func111, Try.ntmps111
    go_wp2_with fail
    go_ret2
    exact ⟨rfl, rfl⟩
theorem bool_any {w : World} (q : Bool) : Calls Try.prog 99 #[.bool q] w fun e w' => ∃ v', e = .returned v' ∧ Bs w' (fun _ => True) v' [if q then 255 else 0] ∧ Ext w w' := by
  have h1 : Bs (w.alloc (.cells #[.int .u8 255] 5)) (fun _ => True) (.slice (some ⟨w.heap.size, 0, none⟩) 1 1) [255] := (Bs.lit w 5 [255] (by simp [maxLen])).mono (fun _ _ _ => trivial)
  have h2 : Bs (w.alloc (.cells #[.int .u8 0] 5)) (fun _ => True) (.slice (some ⟨w.heap.size, 0, none⟩) 1 1) [0] := (Bs.lit w 5 [0] (by simp [maxLen])).mono (fun _ _ _ => trivial)
  cases q
  · go_enter Try.func99, Try.ntmps99
    go_wp2_with fail
    go_ret
    exact ⟨_, rfl, h2, (Mod.refl _ _).alloc _⟩
  · go_enter Try.func99, Try.ntmps99
    go_wp2_with fail
    go_ret
    exact ⟨_, rfl, h1, (Mod.refl _ _).alloc _⟩

theorem u64_or_byte (m : Int) (c : Nat) (hc : c < 256) : bits .or .u64 (IntKind.u64.wrap (m * 256)) (IntKind.u64.wrap (c : Int)) = (m * 256 + c) % 18446744073709551616 := by
  show IntKind.u64.wrap (((BitVec.ofInt 64 (IntKind.u64.wrap (m * 256)) ||| BitVec.ofInt 64 (IntKind.u64.wrap (c : Int))).toNat : Nat) : Int) = _
  have h1 : (BitVec.ofInt 64 (IntKind.u64.wrap (m * 256))).toNat = 2 ^ 8 * (m % 72057594037927936).toNat := by
    rw [BitVec.toNat_ofInt, IntKind.wrap_u64]
    have : 0 ≤ m % 72057594037927936 := Int.emod_nonneg _ (by omega)
    omega
  have h2 : (BitVec.ofInt 64 (IntKind.u64.wrap (c : Int))).toNat = c := by
    rw [BitVec.toNat_ofInt, IntKind.wrap_u64]; omega
  rw [BitVec.toNat_or, h1, h2, ← Nat.two_pow_add_eq_or_of_lt (by omega), IntKind.wrap_u64]
  have : 0 ≤ m % 72057594037927936 := Int.emod_nonneg _ (by omega)
  have h3 : ((2 ^ 8 * (m % 72057594037927936).toNat + c : Nat) : Int) = 256 * (m % 72057594037927936) + c := by
    rw [Int.natCast_add, Int.natCast_mul, Int.toNat_of_nonneg this]; rfl
  rw [h3]
  omega
set_option maxHeartbeats 1000000 in
theorem rfrom_any {w : World} {S : Nat → Prop} {v : Value} {l : List UInt8} (h : Bs w S v l) :
    Calls Try.prog 68 #[v] w fun e w' => e = .returned (.tuple #[.int .i64 (frm l).1, .int .i64 ((frm l).2 : Nat)]) ∧ w' = w := by
  obtain ⟨o, ho⟩ : ∃ o, o = frm l := ⟨_, rfl⟩
  rw [← ho]
  unfold frm at ho
  obtain ⟨A, c, rfl, h1, h2, h3, h4⟩ := h.open_
  clear h
  by_cases e0 : l.length < 1
  · rw [if_pos (.inl e0)] at ho
    subst ho
    go_enter Try.func68, Try.ntmps68
    go_wp2_with fail
    go_ret2
    exact ⟨rfl, rfl⟩
  by_cases e1 : 8 < l.length
  · rw [if_pos (.inr e1)] at ho
    subst ho
    go_enter Try.func68, Try.ntmps68
    go_wp2_with fail
    go_ret2
    exact ⟨rfl, rfl⟩
  rw [if_neg (by omega)] at ho
  obtain ⟨ad, hA, hB, hc0⟩ := h4.byte (k := 0) (by omega)
  subst hA
  rw [show ad.add 0 = ad by simp [Addr.add]] at hc0
  have hcell : ∀ j, (hj : j < l.length) → w.cell? (ad.add j) = some (.int .u8 (l[j].toNat : Int)) := fun j hj => by
    obtain ⟨ad9, hA9, hB9, hc9⟩ := h4.byte (k := j) hj
    injection hA9 with hA9
    subst hA9
    exact hc9
  have hb0 := l[0].toNat_lt
  have hpos : 0 < l.length := by omega
  have hg0 : (l.getD 0 0).toNat = l[0].toNat := by rw [List.getD_eq_getElem?_getD, List.getElem?_eq_getElem (by omega)]; rfl
  generalize l[0].toNat = b0 at *
  clear e0 h4
  by_cases hn : 127 < b0
  · skip
    go_enter Try.func68, Try.ntmps68
    go_wp2_with fail
    go_loop [4, 5] (fun n i => ∃ j : Nat, j ≤ l.length ∧ i = .int .i64 j ∧ n = .int .u64 (((uval (l.take j) : Int) - ((2 ^ (8 * j) : Nat) : Int)) % 18446744073709551616)) (fun _ i => l.length - (intOf i).toNat)
    case atStart => exact ⟨0, Nat.zero_le _, rfl, by simp [uval]⟩
    case round =>
      obtain ⟨j, hj, rfl, rfl⟩ := hrel
      by_cases hlt : j < l.length
      · have hc9 := hcell j hlt
        have hX : ((uval (l.take (j + 1)) : Int) - ((2 ^ (8 * (j + 1)) : Nat) : Int)) = ((uval (l.take j) : Int) - ((2 ^ (8 * j) : Nat) : Int)) * 256 + l[j].toNat := by
          rw [List.take_succ_eq_append_getElem hlt, uval_snoc, pow_next]; omega
        have hb := l[j].toNat_lt
        generalize ((uval (l.take j) : Int) - ((2 ^ (8 * j) : Nat) : Int)) = X at *
        replace hX := Lib.hid hX
        generalize l[j].toNat = b at *
        have hor := u64_or_byte (X % 18446744073709551616) b hb
        rw [show IntKind.u64.wrap (b : Int) = (b : Int) by rw [IntKind.wrap_u64]; omega] at hor
        clear hcell
        obtain ⟨u, hu⟩ : ∃ u, u = X % 18446744073709551616 := ⟨_, rfl⟩
        rw [← hu] at hor ⊢
        replace hu := Lib.hid hu
        go_wp2_with fail
        exact ⟨⟨j + 1, by omega, by go_num, by rw [hX.out]; first | (congr 1; rw [hu.out]; omega) | (rw [hor]; congr 1; rw [hu.out]; omega)⟩, by simp [intOf] <;> omega⟩
      · obtain rfl : j = l.length := by omega
        have hwr : wrap64 (((uval (l.take l.length) : Int) - ((2 ^ (8 * l.length) : Nat) : Int)) % 18446744073709551616) = sval l := by
          have hs : sval l = ((uval (l.take l.length) : Int) - ((2 ^ (8 * l.length) : Nat) : Int)) := by rw [List.take_of_length_le (Nat.le_refl _)]; unfold sval; rw [hg0, if_pos (by omega)]
          have hbd := sval_bd8 (l := l) (by rintro rfl; simp at hpos) 8 (by omega)
          rw [show ((2 ^ (8 * 8) : Nat) : Int) = 18446744073709551616 by decide] at hbd
          rw [← hs]
          unfold wrap64
          omega
        generalize ((uval (l.take l.length) : Int) - ((2 ^ (8 * l.length) : Nat) : Int)) % 18446744073709551616 = u at *
        clear hcell hg0
        subst ho
        go_wp2_with fail
        go_ret2
        exact ⟨by first | rfl | rw [hwr], rfl⟩
  · skip
    go_enter Try.func68, Try.ntmps68
    go_wp2_with fail
    go_loop [4, 5] (fun n i => ∃ j : Nat, j ≤ l.length ∧ i = .int .i64 j ∧ n = .int .u64 ((uval (l.take j) : Int) % 18446744073709551616)) (fun _ i => l.length - (intOf i).toNat)
    case atStart => exact ⟨0, Nat.zero_le _, rfl, by simp [uval]⟩
    case round =>
      obtain ⟨j, hj, rfl, rfl⟩ := hrel
      by_cases hlt : j < l.length
      · have hc9 := hcell j hlt
        have hX : (uval (l.take (j + 1)) : Int) = (uval (l.take j) : Int) * 256 + l[j].toNat := by
          rw [List.take_succ_eq_append_getElem hlt, uval_snoc]; omega
        have hb := l[j].toNat_lt
        generalize (uval (l.take j) : Int) = X at *
        replace hX := Lib.hid hX
        generalize l[j].toNat = b at *
        have hor := u64_or_byte (X % 18446744073709551616) b hb
        rw [show IntKind.u64.wrap (b : Int) = (b : Int) by rw [IntKind.wrap_u64]; omega] at hor
        clear hcell
        obtain ⟨u, hu⟩ : ∃ u, u = X % 18446744073709551616 := ⟨_, rfl⟩
        rw [← hu] at hor ⊢
        replace hu := Lib.hid hu
        go_wp2_with fail
        exact ⟨⟨j + 1, by omega, by go_num, by rw [hX.out]; first | (congr 1; rw [hu.out]; omega) | (rw [hor]; congr 1; rw [hu.out]; omega)⟩, by simp [intOf] <;> omega⟩
      · obtain rfl : j = l.length := by omega
        have hwr : wrap64 ((uval (l.take l.length) : Int) % 18446744073709551616) = sval l := by
          have hs : sval l = (uval (l.take l.length) : Int) := by rw [List.take_of_length_le (Nat.le_refl _)]; unfold sval; rw [hg0, if_neg (by omega), Int.sub_zero]
          have hbd := sval_bd8 (l := l) (by rintro rfl; simp at hpos) 8 (by omega)
          rw [show ((2 ^ (8 * 8) : Nat) : Int) = 18446744073709551616 by decide] at hbd
          rw [← hs]
          unfold wrap64
          omega
        generalize (uval (l.take l.length) : Int) % 18446744073709551616 = u at *
        clear hcell hg0
        subst ho
        go_wp2_with fail
        go_ret2
        exact ⟨by first | rfl | rw [hwr], rfl⟩
end Go.Proofs.Ytoockogceobfgaa
namespace Go.Proofs.Ytoockogceobfgaa
open Go.RowKit
set_option maxRecDepth 100000

theorem div_next (n : Int) (j : Nat) : n / 2 ^ (8 * j) / 256 = n / 2 ^ (8 * (j + 1)) := by
  have h5 : (2 : Int) ^ (8 * (j + 1)) = 2 ^ (8 * j) * 256 := by rw [show 8 * (j + 1) = 8 * j + 8 by omega, Int.pow_add]; rfl
  rw [Int.ediv_ediv_of_nonneg (Int.pow_nonneg (by omega)), h5]
theorem fits_next {n : Int} (h0 : -9223372036854775808 ≤ n) (h1 : n ≤ 9223372036854775807) (j : Nat) :
    FitsI n (j + 1) ↔ (n / 2 ^ (8 * j) / 256 = 0 ∧ (bt n j).toNat / 128 = 0) ∨ (n / 2 ^ (8 * j) / 256 = -1 ∧ (bt n j).toNat / 128 = 1) := by
  have hy : n / 2 ^ (8 * j) / 128 = n / 2 ^ (8 * (j + 1) - 1) := by
    have h5 : (2 : Int) ^ (8 * (j + 1) - 1) = 2 ^ (8 * j) * 128 := by rw [show 8 * (j + 1) - 1 = 8 * j + 7 by omega, Int.pow_add]; rfl
    rw [Int.ediv_ediv_of_nonneg (Int.pow_nonneg (by omega)), h5]
  have hs : 0 ≤ n / 2 ^ (8 * j) ↔ 0 ≤ n := Int.ediv_nonneg_iff_of_pos (Int.pow_pos (by omega))
  have hb := bt_val n j
  unfold FitsI
  rw [← hy]
  generalize n / 2 ^ (8 * j) = x at *
  generalize (bt n j).toNat = c at *
  omega

/-- How long a slice is. -/
def slen : Value → Nat
  | .slice _ n _ => n
  | _ => 0
theorem own_some {w : World} {e : TypeId} {v : Value} {xs : List Value} (h : Own w e v xs) (hne : xs ≠ []) : ∃ g cap, v = .slice (some ⟨g, 0, none⟩) xs.length cap ∧ xs.length ≤ cap ∧ cap ≤ 9223372036854775807 ∧ g < w.heap.size := by
  rcases h.form with ⟨_, h⟩ | ⟨g, cap, h, h2, h3, h4⟩
  · exact absurd h hne
  · exact ⟨g, cap, h, h2, by simpa [maxLen] using h3, h4⟩

set_option maxHeartbeats 1000000 in
theorem rint_any {w : World} (n : Int) (h0 : -9223372036854775808 ≤ n) (h1 : n ≤ 9223372036854775807) :
    Calls Try.prog 57 #[.int .i64 n] w fun e w' => ∃ k v', e = .returned v' ∧ IsW n k ∧ Own w' 5 v' ((bes n k).map bv) ∧ Fresh w.heap.size v' ∧ Ext w w' := by
  go_enter Try.func57, Try.ntmps57
  go_wp2_with fail
  go_loopw [0, 3] (fun m v wr => ∃ j : Nat, j ≤ 7 ∧ m = .int .i64 (n / 2 ^ (8 * j)) ∧ Own wr 5 v ((bes n j).map bv) ∧ Fresh w.heap.size v ∧ Ext w wr ∧ Hid (j = 0 ∨ ¬ FitsI n j)) (fun _ v _ => 8 - slen v)
  case atStart => exact ⟨0, by omega, by simp, Own.nil _ _, fresh_nil _ _ _, Mod.refl _ _, Lib.hid (.inl rfl)⟩
  case round =>
    obtain ⟨j, hj, rfl, p0, p1, p2, pf⟩ := hrel
    have hfn := fits_next h0 h1 j
    have hdn := div_next n j
    have hbt := bt_val n j
    have hc := (bt n j).toNat_lt
    have hxr : -9223372036854775808 ≤ n / 2 ^ (8 * j) ∧ n / 2 ^ (8 * j) ≤ 9223372036854775807 := by
      have hP : (0 : Int) < 2 ^ (8 * j) := Int.pow_pos (by omega)
      constructor
      · exact Int.le_ediv_of_mul_le hP (by
          have : (1 : Int) ≤ 2 ^ (8 * j) := hP
          have h9 : (-9223372036854775808 : Int) * 2 ^ (8 * j) ≤ -9223372036854775808 * 1 := by omega
          omega)
      · refine Int.ediv_le_of_le_mul hP ?_
        have : (1 : Int) ≤ 2 ^ (8 * j) := hP
        have h9 : (9223372036854775807 : Int) * 1 ≤ 9223372036854775807 * 2 ^ (8 * j) := Int.mul_le_mul_of_nonneg_left this (by omega)
        omega
    have hbs : bes n (j + 1) = bt n j :: bes n j := rfl
    generalize n / 2 ^ (8 * j) = x at *
    obtain ⟨A, c, rfl⟩ := p0.shape
    rw [List.length_map, bes_len] at p0 p1 ⊢
    have hlit := Own.lit wr 5 [.int .u8 (x % 256)] (by simp [maxLen])
    have hfl : Fresh w.heap.size (.slice (some ⟨wr.heap.size, 0, none⟩) 1 1) := fun q hk => by have : wr.heap.size = q := Option.some.inj hk; have := p2.size; omega
    have hsl := (p0.alloc (.cells [.int .u8 (x % 256)].toArray 5)).sl
    have hn1 : (([.int .u8 (x % 256)] : List Value).length + ((bes n j).map bv).length) * 1 ≤ 140737488355328 := by rw [List.length_map, bes_len]; simp; omega
    replace hn1 := Lib.hid hn1
    replace hfn := Lib.hid hfn
    replace hdn := Lib.hid hdn
    replace hbs := Lib.hid hbs
    have hbv : (.int .u8 (x % 256) : Value) = bv (bt n j) := by show _ = Value.int .u8 ((bt n j).toNat : Int); rw [hbt]
    replace hbv := Lib.hid hbv
    replace hbt := Lib.hid hbt
    have hc3 : ((bt n j).toNat : Int) / 128 = 0 ∨ ((bt n j).toNat : Int) / 128 = 1 := by omega
    have hf9 := hfn.out
    by_cases hF : FitsI n (j + 1)
    · have hw : Hid (IsW n (j + 1)) := Lib.hid ⟨by omega, by omega, hF, by
        rcases pf.out with h | h
        · exact .inl (by omega)
        · exact .inr (by simpa using h)⟩
      replace hf9 := hf9.1 hF
      rcases hf9 with ⟨e1, e2⟩ | ⟨e1, e2⟩
      · have e3 : ((bt n j).toNat : Int) / 128 = 0 := by omega
        clear e2 hc3 hF
        rw [show x % 256 = x by omega] at hlit hsl hn1 hbv
        go_wp2_with ((with_reducible show wpList _ _ _ (⟨some 9, _, _, _, _, _⟩ :: _) _ _); refine wp_app tyB hlit hsl (bv_one _) rfl (.tmp 7) (.tmp 8) rfl rfl rfl hn1.out ?_; intro v2 w2 k1 k2 k3; rw [hbv.out] at k1; replace k1 : Own w2 5 v2 ((bt n j :: bes n j).map bv) := k1; have hx2 := ext_app p2 hfl k2; have hf2 := (k3.sooner (B' := w.heap.size) (by have := p2.size; simp; omega)).fresh hfl (Nat.le_refl _); obtain ⟨g, cap, rfl, y1, y2, y3⟩ := own_some k1 (by simp); rw [List.length_map, List.length_cons, bes_len] at k1 hf2 y1 ⊢; have hc0 := k1.cellAt (j := 0) (by simp); simp only [List.map_cons, List.getElem_cons_zero] at hc0; clear k2 k3)
        go_ret
        exact ⟨j + 1, _, rfl, hw.out, by rw [hbs.out]; exact k1, hf2, hx2⟩
      · have e3 : ((bt n j).toNat : Int) / 128 = 1 := by omega
        clear e2 hc3 hF
        go_wp2_with ((with_reducible show wpList _ _ _ (⟨some 9, _, _, _, _, _⟩ :: _) _ _); refine wp_app tyB hlit hsl (bv_one _) rfl (.tmp 7) (.tmp 8) rfl rfl rfl hn1.out ?_; intro v2 w2 k1 k2 k3; rw [hbv.out] at k1; replace k1 : Own w2 5 v2 ((bt n j :: bes n j).map bv) := k1; have hx2 := ext_app p2 hfl k2; have hf2 := (k3.sooner (B' := w.heap.size) (by have := p2.size; simp; omega)).fresh hfl (Nat.le_refl _); obtain ⟨g, cap, rfl, y1, y2, y3⟩ := own_some k1 (by simp); rw [List.length_map, List.length_cons, bes_len] at k1 hf2 y1 ⊢; have hc0 := k1.cellAt (j := 0) (by simp); simp only [List.map_cons, List.getElem_cons_zero] at hc0; clear k2 k3)
        go_ret
        exact ⟨j + 1, _, rfl, hw.out, by rw [hbs.out]; exact k1, hf2, hx2⟩
    · have hj6 : j + 1 ≤ 7 := by
        rcases Nat.lt_or_ge j 7 with h | h
        · omega
        · obtain rfl : j = 7 := by omega
          exact absurd (fits8 n) hF
      have hf8 : ¬ ((x / 256 = 0 ∧ (bt n j).toNat / 128 = 0) ∨ (x / 256 = -1 ∧ (bt n j).toNat / 128 = 1)) := fun h => hF (hf9.2 h)
      clear hf9
      replace hF := Lib.hid hF
      have hq3 : (x / 256 = 0 ∧ ((bt n j).toNat : Int) / 128 = 1) ∨ (x / 256 = -1 ∧ ((bt n j).toNat : Int) / 128 = 0) ∨ (¬ x / 256 = 0 ∧ ¬ x / 256 = -1) := by omega
      clear hf8 hc3
      rcases hq3 with ⟨e1, e3⟩ | ⟨e1, e3⟩ | ⟨e1, e3⟩
      · rw [show x % 256 = x by omega] at hlit hsl hn1 hbv
        go_wp2_with ((with_reducible show wpList _ _ _ (⟨some 9, _, _, _, _, _⟩ :: _) _ _); refine wp_app tyB hlit hsl (bv_one _) rfl (.tmp 7) (.tmp 8) rfl rfl rfl hn1.out ?_; intro v2 w2 k1 k2 k3; rw [hbv.out] at k1; replace k1 : Own w2 5 v2 ((bt n j :: bes n j).map bv) := k1; have hx2 := ext_app p2 hfl k2; have hf2 := (k3.sooner (B' := w.heap.size) (by have := p2.size; simp; omega)).fresh hfl (Nat.le_refl _); obtain ⟨g, cap, rfl, y1, y2, y3⟩ := own_some k1 (by simp); rw [List.length_map, List.length_cons, bes_len] at k1 hf2 y1 ⊢; have hc0 := k1.cellAt (j := 0) (by simp); simp only [List.map_cons, List.getElem_cons_zero] at hc0; clear k2 k3)
        exact ⟨⟨j + 1, by omega, by first | (rw [← hdn.out, e1]; done) | rw [← hdn.out], by rw [hbs.out]; exact k1, hf2, hx2, Lib.hid (.inr hF.out)⟩, by simp only [slen]; omega⟩
      · skip
        go_wp2_with ((with_reducible show wpList _ _ _ (⟨some 9, _, _, _, _, _⟩ :: _) _ _); refine wp_app tyB hlit hsl (bv_one _) rfl (.tmp 7) (.tmp 8) rfl rfl rfl hn1.out ?_; intro v2 w2 k1 k2 k3; rw [hbv.out] at k1; replace k1 : Own w2 5 v2 ((bt n j :: bes n j).map bv) := k1; have hx2 := ext_app p2 hfl k2; have hf2 := (k3.sooner (B' := w.heap.size) (by have := p2.size; simp; omega)).fresh hfl (Nat.le_refl _); obtain ⟨g, cap, rfl, y1, y2, y3⟩ := own_some k1 (by simp); rw [List.length_map, List.length_cons, bes_len] at k1 hf2 y1 ⊢; have hc0 := k1.cellAt (j := 0) (by simp); simp only [List.map_cons, List.getElem_cons_zero] at hc0; clear k2 k3)
        exact ⟨⟨j + 1, by omega, by first | (rw [← hdn.out, e1]; done) | rw [← hdn.out], by rw [hbs.out]; exact k1, hf2, hx2, Lib.hid (.inr hF.out)⟩, by simp only [slen]; omega⟩
      · have e4 : (x / 256 == 0) = false := by rw [beq_eq_false_iff_ne]; exact e1
        have e5 : (x / 256 == -1) = false := by rw [beq_eq_false_iff_ne]; exact e3
        go_wp2_with ((with_reducible show wpList _ _ _ (⟨some 9, _, _, _, _, _⟩ :: _) _ _); refine wp_app tyB hlit hsl (bv_one _) rfl (.tmp 7) (.tmp 8) rfl rfl rfl hn1.out ?_; intro v2 w2 k1 k2 k3; rw [hbv.out] at k1; replace k1 : Own w2 5 v2 ((bt n j :: bes n j).map bv) := k1; have hx2 := ext_app p2 hfl k2; have hf2 := (k3.sooner (B' := w.heap.size) (by have := p2.size; simp; omega)).fresh hfl (Nat.le_refl _); obtain ⟨g, cap, rfl, y1, y2, y3⟩ := own_some k1 (by simp); rw [List.length_map, List.length_cons, bes_len] at k1 hf2 y1 ⊢; have hc0 := k1.cellAt (j := 0) (by simp); simp only [List.map_cons, List.getElem_cons_zero] at hc0; clear k2 k3)
        exact ⟨⟨j + 1, by omega, by first | (rw [← hdn.out, e1]; done) | rw [← hdn.out], by rw [hbs.out]; exact k1, hf2, hx2, Lib.hid (.inr hF.out)⟩, by simp only [slen]; omega⟩
end Go.Proofs.Ytoockogceobfgaa
namespace Go.Proofs.Ytoockogceobfgaa
open Go.RowKit
set_option maxRecDepth 100000

set_option maxHeartbeats 2000000 in
theorem rlen_any {w : World} {n : Nat} (hn : n < 16777216) :
    Calls Try.prog 76 #[.int .i64 n] w fun e w' => ∃ v', e = .returned v' ∧ Own w' 5 v' ((lay n).map bv) ∧ Fresh w.heap.size v' ∧ Ext w w' := by
  by_cases h128 : n < 128
  · have hlay : lay n = [UInt8.ofNat n] := by unfold lay; rw [if_pos h128]
    rw [hlay]
    have hown := Own.lit w 5 [.int .u8 (n : Int)] (by simp [maxLen])
    have hbv := byte_of (n := n) (by omega)
    replace hbv := Lib.hid hbv
    go_enter Try.func76, Try.ntmps76
    go_wp2_with fail
    go_ret
    exact ⟨_, rfl, by rw [hbv.out] at hown ⊢; exact hown, (fun x hk => by have : w.heap.size = x := Option.some.inj hk; omega), (Mod.refl _ _).alloc _⟩
  · have hlay : lay n = UInt8.ofNat (128 + lw n) :: bes n (lw n) := by unfold lay; rw [if_neg h128]
    replace hlay := Lib.hid hlay
    go_enter Try.func76, Try.ntmps76
    go_wp2_with fail
    go_loopw [0, 3] (fun m v wr => ∃ j : Nat, j ≤ 3 ∧ m = .int .i64 ((n : Int) / 2 ^ (8 * j)) ∧ Own wr 5 v ((bes n j).map bv) ∧ Fresh w.heap.size v ∧ Ext w wr ∧ Hid (j = 0 ∨ 2 ^ (8 * (j - 1)) ≤ n)) (fun _ v _ => 4 - slen v)
    case atStart => exact ⟨0, by omega, by simp, Own.nil _ _, fresh_nil _ _ _, Mod.refl _ _, Lib.hid (.inl rfl)⟩
    case round =>
      obtain ⟨j, hj, rfl, p0, p1, p2, pf⟩ := hrel
      obtain ⟨A, c, rfl⟩ := p0.shape
      rw [List.length_map, bes_len] at p0 p1 ⊢
      have hd1 : ((n / 2 ^ (8 * j) : Nat) : Int) = (n : Int) / 2 ^ (8 * j) := by simp
      by_cases hlt : n < 2 ^ (8 * j)
      · have hx0 : (n : Int) / 2 ^ (8 * j) = 0 := by rw [← hd1, Nat.div_eq_of_lt hlt]; rfl
        rw [hx0]
        have hj1 : 1 ≤ j := by
          rcases Nat.eq_zero_or_pos j with h | h
          · subst h; simp at hlt; omega
          · exact h
        have hw : lw n = j := lw_of hj1 hlt (by rcases pf.out with h | h; exact .inl (by omega); exact .inr h) hj
        rw [hw] at hlay
        have hbv := byte_of (n := 128 + j) (by omega)
        rw [Int.natCast_add] at hbv
        replace hbv := Lib.hid hbv
        have hlit := Own.lit wr 5 [.int .u8 (128 + (j : Int))] (by simp [maxLen])
        have hfl : Fresh w.heap.size (.slice (some ⟨wr.heap.size, 0, none⟩) 1 1) := fun q hk => by have : wr.heap.size = q := Option.some.inj hk; have := p2.size; omega
        have hsl := (p0.alloc (.cells [.int .u8 (128 + (j : Int))].toArray 5)).sl
        have hn1 : (([.int .u8 (128 + (j : Int))] : List Value).length + ((bes n j).map bv).length) * 1 ≤ 140737488355328 := by rw [List.length_map, bes_len]; simp; omega
        replace hn1 := Lib.hid hn1
        clear hlt hd1 hx0 hw pf
        go_wp2_with ((with_reducible show wpList _ _ _ (⟨some 24, _, _, _, _, _⟩ :: _) _ _); refine wp_app tyB hlit hsl (bv_one _) rfl (.tmp 22) (.tmp 23) rfl rfl rfl hn1.out ?_; intro v2 w2 k1 k2 k3)
        go_ret
        refine ⟨_, rfl, ?_, (k3.sooner (B' := w.heap.size) (by have := p2.size; simp; omega)).fresh hfl (Nat.le_refl _), ext_app p2 hfl k2⟩
        rw [hlay.out, List.map_cons, ← hbv.out]
        exact k1
      · have hlt' : 2 ^ (8 * j) ≤ n := by omega
        have hj2 : j < 3 := by
          rcases Nat.lt_or_ge j 3 with h | h
          · exact h
          · obtain rfl : j = 3 := by omega
            have : 16777216 ≤ n := hlt'
            omega
        have hx1 : 1 ≤ n / 2 ^ (8 * j) := (Nat.le_div_iff_mul_le (Nat.two_pow_pos _)).2 (by omega)
        have hxn : n / 2 ^ (8 * j) ≤ n := Nat.div_le_self _ _
        have hdn := div_next n j
        have hbt := bt_val n j
        rw [← hd1] at hdn hbt ⊢
        generalize n / 2 ^ (8 * j) = x at *
        have hbs : bes n (j + 1) = bt n j :: bes n j := rfl
        have hbv : (.int .u8 ((x : Int) % 256) : Value) = bv (bt n j) := by show _ = Value.int .u8 ((bt n j).toNat : Int); rw [hbt]
        have hlit := Own.lit wr 5 [.int .u8 ((x : Int) % 256)] (by simp [maxLen])
        have hfl : Fresh w.heap.size (.slice (some ⟨wr.heap.size, 0, none⟩) 1 1) := fun q hk => by have : wr.heap.size = q := Option.some.inj hk; have := p2.size; omega
        have hsl := (p0.alloc (.cells [.int .u8 ((x : Int) % 256)].toArray 5)).sl
        have hn1 : (([.int .u8 ((x : Int) % 256)] : List Value).length + ((bes n j).map bv).length) * 1 ≤ 140737488355328 := by rw [List.length_map, bes_len]; simp; omega
        replace hn1 := Lib.hid hn1
        replace hdn := Lib.hid hdn
        replace hbs := Lib.hid hbs
        replace hbv := Lib.hid hbv
        replace hlt' := Lib.hid hlt'
        clear hbt hlt hd1 pf
        go_wp2_with ((with_reducible show wpList _ _ _ (⟨some 15, _, _, _, _, _⟩ :: _) _ _); refine wp_app tyB hlit hsl (bv_one _) rfl (.tmp 13) (.tmp 14) rfl rfl rfl hn1.out ?_; intro v2 w2 k1 k2 k3; rw [hbv.out] at k1; replace k1 : Own w2 5 v2 ((bt n j :: bes n j).map bv) := k1)
        have hfv := (k3.sooner (B' := w.heap.size) (by have := p2.size; simp; omega)).fresh hfl (Nat.le_refl _)
        obtain ⟨A2, c2, rfl⟩ := k1.shape
        rw [List.length_map, List.length_cons, bes_len] at k1 hfv ⊢
        exact ⟨⟨j + 1, by omega, by rw [← hdn.out], by rw [hbs.out]; exact k1, hfv, ext_app p2 hfl k2, Lib.hid (.inr hlt'.out)⟩, by simp only [slen]; omega⟩

set_option maxHeartbeats 2000000 in
theorem rtag_any {w : World} {S : Nat → Prop} {y : Value} {l : List UInt8} (t : UInt8) (hy : Bs w S y l) (hl : l.length ≤ 65536) :
    Calls Try.prog 55 #[.int .u8 t.toNat, y] w fun e w' => ∃ v', e = .returned v' ∧ Own w' 5 v' ((t :: lay l.length ++ l).map bv) ∧ Fresh w.heap.size v' ∧ Ext w w' := by
  have hy0 := hy
  obtain ⟨A, c, rfl, h1, h2, h3, h4⟩ := hy.open_
  clear h3 h4 hy
  go_enter Try.func55, Try.ntmps55
  go_wp2_with fail
  refine (rlen_any (by omega)).mono ?_
  rintro e w1 ⟨v1, rfl, g1, gf, hx1a⟩
  have hlit0 : Own (w.alloc (.cells #[.int .u8 (t.toNat : Int)] 5)) 5 (.slice (some ⟨w.heap.size, 0, none⟩) 1 1) ([t].map bv) := Own.lit w 5 [bv t] (by simp [maxLen])
  have hfl : Fresh w.heap.size (.slice (some ⟨w.heap.size, 0, none⟩) 1 1) := fun q hk => by have : w.heap.size = q := Option.some.inj hk; omega
  have hlit := hlit0.mod hx1a (fun _ _ h => h)
  have hx1 : Ext w w1 := ext_trans ((Mod.refl _ w).alloc _) hx1a
  have hll := lay_len l.length
  obtain ⟨ly, hly⟩ : ∃ ly, ly = lay l.length := ⟨_, rfl⟩
  rw [← hly] at g1 hll
  replace hly := Lib.hid hly
  have hn1 : (([t].map bv).length + (ly.map bv).length) * 1 ≤ 140737488355328 := by rw [List.length_map, List.length_map]; simp; omega
  have hn2 : (((t :: ly).map bv).length + (l.map bv).length) * 1 ≤ 140737488355328 := by rw [List.length_map, List.length_map]; simp; omega
  replace hn1 := Lib.hid hn1
  replace hn2 := Lib.hid hn2
  have g1s := g1.sl
  clear hlit0 g1 gf hll
  go_wp2_with (first
    | ((with_reducible show wpList _ _ _ (⟨some 10, _, _, _, _, _⟩ :: _) _ _); refine wp_app tyB hlit g1s (bv_one _) rfl (.tmp 6) (.tmp 9) rfl rfl rfl hn1.out ?_; intro v2 w2 k1 k2 k3; rw [← List.map_append] at k1; replace k1 : Own w2 5 v2 ((t :: ly).map bv) := k1; have hx2 := ext_app0 hx1 hfl k2; have hf2 := k3.fresh hfl hx1.size; clear k2 k3)
    | ((with_reducible show wpList _ _ _ (⟨some 12, _, _, _, _, _⟩ :: _) _ _); refine wp_app tyB k1 (hy0.ext hx2) (bv_one _) rfl (.tmp 10) (.tmp 11) rfl rfl rfl hn2.out ?_; intro v3 w3 q1 q2 q3; rw [← List.map_append] at q1))
  go_ret
  exact ⟨_, rfl, by rw [← hly.out]; exact q1, q3.fresh hf2 hx2.size, ext_app0 hx2 hf2 q2⟩
end Go.Proofs.Ytoockogceobfgaa
namespace Go.Proofs.Ytoockogceobfgaa
open Go.RowKit
theorem wpAnyH_mono {P : Program} {md : Region.Mode} {ops : Array Oper} {Q : Exit → Act → World → Prop} {S S' : World → Prop} (hS : ∀ w, S' w → S w) :
    ∀ (fuel : Nat) (listed : Array Bool) (a : Act) (w : World), wpAnyH P md ops Q S' fuel listed a w → wpAnyH P md ops Q S fuel listed a w
  | 0, _, _, _, h => h
  | fuel + 1, _, _, _, h => ⟨h.1, fun i hi => wpOp_mono (fun a' w' h' => ⟨hS w' h'.1, wpAnyH_mono hS fuel _ a' w' h'.2⟩) (h.2 i hi)⟩
end Go.Proofs.Ytoockogceobfgaa
namespace Go.Proofs.Ytoockogceobfgaa
open Go.RowKit
set_option maxRecDepth 100000

/-- append, of an operation alone. -/
theorem op_app {P : Program} {w : World} {t e : TypeId} {z : Value} {bytes : Nat} {S : Nat → Prop} {o : Oper} {a : Act} {K : Act → World → Prop} {Q : Exit → Act → World → Prop} (hT : SliceTy P t e z bytes) {v y : Value} {xs news : List Value} (hown : Own w e v xs) (hr : Sl w S y news) (h1 : ∀ u ∈ news, u.oneCell' = true)
    (s x : Operand) (d : Tmp) (hd : o.dst = some d) (ho : o.op = .call { callee := .builtin .append, args := #[s, x], argTypes := #[t, t] }) (hs : a.eval s = v) (hx : a.eval x = y)
    (hn : (xs.length + news.length) * bytes ≤ 140737488355328)
    (h : ∀ v' w', Own w' e v' (xs ++ news) → Mod (own v) w w' → Next w.heap.size v v' → K (a.put (some d) v') w') : Oper.wp P o a w K Q := by
  obtain ⟨v', w', hrun, h2, h3, h4⟩ := run_app (P := P) hT o.type hown hr h1 hn
  unfold Oper.wp execOp
  simp only [ho, resolve, invoke, builtin, Sem.run_bind, Sem.run_pure, Result.andThen_ok, List.map_toArray, List.map_cons, List.map_nil, hs, hx, hrun]
  simp only [Oper.upon, hd]
  exact h v' w' h2 h3 h4

theorem app_sep {w w' : World} {X X' Y : Value} {ys : List Value} (hY : Own w 5 Y ys) (hd : ∀ k, own X k → own Y k → False) (hm : Mod (own X) w w') (hnx : Next w.heap.size X X') : Own w' 5 Y ys ∧ ∀ k, own X' k → own Y k → False := by
  refine ⟨hY.mod hm (fun k hk hX => hd k hX hk), fun k h1 h2 => ?_⟩
  rcases hnx with h | h
  · exact hd k (by show X.ownBlock = some k; rw [← h]; exact h1) h2
  · have := h k h1; have := hY.lt h2; omega

set_option maxHeartbeats 4000000 in
theorem rnext_try {w : World} {S : Nat → Prop} {ad : Addr} {c : Nat} {l bd rs : List UInt8} (hl : l.length ≤ 100000) (q n : Nat) (hq8 : q < 128) (hi1 : 1 < l.length) (zz : Int) (b0 : Nat) (hb1' : (zz == 31) = false) (hand : bits .and .u8 (b0 : Int) 31 = zz) (hc0 : w.cell? ad = some (.int .u8 (b0 : Int))) (hc1 : w.cell? ⟨ad.block, ad.off + 1, none⟩ = some (.int .u8 (q : Int))) (hc : l.length ≤ c) (_hcm : c ≤ 9223372036854775807) (hn : (2 : Int) + (q : Int) = (n : Int)) (hnl : n ≤ l.length)
    (hb1 : Bs w.drew S (.slice (if c = 2 then some ad else some ⟨ad.block, ad.off + 2, none⟩) (n - 2) (c - 2)) bd) (hb2 : Bs w.drew S (.slice (if c = n then some ad else some (ad.add n)) (l.length - n) (c - n)) rs) (hbl : bd.length ≤ 1000000) (hrl : rs.length ≤ 1000000) :
    Calls Try.prog 37 #[.slice (some ad) l.length c] w fun e w' => ∃ v1 v2, e = .returned (.tuple #[.int .u8 (b0 : Int), v1, v2, .int .i64 0]) ∧ Own w' 5 v1 (bd.map bv) ∧ Own w' 5 v2 (rs.map bv) ∧ Fresh w.heap.size v1 ∧ Fresh w.heap.size v2 ∧ Ext w w' := by
  have hi0 : 0 < l.length := by omega
  have hi1' : 1 < (l.length : Int) := by omega
  have x0 : (2 : Int) ≤ (n : Int) := by omega
  have x1 : (n : Int) ≤ (l.length : Int) := by omega
  have x2 : (n : Int) ≤ (c : Int) := by omega
  have x3 : (l.length : Int) ≤ (c : Int) := by omega
  have x5 : (0 : Int) ≤ (n : Int) := by omega
  have x6 : IntKind.i64.wrap (n : Int) = (n : Int) := by rw [IntKind.wrap_i64]; omega
  have hb2' : decide ((l.length : Int) < 2) = false := by rw [decide_eq_false_iff_not]; omega
  have hb3 : decide ((l.length : Int) - 2 < (q : Int)) = false := by rw [decide_eq_false_iff_not]; omega
  have hx : ∀ wx, Ext w.drew wx → wx.cell? ad = some (.int .u8 (b0 : Int)) := fun wx hx => (hx.cell (lt_of_cell (w := w) hc0) (fun h => h)).trans hc0
  have hn1 : (([] : List Value).length + (bd.map bv).length) * 1 ≤ 140737488355328 := by rw [List.length_map]; simp; omega
  have hn2 : (([] : List Value).length + (rs.map bv).length) * 1 ≤ 140737488355328 := by rw [List.length_map]; simp; omega
  replace hn1 := Lib.hid hn1
  replace hn2 := Lib.hid hn2
  have hx00 : Ext w.drew w.drew := Mod.refl _ _
  go_enter Try.func37, Try.ntmps37
  go_upto_region 24 with fail
  go_cut [2, 3, 4, 5] (fun s2 s3 s4 s5 wx => s2 = .int .u8 (b0 : Int) ∧ s5 = .int .i64 0 ∧ Own wx 5 s3 (bd.map bv) ∧ Own wx 5 s4 (rs.map bv) ∧ Fresh w.heap.size s3 ∧ Fresh w.heap.size s4 ∧ Ext w wx)
  case first =>
    have hc0d : w.drew.cell? ad = some (.int .u8 (b0 : Int)) := hc0
    refine wp_region_held_drew (S := fun w' => w'.cell? ad = some (.int .u8 (b0 : Int))) (by kernel_rfl) hc0d (fun hH => ?_)
    clear hH
    have hxd : Ext w w.drew := (Mod.refl _ w).drew
    generalize w.drew = wd at *
    (refine wpAnyH_take (i := 0) (oi := ⟨_, _, _, _, _, _⟩) (v := ?tv1) rfl (by kernel_rfl) (by kernel_rfl) (by kernel_rfl) (fun _ _ _ h => h) (Or.inl ⟨by rfl, ?hy1⟩) (by assumption) ?rs1; (case hy1 => (intro wx hSw; (try dsimp only at hSw); go_simp; try with_reducible rfl)); try simp only [Act.put, List.setIfInBounds_toArray, List.set_cons_zero, List.set_cons_succ])
    (refine wpAnyH_take (i := 1) (oi := ⟨_, _, _, _, _, _⟩) (v := ?tv2) rfl (by kernel_rfl) (by kernel_rfl) (by kernel_rfl) (fun _ _ _ h => h) (Or.inl ⟨by rfl, ?hy2⟩) (by assumption) ?rs2; (case hy2 => (intro wx hSw; (try dsimp only at hSw); go_simp; try with_reducible rfl)); try simp only [Act.put, List.setIfInBounds_toArray, List.set_cons_zero, List.set_cons_succ])
    (refine wpAnyH_take (i := 2) (oi := ⟨_, _, _, _, _, _⟩) (v := ?tv3) rfl (by kernel_rfl) (by kernel_rfl) (by kernel_rfl) (fun _ _ _ h => h) (Or.inl ⟨by rfl, ?hy3⟩) (by assumption) ?rs3; (case hy3 => (intro wx hSw; (try dsimp only at hSw); go_simp; try with_reducible rfl)); try simp only [Act.put, List.setIfInBounds_toArray, List.set_cons_zero, List.set_cons_succ])
    (refine wpAnyH_take (i := 4) (oi := ⟨_, _, _, _, _, _⟩) (v := ?tv4) rfl (by kernel_rfl) (by kernel_rfl) (by kernel_rfl) (fun _ _ _ h => h) (Or.inl ⟨by rfl, ?hy4⟩) (by assumption) ?rs4; (case hy4 => (intro wx hSw; (try dsimp only at hSw); go_simp; try with_reducible rfl)); try simp only [Act.put, List.setIfInBounds_toArray, List.set_cons_zero, List.set_cons_succ])
    (refine wpAnyH_take (i := 5) (oi := ⟨_, _, _, _, _, _⟩) (v := ?tv5) rfl (by kernel_rfl) (by kernel_rfl) (by kernel_rfl) (fun _ _ _ h => h) (Or.inl ⟨by rfl, ?hy5⟩) (by assumption) ?rs5; (case hy5 => (intro wx hSw; (try dsimp only at hSw); go_simp; try with_reducible rfl)); try simp only [Act.put, List.setIfInBounds_toArray, List.set_cons_zero, List.set_cons_succ])
    (refine wpAnyH_take (i := 6) (oi := ⟨_, _, _, _, _, _⟩) (v := ?tv6) rfl (by kernel_rfl) (by kernel_rfl) (by kernel_rfl) (fun _ _ _ h => h) (Or.inl ⟨by rfl, ?hy6⟩) (by assumption) ?rs6; (case hy6 => (intro wx hSw; (try dsimp only at hSw); go_simp; try with_reducible rfl)); try simp only [Act.put, List.setIfInBounds_toArray, List.set_cons_zero, List.set_cons_succ])
    (refine wpAnyH_take (i := 7) (oi := ⟨_, _, _, _, _, _⟩) (v := ?tv7) rfl (by kernel_rfl) (by kernel_rfl) (by kernel_rfl) (fun _ _ _ h => h) (Or.inl ⟨by rfl, ?hy7⟩) (by assumption) ?rs7; (case hy7 => (intro wx hSw; (try dsimp only at hSw); go_simp; try with_reducible rfl)); try simp only [Act.put, List.setIfInBounds_toArray, List.set_cons_zero, List.set_cons_succ])
    (refine wpAnyH_take (i := 8) (oi := ⟨_, _, _, _, _, _⟩) (v := ?tv8) rfl (by kernel_rfl) (by kernel_rfl) (by kernel_rfl) (fun _ _ _ h => h) (Or.inl ⟨by rfl, ?hy8⟩) (by assumption) ?rs8; (case hy8 => (intro wx hSw; (try dsimp only at hSw); go_simp; try with_reducible rfl)); try simp only [Act.put, List.setIfInBounds_toArray, List.set_cons_zero, List.set_cons_succ])
    (refine wpAnyH_take (i := 9) (oi := ⟨_, _, _, _, _, _⟩) (v := ?tv9) rfl (by kernel_rfl) (by kernel_rfl) (by kernel_rfl) (fun _ _ _ h => h) (Or.inl ⟨by rfl, ?hy9⟩) (by assumption) ?rs9; (case hy9 => (intro wx hSw; (try dsimp only at hSw); go_simp; try with_reducible rfl)); try simp only [Act.put, List.setIfInBounds_toArray, List.set_cons_zero, List.set_cons_succ])
    (refine wpAnyH_take (i := 12) (oi := ⟨_, _, _, _, _, _⟩) (v := ?tv10) rfl (by kernel_rfl) (by kernel_rfl) (by kernel_rfl) (fun _ _ _ h => h) (Or.inl ⟨by rfl, ?hy10⟩) (by assumption) ?rs10; (case hy10 => (intro wx hSw; (try dsimp only at hSw); go_simp; try with_reducible rfl)); try simp only [Act.put, List.setIfInBounds_toArray, List.set_cons_zero, List.set_cons_succ])
    (refine wpAnyH_take (i := 13) (oi := ⟨_, _, _, _, _, _⟩) (v := ?tv11) rfl (by kernel_rfl) (by kernel_rfl) (by kernel_rfl) (fun _ _ _ h => h) (Or.inl ⟨by rfl, ?hy11⟩) (by assumption) ?rs11; (case hy11 => (intro wx hSw; (try dsimp only at hSw); go_simp; try with_reducible rfl)); try simp only [Act.put, List.setIfInBounds_toArray, List.set_cons_zero, List.set_cons_succ])
    (refine wpAnyH_take (i := 14) (oi := ⟨_, _, _, _, _, _⟩) (v := ?tv12) rfl (by kernel_rfl) (by kernel_rfl) (by kernel_rfl) (fun _ _ _ h => h) (Or.inl ⟨by rfl, ?hy12⟩) (by assumption) ?rs12; (case hy12 => (intro wx hSw; (try dsimp only at hSw); go_simp; try with_reducible rfl)); try simp only [Act.put, List.setIfInBounds_toArray, List.set_cons_zero, List.set_cons_succ])
    (refine wpAnyH_take (i := 15) (oi := ⟨_, _, _, _, _, _⟩) (v := ?tv13) rfl (by kernel_rfl) (by kernel_rfl) (by kernel_rfl) (fun _ _ _ h => h) (Or.inl ⟨by rfl, ?hy13⟩) (by assumption) ?rs13; (case hy13 => (intro wx hSw; (try dsimp only at hSw); go_simp; try with_reducible rfl)); try simp only [Act.put, List.setIfInBounds_toArray, List.set_cons_zero, List.set_cons_succ])
    (refine wpAnyH_take (i := 16) (oi := ⟨_, _, _, _, _, _⟩) (v := ?tv14) rfl (by kernel_rfl) (by kernel_rfl) (by kernel_rfl) (fun _ _ _ h => h) (Or.inl ⟨by rfl, ?hy14⟩) (by assumption) ?rs14; (case hy14 => (intro wx hSw; (try dsimp only at hSw); go_simp; try with_reducible rfl)); try simp only [Act.put, List.setIfInBounds_toArray, List.set_cons_zero, List.set_cons_succ])
    generalize (Value.slice (if c = 2 then some ad else some ⟨ad.block, ad.off + 2, none⟩) (n - 2) (c - 2)) = V1 at *
    generalize (Value.slice (if c = n then some ad else some (ad.add n)) (l.length - n) (c - n)) = V2 at *
    refine wpAnyH_ready (rs := [3, 11]) (by kernel_rfl) (by simp) ?_
    refine AllReadyH.cons rfl (fun K hK => ?_) (AllReadyH.cons rfl (fun K hK => ?_) (AllReadyH.nil))
    · go_simp
      refine hK.out _ _ (hx _ (Mod.alloc hx00 _)) (fun hH => ?_)
      clear hK K hH
      try simp only [Act.put, List.setIfInBounds_toArray, List.set_cons_zero, List.set_cons_succ]
      have hx101 : Ext wd (wd.alloc (.cells #[] 5)) := Mod.alloc hx00 _
      have pe1 := Own.empty wd 5
      generalize (wd.alloc (.cells #[] 5)) = w101 at *
      refine wpAnyH_ready (rs := [10, 11]) (by kernel_rfl) (by simp) ?_
      refine AllReadyH.cons rfl (fun K hK => ?_) (AllReadyH.cons rfl (fun K hK => ?_) (AllReadyH.nil))
      · rw [if_pos (by rfl)]
        refine op_app tyB pe1 (hb1.ext hx101) (bv_one _) (.tmp 67) (.tmp 73) 74 rfl rfl rfl rfl hn1.out ?_
        intro va2 w102 qa2 qb2 qc2
        rw [List.nil_append] at qa2
        have hx102 : Ext wd w102 := Mod.trans hx101 qb2 (fun _ _ h => h) (fun k hk h => Nat.lt_irrefl _ (Nat.lt_of_lt_of_le hk (by have h9 : wd.heap.size = k := Option.some.inj h; rw [← h9]; exact (hx00).size)))
        have fe2 : Fresh wd.heap.size (.slice (some ⟨wd.heap.size, 0, none⟩) 0 0) := fun k h => by have h9 : wd.heap.size = k := Option.some.inj h; rw [← h9]; exact (hx00).size
        have ff2 := (qc2.fresh fe2 (hx101).size).mono hxd.size
        refine hK.out _ _ (hx _ hx102) (fun hH => ?_)
        clear hK K hH
        try simp only [Act.put, List.setIfInBounds_toArray, List.set_cons_zero, List.set_cons_succ]
        refine wpAnyH_ready (rs := [11]) (by kernel_rfl) (by simp) ?_
        refine AllReadyH.cons rfl (fun K hK => ?_) (AllReadyH.nil)
        · go_simp
          refine hK.out _ _ (hx _ (Mod.alloc hx102 _)) (fun hH => ?_)
          clear hK K hH
          try simp only [Act.put, List.setIfInBounds_toArray, List.set_cons_zero, List.set_cons_succ]
          have hx103 : Ext wd (w102.alloc (.cells #[] 5)) := Mod.alloc hx102 _
          have pe3 := Own.empty w102 5
          have po3 := Own.alloc qa2 (.cells #[] 5)
          have pd3 : ∀ k, own (.slice (some ⟨w102.heap.size, 0, none⟩) 0 0) k → own va2 k → False := fun k h1 h2 => by have h3 := Own.lt qa2 h2; have : w102.heap.size = k := Option.some.inj h1; omega
          generalize (w102.alloc (.cells #[] 5)) = w103 at *
          refine wpAnyH_ready (rs := [17]) (by kernel_rfl) (by simp) ?_
          refine AllReadyH.cons rfl (fun K hK => ?_) (AllReadyH.nil)
          · rw [if_pos (by rfl)]
            refine op_app tyB pe3 (hb2.ext hx103) (bv_one _) (.tmp 75) (.tmp 80) 81 rfl rfl rfl rfl hn2.out ?_
            intro va4 w104 qa4 qb4 qc4
            rw [List.nil_append] at qa4
            have hx104 : Ext wd w104 := Mod.trans hx103 qb4 (fun _ _ h => h) (fun k hk h => Nat.lt_irrefl _ (Nat.lt_of_lt_of_le hk (by have h9 : w102.heap.size = k := Option.some.inj h; rw [← h9]; exact (hx102).size)))
            have ps4 := app_sep po3 pd3 qb4 qc4
            have fe4 : Fresh wd.heap.size (.slice (some ⟨w102.heap.size, 0, none⟩) 0 0) := fun k h => by have h9 : w102.heap.size = k := Option.some.inj h; rw [← h9]; exact (hx102).size
            have ff4 := (qc4.fresh fe4 (hx103).size).mono hxd.size
            refine hK.out _ _ (hx _ hx104) (fun hH => ?_)
            clear hK K hH
            try simp only [Act.put, List.setIfInBounds_toArray, List.set_cons_zero, List.set_cons_succ]
            have hcz := hx _ hx104
            (refine wpAnyH_take (i := 18) (oi := ⟨_, _, _, _, _, _⟩) (v := ?tv15) rfl (by kernel_rfl) (by kernel_rfl) (by kernel_rfl) (fun _ _ _ h => h) (Or.inl ⟨by rfl, ?hy15⟩) (by assumption) ?rs15; (case hy15 => (intro wx hSw; (try dsimp only at hSw); go_simp; try with_reducible rfl)); try simp only [Act.put, List.setIfInBounds_toArray, List.set_cons_zero, List.set_cons_succ])
            (refine wpAnyH_take (i := 19) (oi := ⟨_, _, _, _, _, _⟩) (v := ?tv16) rfl (by kernel_rfl) (by kernel_rfl) (by kernel_rfl) (fun _ _ _ h => h) (Or.inl ⟨by rfl, ?hy16⟩) (by assumption) ?rs16; (case hy16 => (intro wx hSw; (try dsimp only at hSw); go_simp; try with_reducible rfl)); try simp only [Act.put, List.setIfInBounds_toArray, List.set_cons_zero, List.set_cons_succ])
            (refine wpAnyH_take (i := 20) (oi := ⟨_, _, _, _, _, _⟩) (v := ?tv17) rfl (by kernel_rfl) (by kernel_rfl) (by kernel_rfl) (fun _ _ _ h => h) (Or.inl ⟨by rfl, ?hy17⟩) (by assumption) ?rs17; (case hy17 => (intro wx hSw; (try dsimp only at hSw); go_simp; try with_reducible rfl)); try simp only [Act.put, List.setIfInBounds_toArray, List.set_cons_zero, List.set_cons_succ])
            (refine wpAnyH_take (i := 21) (oi := ⟨_, _, _, _, _, _⟩) (v := ?tv18) rfl (by kernel_rfl) (by kernel_rfl) (by kernel_rfl) (fun _ _ _ h => h) (Or.inl ⟨by rfl, ?hy18⟩) (by assumption) ?rs18; (case hy18 => (intro wx hSw; (try dsimp only at hSw); go_simp; try with_reducible rfl)); try simp only [Act.put, List.setIfInBounds_toArray, List.set_cons_zero, List.set_cons_succ])
            refine wpAnyH_done (by kernel_rfl) ?_ _
            go_wp2_with fail
            go_meet
            exact ⟨rfl, rfl, ps4.1, qa4, ff2, ff4, hxd.trans hx104 (fun _ _ h => h) (fun _ _ h => h)⟩
      · go_simp
        refine hK.out _ _ (hx _ (Mod.alloc hx101 _)) (fun hH => ?_)
        clear hK K hH
        try simp only [Act.put, List.setIfInBounds_toArray, List.set_cons_zero, List.set_cons_succ]
        have hx105 : Ext wd (w101.alloc (.cells #[] 5)) := Mod.alloc hx101 _
        have pe5 := Own.empty w101 5
        have po5 := Own.alloc pe1 (.cells #[] 5)
        have pd5 : ∀ k, own (.slice (some ⟨w101.heap.size, 0, none⟩) 0 0) k → own (.slice (some ⟨wd.heap.size, 0, none⟩) 0 0) k → False := fun k h1 h2 => by have h3 := Own.lt pe1 h2; have : w101.heap.size = k := Option.some.inj h1; omega
        generalize (w101.alloc (.cells #[] 5)) = w105 at *
        refine wpAnyH_ready (rs := [10]) (by kernel_rfl) (by simp) ?_
        refine AllReadyH.cons rfl (fun K hK => ?_) (AllReadyH.nil)
        · rw [if_pos (by rfl)]
          refine op_app tyB po5 (hb1.ext hx105) (bv_one _) (.tmp 67) (.tmp 73) 74 rfl rfl rfl rfl hn1.out ?_
          intro va6 w106 qa6 qb6 qc6
          rw [List.nil_append] at qa6
          have hx106 : Ext wd w106 := Mod.trans hx105 qb6 (fun _ _ h => h) (fun k hk h => Nat.lt_irrefl _ (Nat.lt_of_lt_of_le hk (by have h9 : wd.heap.size = k := Option.some.inj h; rw [← h9]; exact (hx00).size)))
          have ps6 := app_sep pe5 (fun k h1 h2 => pd5 k h2 h1) qb6 qc6
          have fe6 : Fresh wd.heap.size (.slice (some ⟨wd.heap.size, 0, none⟩) 0 0) := fun k h => by have h9 : wd.heap.size = k := Option.some.inj h; rw [← h9]; exact (hx00).size
          have ff6 := (qc6.fresh fe6 (hx105).size).mono hxd.size
          refine hK.out _ _ (hx _ hx106) (fun hH => ?_)
          clear hK K hH
          try simp only [Act.put, List.setIfInBounds_toArray, List.set_cons_zero, List.set_cons_succ]
          refine wpAnyH_ready (rs := [17]) (by kernel_rfl) (by simp) ?_
          refine AllReadyH.cons rfl (fun K hK => ?_) (AllReadyH.nil)
          · rw [if_pos (by rfl)]
            refine op_app tyB ps6.1 (hb2.ext hx106) (bv_one _) (.tmp 75) (.tmp 80) 81 rfl rfl rfl rfl hn2.out ?_
            intro va7 w107 qa7 qb7 qc7
            rw [List.nil_append] at qa7
            have hx107 : Ext wd w107 := Mod.trans hx106 qb7 (fun _ _ h => h) (fun k hk h => Nat.lt_irrefl _ (Nat.lt_of_lt_of_le hk (by have h9 : w101.heap.size = k := Option.some.inj h; rw [← h9]; exact (hx101).size)))
            have ps7 := app_sep qa6 (fun k h1 h2 => ps6.2 k h2 h1) qb7 qc7
            have fe7 : Fresh wd.heap.size (.slice (some ⟨w101.heap.size, 0, none⟩) 0 0) := fun k h => by have h9 : w101.heap.size = k := Option.some.inj h; rw [← h9]; exact (hx101).size
            have ff7 := (qc7.fresh fe7 (hx106).size).mono hxd.size
            refine hK.out _ _ (hx _ hx107) (fun hH => ?_)
            clear hK K hH
            try simp only [Act.put, List.setIfInBounds_toArray, List.set_cons_zero, List.set_cons_succ]
            have hcz := hx _ hx107
            (refine wpAnyH_take (i := 18) (oi := ⟨_, _, _, _, _, _⟩) (v := ?tv19) rfl (by kernel_rfl) (by kernel_rfl) (by kernel_rfl) (fun _ _ _ h => h) (Or.inl ⟨by rfl, ?hy19⟩) (by assumption) ?rs19; (case hy19 => (intro wx hSw; (try dsimp only at hSw); go_simp; try with_reducible rfl)); try simp only [Act.put, List.setIfInBounds_toArray, List.set_cons_zero, List.set_cons_succ])
            (refine wpAnyH_take (i := 19) (oi := ⟨_, _, _, _, _, _⟩) (v := ?tv20) rfl (by kernel_rfl) (by kernel_rfl) (by kernel_rfl) (fun _ _ _ h => h) (Or.inl ⟨by rfl, ?hy20⟩) (by assumption) ?rs20; (case hy20 => (intro wx hSw; (try dsimp only at hSw); go_simp; try with_reducible rfl)); try simp only [Act.put, List.setIfInBounds_toArray, List.set_cons_zero, List.set_cons_succ])
            (refine wpAnyH_take (i := 20) (oi := ⟨_, _, _, _, _, _⟩) (v := ?tv21) rfl (by kernel_rfl) (by kernel_rfl) (by kernel_rfl) (fun _ _ _ h => h) (Or.inl ⟨by rfl, ?hy21⟩) (by assumption) ?rs21; (case hy21 => (intro wx hSw; (try dsimp only at hSw); go_simp; try with_reducible rfl)); try simp only [Act.put, List.setIfInBounds_toArray, List.set_cons_zero, List.set_cons_succ])
            (refine wpAnyH_take (i := 21) (oi := ⟨_, _, _, _, _, _⟩) (v := ?tv22) rfl (by kernel_rfl) (by kernel_rfl) (by kernel_rfl) (fun _ _ _ h => h) (Or.inl ⟨by rfl, ?hy22⟩) (by assumption) ?rs22; (case hy22 => (intro wx hSw; (try dsimp only at hSw); go_simp; try with_reducible rfl)); try simp only [Act.put, List.setIfInBounds_toArray, List.set_cons_zero, List.set_cons_succ])
            refine wpAnyH_done (by kernel_rfl) ?_ _
            go_wp2_with fail
            go_meet
            exact ⟨rfl, rfl, ps7.1, qa7, ff6, ff7, hxd.trans hx107 (fun _ _ h => h) (fun _ _ h => h)⟩
    · go_simp
      refine hK.out _ _ (hx _ (Mod.alloc hx00 _)) (fun hH => ?_)
      clear hK K hH
      try simp only [Act.put, List.setIfInBounds_toArray, List.set_cons_zero, List.set_cons_succ]
      have hx108 : Ext wd (wd.alloc (.cells #[] 5)) := Mod.alloc hx00 _
      have pe8 := Own.empty wd 5
      generalize (wd.alloc (.cells #[] 5)) = w108 at *
      refine wpAnyH_ready (rs := [3]) (by kernel_rfl) (by simp) ?_
      refine AllReadyH.cons rfl (fun K hK => ?_) (AllReadyH.nil)
      · go_simp
        refine hK.out _ _ (hx _ (Mod.alloc hx108 _)) (fun hH => ?_)
        clear hK K hH
        try simp only [Act.put, List.setIfInBounds_toArray, List.set_cons_zero, List.set_cons_succ]
        have hx109 : Ext wd (w108.alloc (.cells #[] 5)) := Mod.alloc hx108 _
        have pe9 := Own.empty w108 5
        have po9 := Own.alloc pe8 (.cells #[] 5)
        have pd9 : ∀ k, own (.slice (some ⟨w108.heap.size, 0, none⟩) 0 0) k → own (.slice (some ⟨wd.heap.size, 0, none⟩) 0 0) k → False := fun k h1 h2 => by have h3 := Own.lt pe8 h2; have : w108.heap.size = k := Option.some.inj h1; omega
        generalize (w108.alloc (.cells #[] 5)) = w109 at *
        refine wpAnyH_ready (rs := [10]) (by kernel_rfl) (by simp) ?_
        refine AllReadyH.cons rfl (fun K hK => ?_) (AllReadyH.nil)
        · rw [if_pos (by rfl)]
          refine op_app tyB pe9 (hb1.ext hx109) (bv_one _) (.tmp 67) (.tmp 73) 74 rfl rfl rfl rfl hn1.out ?_
          intro va10 w110 qa10 qb10 qc10
          rw [List.nil_append] at qa10
          have hx110 : Ext wd w110 := Mod.trans hx109 qb10 (fun _ _ h => h) (fun k hk h => Nat.lt_irrefl _ (Nat.lt_of_lt_of_le hk (by have h9 : w108.heap.size = k := Option.some.inj h; rw [← h9]; exact (hx108).size)))
          have ps10 := app_sep po9 pd9 qb10 qc10
          have fe10 : Fresh wd.heap.size (.slice (some ⟨w108.heap.size, 0, none⟩) 0 0) := fun k h => by have h9 : w108.heap.size = k := Option.some.inj h; rw [← h9]; exact (hx108).size
          have ff10 := (qc10.fresh fe10 (hx109).size).mono hxd.size
          refine hK.out _ _ (hx _ hx110) (fun hH => ?_)
          clear hK K hH
          try simp only [Act.put, List.setIfInBounds_toArray, List.set_cons_zero, List.set_cons_succ]
          refine wpAnyH_ready (rs := [17]) (by kernel_rfl) (by simp) ?_
          refine AllReadyH.cons rfl (fun K hK => ?_) (AllReadyH.nil)
          · rw [if_pos (by rfl)]
            refine op_app tyB ps10.1 (hb2.ext hx110) (bv_one _) (.tmp 75) (.tmp 80) 81 rfl rfl rfl rfl hn2.out ?_
            intro va11 w111 qa11 qb11 qc11
            rw [List.nil_append] at qa11
            have hx111 : Ext wd w111 := Mod.trans hx110 qb11 (fun _ _ h => h) (fun k hk h => Nat.lt_irrefl _ (Nat.lt_of_lt_of_le hk (by have h9 : wd.heap.size = k := Option.some.inj h; rw [← h9]; exact (hx00).size)))
            have ps11 := app_sep qa10 (fun k h1 h2 => ps10.2 k h2 h1) qb11 qc11
            have fe11 : Fresh wd.heap.size (.slice (some ⟨wd.heap.size, 0, none⟩) 0 0) := fun k h => by have h9 : wd.heap.size = k := Option.some.inj h; rw [← h9]; exact (hx00).size
            have ff11 := (qc11.fresh fe11 (hx110).size).mono hxd.size
            refine hK.out _ _ (hx _ hx111) (fun hH => ?_)
            clear hK K hH
            try simp only [Act.put, List.setIfInBounds_toArray, List.set_cons_zero, List.set_cons_succ]
            have hcz := hx _ hx111
            (refine wpAnyH_take (i := 18) (oi := ⟨_, _, _, _, _, _⟩) (v := ?tv23) rfl (by kernel_rfl) (by kernel_rfl) (by kernel_rfl) (fun _ _ _ h => h) (Or.inl ⟨by rfl, ?hy23⟩) (by assumption) ?rs23; (case hy23 => (intro wx hSw; (try dsimp only at hSw); go_simp; try with_reducible rfl)); try simp only [Act.put, List.setIfInBounds_toArray, List.set_cons_zero, List.set_cons_succ])
            (refine wpAnyH_take (i := 19) (oi := ⟨_, _, _, _, _, _⟩) (v := ?tv24) rfl (by kernel_rfl) (by kernel_rfl) (by kernel_rfl) (fun _ _ _ h => h) (Or.inl ⟨by rfl, ?hy24⟩) (by assumption) ?rs24; (case hy24 => (intro wx hSw; (try dsimp only at hSw); go_simp; try with_reducible rfl)); try simp only [Act.put, List.setIfInBounds_toArray, List.set_cons_zero, List.set_cons_succ])
            (refine wpAnyH_take (i := 20) (oi := ⟨_, _, _, _, _, _⟩) (v := ?tv25) rfl (by kernel_rfl) (by kernel_rfl) (by kernel_rfl) (fun _ _ _ h => h) (Or.inl ⟨by rfl, ?hy25⟩) (by assumption) ?rs25; (case hy25 => (intro wx hSw; (try dsimp only at hSw); go_simp; try with_reducible rfl)); try simp only [Act.put, List.setIfInBounds_toArray, List.set_cons_zero, List.set_cons_succ])
            (refine wpAnyH_take (i := 21) (oi := ⟨_, _, _, _, _, _⟩) (v := ?tv26) rfl (by kernel_rfl) (by kernel_rfl) (by kernel_rfl) (fun _ _ _ h => h) (Or.inl ⟨by rfl, ?hy26⟩) (by assumption) ?rs26; (case hy26 => (intro wx hSw; (try dsimp only at hSw); go_simp; try with_reducible rfl)); try simp only [Act.put, List.setIfInBounds_toArray, List.set_cons_zero, List.set_cons_succ])
            refine wpAnyH_done (by kernel_rfl) ?_ _
            go_wp2_with fail
            go_meet
            exact ⟨rfl, rfl, ps11.1, qa11, ff10, ff11, hxd.trans hx111 (fun _ _ h => h) (fun _ _ h => h)⟩
  case rest =>
    obtain ⟨rfl, rfl, r1, r2, rf1, rf2, r3⟩ := hcut
    go_wp2_with fail
    (try simp only [Exit.inBlock, Exit.then]); refine bodyPost_ret (results_tmp4 rfl _ _ _) rfl ?_
    exact ⟨_, _, rfl, r1, r2, rf1, rf2, r3⟩
end Go.Proofs.Ytoockogceobfgaa
