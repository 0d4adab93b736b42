/- ber: look, Next. -/
import Derived.Test.YtcffefadagfdcaaBerC
namespace Go.Proofs.Ytcffefadagfdcaa
open Go.RowKit
set_option maxRecDepth 100000

theorem i64_or_byte (m : Int) (c : Nat) (hc : c < 256) : bits .or .i64 (IntKind.i64.wrap (m * 256)) (c : Int) = IntKind.i64.wrap (m * 256 + c) := by
  show IntKind.i64.wrap (((BitVec.ofInt 64 (IntKind.i64.wrap (m * 256)) ||| BitVec.ofInt 64 (c : Int)).toNat : Nat) : Int) = _
  have h1 : (BitVec.ofInt 64 (IntKind.i64.wrap (m * 256))).toNat = 2 ^ 8 * (m % 72057594037927936).toNat := by
    rw [BitVec.toNat_ofInt, IntKind.wrap_i64]
    have : 0 ≤ m % 72057594037927936 := Int.emod_nonneg _ (by omega)
    omega
  have h2 : (BitVec.ofInt 64 (c : Int)).toNat = c := by
    rw [BitVec.toNat_ofInt]; omega
  rw [BitVec.toNat_or, h1, h2, ← Nat.two_pow_add_eq_or_of_lt (by omega), IntKind.wrap_i64, IntKind.wrap_i64]
  have : 0 ≤ m % 72057594037927936 := Int.emod_nonneg _ (by omega)
  have h3 : ((2 ^ 8 * (m % 72057594037927936).toNat + c : Nat) : Int) = 256 * (m % 72057594037927936) + c := by
    rw [Int.natCast_add, Int.natCast_mul, Int.toNat_of_nonneg this]; rfl
  rw [h3]
  omega
theorem i64_or_small (m c : Nat) (hm : m < 36028797018963968) (hc : c < 256) : bits .or .i64 ((m : Int) * 256) (c : Int) = ((m * 256 + c : Nat) : Int) := by
  have h := i64_or_byte m c hc
  rw [IntKind.wrap_i64, IntKind.wrap_i64] at h
  have e1 : ((m : Int) * 256 + 9223372036854775808) % 18446744073709551616 - 9223372036854775808 = (m : Int) * 256 := by omega
  rw [e1] at h
  rw [h]; omega

def bfin (at_ n len : Nat) : Nat × Nat × Nat := if 65536 < n then (0, 0, 5) else if len - at_ < n then (0, 0, 2) else (at_, at_ + n, 0)
/-- Where the first one's body begins and ends. -/
def blook (l : List UInt8) : Nat × Nat × Nat :=
  if l.length = 0 then (0, 0, 2)
  else if l.getD 0 0 &&& 31 = 31 then (0, 0, 3)
  else if l.length = 1 then (0, 0, 2)
  else if (l.getD 1 0).toNat < 128 then bfin 2 (l.getD 1 0).toNat l.length
  else if (l.getD 1 0).toNat - 128 = 0 ∨ 4 < (l.getD 1 0).toNat - 128 then (0, 0, 3)
  else if l.length < 2 + ((l.getD 1 0).toNat - 128) then (0, 0, 2)
  else bfin (2 + ((l.getD 1 0).toNat - 128)) (uval ((l.drop 2).take ((l.getD 1 0).toNat - 128))) l.length

set_option maxHeartbeats 1000000 in
theorem blook_any {w : World} {S : Nat → Prop} {v : Value} {l : List UInt8} (h : Bs w S v l) (hl : l.length ≤ 140737488355328) :
    Calls Try.prog 38 #[v] w fun e w' => e = .returned (.tuple #[.int .i64 ((blook l).1 : Nat), .int .i64 ((blook l).2.1 : Nat), .int .i64 ((blook l).2.2 : Nat)]) ∧ w' = w := by
  obtain ⟨o, ho⟩ : ∃ o, o = blook l := ⟨_, rfl⟩
  rw [← ho]
  unfold blook at ho
  have h0 := h
  obtain ⟨A, c, rfl, h1, h2, h3, h4⟩ := h.open_
  by_cases e0 : l.length = 0
  · rw [if_pos e0] at ho
    subst ho
    have hb : ((l.length : Int) == 0) = true := by rw [e0]; rfl
    go_enter Try.func38, Try.ntmps38
    go_wp2_with fail
    go_ret3
    exact ⟨rfl, rfl⟩
  rw [if_neg e0] at ho
  have hb0 : ((l.length : Int) == 0) = false := by rw [beq_eq_false_iff_ne]; omega
  obtain ⟨ad, hA, hB, hc0⟩ := h4.byte (k := 0) (by omega)
  subst hA
  rw [show ad.add 0 = ad by simp [Addr.add]] at hc0
  have hg0 : l.getD 0 0 = l[0] := by rw [List.getD_eq_getElem?_getD, List.getElem?_eq_getElem (by omega)]; rfl
  rw [hg0] at ho
  have hand : bits .and .u8 (l[0].toNat : Int) 31 = ((l[0] &&& 31).toNat : Int) := u8_and_nat l[0].toNat 31 l[0].toNat_lt (by omega)
  by_cases e1 : l[0] &&& 31 = 31
  · rw [if_pos e1] at ho
    subst ho
    have hb1 : ((((l[0] &&& 31).toNat : Nat) : Int) == 31) = true := by rw [e1]; rfl
    go_enter Try.func38, Try.ntmps38
    go_wp2_with fail
    go_ret3
    exact ⟨rfl, rfl⟩
  rw [if_neg e1] at ho
  have hb1 : ((((l[0] &&& 31).toNat : Nat) : Int) == 31) = false := by
    rw [beq_eq_false_iff_ne]; intro h; exact e1 (UInt8.toNat_inj.1 (by have : (31 : UInt8).toNat = 31 := rfl; omega))
  generalize (((l[0] &&& 31).toNat : Nat) : Int) = zz at *
  have hp := l[0].toNat_lt
  clear hg0 e1
  generalize l[0].toNat = p0 at *
  by_cases e2 : l.length = 1
  · rw [if_pos e2] at ho
    subst ho
    have hb2 : ((l.length : Int) == 1) = true := by rw [e2]; rfl
    go_enter Try.func38, Try.ntmps38
    go_wp2_with fail
    go_ret3
    exact ⟨rfl, rfl⟩
  rw [if_neg e2] at ho
  have hb2 : ((l.length : Int) == 1) = false := by rw [beq_eq_false_iff_ne]; omega
  obtain ⟨ad', hA', hB', hc1⟩ := h4.byte (k := 1) (by omega)
  injection hA' with hA'
  subst hA'
  rw [show ad.add 1 = ⟨ad.block, ad.off + 1, none⟩ by simp [Addr.add]] at hc1
  have hg1 : (l.getD 1 0).toNat = l[1].toNat := by rw [List.getD_eq_getElem?_getD, List.getElem?_eq_getElem (by omega)]; rfl
  rw [hg1] at ho
  have hq := l[1].toNat_lt
  generalize l[1].toNat = q at *
  have hi0 : 0 < l.length := by omega
  have hi1 : 1 < (l.length : Int) := by omega
  clear hg1 e0 e2
  by_cases e3 : q < 128
  · rw [if_pos e3] at ho
    unfold bfin at ho
    rw [if_neg (by omega)] at ho
    by_cases e4 : l.length - 2 < q
    · rw [if_pos e4] at ho
      subst ho
      go_enter Try.func38, Try.ntmps38
      go_wp2_with fail
      go_ret3
      exact ⟨rfl, rfl⟩
    · rw [if_neg e4] at ho
      subst ho
      go_enter Try.func38, Try.ntmps38
      go_wp2_with fail
      go_ret3
      exact ⟨rfl, rfl⟩
  rw [if_neg e3] at ho
  obtain ⟨k, hk⟩ : ∃ k, k = q - 128 := ⟨_, rfl⟩
  rw [← hk] at ho
  by_cases e4 : k = 0 ∨ 4 < k
  · rw [if_pos e4] at ho
    subst ho
    have hb3 : ((q : Int) - 128 == 0) = decide (k = 0) := by rw [Bool.eq_iff_iff]; simp only [beq_iff_eq, decide_eq_true_eq]; omega
    have hb4 : decide ((4 : Int) < (q : Int) - 128) = decide (4 < k) := by rw [Bool.eq_iff_iff]; simp only [decide_eq_true_eq]; omega
    rcases e4 with e4 | e4
    · rw [decide_eq_true e4] at hb3
      go_enter Try.func38, Try.ntmps38
      go_wp2_with fail
      go_ret3
      exact ⟨rfl, rfl⟩
    · rw [decide_eq_true e4] at hb4
      rw [decide_eq_false (by omega)] at hb3
      go_enter Try.func38, Try.ntmps38
      go_wp2_with fail
      go_ret3
      exact ⟨rfl, rfl⟩
  rw [if_neg e4] at ho
  have hk4 : k ≤ 4 := by omega
  have hk1 : 1 ≤ k := by omega
  have hb4 : (q : Int) - 128 = (k : Int) := by omega
  have hq1 : 128 ≤ (q : Int) := by omega
  have hb3 : ((k : Int) == 0) = false := by rw [beq_eq_false_iff_ne]; omega
  clear hk e3 e4
  by_cases e5 : l.length < 2 + k
  · rw [if_pos e5] at ho
    subst ho
    have hb5 : decide ((l.length : Int) < 2 + (k : Int)) = true := by rw [decide_eq_true_eq]; omega
    go_enter Try.func38, Try.ntmps38
    go_wp2_with fail
    go_ret3
    exact ⟨rfl, rfl⟩
  rw [if_neg e5] at ho
  go_enter Try.func38, Try.ntmps38
  go_wp2_with fail
  obtain ⟨ds, hds⟩ : ∃ ds, ds = (l.drop 2).take k := ⟨_, rfl⟩
  have hdl : ds.length = k := by rw [hds, List.length_take, List.length_drop]; omega
  have hcell : ∀ j, (hj : j < k) → w.cell? ⟨ad.block, ad.off + 2 + j, none⟩ = some (.int .u8 ((ds[j]'(by omega)).toNat : Int)) := fun j hj => by
    obtain ⟨ad9, hA9, hB9, hc9⟩ := h4.byte (k := 2 + j) (by omega)
    injection hA9 with hA9
    subst hA9
    rw [show (⟨ad.block, ad.off + 2 + j, none⟩ : Addr) = ad.add (2 + j) by simp [Addr.add, Nat.add_assoc], hc9]
    congr 3
    simp [hds]
  rw [← hds] at ho
  replace hds := Lib.hid hds
  go_loop [5, 47] (fun n i => ∃ j : Nat, j ≤ k ∧ i = .int .i64 j ∧ n = .int .i64 (uval (ds.take j) : Nat)) (fun _ i => k - (intOf i).toNat)
  case atStart => exact ⟨0, Nat.zero_le _, rfl, by simp [uval]⟩
  case round =>
    obtain ⟨j, hj, rfl, rfl⟩ := hrel
    by_cases hlt : j < k
    · have hc9 := hcell j hlt
      have hsn : uval (ds.take (j + 1)) = uval (ds.take j) * 256 + ds[j].toNat := by
        rw [List.take_succ_eq_append_getElem (by omega), uval_snoc]
      have hlt2 : uval (ds.take j) < 16777216 := by
        have := uval_lt (ds.take j)
        have h9 : 2 ^ (8 * (ds.take j).length) ≤ 2 ^ (8 * 3) := Nat.pow_le_pow_right (by omega) (by rw [List.length_take]; omega)
        have h10 : (2 : Nat) ^ (8 * 3) = 16777216 := rfl
        omega
      have hb := ds[j].toNat_lt
      replace hsn := Lib.hid hsn
      generalize ds[j].toNat = b at *
      generalize uval (ds.take j) = u at *
      have hor := i64_or_small u b (by omega) (by omega)
      clear hcell hdl
      go_wp2_with fail
      exact ⟨⟨j + 1, by omega, by go_num, by rw [hsn.out]; go_num⟩, by simp [intOf] <;> omega⟩
    · rw [List.take_of_length_le (by omega)]
      have hul := uval_lt ds
      have h9 : 2 ^ (8 * ds.length) ≤ 2 ^ (8 * 4) := Nat.pow_le_pow_right (by omega) (by omega)
      have h10 : (2 : Nat) ^ (8 * 4) = 4294967296 := rfl
      have hu : uval ds < 4294967296 := by omega
      clear hul h9 h10 hcell
      generalize uval ds = u at *
      unfold bfin at ho
      by_cases e6 : 65536 < u
      · rw [if_pos e6] at ho
        subst ho
        go_wp2_with fail
        go_ret3
        exact ⟨rfl, rfl⟩
      rw [if_neg e6] at ho
      by_cases e7 : l.length - (2 + k) < u
      · rw [if_pos e7] at ho
        subst ho
        have hb7 : decide ((l.length : Int) - (2 + (k : Int)) < (u : Int)) = true := by rw [decide_eq_true_eq]; omega
        go_wp2_with fail
        go_ret3
        exact ⟨rfl, rfl⟩
      · rw [if_neg e7] at ho
        subst ho
        have hb7 : decide ((l.length : Int) - (2 + (k : Int)) < (u : Int)) = false := by rw [decide_eq_false_iff_not]; omega
        go_wp2_with fail
        go_ret3
        exact ⟨by simp only [Int.natCast_add]; rfl, rfl⟩
end Go.Proofs.Ytcffefadagfdcaa
