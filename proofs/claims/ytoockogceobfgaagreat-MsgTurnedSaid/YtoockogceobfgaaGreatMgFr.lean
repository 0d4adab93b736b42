/- msg: Frame of longer bytes; of a message, whole and cut. -/
import Derived.Test.YtoockogceobfgaaGreatMgEm
namespace Go.Proofs.YtoockogceobfgaaGreat
open Go.RowKit
set_option maxRecDepth 100000

set_option maxHeartbeats 4000000 in
theorem frameL_any {w : World} {S : Nat → Prop} {v : Value} {l : List UInt8} (h : Bs w S v l) (hl : l.length ≤ 70000) :
    Calls Tryz.prog 16 #[v] w fun e w' => e = .returned (.tuple #[.int .i64 ((mframe l).1 : Nat), .int .i64 ((mframe l).2 : Nat)]) ∧ w' = w := by
  obtain ⟨o, ho⟩ : ∃ o, o = mframe l := ⟨_, rfl⟩
  rw [← ho]
  unfold mframe at ho
  obtain ⟨A, c, rfl, h1, h2, h3, h4⟩ := h.open_
  by_cases e0 : l.length = 0
  · rw [if_pos e0] at ho
    subst ho
    have hb : ((l.length : Int) == 0) = true := by rw [e0]; rfl
    have hbx : decide ((l.length : Int) < 1) = true := dtrue (by omega)
    have hby : decide (l.length < 1) = true := dtrue (by omega)
    have hbz : (l.length == 0) = true := by rw [beq_iff_eq]; exact e0
    go_enter Tryz.func16, Tryz.ntmps16
    go_wp2_with fail
    go_ret2
    exact ⟨rfl, rfl⟩
  rw [if_neg e0] at ho
  have hb0 : ((l.length : Int) == 0) = false := by rw [beq_eq_false_iff_ne]; omega
  have hb0x : decide ((l.length : Int) < 1) = false := dfalse (by omega)
  have hb0y : decide (l.length < 1) = false := dfalse (by omega)
  obtain ⟨ad, hA, hB, hc0⟩ := h4.byte (k := 0) (by omega)
  subst hA
  rw [show ad.add 0 = ad by simp [Addr.add]] at hc0
  have hg0 : (l.getD 0 0).toNat = l[0].toNat := by rw [List.getD_eq_getElem?_getD, List.getElem?_eq_getElem (by omega)]; rfl
  rw [hg0] at ho
  have hp := l[0].toNat_lt
  clear hg0
  generalize l[0].toNat = p0 at *
  have hi0 : 0 < l.length := by omega
  have hi0x : 0 < (l.length : Int) := by omega
  by_cases e1 : p0 ≠ 48
  · rw [if_pos e1] at ho
    subst ho
    have hb1 : ((p0 : Int) != 48) = true := by rw [bne_iff_ne]; omega
    go_enter Tryz.func16, Tryz.ntmps16
    go_wp2_with fail
    go_ret2
    exact ⟨rfl, rfl⟩
  rw [if_neg e1] at ho
  obtain rfl : p0 = 48 := by omega
  have hb1 : (((48 : Nat) : Int) != 48) = false := rfl
  by_cases e2 : l.length = 1
  · rw [if_pos e2] at ho
    subst ho
    have hb2 : ((l.length : Int) == 1) = true := by rw [e2]; rfl
    have hb2x : decide ((l.length : Int) < 2) = true := dtrue (by omega)
    have hb2y : decide (l.length < 2) = true := dtrue (by omega)
    go_enter Tryz.func16, Tryz.ntmps16
    go_wp2_with fail
    go_ret2
    exact ⟨rfl, rfl⟩
  rw [if_neg e2] at ho
  have hb2 : ((l.length : Int) == 1) = false := by rw [beq_eq_false_iff_ne]; omega
  have hb2x : decide ((l.length : Int) < 2) = false := dfalse (by omega)
  have hb2y : decide (l.length < 2) = false := dfalse (by omega)
  obtain ⟨ad', hA', hB', hc1⟩ := h4.byte (k := 1) (by omega)
  injection hA' with hA'
  subst hA'
  rw [show ad.add 1 = ⟨ad.block, ad.off + 1, none⟩ by simp [Addr.add]] at hc1
  have hg1 : (l.getD 1 0).toNat = l[1].toNat := by rw [List.getD_eq_getElem?_getD, List.getElem?_eq_getElem (by omega)]; rfl
  rw [hg1] at ho
  have hq := l[1].toNat_lt
  generalize l[1].toNat = q at *
  have hi1 : 1 < (l.length : Int) := by omega
  clear hg1 e0 e2 hp
  by_cases e3 : q < 128
  · rw [if_pos e3] at ho
    unfold ffin at ho
    rw [if_neg (by omega)] at ho
    have hb3 : decide ((128 : Int) ≤ (q : Int)) = false := dfalse (by omega)
    have hb3x : decide (128 ≤ q) = false := dfalse (by omega)
    have hb4 : decide ((65536 : Int) < 2 + (q : Int)) = false := dfalse (by omega)
    by_cases e4 : l.length < 2 + q
    · rw [if_pos e4] at ho
      subst ho
      have hb5 : decide ((l.length : Int) < 2 + (q : Int)) = true := dtrue (by omega)
      go_enter Tryz.func16, Tryz.ntmps16
      go_wp2_with fail
      go_ret2
      exact ⟨rfl, rfl⟩
    · rw [if_neg e4] at ho
      subst ho
      have hb5 : decide ((l.length : Int) < 2 + (q : Int)) = false := dfalse (by omega)
      go_enter Tryz.func16, Tryz.ntmps16
      go_wp2_with fail
      go_ret2
      exact ⟨by first | rfl | (push_cast; rfl), rfl⟩
  rw [if_neg e3] at ho
  obtain ⟨k, hk⟩ : ∃ k, k = q - 128 := ⟨_, rfl⟩
  rw [← hk] at ho
  have hb3 : decide ((128 : Int) ≤ (q : Int)) = true := dtrue (by omega)
  have hb3x : decide (128 ≤ q) = true := dtrue (by omega)
  have hqk : (q : Int) - 128 = (k : Int) := by omega
  by_cases e4 : k = 0 ∨ 4 < k
  · rw [if_pos e4] at ho
    subst ho
    rcases e4 with e4 | e4
    · have hb5 : ((k : Int) == 0) = true := by rw [e4]; rfl
      have hb5x : decide ((k : Int) < 1) = true := dtrue (by omega)
      have hb5y : decide (k < 1) = true := dtrue (by omega)
      clear hk e3
      go_enter Tryz.func16, Tryz.ntmps16
      go_wp2_with fail
      go_ret2
      exact ⟨rfl, rfl⟩
    · have hb5 : ((k : Int) == 0) = false := by rw [beq_eq_false_iff_ne]; omega
      have hb5x : decide ((k : Int) < 1) = false := dfalse (by omega)
      have hb5y : decide (k < 1) = false := dfalse (by omega)
      have hb6 : decide ((4 : Int) < (k : Int)) = true := dtrue (by omega)
      clear hk e3
      go_enter Tryz.func16, Tryz.ntmps16
      go_wp2_with fail
      go_ret2
      exact ⟨rfl, rfl⟩
  rw [if_neg e4] at ho
  have hk4 : k ≤ 4 := by omega
  have hk1 : 1 ≤ k := by omega
  have hb5 : ((k : Int) == 0) = false := by rw [beq_eq_false_iff_ne]; omega
  have hb5x : decide ((k : Int) < 1) = false := dfalse (by omega)
  have hb5y : decide (k < 1) = false := dfalse (by omega)
  have hb6 : decide ((4 : Int) < (k : Int)) = false := dfalse (by omega)
  have hb6x : decide (4 < k) = false := dfalse (by omega)
  clear hk e3 e4
  by_cases e5 : l.length < 2 + k
  · rw [if_pos e5] at ho
    subst ho
    have hb7 : decide ((l.length : Int) < 2 + (k : Int)) = true := by rw [decide_eq_true_eq]; omega
    go_enter Tryz.func16, Tryz.ntmps16
    go_wp2_with fail
    go_ret2
    exact ⟨rfl, rfl⟩
  rw [if_neg e5] at ho
  have hb7 : decide ((l.length : Int) < 2 + (k : Int)) = false := by rw [decide_eq_false_iff_not]; omega
  have hcl : (l.length : Int) ≤ (c : Int) := by omega
  have hkl : 2 + (k : Int) ≤ (l.length : Int) := by omega
  have hkc : 2 + (k : Int) ≤ (c : Int) := by omega
  obtain ⟨ds, hds⟩ : ∃ ds, ds = (l.drop 2).take k := ⟨_, rfl⟩
  have hdl : ds.length = k := by rw [hds, List.length_take, List.length_drop]; omega
  have hcell : ∀ j, (hj : j < k) → w.cell? ⟨ad.block, ad.off + 2 + j, none⟩ = some (.int .u8 ((ds[j]'(by omega)).toNat : Int)) := fun j hj => by
    obtain ⟨ad9, hA9, hB9, hc9⟩ := h4.byte (k := 2 + j) (by omega)
    injection hA9 with hA9
    subst hA9
    rw [show (⟨ad.block, ad.off + 2 + j, none⟩ : Addr) = ad.add (2 + j) by simp [Addr.add, Nat.add_assoc], hc9]
    congr 3
    simp [hds]
  rw [← hds] at ho
  replace hds := Lib.hid hds
  go_enter Tryz.func16, Tryz.ntmps16
  go_wp2_with fail
  go_loop [4, 46] (fun n i => ∃ j : Nat, j ≤ k ∧ i = .int .i64 j ∧ n = .int .i64 (uval (ds.take j) : Nat)) (fun _ i => k - (intOf i).toNat)
  case atStart => exact ⟨0, Nat.zero_le _, rfl, by simp [uval]⟩
  case round =>
    obtain ⟨j, hj, rfl, rfl⟩ := hrel
    by_cases hlt : j < k
    · have hbl : decide ((j : Int) < (k : Int)) = true := dtrue (by omega)
      have hbn : decide (j < k) = true := dtrue (by omega)
      have hc9 := hcell j hlt
      have hsn : uval (ds.take (j + 1)) = uval (ds.take j) * 256 + ds[j].toNat := by
        rw [List.take_succ_eq_append_getElem (by omega), uval_snoc]
      have hlt2 : uval (ds.take j) < 16777216 := by
        have := uval_lt (ds.take j)
        have h9 : 2 ^ (8 * (ds.take j).length) ≤ 2 ^ (8 * 3) := Nat.pow_le_pow_right (by omega) (by rw [List.length_take]; omega)
        have h10 : (2 : Nat) ^ (8 * 3) = 16777216 := rfl
        omega
      have hb := ds[j].toNat_lt
      replace hsn := Lib.hid hsn
      generalize ds[j].toNat = b at *
      generalize uval (ds.take j) = u at *
      have hor := i64_or_small u b (by omega) (by omega)
      have hj0 : (0 : Int) ≤ 2 + (j : Int) := by omega
      have hj1 : 2 + (j : Int) < (l.length : Int) := by omega
      clear hcell hdl
      go_wp2_with fail
      exact ⟨⟨j + 1, by omega, by go_num, by rw [hsn.out]; go_num⟩, by simp [intOf] <;> omega⟩
    · have hbl : decide ((j : Int) < (k : Int)) = false := dfalse (by omega)
      have hbn : decide (j < k) = false := dfalse (by omega)
      rw [List.take_of_length_le (by omega)]
      have hul := uval_lt ds
      have h9 : 2 ^ (8 * ds.length) ≤ 2 ^ (8 * 4) := Nat.pow_le_pow_right (by omega) (by omega)
      have h10 : (2 : Nat) ^ (8 * 4) = 4294967296 := rfl
      have hu : uval ds < 4294967296 := by omega
      clear hul h9 h10 hcell
      generalize uval ds = u at *
      unfold ffin at ho
      by_cases e6 : 65536 < 2 + k + u
      · rw [if_pos e6] at ho
        subst ho
        have hb8 : decide ((65536 : Int) < 2 + (k : Int) + (u : Int)) = true := dtrue (by omega)
        go_wp2_with fail
        go_ret2
        exact ⟨rfl, rfl⟩
      rw [if_neg e6] at ho
      have hb8 : decide ((65536 : Int) < 2 + (k : Int) + (u : Int)) = false := dfalse (by omega)
      by_cases e7 : l.length < 2 + k + u
      · rw [if_pos e7] at ho
        subst ho
        have hb9 : decide ((l.length : Int) < 2 + (k : Int) + (u : Int)) = true := dtrue (by omega)
        go_wp2_with fail
        go_ret2
        exact ⟨rfl, rfl⟩
      · rw [if_neg e7] at ho
        subst ho
        have hb9 : decide ((l.length : Int) < 2 + (k : Int) + (u : Int)) = false := dfalse (by omega)
        go_wp2_with fail
        go_ret2
        exact ⟨by first | rfl | (push_cast; rfl), rfl⟩


theorem tlv_leF {t : UInt8} {l : List UInt8} {m : Nat} (h : (tlv t l).length ≤ m) : l.length ≤ m := by
  simp only [tlv, List.length_append, List.length_cons] at h
  omega
theorem mframe_two (c : UInt8) (Z : List UInt8) : mframe (48 :: c :: Z) = if c.toNat < 128 then ffin 2 c.toNat (Z.length + 2) else if c.toNat - 128 = 0 ∨ 4 < c.toNat - 128 then (0, 3) else if Z.length + 2 < 2 + (c.toNat - 128) then (0, 0) else ffin (2 + (c.toNat - 128)) (uval (Z.take (c.toNat - 128))) (Z.length + 2) := by
  unfold mframe
  rw [if_neg (by simp), if_neg (fun g => g rfl), if_neg (by simp)]
  rfl
theorem ofn {n : Nat} (h : n < 256) : (UInt8.ofNat n).toNat = n := by simp; omega
/-- The head of a message: what its length reads as, of anything that begins so. -/
theorem mframe_head {X Z : List UInt8} (h : (tlv 48 X).length ≤ 65536) (c : UInt8) (Y : List UInt8) (hc : tlv 48 X = 48 :: c :: Y) (hz : ∀ k, k ≤ Z.length → k ≤ Y.length → Z.take k = Y.take k) :
    mframe (48 :: c :: Z) = if Z.length + 2 < (tlv 48 X).length then (0, 0) else ((tlv 48 X).length, 0) := by
  have hl : (tlv 48 X).length = Y.length + 2 := by rw [hc]; rfl
  rw [mframe_two]
  have hX : X.length ≤ 65536 := tlv_leF h
  unfold tlv lay at hc
  by_cases e : X.length < 128
  · rw [if_pos e] at hc
    simp only [List.cons_append, List.nil_append, List.cons.injEq, true_and] at hc
    obtain ⟨rfl, rfl⟩ := hc
    rw [ofn (by omega), if_pos e]
    unfold ffin
    rw [if_neg (by omega)]
    have e2 : 2 + X.length = (tlv 48 X).length := by omega
    rw [e2]
  · rw [if_neg e] at hc
    simp only [List.cons_append, List.cons.injEq, true_and] at hc
    obtain ⟨rfl, hY⟩ := hc
    have hw := lw_pos X.length
    rw [ofn (by omega), if_neg (by omega), show 128 + lw X.length - 128 = lw X.length by omega, if_neg (by omega)]
    have hb : (bes X.length (lw X.length)).length = lw X.length := bes_len _ _
    have hYl : Y.length = lw X.length + X.length := by rw [← hY, List.length_append, hb]
    by_cases hs : Z.length + 2 < 2 + lw X.length
    · rw [if_pos hs, if_pos (by omega)]
    · rw [if_neg hs, hz (lw X.length) (by omega) (by omega), ← hY, List.take_left' hb, uval_nat _ _ (lw_lt (by omega))]
      unfold ffin
      rw [if_neg (by omega)]
      have e2 : 2 + lw X.length + X.length = (tlv 48 X).length := by omega
      rw [e2]
theorem tlv_cons (X : List UInt8) : ∃ c Y, tlv 48 X = 48 :: c :: Y := by
  unfold tlv lay
  split
  · exact ⟨_, _, rfl⟩
  · exact ⟨_, _, rfl⟩
theorem mframe_whole {X rest : List UInt8} (h : (tlv 48 X).length ≤ 65536) : mframe (tlv 48 X ++ rest) = ((tlv 48 X).length, 0) := by
  obtain ⟨c, Y, hc⟩ := tlv_cons X
  have hl : (tlv 48 X).length = Y.length + 2 := by rw [hc]; rfl
  have h1 := mframe_head (Z := Y ++ rest) h c Y hc (fun k _ hk => List.take_append_of_le_length hk)
  rw [if_neg (by rw [List.length_append]; omega)] at h1
  rw [← h1, hc]
  rfl
theorem mframe_cut {X : List UInt8} {j : Nat} (h : (tlv 48 X).length ≤ 65536) (hj : j < (tlv 48 X).length) : mframe ((tlv 48 X).take j) = (0, 0) := by
  obtain ⟨c, Y, hc⟩ := tlv_cons X
  have hl : (tlv 48 X).length = Y.length + 2 := by rw [hc]; rfl
  match j, hj with
  | 0, _ => rfl
  | 1, _ => rw [hc]; rfl
  | j + 2, hj =>
    have h1 := mframe_head (Z := Y.take j) h c Y hc (fun k hk _ => by rw [List.length_take] at hk; rw [List.take_take, Nat.min_eq_left (by omega)])
    rw [if_pos (by rw [List.length_take]; omega)] at h1
    rw [← h1, hc]
    rfl
end Go.Proofs.YtoockogceobfgaaGreat
