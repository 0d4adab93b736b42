/- ber: FromBool, the document's FromBool, Bool, the document's FromInt. -/
import Derived.Test.YtcffefadagfdcaaBerN
namespace Go.Proofs.Ytcffefadagfdcaa
open Go.RowKit
set_option maxRecDepth 100000

def fbo (l : List UInt8) : Bool × Nat := if l.length = 1 then (decide (l.getD 0 0 ≠ 0), 0) else (false, 3)
theorem fromb_any {w : World} {S : Nat → Prop} {v : Value} {l : List UInt8} (h : Bs w S v l) :
    Calls Try.prog 30 #[v] w fun e w' => e = .returned (.tuple #[.bool (fbo l).1, .int .i64 ((fbo l).2 : Nat)]) ∧ w' = w := by
  obtain ⟨o, ho⟩ : ∃ o, o = fbo l := ⟨_, rfl⟩
  rw [← ho]
  unfold fbo at ho
  obtain ⟨A, c, rfl, h1, h2, h3, h4⟩ := h.open_
  clear h
  by_cases e0 : l.length = 1
  · rw [if_pos e0] at ho
    obtain ⟨ad, hA, hB, hc0⟩ := h4.byte (k := 0) (by omega)
    subst hA
    rw [show ad.add 0 = ad by simp [Addr.add]] at hc0
    rw [show l.getD 0 0 = l[0] by rw [List.getD_eq_getElem?_getD, List.getElem?_eq_getElem (by omega)]; rfl] at ho
    have hb : ((l.length : Int) != 1) = false := by rw [e0]; rfl
    have hi0 : 0 < l.length := by omega
    generalize l[0] = b0 at *
    have hb0 : ((b0.toNat : Int) != 0) = decide (b0 ≠ 0) := by
      rw [Bool.eq_iff_iff, bne_iff_ne, decide_eq_true_eq, ne_eq, ne_eq, ← UInt8.toNat_inj, show (0 : UInt8).toNat = 0 from rfl]; omega
    generalize decide (b0 ≠ 0) = q at *
    generalize b0.toNat = b at *
    subst ho
    clear e0
    go_enter Try.func30, Try.ntmps30
    go_wp2_with fail
    go_ret2
    exact ⟨rfl, rfl⟩
  · rw [if_neg e0] at ho
    have hb : ((l.length : Int) != 1) = true := by rw [bne_iff_ne]; omega
    subst ho
    go_enter Try.func30, Try.ntmps30
    go_wp2_with fail
    go_ret2
    exact ⟨rfl, rfl⟩
theorem rfromb_any {w : World} {S : Nat → Prop} {v : Value} {l : List UInt8} (h : Bs w S v l) :
    Calls Try.prog 31 #[v] w fun e w' => e = .returned (.tuple #[.bool (fbo l).1, .int .i64 ((fbo l).2 : Nat)]) ∧ w' = w := by
  obtain ⟨o, ho⟩ : ∃ o, o = fbo l := ⟨_, rfl⟩
  rw [← ho]
  unfold fbo at ho
  obtain ⟨A, c, rfl, h1, h2, h3, h4⟩ := h.open_
  clear h
  by_cases e0 : l.length = 1
  · rw [if_pos e0] at ho
    obtain ⟨ad, hA, hB, hc0⟩ := h4.byte (k := 0) (by omega)
    subst hA
    rw [show ad.add 0 = ad by simp [Addr.add]] at hc0
    rw [show l.getD 0 0 = l[0] by rw [List.getD_eq_getElem?_getD, List.getElem?_eq_getElem (by omega)]; rfl] at ho
    have hb : ((l.length : Int) != 1) = false := by rw [e0]; rfl
    have hi0 : 0 < l.length := by omega
    generalize l[0] = b0 at *
    have hb0 : ((b0.toNat : Int) != 0) = decide (b0 ≠ 0) := by
      rw [Bool.eq_iff_iff, bne_iff_ne, decide_eq_true_eq, ne_eq, ne_eq, ← UInt8.toNat_inj, show (0 : UInt8).toNat = 0 from rfl]; omega
    generalize decide (b0 ≠ 0) = q at *
    generalize b0.toNat = b at *
    subst ho
    clear e0
    go_enter Try.func31, Try.ntmps31
    go_wp2_with fail
    go_ret2
    exact ⟨rfl, rfl⟩
  · rw [if_neg e0] at ho
    have hb : ((l.length : Int) != 1) = true := by rw [bne_iff_ne]; omega
    subst ho
    go_enter Try.func31, Try.ntmps31
    go_wp2_with fail
    go_ret2
    exact ⟨rfl, rfl⟩

theorem bool_any {w : World} (q : Bool) : Calls Try.prog 32 #[.bool q] w fun e w' => ∃ v', e = .returned v' ∧ Bs w' (fun _ => True) v' [if q then 255 else 0] ∧ Ext w w' := by
  have h1 : Bs (w.alloc (.cells #[.int .u8 255] 5)) (fun _ => True) (.slice (some ⟨w.heap.size, 0, none⟩) 1 1) [255] := (Bs.lit w 5 [255] (by simp [maxLen])).mono (fun _ _ _ => trivial)
  have h2 : Bs (w.alloc (.cells #[.int .u8 0] 5)) (fun _ => True) (.slice (some ⟨w.heap.size, 0, none⟩) 1 1) [0] := (Bs.lit w 5 [0] (by simp [maxLen])).mono (fun _ _ _ => trivial)
  cases q
  · go_enter Try.func32, Try.ntmps32
    go_wp2_with fail
    go_ret
    exact ⟨_, rfl, h2, (Mod.refl _ _).alloc _⟩
  · go_enter Try.func32, Try.ntmps32
    go_wp2_with fail
    go_ret
    exact ⟨_, rfl, h1, (Mod.refl _ _).alloc _⟩

theorem u64_or_byte (m : Int) (c : Nat) (hc : c < 256) : bits .or .u64 (IntKind.u64.wrap (m * 256)) (IntKind.u64.wrap (c : Int)) = (m * 256 + c) % 18446744073709551616 := by
  show IntKind.u64.wrap (((BitVec.ofInt 64 (IntKind.u64.wrap (m * 256)) ||| BitVec.ofInt 64 (IntKind.u64.wrap (c : Int))).toNat : Nat) : Int) = _
  have h1 : (BitVec.ofInt 64 (IntKind.u64.wrap (m * 256))).toNat = 2 ^ 8 * (m % 72057594037927936).toNat := by
    rw [BitVec.toNat_ofInt, IntKind.wrap_u64]
    have : 0 ≤ m % 72057594037927936 := Int.emod_nonneg _ (by omega)
    omega
  have h2 : (BitVec.ofInt 64 (IntKind.u64.wrap (c : Int))).toNat = c := by
    rw [BitVec.toNat_ofInt, IntKind.wrap_u64]; omega
  rw [BitVec.toNat_or, h1, h2, ← Nat.two_pow_add_eq_or_of_lt (by omega), IntKind.wrap_u64]
  have : 0 ≤ m % 72057594037927936 := Int.emod_nonneg _ (by omega)
  have h3 : ((2 ^ 8 * (m % 72057594037927936).toNat + c : Nat) : Int) = 256 * (m % 72057594037927936) + c := by
    rw [Int.natCast_add, Int.natCast_mul, Int.toNat_of_nonneg this]; rfl
  rw [h3]
  omega
set_option maxHeartbeats 1000000 in
theorem rfrom_any {w : World} {S : Nat → Prop} {v : Value} {l : List UInt8} (h : Bs w S v l) :
    Calls Try.prog 28 #[v] w fun e w' => e = .returned (.tuple #[.int .i64 (frm l).1, .int .i64 ((frm l).2 : Nat)]) ∧ w' = w := by
  obtain ⟨o, ho⟩ : ∃ o, o = frm l := ⟨_, rfl⟩
  rw [← ho]
  unfold frm at ho
  obtain ⟨A, c, rfl, h1, h2, h3, h4⟩ := h.open_
  clear h
  by_cases e0 : l.length < 1
  · rw [if_pos (.inl e0)] at ho
    subst ho
    go_enter Try.func28, Try.ntmps28
    go_wp2_with fail
    go_ret2
    exact ⟨rfl, rfl⟩
  by_cases e1 : 8 < l.length
  · rw [if_pos (.inr e1)] at ho
    subst ho
    go_enter Try.func28, Try.ntmps28
    go_wp2_with fail
    go_ret2
    exact ⟨rfl, rfl⟩
  rw [if_neg (by omega)] at ho
  obtain ⟨ad, hA, hB, hc0⟩ := h4.byte (k := 0) (by omega)
  subst hA
  rw [show ad.add 0 = ad by simp [Addr.add]] at hc0
  have hcell : ∀ j, (hj : j < l.length) → w.cell? (ad.add j) = some (.int .u8 (l[j].toNat : Int)) := fun j hj => by
    obtain ⟨ad9, hA9, hB9, hc9⟩ := h4.byte (k := j) hj
    injection hA9 with hA9
    subst hA9
    exact hc9
  have hb0 := l[0].toNat_lt
  have hpos : 0 < l.length := by omega
  have hg0 : (l.getD 0 0).toNat = l[0].toNat := by rw [List.getD_eq_getElem?_getD, List.getElem?_eq_getElem (by omega)]; rfl
  generalize l[0].toNat = b0 at *
  clear e0 h4
  by_cases hn : 127 < b0
  · skip
    go_enter Try.func28, Try.ntmps28
    go_wp2_with fail
    go_loop [4, 5] (fun n i => ∃ j : Nat, j ≤ l.length ∧ i = .int .i64 j ∧ n = .int .u64 (((uval (l.take j) : Int) - ((2 ^ (8 * j) : Nat) : Int)) % 18446744073709551616)) (fun _ i => l.length - (intOf i).toNat)
    case atStart => exact ⟨0, Nat.zero_le _, rfl, by simp [uval]⟩
    case round =>
      obtain ⟨j, hj, rfl, rfl⟩ := hrel
      by_cases hlt : j < l.length
      · have hc9 := hcell j hlt
        have hX : ((uval (l.take (j + 1)) : Int) - ((2 ^ (8 * (j + 1)) : Nat) : Int)) = ((uval (l.take j) : Int) - ((2 ^ (8 * j) : Nat) : Int)) * 256 + l[j].toNat := by
          rw [List.take_succ_eq_append_getElem hlt, uval_snoc, pow_next]; omega
        have hb := l[j].toNat_lt
        generalize ((uval (l.take j) : Int) - ((2 ^ (8 * j) : Nat) : Int)) = X at *
        replace hX := Lib.hid hX
        generalize l[j].toNat = b at *
        have hor := u64_or_byte (X % 18446744073709551616) b hb
        rw [show IntKind.u64.wrap (b : Int) = (b : Int) by rw [IntKind.wrap_u64]; omega] at hor
        clear hcell
        obtain ⟨u, hu⟩ : ∃ u, u = X % 18446744073709551616 := ⟨_, rfl⟩
        rw [← hu] at hor ⊢
        replace hu := Lib.hid hu
        go_wp2_with fail
        exact ⟨⟨j + 1, by omega, by go_num, by rw [hX.out]; first | (congr 1; rw [hu.out]; omega) | (rw [hor]; congr 1; rw [hu.out]; omega)⟩, by simp [intOf] <;> omega⟩
      · obtain rfl : j = l.length := by omega
        have hwr : wrap64 (((uval (l.take l.length) : Int) - ((2 ^ (8 * l.length) : Nat) : Int)) % 18446744073709551616) = sval l := by
          have hs : sval l = ((uval (l.take l.length) : Int) - ((2 ^ (8 * l.length) : Nat) : Int)) := by rw [List.take_of_length_le (Nat.le_refl _)]; unfold sval; rw [hg0, if_pos (by omega)]
          have hbd := sval_bd8 (l := l) (by rintro rfl; simp at hpos) 8 (by omega)
          rw [show ((2 ^ (8 * 8) : Nat) : Int) = 18446744073709551616 by decide] at hbd
          rw [← hs]
          unfold wrap64
          omega
        generalize ((uval (l.take l.length) : Int) - ((2 ^ (8 * l.length) : Nat) : Int)) % 18446744073709551616 = u at *
        clear hcell hg0
        subst ho
        go_wp2_with fail
        go_ret2
        exact ⟨by first | rfl | rw [hwr], rfl⟩
  · skip
    go_enter Try.func28, Try.ntmps28
    go_wp2_with fail
    go_loop [4, 5] (fun n i => ∃ j : Nat, j ≤ l.length ∧ i = .int .i64 j ∧ n = .int .u64 ((uval (l.take j) : Int) % 18446744073709551616)) (fun _ i => l.length - (intOf i).toNat)
    case atStart => exact ⟨0, Nat.zero_le _, rfl, by simp [uval]⟩
    case round =>
      obtain ⟨j, hj, rfl, rfl⟩ := hrel
      by_cases hlt : j < l.length
      · have hc9 := hcell j hlt
        have hX : (uval (l.take (j + 1)) : Int) = (uval (l.take j) : Int) * 256 + l[j].toNat := by
          rw [List.take_succ_eq_append_getElem hlt, uval_snoc]; omega
        have hb := l[j].toNat_lt
        generalize (uval (l.take j) : Int) = X at *
        replace hX := Lib.hid hX
        generalize l[j].toNat = b at *
        have hor := u64_or_byte (X % 18446744073709551616) b hb
        rw [show IntKind.u64.wrap (b : Int) = (b : Int) by rw [IntKind.wrap_u64]; omega] at hor
        clear hcell
        obtain ⟨u, hu⟩ : ∃ u, u = X % 18446744073709551616 := ⟨_, rfl⟩
        rw [← hu] at hor ⊢
        replace hu := Lib.hid hu
        go_wp2_with fail
        exact ⟨⟨j + 1, by omega, by go_num, by rw [hX.out]; first | (congr 1; rw [hu.out]; omega) | (rw [hor]; congr 1; rw [hu.out]; omega)⟩, by simp [intOf] <;> omega⟩
      · obtain rfl : j = l.length := by omega
        have hwr : wrap64 ((uval (l.take l.length) : Int) % 18446744073709551616) = sval l := by
          have hs : sval l = (uval (l.take l.length) : Int) := by rw [List.take_of_length_le (Nat.le_refl _)]; unfold sval; rw [hg0, if_neg (by omega), Int.sub_zero]
          have hbd := sval_bd8 (l := l) (by rintro rfl; simp at hpos) 8 (by omega)
          rw [show ((2 ^ (8 * 8) : Nat) : Int) = 18446744073709551616 by decide] at hbd
          rw [← hs]
          unfold wrap64
          omega
        generalize (uval (l.take l.length) : Int) % 18446744073709551616 = u at *
        clear hcell hg0
        subst ho
        go_wp2_with fail
        go_ret2
        exact ⟨by first | rfl | rw [hwr], rfl⟩
end Go.Proofs.Ytcffefadagfdcaa
