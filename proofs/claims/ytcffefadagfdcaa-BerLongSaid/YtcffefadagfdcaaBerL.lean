/- ber: a length may be told in more bytes than it needs: the statement's own walk. -/
import Derived.Test.YtcffefadagfdcaaBerJ
namespace Go.Proofs.Ytcffefadagfdcaa
open Go.RowKit
set_option maxRecDepth 100000

theorem uval_zeros (k : Nat) : uval (List.replicate k 0) = 0 := by
  induction k with
  | zero => rfl
  | succ k ih => rw [List.replicate_succ, uval_cons, ih]; simp
theorem long_hd {k n : Nat} (h0 : 1 ≤ k) (h1 : k ≤ 4) (hn : n < 256) : Hd (UInt8.ofNat (128 + k) :: (List.replicate (k - 1) 0 ++ [UInt8.ofNat n])) n :=
  .inr ⟨k, _, h0, h1, by simp; omega, by rw [uval_snoc, uval_zeros, ofNat_val hn]; omega, rfl⟩

set_option maxHeartbeats 2000000 in
theorem law_long {w : World} {y : Value} {body : List UInt8} (t : UInt8) (hy : Bs w (fun _ => True) y body) (a : Int) :
    Calls Try.prog 12 #[.int .u8 t.toNat, y, .int .i64 a] w fun e w' => e = .returned (.bool true) ∧ Ext w w' := by
  have hy0 := hy
  obtain ⟨Ay, cy, rfl, y1, y2, y3, y4⟩ := hy.open_
  clear y3 y4 hy
  obtain ⟨zz, ha, hb⟩ := and31_ex t
  by_cases hl : 255 < body.length
  · go_enter Try.func12, Try.ntmps12
    go_wp2_with fail
    go_ret
    exact ⟨rfl, Mod.refl _ _⟩
  by_cases ht : t &&& 31 = 31
  · rw [decide_eq_true ht] at hb
    go_enter Try.func12, Try.ntmps12
    go_wp2_with fail
    go_ret
    exact ⟨rfl, Mod.refl _ _⟩
  rw [decide_eq_false ht] at hb
  by_cases ha0 : a < 1
  · go_enter Try.func12, Try.ntmps12
    go_wp2_with fail
    go_ret
    exact ⟨rfl, Mod.refl _ _⟩
  by_cases ha1 : 4 < a
  · go_enter Try.func12, Try.ntmps12
    go_wp2_with fail
    go_ret
    exact ⟨rfl, Mod.refl _ _⟩
  obtain ⟨k, rfl⟩ : ∃ k : Nat, a = (k : Int) := Int.eq_ofNat_of_zero_le (by omega)
  have hk4 : k ≤ 4 := by omega
  have hk1 : 1 ≤ k := by omega
  clear ha0 ha1
  have hnext := @bnext_hd t _ body [] ht (long_hd hk1 hk4 (n := body.length) (by omega)) (by omega)
  rw [List.append_nil] at hnext
  replace hnext := Lib.hid hnext
  clear ht
  have hbk : Value.int .u8 (128 + (k : Int)) = bv (UInt8.ofNat (128 + k)) := by rw [← byte_of (by omega)]; rfl
  have hbn : Value.int .u8 (body.length : Int) = bv (UInt8.ofNat body.length) := byte_of (by omega)
  have hlit := Own.lit w 5 [.int .u8 (t.toNat : Int), .int .u8 (128 + (k : Int))] (by simp [maxLen])
  have hf0 : Fresh w.heap.size (.slice (some ⟨w.heap.size, 0, none⟩) 2 2) := fun x hk => by have : w.heap.size = x := Option.some.inj hk; omega
  have hx0 : Ext w (w.alloc (.cells [.int .u8 (t.toNat : Int), .int .u8 (128 + (k : Int))].toArray 5)) := (Mod.refl _ w).alloc _
  replace hlit : Own (w.alloc (.cells [.int .u8 (t.toNat : Int), .int .u8 (128 + (k : Int))].toArray 5)) 5 (.slice (some ⟨w.heap.size, 0, none⟩) 2 2) (([t, UInt8.ofNat (128 + k)] ++ List.replicate 0 0).map bv) := by
    rw [hbk] at hlit ⊢; exact hlit
  replace hbk := Lib.hid hbk
  replace hbn := Lib.hid hbn
  go_enter Try.func12, Try.ntmps12
  go_wp2_with fail
  go_loopw [7, 8] (fun v i wr => ∃ j : Nat, j < k ∧ i = .int .i64 ((j : Int) + 1) ∧ Own wr 5 v (([t, UInt8.ofNat (128 + k)] ++ List.replicate j 0).map bv) ∧ Fresh w.heap.size v ∧ Ext w wr) (fun _ i _ => k - (intOf i).toNat)
  case atStart => exact ⟨0, by omega, rfl, hlit, hf0, hx0⟩
  case round =>
    clear hlit hf0 hx0
    obtain ⟨j, hj, rfl, hown, hf, hx⟩ := hrel
    by_cases hlt : j + 1 < k
    · have hn1 := Lib.hid (room1 (u := bv 0) (show ([t, UInt8.ofNat (128 + k)] ++ List.replicate j 0 : List UInt8).length ≤ 100000000 by simp; omega))
      have hsl := Sl.one wr 5 (bv 0)
      have ho := one_ok (bv 0) rfl
      have hown1 := hown.alloc (.cells #[bv 0] 5)
      have hki : (j : Int) + 1 < (k : Int) := by omega
      rw [show bv 0 = .int .u8 0 from rfl] at hn1 hsl ho hown1
      go_wp2_with ((with_reducible show wpList _ _ _ (⟨some 41, _, _, _, _, _⟩ :: _) _ _); refine wp_app tyB hown1 hsl ho rfl (.tmp 39) (.tmp 40) rfl rfl rfl hn1.out ?_; intro v2 w2 k1 k2 k3)
      exact ⟨⟨j + 1, by omega, by go_num, by rw [List.replicate_succ', ← List.append_assoc, List.map_append]; exact k1, (k3.sooner (by simp)).fresh hf hx.size, ext_app hx hf k2⟩, by simp [intOf] <;> omega⟩
    · obtain rfl : j = k - 1 := by omega
      have hki : ¬ (((k - 1 : Nat) : Int) + 1 < (k : Int)) := by omega
      have hpl : ([t, UInt8.ofNat (128 + k)] ++ List.replicate (k - 1) 0 : List UInt8).length ≤ 10 := by simp; omega
      have hfe : [t, UInt8.ofNat (128 + k)] ++ List.replicate (k - 1) 0 ++ [UInt8.ofNat body.length] ++ body = t :: UInt8.ofNat (128 + k) :: (List.replicate (k - 1) 0 ++ [UInt8.ofNat body.length]) ++ body := by simp
      generalize [t, UInt8.ofNat (128 + k)] ++ List.replicate (k - 1) 0 = pre at *
      replace hfe := Lib.hid hfe
      have hn1 := Lib.hid (room1 (u := .int .u8 (body.length : Int)) (show pre.length ≤ 100000000 by omega))
      have hsl := Sl.one wr 5 (.int .u8 (body.length : Int))
      have ho := one_ok (.int .u8 (body.length : Int)) rfl
      have hown1 := hown.alloc (.cells #[.int .u8 (body.length : Int)] 5)
      have hn2 : (((pre ++ [UInt8.ofNat body.length]).map bv).length + (body.map bv).length) * 1 ≤ 140737488355328 := by
        rw [List.length_map, List.length_map, List.length_append]; simp; omega
      replace hn2 := Lib.hid hn2
      have hfl2 : (pre ++ [UInt8.ofNat body.length] ++ body).length ≤ 140737488355328 := by rw [List.length_append, List.length_append]; simp; omega
      replace hfl2 := Lib.hid hfl2
      clear hpl
      go_wp2_with (first
        | ((with_reducible show wpList _ _ _ (⟨some 47, _, _, _, _, _⟩ :: _) _ _); refine wp_app tyB hown1 hsl ho rfl (.tmp 42) (.tmp 46) rfl rfl rfl hn1.out ?_; intro v2 w2 k1 k2 k3; have hx2 := ext_app hx hf k2; have hf2 := (k3.sooner (by simp)).fresh hf hx.size; rw [hbn.out, ← List.map_singleton (f := bv), ← List.map_append] at k1; clear k2 k3)
        | ((with_reducible show wpList _ _ _ (⟨some 49, _, _, _, _, _⟩ :: _) _ _); refine wp_app tyB k1 (hy0.ext hx2) (bv_one _) rfl (.tmp 47) (.tmp 48) rfl rfl rfl hn2.out ?_; intro v3 w3 q1 q2 q3))
      rw [← List.map_append] at q1
      have hx3 := ext_app0 hx2 hf2 q2
      clear hx2 hf2 q2 q3 k1 hown1 hsl ho hown hx
      refine (bnext_any q1.sl hfl2.out).mono ?_
      rintro e w5 ⟨v5, v6, rfl, p1, p2, p3, p4, p5⟩
      rw [hfe.out, hnext.out] at p1 p2 ⊢
      have hx5 := ext_trans hx3 p5
      have kc1 := run_conv (P := Try.prog) Try.underlying24 Try.underlying5 Try.underlying9 p1.sl
      have kc4 := run_conv (P := Try.prog) Try.underlying24 Try.underlying5 Try.underlying9 (hy0.ext hx5)
      obtain ⟨A6, c6, rfl⟩ := p2.shape
      clear p1 p2 p3 p4 p5 q1
      go_wp2_with fail
      refine known24_any.mono ?_
      rintro e w6 ⟨rfl, hx6⟩
      go_wp2_with fail
      go_ret
      exact ⟨rfl, ext_trans hx5 hx6⟩
end Go.Proofs.Ytcffefadagfdcaa
