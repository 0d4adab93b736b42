/- ber: the document's Int. -/
import Derived.Test.YtcffefadagfdcaaBerO
namespace Go.Proofs.Ytcffefadagfdcaa
open Go.RowKit
set_option maxRecDepth 100000

theorem div_next (n : Int) (j : Nat) : n / 2 ^ (8 * j) / 256 = n / 2 ^ (8 * (j + 1)) := by
  have h5 : (2 : Int) ^ (8 * (j + 1)) = 2 ^ (8 * j) * 256 := by rw [show 8 * (j + 1) = 8 * j + 8 by omega, Int.pow_add]; rfl
  rw [Int.ediv_ediv_of_nonneg (Int.pow_nonneg (by omega)), h5]
theorem fits_next {n : Int} (h0 : -9223372036854775808 ≤ n) (h1 : n ≤ 9223372036854775807) (j : Nat) :
    Fits n (j + 1) ↔ (n / 2 ^ (8 * j) / 256 = 0 ∧ (bt n j).toNat / 128 = 0) ∨ (n / 2 ^ (8 * j) / 256 = -1 ∧ (bt n j).toNat / 128 = 1) := by
  have hy : n / 2 ^ (8 * j) / 128 = n / 2 ^ (8 * (j + 1) - 1) := by
    have h5 : (2 : Int) ^ (8 * (j + 1) - 1) = 2 ^ (8 * j) * 128 := by rw [show 8 * (j + 1) - 1 = 8 * j + 7 by omega, Int.pow_add]; rfl
    rw [Int.ediv_ediv_of_nonneg (Int.pow_nonneg (by omega)), h5]
  have hs : 0 ≤ n / 2 ^ (8 * j) ↔ 0 ≤ n := Int.ediv_nonneg_iff_of_pos (Int.pow_pos (by omega))
  have hb := bt_val n j
  unfold Fits
  rw [← hy]
  generalize n / 2 ^ (8 * j) = x at *
  generalize (bt n j).toNat = c at *
  omega

/-- How long a slice is. -/
def slen : Value → Nat
  | .slice _ n _ => n
  | _ => 0
theorem own_some {w : World} {e : TypeId} {v : Value} {xs : List Value} (h : Own w e v xs) (hne : xs ≠ []) : ∃ g cap, v = .slice (some ⟨g, 0, none⟩) xs.length cap ∧ xs.length ≤ cap ∧ cap ≤ 9223372036854775807 ∧ g < w.heap.size := by
  rcases h.form with ⟨_, h⟩ | ⟨g, cap, h, h2, h3, h4⟩
  · exact absurd h hne
  · exact ⟨g, cap, h, h2, by simpa [maxLen] using h3, h4⟩

set_option maxHeartbeats 1000000 in
theorem rint_any {w : World} (n : Int) (h0 : -9223372036854775808 ≤ n) (h1 : n ≤ 9223372036854775807) :
    Calls Try.prog 33 #[.int .i64 n] w fun e w' => ∃ k v', e = .returned v' ∧ IsW n k ∧ Own w' 5 v' ((bes n k).map bv) ∧ Fresh w.heap.size v' ∧ Ext w w' := by
  go_enter Try.func33, Try.ntmps33
  go_wp2_with fail
  go_loopw [0, 3] (fun m v wr => ∃ j : Nat, j ≤ 7 ∧ m = .int .i64 (n / 2 ^ (8 * j)) ∧ Own wr 5 v ((bes n j).map bv) ∧ Fresh w.heap.size v ∧ Ext w wr ∧ Hid (j = 0 ∨ ¬ Fits n j)) (fun _ v _ => 8 - slen v)
  case atStart => exact ⟨0, by omega, by simp, Own.nil _ _, fresh_nil _ _ _, Mod.refl _ _, Lib.hid (.inl rfl)⟩
  case round =>
    obtain ⟨j, hj, rfl, p0, p1, p2, pf⟩ := hrel
    have hfn := fits_next h0 h1 j
    have hdn := div_next n j
    have hbt := bt_val n j
    have hc := (bt n j).toNat_lt
    have hxr : -9223372036854775808 ≤ n / 2 ^ (8 * j) ∧ n / 2 ^ (8 * j) ≤ 9223372036854775807 := by
      have hP : (0 : Int) < 2 ^ (8 * j) := Int.pow_pos (by omega)
      constructor
      · exact Int.le_ediv_of_mul_le hP (by
          have : (1 : Int) ≤ 2 ^ (8 * j) := hP
          have h9 : (-9223372036854775808 : Int) * 2 ^ (8 * j) ≤ -9223372036854775808 * 1 := by omega
          omega)
      · refine Int.ediv_le_of_le_mul hP ?_
        have : (1 : Int) ≤ 2 ^ (8 * j) := hP
        have h9 : (9223372036854775807 : Int) * 1 ≤ 9223372036854775807 * 2 ^ (8 * j) := Int.mul_le_mul_of_nonneg_left this (by omega)
        omega
    have hbs : bes n (j + 1) = bt n j :: bes n j := rfl
    generalize n / 2 ^ (8 * j) = x at *
    obtain ⟨A, c, rfl⟩ := p0.shape
    rw [List.length_map, bes_len] at p0 p1 ⊢
    have hlit := Own.lit wr 5 [.int .u8 (x % 256)] (by simp [maxLen])
    have hfl : Fresh w.heap.size (.slice (some ⟨wr.heap.size, 0, none⟩) 1 1) := fun q hk => by have : wr.heap.size = q := Option.some.inj hk; have := p2.size; omega
    have hsl := (p0.alloc (.cells [.int .u8 (x % 256)].toArray 5)).sl
    have hn1 : (([.int .u8 (x % 256)] : List Value).length + ((bes n j).map bv).length) * 1 ≤ 140737488355328 := by rw [List.length_map, bes_len]; simp; omega
    replace hn1 := Lib.hid hn1
    replace hfn := Lib.hid hfn
    replace hdn := Lib.hid hdn
    replace hbs := Lib.hid hbs
    have hbv : (.int .u8 (x % 256) : Value) = bv (bt n j) := by show _ = Value.int .u8 ((bt n j).toNat : Int); rw [hbt]
    replace hbv := Lib.hid hbv
    replace hbt := Lib.hid hbt
    have hc3 : ((bt n j).toNat : Int) / 128 = 0 ∨ ((bt n j).toNat : Int) / 128 = 1 := by omega
    have hf9 := hfn.out
    by_cases hF : Fits n (j + 1)
    · have hw : Hid (IsW n (j + 1)) := Lib.hid ⟨by omega, by omega, hF, by
        rcases pf.out with h | h
        · exact .inl (by omega)
        · exact .inr (by simpa using h)⟩
      replace hf9 := hf9.1 hF
      rcases hf9 with ⟨e1, e2⟩ | ⟨e1, e2⟩
      · have e3 : ((bt n j).toNat : Int) / 128 = 0 := by omega
        clear e2 hc3 hF
        rw [show x % 256 = x by omega] at hlit hsl hn1 hbv
        go_wp2_with ((with_reducible show wpList _ _ _ (⟨some 9, _, _, _, _, _⟩ :: _) _ _); refine wp_app tyB hlit hsl (bv_one _) rfl (.tmp 7) (.tmp 8) rfl rfl rfl hn1.out ?_; intro v2 w2 k1 k2 k3; rw [hbv.out] at k1; replace k1 : Own w2 5 v2 ((bt n j :: bes n j).map bv) := k1; have hx2 := ext_app p2 hfl k2; have hf2 := (k3.sooner (B' := w.heap.size) (by have := p2.size; simp; omega)).fresh hfl (Nat.le_refl _); obtain ⟨g, cap, rfl, y1, y2, y3⟩ := own_some k1 (by simp); rw [List.length_map, List.length_cons, bes_len] at k1 hf2 y1 ⊢; have hc0 := k1.cellAt (j := 0) (by simp); simp only [List.map_cons, List.getElem_cons_zero] at hc0; clear k2 k3)
        go_ret
        exact ⟨j + 1, _, rfl, hw.out, by rw [hbs.out]; exact k1, hf2, hx2⟩
      · have e3 : ((bt n j).toNat : Int) / 128 = 1 := by omega
        clear e2 hc3 hF
        go_wp2_with ((with_reducible show wpList _ _ _ (⟨some 9, _, _, _, _, _⟩ :: _) _ _); refine wp_app tyB hlit hsl (bv_one _) rfl (.tmp 7) (.tmp 8) rfl rfl rfl hn1.out ?_; intro v2 w2 k1 k2 k3; rw [hbv.out] at k1; replace k1 : Own w2 5 v2 ((bt n j :: bes n j).map bv) := k1; have hx2 := ext_app p2 hfl k2; have hf2 := (k3.sooner (B' := w.heap.size) (by have := p2.size; simp; omega)).fresh hfl (Nat.le_refl _); obtain ⟨g, cap, rfl, y1, y2, y3⟩ := own_some k1 (by simp); rw [List.length_map, List.length_cons, bes_len] at k1 hf2 y1 ⊢; have hc0 := k1.cellAt (j := 0) (by simp); simp only [List.map_cons, List.getElem_cons_zero] at hc0; clear k2 k3)
        go_ret
        exact ⟨j + 1, _, rfl, hw.out, by rw [hbs.out]; exact k1, hf2, hx2⟩
    · have hj6 : j + 1 ≤ 7 := by
        rcases Nat.lt_or_ge j 7 with h | h
        · omega
        · obtain rfl : j = 7 := by omega
          exact absurd (fits8 n) hF
      have hf8 : ¬ ((x / 256 = 0 ∧ (bt n j).toNat / 128 = 0) ∨ (x / 256 = -1 ∧ (bt n j).toNat / 128 = 1)) := fun h => hF (hf9.2 h)
      clear hf9
      replace hF := Lib.hid hF
      have hq3 : (x / 256 = 0 ∧ ((bt n j).toNat : Int) / 128 = 1) ∨ (x / 256 = -1 ∧ ((bt n j).toNat : Int) / 128 = 0) ∨ (¬ x / 256 = 0 ∧ ¬ x / 256 = -1) := by omega
      clear hf8 hc3
      rcases hq3 with ⟨e1, e3⟩ | ⟨e1, e3⟩ | ⟨e1, e3⟩
      · rw [show x % 256 = x by omega] at hlit hsl hn1 hbv
        go_wp2_with ((with_reducible show wpList _ _ _ (⟨some 9, _, _, _, _, _⟩ :: _) _ _); refine wp_app tyB hlit hsl (bv_one _) rfl (.tmp 7) (.tmp 8) rfl rfl rfl hn1.out ?_; intro v2 w2 k1 k2 k3; rw [hbv.out] at k1; replace k1 : Own w2 5 v2 ((bt n j :: bes n j).map bv) := k1; have hx2 := ext_app p2 hfl k2; have hf2 := (k3.sooner (B' := w.heap.size) (by have := p2.size; simp; omega)).fresh hfl (Nat.le_refl _); obtain ⟨g, cap, rfl, y1, y2, y3⟩ := own_some k1 (by simp); rw [List.length_map, List.length_cons, bes_len] at k1 hf2 y1 ⊢; have hc0 := k1.cellAt (j := 0) (by simp); simp only [List.map_cons, List.getElem_cons_zero] at hc0; clear k2 k3)
        exact ⟨⟨j + 1, by omega, by first | (rw [← hdn.out, e1]; done) | rw [← hdn.out], by rw [hbs.out]; exact k1, hf2, hx2, Lib.hid (.inr hF.out)⟩, by simp only [slen]; omega⟩
      · skip
        go_wp2_with ((with_reducible show wpList _ _ _ (⟨some 9, _, _, _, _, _⟩ :: _) _ _); refine wp_app tyB hlit hsl (bv_one _) rfl (.tmp 7) (.tmp 8) rfl rfl rfl hn1.out ?_; intro v2 w2 k1 k2 k3; rw [hbv.out] at k1; replace k1 : Own w2 5 v2 ((bt n j :: bes n j).map bv) := k1; have hx2 := ext_app p2 hfl k2; have hf2 := (k3.sooner (B' := w.heap.size) (by have := p2.size; simp; omega)).fresh hfl (Nat.le_refl _); obtain ⟨g, cap, rfl, y1, y2, y3⟩ := own_some k1 (by simp); rw [List.length_map, List.length_cons, bes_len] at k1 hf2 y1 ⊢; have hc0 := k1.cellAt (j := 0) (by simp); simp only [List.map_cons, List.getElem_cons_zero] at hc0; clear k2 k3)
        exact ⟨⟨j + 1, by omega, by first | (rw [← hdn.out, e1]; done) | rw [← hdn.out], by rw [hbs.out]; exact k1, hf2, hx2, Lib.hid (.inr hF.out)⟩, by simp only [slen]; omega⟩
      · have e4 : (x / 256 == 0) = false := by rw [beq_eq_false_iff_ne]; exact e1
        have e5 : (x / 256 == -1) = false := by rw [beq_eq_false_iff_ne]; exact e3
        go_wp2_with ((with_reducible show wpList _ _ _ (⟨some 9, _, _, _, _, _⟩ :: _) _ _); refine wp_app tyB hlit hsl (bv_one _) rfl (.tmp 7) (.tmp 8) rfl rfl rfl hn1.out ?_; intro v2 w2 k1 k2 k3; rw [hbv.out] at k1; replace k1 : Own w2 5 v2 ((bt n j :: bes n j).map bv) := k1; have hx2 := ext_app p2 hfl k2; have hf2 := (k3.sooner (B' := w.heap.size) (by have := p2.size; simp; omega)).fresh hfl (Nat.le_refl _); obtain ⟨g, cap, rfl, y1, y2, y3⟩ := own_some k1 (by simp); rw [List.length_map, List.length_cons, bes_len] at k1 hf2 y1 ⊢; have hc0 := k1.cellAt (j := 0) (by simp); simp only [List.map_cons, List.getElem_cons_zero] at hc0; clear k2 k3)
        exact ⟨⟨j + 1, by omega, by first | (rw [← hdn.out, e1]; done) | rw [← hdn.out], by rw [hbs.out]; exact k1, hf2, hx2, Lib.hid (.inr hF.out)⟩, by simp only [slen]; omega⟩
end Go.Proofs.Ytcffefadagfdcaa
