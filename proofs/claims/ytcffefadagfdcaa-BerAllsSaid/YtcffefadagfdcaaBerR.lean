/- ber: the document's length and Tag. -/
import Derived.Test.YtcffefadagfdcaaBerP
import Derived.Test.YtcffefadagfdcaaBerI
namespace Go.Proofs.Ytcffefadagfdcaa
open Go.RowKit
set_option maxRecDepth 100000

set_option maxHeartbeats 2000000 in
theorem rlen_any {w : World} {n : Nat} (hn : n < 16777216) :
    Calls Try.prog 41 #[.int .i64 n] w fun e w' => ∃ v', e = .returned v' ∧ Own w' 5 v' ((lay n).map bv) ∧ Fresh w.heap.size v' ∧ Ext w w' := by
  by_cases h128 : n < 128
  · have hlay : lay n = [UInt8.ofNat n] := by unfold lay; rw [if_pos h128]
    rw [hlay]
    have hown := Own.lit w 5 [.int .u8 (n : Int)] (by simp [maxLen])
    have hbv := byte_of (n := n) (by omega)
    replace hbv := Lib.hid hbv
    go_enter Try.func41, Try.ntmps41
    go_wp2_with fail
    go_ret
    exact ⟨_, rfl, by rw [hbv.out] at hown ⊢; exact hown, (fun x hk => by have : w.heap.size = x := Option.some.inj hk; omega), (Mod.refl _ _).alloc _⟩
  · have hlay : lay n = UInt8.ofNat (128 + lw n) :: bes n (lw n) := by unfold lay; rw [if_neg h128]
    replace hlay := Lib.hid hlay
    go_enter Try.func41, Try.ntmps41
    go_wp2_with fail
    go_loopw [0, 3] (fun m v wr => ∃ j : Nat, j ≤ 3 ∧ m = .int .i64 ((n : Int) / 2 ^ (8 * j)) ∧ Own wr 5 v ((bes n j).map bv) ∧ Fresh w.heap.size v ∧ Ext w wr ∧ Hid (j = 0 ∨ 2 ^ (8 * (j - 1)) ≤ n)) (fun _ v _ => 4 - slen v)
    case atStart => exact ⟨0, by omega, by simp, Own.nil _ _, fresh_nil _ _ _, Mod.refl _ _, Lib.hid (.inl rfl)⟩
    case round =>
      obtain ⟨j, hj, rfl, p0, p1, p2, pf⟩ := hrel
      obtain ⟨A, c, rfl⟩ := p0.shape
      rw [List.length_map, bes_len] at p0 p1 ⊢
      have hd1 : ((n / 2 ^ (8 * j) : Nat) : Int) = (n : Int) / 2 ^ (8 * j) := by simp
      by_cases hlt : n < 2 ^ (8 * j)
      · have hx0 : (n : Int) / 2 ^ (8 * j) = 0 := by rw [← hd1, Nat.div_eq_of_lt hlt]; rfl
        rw [hx0]
        have hj1 : 1 ≤ j := by
          rcases Nat.eq_zero_or_pos j with h | h
          · subst h; simp at hlt; omega
          · exact h
        have hw : lw n = j := lw_of hj1 hlt (by rcases pf.out with h | h; exact .inl (by omega); exact .inr h) hj
        rw [hw] at hlay
        have hbv := byte_of (n := 128 + j) (by omega)
        rw [Int.natCast_add] at hbv
        replace hbv := Lib.hid hbv
        have hlit := Own.lit wr 5 [.int .u8 (128 + (j : Int))] (by simp [maxLen])
        have hfl : Fresh w.heap.size (.slice (some ⟨wr.heap.size, 0, none⟩) 1 1) := fun q hk => by have : wr.heap.size = q := Option.some.inj hk; have := p2.size; omega
        have hsl := (p0.alloc (.cells [.int .u8 (128 + (j : Int))].toArray 5)).sl
        have hn1 : (([.int .u8 (128 + (j : Int))] : List Value).length + ((bes n j).map bv).length) * 1 ≤ 140737488355328 := by rw [List.length_map, bes_len]; simp; omega
        replace hn1 := Lib.hid hn1
        clear hlt hd1 hx0 hw pf
        go_wp2_with ((with_reducible show wpList _ _ _ (⟨some 24, _, _, _, _, _⟩ :: _) _ _); refine wp_app tyB hlit hsl (bv_one _) rfl (.tmp 22) (.tmp 23) rfl rfl rfl hn1.out ?_; intro v2 w2 k1 k2 k3)
        go_ret
        refine ⟨_, rfl, ?_, (k3.sooner (B' := w.heap.size) (by have := p2.size; simp; omega)).fresh hfl (Nat.le_refl _), ext_app p2 hfl k2⟩
        rw [hlay.out, List.map_cons, ← hbv.out]
        exact k1
      · have hlt' : 2 ^ (8 * j) ≤ n := by omega
        have hj2 : j < 3 := by
          rcases Nat.lt_or_ge j 3 with h | h
          · exact h
          · obtain rfl : j = 3 := by omega
            have : 16777216 ≤ n := hlt'
            omega
        have hx1 : 1 ≤ n / 2 ^ (8 * j) := (Nat.le_div_iff_mul_le (Nat.two_pow_pos _)).2 (by omega)
        have hxn : n / 2 ^ (8 * j) ≤ n := Nat.div_le_self _ _
        have hdn := div_next n j
        have hbt := bt_val n j
        rw [← hd1] at hdn hbt ⊢
        generalize n / 2 ^ (8 * j) = x at *
        have hbs : bes n (j + 1) = bt n j :: bes n j := rfl
        have hbv : (.int .u8 ((x : Int) % 256) : Value) = bv (bt n j) := by show _ = Value.int .u8 ((bt n j).toNat : Int); rw [hbt]
        have hlit := Own.lit wr 5 [.int .u8 ((x : Int) % 256)] (by simp [maxLen])
        have hfl : Fresh w.heap.size (.slice (some ⟨wr.heap.size, 0, none⟩) 1 1) := fun q hk => by have : wr.heap.size = q := Option.some.inj hk; have := p2.size; omega
        have hsl := (p0.alloc (.cells [.int .u8 ((x : Int) % 256)].toArray 5)).sl
        have hn1 : (([.int .u8 ((x : Int) % 256)] : List Value).length + ((bes n j).map bv).length) * 1 ≤ 140737488355328 := by rw [List.length_map, bes_len]; simp; omega
        replace hn1 := Lib.hid hn1
        replace hdn := Lib.hid hdn
        replace hbs := Lib.hid hbs
        replace hbv := Lib.hid hbv
        replace hlt' := Lib.hid hlt'
        clear hbt hlt hd1 pf
        go_wp2_with ((with_reducible show wpList _ _ _ (⟨some 15, _, _, _, _, _⟩ :: _) _ _); refine wp_app tyB hlit hsl (bv_one _) rfl (.tmp 13) (.tmp 14) rfl rfl rfl hn1.out ?_; intro v2 w2 k1 k2 k3; rw [hbv.out] at k1; replace k1 : Own w2 5 v2 ((bt n j :: bes n j).map bv) := k1)
        have hfv := (k3.sooner (B' := w.heap.size) (by have := p2.size; simp; omega)).fresh hfl (Nat.le_refl _)
        obtain ⟨A2, c2, rfl⟩ := k1.shape
        rw [List.length_map, List.length_cons, bes_len] at k1 hfv ⊢
        exact ⟨⟨j + 1, by omega, by rw [← hdn.out], by rw [hbs.out]; exact k1, hfv, ext_app p2 hfl k2, Lib.hid (.inr hlt'.out)⟩, by simp only [slen]; omega⟩

set_option maxHeartbeats 2000000 in
theorem rtag_any {w : World} {S : Nat → Prop} {y : Value} {l : List UInt8} (t : UInt8) (hy : Bs w S y l) (hl : l.length ≤ 65536) :
    Calls Try.prog 25 #[.int .u8 t.toNat, y] w fun e w' => ∃ v', e = .returned v' ∧ Own w' 5 v' ((t :: lay l.length ++ l).map bv) ∧ Fresh w.heap.size v' ∧ Ext w w' := by
  have hy0 := hy
  obtain ⟨A, c, rfl, h1, h2, h3, h4⟩ := hy.open_
  clear h3 h4 hy
  go_enter Try.func25, Try.ntmps25
  go_wp2_with fail
  refine (rlen_any (by omega)).mono ?_
  rintro e w1 ⟨v1, rfl, g1, gf, hx1a⟩
  have hlit0 : Own (w.alloc (.cells #[.int .u8 (t.toNat : Int)] 5)) 5 (.slice (some ⟨w.heap.size, 0, none⟩) 1 1) ([t].map bv) := Own.lit w 5 [bv t] (by simp [maxLen])
  have hfl : Fresh w.heap.size (.slice (some ⟨w.heap.size, 0, none⟩) 1 1) := fun q hk => by have : w.heap.size = q := Option.some.inj hk; omega
  have hlit := hlit0.mod hx1a (fun _ _ h => h)
  have hx1 : Ext w w1 := ext_trans ((Mod.refl _ w).alloc _) hx1a
  have hll := lay_len l.length
  obtain ⟨ly, hly⟩ : ∃ ly, ly = lay l.length := ⟨_, rfl⟩
  rw [← hly] at g1 hll
  replace hly := Lib.hid hly
  have hn1 : (([t].map bv).length + (ly.map bv).length) * 1 ≤ 140737488355328 := by rw [List.length_map, List.length_map]; simp; omega
  have hn2 : (((t :: ly).map bv).length + (l.map bv).length) * 1 ≤ 140737488355328 := by rw [List.length_map, List.length_map]; simp; omega
  replace hn1 := Lib.hid hn1
  replace hn2 := Lib.hid hn2
  have g1s := g1.sl
  clear hlit0 g1 gf hll
  go_wp2_with (first
    | ((with_reducible show wpList _ _ _ (⟨some 10, _, _, _, _, _⟩ :: _) _ _); refine wp_app tyB hlit g1s (bv_one _) rfl (.tmp 6) (.tmp 9) rfl rfl rfl hn1.out ?_; intro v2 w2 k1 k2 k3; rw [← List.map_append] at k1; replace k1 : Own w2 5 v2 ((t :: ly).map bv) := k1; have hx2 := ext_app0 hx1 hfl k2; have hf2 := k3.fresh hfl hx1.size; clear k2 k3)
    | ((with_reducible show wpList _ _ _ (⟨some 12, _, _, _, _, _⟩ :: _) _ _); refine wp_app tyB k1 (hy0.ext hx2) (bv_one _) rfl (.tmp 10) (.tmp 11) rfl rfl rfl hn2.out ?_; intro v3 w3 q1 q2 q3; rw [← List.map_append] at q1))
  go_ret
  exact ⟨_, rfl, by rw [← hly.out]; exact q1, q3.fresh hf2 hx2.size, ext_app0 hx2 hf2 q2⟩
end Go.Proofs.Ytcffefadagfdcaa
