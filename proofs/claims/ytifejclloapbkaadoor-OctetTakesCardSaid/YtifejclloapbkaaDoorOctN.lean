/- octet: the check sum of rows: the statement's own walk. -/
import Derived.Test.YtifejclloapbkaaDoorOctM
namespace Go.Proofs.YtifejclloapbkaaDoor
open Go.RowKit
set_option maxRecDepth 100000

theorem weight_flat (L : List (List UInt8)) : L.flatten.length ≤ weight L := by
  unfold weight
  induction L with
  | nil => simp
  | cons a L ih => simp only [List.flatten_cons, List.length_append, List.map_cons, List.sum_cons]; omega

set_option maxHeartbeats 2000000 in
theorem law_sums {w : World} {S : Nat → Prop} {y : Value} {L : List (List UInt8)} (hy : Rw w S y L) (a : Int) (c : UInt8) (hN : Nib w) :
    Calls Tryd.prog 6 #[y, .int .i64 a, .int .u8 (c.toNat : Int)] w fun e w' => e = .returned (.bool true) ∧ Ext w w' := by
  by_cases hbig : 4000 < weight L
  · go_enter Tryd.func6, Tryd.ntmps6
    go_wp2_with fail
    refine (heavy_any hy).mono ?_; rintro e w1 ⟨rfl, rfl⟩
    rw [decide_eq_true hbig]
    go_wp2_with fail
    go_ret
    exact ⟨rfl, Mod.refl _ _⟩
  · have hfl := weight_flat L
    obtain ⟨l, hl⟩ : ∃ l, L.flatten = l := ⟨_, rfl⟩
    rw [hl] at hfl
    replace hl := Lib.hid hl
    go_enter Tryd.func6, Tryd.ntmps6
    go_wp2_with fail
    refine (heavy_any hy).mono ?_; rintro e w1 ⟨rfl, rfl⟩
    rw [decide_eq_false hbig]
    have hN1 := hN
    go_wp2_with fail
    refine (join_any hy (by rw [hl.out]; omega)).mono ?_
    rintro e w2 ⟨v2, rfl, k1, k2, k3⟩
    rw [hl.out] at k1
    go_wp2_with fail
    obtain ⟨A, cc, vs, rfl, h1, h2, h3, h4, h5, h6⟩ := hy.open_
    go_wp2_with fail
    go_loopw [8, 9] (fun v i wr => ∃ k : Nat, k ≤ L.length ∧ i = .int .i64 k ∧ Own wr 5 v ((L.take k).flatten.map bv) ∧ Fresh w2.heap.size v ∧ Ext w2 wr) (fun _ i _ => L.length - (intOf i).toNat)
    case atStart => exact ⟨0, Nat.zero_le _, rfl, Own.nil _ _, fresh_nil _ _ _, Mod.refl _ _⟩
    case round =>
      obtain ⟨k, hk, rfl, hown, hf, hm⟩ := hrel
      have hx := ext_trans k3 hm
      by_cases hlt : k < L.length
      · obtain ⟨ad, x, rfl, hc, hbs⟩ := row_now h4 h5 h6 hx (fun _ _ _ h => h) hlt
        have hsn := Lib.hid (flat_snoc L k hlt)
        have hle1 := flat_take L (k + 1)
        rw [hsn.out, List.length_append, hl.out] at hle1
        go_wp2_with ((with_reducible show wpList _ _ _ (⟨some 26, _, _, _, _, _⟩ :: _) _ _); refine wp_app tyB hown (hbs.ext hx) (bv_one _) rfl (.tmp 21) (.tmp 25) rfl rfl rfl ?hn ?_; rotate_right; intro v5 w5 hown5 hmod5 hnx5)
        case hn => simp only [List.length_map]; omega
        exact ⟨⟨k + 1, by omega, by go_num, by rw [hsn.out, List.map_append]; exact hown5, hnx5.fresh hf hm.size, ext_app0 hm hf hmod5⟩, by simp [intOf]; omega⟩
      · rw [List.take_of_length_le (by omega), hl.out] at hown
        obtain ⟨Av, cv, rfl⟩ := hown.shape
        have hcapv := own_cap hown
        rw [List.length_map] at hown hf hcapv ⊢
        go_wp2_with fail
        refine (sum_any (hy.mod hx (fun _ _ _ h => h)) (hN.mod hx (fun h => h))).mono ?_
        rintro e w6 ⟨rfl, rfl⟩
        rw [hl.out]
        go_wp2_with fail
        have k1' := k1.mod hm (fun _ _ h => h)
        refine (same_any k1'.sl hown.sl).mono ?_
        rintro e w7 ⟨rfl, n7, hw7⟩
        have hm7 : Ext w6 w7 := by rw [hw7]; exact (Mod.refl _ w6).drewN n7
        have hown7 := hown.mod hm7 (fun _ _ h => h)
        have hx7 := ext_trans hx hm7
        clear hw7
        rw [decide_eq_true (rfl : l = l)]
        go_wp2_with fail
        refine (rsum_any hown7.sl).mono ?_
        rintro e w8 ⟨rfl, rfl⟩
        go_wp2_with fail
        have hN8 := hN.mod hx7 (fun h => h)
        have hr8 := Rw.one 23 hown7.sl
        refine (sum_any hr8 (hN8.mod ((Mod.refl (fun _ => False) w8).alloc _) (fun h => h))).mono ?_
        rintro e w9 ⟨rfl, hw9⟩
        have hm9 : Ext w8 w9 := by rw [hw9]; exact (Mod.refl _ w8).alloc _
        have hown9 := hown7.mod hm9 (fun _ _ h => h)
        have hx9 := ext_trans hx7 hm9
        have hN9 := hN8.mod hm9 (fun h => h)
        rw [show ([l] : List (List UInt8)).flatten = l by simp]
        have hf9 : Fresh w1.heap.size (.slice Av l.length cv) := hf.mono k3.size
        clear hw9 hr8 hN8 hm7 hx hx7 hm9 hown7 hown k1' k1 k2 hf hN hy h5 h6
        clear hl hfl
        by_cases hl0 : l.length = 0
        · have hb0 : decide (0 < (l.length : Int)) = false := by simp; exact List.eq_nil_of_length_eq_zero hl0
          go_wp2_with fail
          refine (known_any hN9).mono ?_; rintro e w10 ⟨rfl, hx10⟩
          go_wp2_with fail
          go_ret
          exact ⟨rfl, ext_trans hx9 hx10⟩
        · have hb0 : decide (0 < (l.length : Int)) = true := by rw [decide_eq_true_eq]; omega
          by_cases hc0 : c = 0
          · have hb1 : ((c.toNat : Int) != 0) = false := by simp [hc0]
            go_wp2_with fail
            refine (known_any hN9).mono ?_; rintro e w10 ⟨rfl, hx10⟩
            go_wp2_with fail
            go_ret
            exact ⟨rfl, ext_trans hx9 hx10⟩
          · have hb1 : ((c.toNat : Int) != 0) = true := by
              simp only [bne_iff_ne, ne_eq]; intro h; exact hc0 (UInt8.toNat_inj.1 (by simpa using h))
            have hand := i64_and30 a
            have ha0 : 0 ≤ a % 1073741824 := Int.emod_nonneg _ (by omega)
            have ha1 : a % 1073741824 < 1073741824 := Int.emod_lt_of_pos _ (by omega)
            obtain ⟨r, hr⟩ : ∃ r : Nat, a % 1073741824 = (r : Int) := Int.eq_ofNat_of_zero_le ha0
            rw [hr] at hand ha0 ha1
            clear hr
            obtain ⟨i, hi⟩ : ∃ i, i = r % l.length := ⟨_, rfl⟩
            have hil : i < l.length := by rw [hi]; exact Nat.mod_lt _ (by omega)
            have hmod : (r : Int) % (l.length : Int) = (i : Int) := by rw [hi]; rfl
            have hmod2 : Int.tmod (r : Int) (l.length : Int) = (i : Int) := by rw [hi]; rfl
            clear hi ha0 ha1
            have hpl : 0 < l.length := by omega
            obtain ⟨g, rfl⟩ : ∃ g, Av = some ⟨g, 0, none⟩ := by
              rcases hown9.form with ⟨_, h⟩ | ⟨g, cap, h, _⟩
              · have h9 : (l.map bv).length = 0 := by rw [h]; rfl
                rw [List.length_map] at h9; omega
              · injection h with h; exact ⟨g, h⟩
            have hgf : w1.heap.size ≤ g := hf9 g rfl
            have hc9 : w9.cell? ⟨g, i, none⟩ = some (.int .u8 (l[i].toNat : Int)) := by
              have := hown9.cellAt (j := i) (by simpa using hil)
              simpa using this
            have hz9 := hown9.frozenAt i
            have hcb := c.toNat_lt
            have hlb := l[i].toNat_lt
            obtain ⟨x, hx⟩ : ∃ x, x = l[i] ^^^ c := ⟨_, rfl⟩
            have hxo : bits .xor .u8 (l[i].toNat : Int) (c.toNat : Int) = (x.toNat : Int) := by
              rw [hx, UInt8.toNat_xor]; exact u8_xor_nat _ _ (by omega) (by omega)
            have hne : x ≠ l[i] := by
              intro h
              rw [hx] at h
              have h2 := congrArg (l[i] ^^^ ·) h
              simp only [← UInt8.xor_assoc, UInt8.xor_self, UInt8.zero_xor] at h2
              exact hc0 h2
            clear hx
            have hsu := sumOf_set l i x hil hne
            have hown10 := hown9.store (j := i) (bv x)
            rw [show (l.map bv).set i (bv x) = (l.set i x).map bv from (List.map_set ..).symm] at hown10
            have hx10 : Ext w1 (w9.setCell ⟨g, i, none⟩ (bv x)) := Mod.setCell hx9 (p := ⟨g, i, none⟩) (fun h => by have : g < w1.heap.size := h; omega) _
            have hsb : ((sumOf (l.set i x) : Int) == (sumOf l : Int)) = false := by
              rw [beq_eq_false_iff_ne]; intro h; exact hsu (by omega)
            have hN10 : Nib (w9.setCell ⟨g, i, none⟩ (bv x)) := hN9.mod (F := fun k => w1.heap.size ≤ k) ((Mod.refl (fun k => w1.heap.size ≤ k) w9).setCell (fun _ => hgf) _) (by have := lt_of_cell (hN1 0 (by omega)); intro h; have h3 : w1.heap.size ≤ 0 := h; have h4 : 0 < w1.heap.size := this; omega)
            have hsz10 : (w9.setCell ⟨g, i, none⟩ (bv x)).heap.size = w9.heap.size := by simp [World.setCell]
            clear hsu hmod2 hne
            have hlen2 : (l.set i x).length = l.length := List.length_set ..
            replace hlen2 := Lib.hid hlen2
            generalize l.set i x = l2 at *
            go_wp2_with fail
            rw [← hsz10]
            generalize w9.setCell ⟨g, i, none⟩ (Value.int .u8 (x.toNat : Int)) = w10 at *
            have hbs10 : Bs w10 (Go.Proofs.YtifejclloapbkaaDoor.own (.slice (some ⟨g, 0, none⟩) l.length cv)) (.slice (some ⟨g, 0, none⟩) l.length cv) l2 := hown10.sl
            have hr10 := Rw.one 23 hbs10
            refine (sum_any hr10 (hN10.mod ((Mod.refl (fun _ => False) w10).alloc _) (fun h => h))).mono ?_
            rintro e w11 ⟨rfl, hw11⟩
            have hm11 : Ext w10 w11 := by rw [hw11]; exact (Mod.refl _ w10).alloc _
            have hx11 := ext_trans hx10 hm11
            have hN11 := hN10.mod hm11 (fun h => h)
            rw [show ([l2] : List (List UInt8)).flatten = l2 by simp]
            clear hw11
            go_wp2_with fail
            refine (known_any hN11).mono ?_; rintro e w12 ⟨rfl, hx12⟩
            go_wp2_with fail
            go_ret
            exact ⟨rfl, ext_trans hx11 hx12⟩
end Go.Proofs.YtifejclloapbkaaDoor
