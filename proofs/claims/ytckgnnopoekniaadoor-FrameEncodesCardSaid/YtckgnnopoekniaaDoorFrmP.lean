/- frame: any rows as one record, and back, whatever stands behind: the statement's own walk. -/
import Derived.Test.YtckgnnopoekniaaDoorFrmO
namespace Go.Proofs.YtckgnnopoekniaaDoor
open Go.RowKit
set_option maxRecDepth 100000

theorem one_frec (p : List UInt8) (h : p.length ≤ 1048576) : one (frec p) = (p, 0) := by
  have := dec_frec p [] h
  rw [List.append_nil] at this
  unfold one
  rw [this, if_neg (by simp), if_neg (by show ¬ (12 + p.length < (frec p).length); rw [frec_len]; omega)]
theorem one_more (p : List UInt8) (c : UInt8) (h : p.length ≤ 1048576) : one (frec p ++ [c]) = ([], 3) := by
  have := dec_frec p [c] h
  unfold one
  rw [this, if_neg (by simp), if_pos (by show 12 + p.length < (frec p ++ [c]).length; rw [List.length_append, frec_len]; simp)]

set_option maxHeartbeats 4000000 in
theorem law_encodes {w : World} {y z : Value} {L : List (List UInt8)} {more : List UInt8} (hy : Rw w (fun _ => True) y L) (hz : Bs w (fun _ => True) z more) (hml : more.length ≤ 140737488351232) (hN : Nib w) :
    Calls Tryd.prog 3 #[y, z] w fun e w' => e = .returned (.bool true) ∧ Ext w w' := by
  have hy0 := hy
  have hz0 := hz
  obtain ⟨A, c, vs, rfl, h1, h2, h3, h4, h5, h6⟩ := hy.open_
  obtain ⟨Az, cz, rfl, z1, z2, z3, z4⟩ := hz.open_
  clear z3 z4 hy hz
  go_enter Tryd.func3, Tryd.ntmps3
  go_wp2_with fail
  go_loopw [5, 6] (fun v i wr => ∃ k : Nat, k ≤ L.length ∧ i = .int .i64 k ∧ Own wr 5 v ((L.take k).flatten.map bv) ∧ Fresh w.heap.size v ∧ Ext w wr ∧ Hid ((L.take k).flatten.length ≤ 8000)) (fun _ i _ => L.length - (intOf i).toNat)
  case atStart => exact ⟨0, Nat.zero_le _, rfl, Own.nil _ _, fresh_nil _ _ _, Mod.refl _ _, Lib.hid (by simp)⟩
  case round =>
    obtain ⟨k, hk, rfl, hown, hf, hx, hle⟩ := hrel
    have hle9 := hle.out
    by_cases hlt : k < L.length
    · obtain ⟨ad, x, rfl, hs, hc, hbs⟩ := row_at h4 (h5.mod hx (fun _ _ _ h => h)) (fun k x l hx1 hl => (h6 k x l hx1 hl).ext hx) hlt
      have hsn := Lib.hid (flat_snoc L k hlt)
      generalize L[k] = p at *
      generalize (L.take k).flatten = pre at *
      obtain ⟨A1, c1, rfl, y1, y2, y3, y4⟩ := hbs.open_
      obtain ⟨A3, c3, rfl⟩ := hown.shape
      simp only [List.length_map] at hown hf ⊢
      by_cases hbig : 4000 < p.length
      · go_wp2_with fail
        go_ret
        exact ⟨rfl, hx⟩
      by_cases hbig2 : 4000 < pre.length
      · go_wp2_with fail
        go_ret
        exact ⟨rfl, hx⟩
      have hn1 : ((pre.map bv).length + (p.map bv).length) * 1 ≤ 140737488355328 := by rw [List.length_map, List.length_map]; omega
      replace hn1 := Lib.hid hn1
      go_wp2_with ((with_reducible show wpList _ _ _ (⟨some 40, _, _, _, _, _⟩ :: _) _ _); refine wp_app tyB hown hbs (bv_one _) rfl (.tmp 35) (.tmp 39) rfl rfl rfl hn1.out ?_; intro v4 w4 q1 q2 q3; rw [← List.map_append] at q1)
      exact ⟨⟨k + 1, by omega, by go_num, by rw [hsn.out]; exact q1, q3.fresh hf hx.size, ext_app0 hx hf q2, Lib.hid (by rw [hsn.out, List.length_append]; omega)⟩, by simp [intOf] <;> omega⟩
    · rw [List.take_of_length_le (by omega)] at hown hle hle9
      obtain ⟨p, hp⟩ : ∃ p, p = L.flatten := ⟨_, rfl⟩
      rw [← hp] at hown hle9
      obtain ⟨A3, c3, rfl⟩ := hown.shape
      simp only [List.length_map] at hown hf ⊢
      by_cases hbig : 4000 < p.length + more.length
      · replace hp := Lib.hid hp
        go_wp2_with fail
        go_ret
        exact ⟨rfl, hx⟩
      have hyw := hy0.mod hx (fun _ _ _ h => h)
      have hd1 := dec_frec p more (by omega)
      have hd2 := one_frec p (by omega)
      have hd3 := one_more p 1 (by omega)
      have hfl := frec_len p
      have hLl : L.flatten.length ≤ 1048576 := by rw [← hp]; omega
      replace hp := Lib.hid hp
      clear h5 h6 hle
      go_wp2_with fail
      refine (encode_any hyw (hN.mod hx (fun h => h)) hLl).mono ?_
      rintro e w1 ⟨v1, rfl, g1, gf1, hx1a⟩
      rw [← hp.out] at g1
      have hx1 := ext_trans hx hx1a
      have hown1 := hown.mod hx1a (fun _ _ h => h)
      have hps1 := hown1.sl
      go_wp2_with fail
      refine (rencode_any hps1 (by omega)).mono ?_
      rintro e w2 ⟨v2, rfl, k1, kf1, hx2a⟩
      have hx2 := ext_trans hx1 hx2a
      have g2 := g1.mod hx2a (fun _ _ h => h)
      generalize frec p = fr at *
      obtain ⟨A4, c4, rfl⟩ := g2.shape
      obtain ⟨A5, c5, rfl⟩ := k1.shape
      simp only [List.length_map] at g2 k1 ⊢
      have hps2 := hps1.ext hx2a
      replace hd1 := Lib.hid hd1
      replace hd2 := Lib.hid hd2
      replace hd3 := Lib.hid hd3
      have hfr5 : fr.length ≤ 4012 := by omega
      have hfli : ((12 + p.length : Nat) : Int) = (fr.length : Int) := by omega
      replace hfl := Lib.hid hfl
      clear hown1 g1 gf1 kf1
      go_wp2_with fail
      refine (same_any g2.sl k1.sl).mono ?_
      rintro e w3 ⟨rfl, n3, hw3⟩
      rw [decide_eq_true (rfl : fr = fr)]
      have hx3a : Ext w2 w3 := by rw [hw3]; exact (Mod.refl _ w2).drewN n3
      have hx3 := ext_trans hx2 hx3a
      have g3 := g2.sl.ext hx3a
      have hps3 := hps2.ext hx3a
      have hz3 := hz0.ext hx3
      clear hw3 g2 k1
      have hn1 : (([] : List Value).length + (fr.map bv).length) * 1 ≤ 140737488355328 := by rw [List.length_map]; simp; omega
      have hn2 : ((fr.map bv).length + (more.map bv).length) * 1 ≤ 140737488355328 := by rw [List.length_map, List.length_map]; omega
      have hn3 : ((fr.map bv).length + ([Value.int .u8 1] : List Value).length) * 1 ≤ 140737488355328 := by rw [List.length_map]; simp; omega
      replace hn1 := Lib.hid hn1
      replace hn2 := Lib.hid hn2
      replace hn3 := Lib.hid hn3
      have hfr0 : Fresh w3.heap.size (.slice (some ⟨w3.heap.size, 0, none⟩) 0 0) := (fun k hk => by have : w3.heap.size = k := Option.some.inj hk; omega)
      have hlm : (fr ++ more).length ≤ 140737488355328 := by rw [List.length_append]; omega
      replace hlm := Lib.hid hlm
      go_wp2_with (first
        | ((with_reducible show wpList _ _ _ (⟨some 69, _, _, _, _, _⟩ :: _) _ _); refine wp_app tyB (Own.empty w3 5) (g3.alloc _) (bv_one _) rfl (.tmp 67) (.tmp 68) rfl rfl rfl hn1.out ?_; intro v4 w4 k1 k2 k3; rw [List.nil_append] at k1; have hx4a := ext_app (Mod.refl _ w3) hfr0 k2; have hf4 := (k3.sooner (B' := w3.heap.size) (by simp)).fresh hfr0 (Nat.le_refl _); clear k2 k3)
        | ((with_reducible show wpList _ _ _ (⟨some 71, _, _, _, _, _⟩ :: _) _ _); refine wp_app tyB k1 (hz3.ext hx4a) (bv_one _) rfl (.tmp 69) (.tmp 70) rfl rfl rfl hn2.out ?_; intro v5 w5 q1 q2 q3; rw [← List.map_append] at q1; have hx5a := ext_app0 hx4a hf4 q2; clear q2 q3))
      have hx5 := ext_trans hx3 hx5a
      refine (decode_any q1.sl (hN.mod hx5 (fun h => h)) hlm.out).mono ?_
      rintro e w6 ⟨v6, rfl, r1, rf1, hx6a⟩
      rw [hd1.out] at r1 ⊢
      simp only at r1 ⊢
      have hx6 := ext_trans hx5 hx6a
      have g6 := g3.ext (ext_trans hx5a hx6a)
      have hps6 := hps3.ext (ext_trans hx5a hx6a)
      obtain ⟨A6, c6, rfl⟩ := r1.shape
      simp only [List.length_map] at r1 ⊢
      clear q1 k1 g3 hps3 hps2 hps1 rf1
      go_wp2_with fail
      refine (one_any g6 (hN.mod hx6 (fun h => h)) (by omega)).mono ?_
      rintro e w7 ⟨v7, rfl, s1, sf1, hx7a⟩
      rw [hd2.out] at s1 ⊢
      simp only at s1 ⊢
      have hx7 := ext_trans hx6 hx7a
      have g7 := g6.ext hx7a
      have hps7 := hps6.ext hx7a
      have r7 := r1.mod hx7a (fun _ _ h => h)
      obtain ⟨A7, c7, rfl⟩ := s1.shape
      simp only [List.length_map] at s1 ⊢
      clear sf1 g6 hps6 r1
      have hfr7 : Fresh w7.heap.size (.slice (some ⟨w7.heap.size, 0, none⟩) 0 0) := (fun k hk => by have : w7.heap.size = k := Option.some.inj hk; omega)
      have hlm7 : (fr ++ [1]).length ≤ 140737488355328 := by rw [List.length_append]; simp; omega
      replace hlm7 := Lib.hid hlm7
      have ho := one_ok (.int .u8 1) rfl
      go_wp2_with (first
        | ((with_reducible show wpList _ _ _ (⟨some 84, _, _, _, _, _⟩ :: _) _ _); refine wp_app tyB (Own.empty w7 5) (g7.alloc _) (bv_one _) rfl (.tmp 82) (.tmp 83) rfl rfl rfl hn1.out ?_; intro v8 w8 k1 k2 k3; rw [List.nil_append] at k1; have hx8a := ext_app (Mod.refl _ w7) hfr7 k2; have hf8 := (k3.sooner (B' := w7.heap.size) (by simp)).fresh hfr7 (Nat.le_refl _); clear k2 k3)
        | ((with_reducible show wpList _ _ _ (⟨some 86, _, _, _, _, _⟩ :: _) _ _); refine wp_app tyB (k1.alloc _) (Sl.one w8 5 (.int .u8 1)) ho rfl (.tmp 84) (.tmp 85) rfl rfl rfl hn3.out ?_; intro v9 w9 q1 q2 q3; have hx9a := ext_app hx8a hf8 q2; replace q1 : Own w9 5 v9 ((fr ++ [1]).map bv) := (by rw [List.map_append]; exact q1); clear q2 q3))
      have hx9 := ext_trans hx7 hx9a
      refine (one_any q1.sl (hN.mod hx9 (fun h => h)) hlm7.out).mono ?_
      rintro e w10 ⟨v10, rfl, u1, uf1, hx10a⟩
      rw [hd3.out] at u1 ⊢
      simp only at u1 ⊢
      have hx10 := ext_trans hx9 hx10a
      have hx710 := ext_trans hx9a hx10a
      obtain ⟨A10, c10, rfl⟩ := u1.shape
      have hbq : (((12 : Int) + (p.length : Int)) == (fr.length : Int)) = true := by rw [beq_iff_eq]; omega
      have r10 := r7.sl.ext hx710
      have s10 := s1.sl.ext hx710
      have p10 := hps7.ext hx710
      clear q1 k1 u1 uf1 r7 s1 g7 hps7 hx8a
      go_wp2_with fail
      refine (same_any r10 p10).mono ?_
      rintro e w11 ⟨rfl, n11, hw11⟩
      rw [decide_eq_true (rfl : p = p)]
      have hx11a : Ext w10 w11 := by rw [hw11]; exact (Mod.refl _ w10).drewN n11
      clear hw11
      go_wp2_with fail
      refine (same_any (s10.ext hx11a) (p10.ext hx11a)).mono ?_
      rintro e w12 ⟨rfl, n12, hw12⟩
      rw [decide_eq_true (rfl : p = p)]
      have hx12a : Ext w10 w12 := by rw [hw12]; exact hx11a.drewN n12
      have hx12 := ext_trans hx10 hx12a
      clear hw12
      go_wp2_with fail
      refine (known2_any (hN.mod hx12 (fun h => h))).mono ?_
      rintro e w13 ⟨rfl, hx13⟩
      go_wp2_with fail
      go_ret
      exact ⟨rfl, ext_trans hx12 hx13⟩
end Go.Proofs.YtckgnnopoekniaaDoor
