/- frame: any bytes begin with a record, or are refused for the first reason: the statement's own walk. -/
import Derived.Test.YtckgnnopoekniaaDoorFrmM
namespace Go.Proofs.YtckgnnopoekniaaDoor
open Go.RowKit
set_option maxRecDepth 100000

theorem dec_len (l : List UInt8) : (dec l).1.length ≤ l.length := by
  by_cases hd : (dec l).2.2 = 0
  · rw [(dec_ok hd).2.2.2.2.2]; simp only [List.length_take, List.length_drop]; omega
  · rw [dec_err hd]; simp

set_option maxHeartbeats 4000000 in
theorem law_decodes {w : World} {y : Value} {l : List UInt8} (hy : Bs w (fun _ => True) y l) (hN : Nib w) :
    Calls Tryd.prog 4 #[y] w fun e w' => e = .returned (.bool true) ∧ Ext w w' := by
  have hy0 := hy
  obtain ⟨A, c, rfl, h1, h2, h3, h4⟩ := hy.open_
  clear h3 h4 hy
  by_cases hbig : 4000 < l.length
  · go_enter Tryd.func4, Tryd.ntmps4
    go_wp2_with fail
    go_ret
    exact ⟨rfl, Mod.refl _ _⟩
  have hdl := dec_len l
  go_enter Tryd.func4, Tryd.ntmps4
  go_wp2_with fail
  refine (roomy_any hy0 (by omega)).mono ?_
  rintro e w1 ⟨v1, rfl, g1, gf1, hx1⟩
  obtain ⟨A1, c1, rfl⟩ := g1.shape
  have hll : ((l ++ [171]).map bv).length = l.length + 1 := by simp
  rw [hll] at g1 gf1 ⊢
  have hcap := own_cap g1
  rw [hll] at hcap
  have hbeg := roomy_begin g1
  have hlc1 : (l.length : Int) ≤ (c1 : Int) := by omega
  have hs1 : Bs w1 (own (.slice A1 (l.length + 1) c1)) (.slice A1 (l.length + 1) c1) (l ++ [171]) := by
    have := g1.sl
    exact this
  have hlt1 : ∀ k, own (.slice A1 (l.length + 1) c1) k → k < w1.heap.size := fun k hk => g1.lt hk
  clear g1 gf1 hll hcap
  go_wp2_with fail
  refine (decode_any hbeg (hN.mod hx1 (fun h => h)) (by omega)).mono ?_
  rintro e w2 ⟨v2, rfl, p1, pf1, hx2a⟩
  have hx2 := ext_trans hx1 hx2a
  go_wp2_with fail
  refine (rdecode_any (hy0.ext hx2) (by omega)).mono ?_
  rintro e w3 ⟨v3, rfl, q1, qf1, hx3a⟩
  have hx3 := ext_trans hx2 hx3a
  have p3 := p1.mod hx3a (fun _ _ h => h)
  generalize (dec l).1 = pd at *
  generalize (dec l).2.1 = nd at *
  generalize (dec l).2.2 = ed at *
  obtain ⟨A2, c2, rfl⟩ := p3.shape
  obtain ⟨A3, c3, rfl⟩ := q1.shape
  simp only [List.length_map] at p3 q1 pf1 qf1 ⊢
  have hbeg3 := hbeg.ext (ext_trans hx2a hx3a)
  clear p1
  go_wp2_with fail
  refine (one_any hbeg3 (hN.mod hx3 (fun h => h)) (by omega)).mono ?_
  rintro e w4 ⟨v4, rfl, r1, rf1, hx4a⟩
  have hx4 := ext_trans hx3 hx4a
  go_wp2_with fail
  refine (rone_any (hy0.ext hx4) (by omega)).mono ?_
  rintro e w5 ⟨v5, rfl, s1, sf1, hx5a⟩
  have hx5 := ext_trans hx4 hx5a
  have r5 := r1.mod hx5a (fun _ _ h => h)
  generalize (one l).1 = od at *
  generalize (one l).2 = oe at *
  obtain ⟨A4, c4, rfl⟩ := r5.shape
  obtain ⟨A5, c5, rfl⟩ := s1.shape
  simp only [List.length_map] at r5 s1 ⊢
  have hbeg5 := hbeg3.ext (ext_trans hx4a hx5a)
  clear r1 rf1 sf1
  go_wp2_with fail
  refine (scan_any hbeg5 (hN.mod hx5 (fun h => h)) (by omega)).mono ?_
  rintro e w6 ⟨v6, rfl, ⟨vs6, t1⟩, hx6a⟩
  have hx6 := ext_trans hx5 hx6a
  go_wp2_with fail
  refine (rscan_any (hy0.ext hx6) (by omega)).mono ?_
  rintro e w7 ⟨v7, rfl, ⟨vs7, u1⟩, hx7a⟩
  have hx7 := ext_trans hx6 hx7a
  have t7 := t1.ext hx7a
  generalize (scan l).1 = sl at *
  generalize (scan l).2 = sn at *
  have hrt := t7.rw
  have hru := u1.rw
  have hx37 : Ext w3 w7 := ext_trans hx4a (ext_trans hx5a (ext_trans hx6a hx7a))
  have hx57 : Ext w5 w7 := ext_trans hx6a hx7a
  have hp7 := (p3.mod hx37 (fun _ _ h => h))
  have hq7 := (q1.mod hx37 (fun _ _ h => h))
  have hr7 := (r5.mod hx57 (fun _ _ h => h))
  have hs7 := (s1.mod hx57 (fun _ _ h => h))
  have hb1 : ((nd : Int) != (nd : Int)) = false := by simp
  have hb2 : ((ed : Int) != (ed : Int)) = false := by simp
  have hb3 : ((sn : Int) != (sn : Int)) = false := by simp
  have hb4 : ((oe : Int) != (oe : Int)) = false := by simp
  have hs17 := hs1.ext (ext_trans hx2a (ext_trans hx3a hx37))
  obtain ⟨A6, c6, rfl⟩ := t7.own.shape
  obtain ⟨A7, c7, rfl⟩ := u1.own.shape
  clear t1 u1 t7 p3 q1 r5 s1 hbeg hbeg3 hbeg5 qf1
  go_wp2_with fail
  refine (same_any hp7.sl hq7.sl).mono ?_
  rintro e w8 ⟨rfl, n8, hw8⟩
  rw [decide_eq_true (rfl : pd = pd)]
  have hx8a : Ext w7 w8 := by rw [hw8]; exact (Mod.refl _ w7).drewN n8
  clear hw8
  go_wp2_with fail
  refine (rows_any (hrt.mod hx8a (fun _ _ _ h => h)) (hru.mod hx8a (fun _ _ _ h => h))).mono ?_
  rintro e w9 ⟨rfl, n9, hw9⟩
  rw [decide_eq_true (rfl : sl = sl)]
  have hx9a : Ext w7 w9 := by rw [hw9]; exact hx8a.drewN n9
  clear hw9
  go_wp2_with fail
  refine (same_any (hr7.sl.ext hx9a) (hs7.sl.ext hx9a)).mono ?_
  rintro e w10 ⟨rfl, n10, hw10⟩
  rw [decide_eq_true (rfl : od = od)]
  have hx10a : Ext w7 w10 := by rw [hw10]; exact hx9a.drewN n10
  clear hw10
  go_wp2_with fail
  refine (spoil_any (hp7.mod hx10a (fun _ _ h => h)) (by omega)).mono ?_
  rintro e w11 ⟨rfl, hm11⟩
  have hx10 := ext_trans hx7 hx10a
  have hne : ∀ k, own (.slice A2 pd.length c2) k → w1.heap.size ≤ k := fun k hk => pf1 k hk
  have hx11 : Ext w w11 := hx10.trans hm11 (fun _ _ h => h) (fun k hk h => by have := hne k h; have := hx1.size; omega)
  have hs11 := (hs17.ext hx10a).mod hm11 (fun k _ hk1 hk2 => by have := hlt1 k hk1; have := hne k hk2; omega)
  go_wp2_with fail
  refine (stands_any hs11 (hy0.ext hx11)).mono ?_
  rintro e w12 ⟨rfl, n12, hw12⟩
  have hx12 : Ext w w12 := by rw [hw12]; exact hx11.drewN n12
  clear hw12
  go_wp2_with fail
  refine (known2_any (hN.mod hx12 (fun h => h))).mono ?_
  rintro e w13 ⟨rfl, hx13⟩
  go_wp2_with fail
  go_ret
  exact ⟨rfl, ext_trans hx12 hx13⟩
end Go.Proofs.YtckgnnopoekniaaDoor
