/- ber: the document's Next, all of it. -/
import Derived.Test.YtcffefadagfdcaaBerS
namespace Go.Proofs.Ytcffefadagfdcaa
open Go.RowKit
set_option maxRecDepth 100000

/-- v[a:n], of whatever room. -/
theorem bs_cut {w : World} {S : Nat → Prop} {ad : Addr} {c : Nat} {l : List UInt8} (h : Bs w S (.slice (some ad) l.length c) l) {a n : Nat} (han : a ≤ n) (hn : n ≤ l.length) : Bs w S (.slice (if c = a then some ad else some (ad.add a)) (n - a) (c - a)) ((l.drop a).take (n - a)) := by
  by_cases hca : c = a
  · rw [if_pos hca]
    have := h.rest0 (m := a) (by omega) hca
    rw [show l.length - a = (l.drop a).length by simp] at this
    have := this.begin (m := n - a) (by simp; omega)
    rwa [show c - a = 0 by omega]
  · rw [if_neg hca]
    have := h.rest (m := a) (by omega)
    rw [show l.length - a = (l.drop a).length by simp] at this
    exact this.begin (m := n - a) (by simp; omega)
theorem bs_end {w : World} {S : Nat → Prop} {ad : Addr} {c : Nat} {l : List UInt8} (h : Bs w S (.slice (some ad) l.length c) l) {n : Nat} (hn : n ≤ l.length) : Bs w S (.slice (if c = n then some ad else some (ad.add n)) (l.length - n) (c - n)) (l.drop n) := by
  by_cases hca : c = n
  · rw [if_pos hca]
    have := h.rest0 (m := n) (by omega) hca
    rwa [show c - n = 0 by omega]
  · rw [if_neg hca]
    exact h.rest (m := n) (by omega)
theorem bnext_err' {l : List UInt8} {e : Nat} (h : (blook l).2.2 = e) (he : e ≠ 0) : bnext l = (0, [], [], e) := by
  unfold bnext
  rw [if_neg (by rw [h]; exact he), h]
theorem bnext_ok' {l : List UInt8} {a n : Nat} (h : blook l = (a, n, 0)) : bnext l = (l.getD 0 0, (l.drop a).take (n - a), l.drop n, 0) := by
  unfold bnext
  rw [h, if_pos rfl]

set_option maxHeartbeats 4000000 in
theorem rnext_any {w : World} {S : Nat → Prop} {v : Value} {l : List UInt8} (h : Bs w S v l) (hl : l.length ≤ 100000) :
    Calls Try.prog 23 #[v] w fun e w' => ∃ v1 v2, e = .returned (.tuple #[.int .u8 (bnext l).1.toNat, v1, v2, .int .i64 ((bnext l).2.2.2 : Nat)]) ∧ Own w' 5 v1 ((bnext l).2.1.map bv) ∧ Own w' 5 v2 ((bnext l).2.2.1.map bv) ∧ Fresh w.heap.size v1 ∧ Fresh w.heap.size v2 ∧ Ext w w' := by
  obtain ⟨o, ho⟩ : ∃ o, o = blook l := ⟨_, rfl⟩
  have ho' := ho
  replace ho' := Lib.hid ho'
  unfold blook at ho
  have h0 := h
  obtain ⟨A, c, rfl, h1, h2, h3, h4⟩ := h.open_
  by_cases e0 : l.length = 0
  · rw [if_pos e0] at ho
    subst ho
    rw [bnext_err' (e := 2) (by rw [← ho'.out]) (by omega)]
    have hb : decide ((l.length : Int) < 1) = true := by rw [e0]; rfl
    go_enter Try.func23, Try.ntmps23
    go_wp2_with fail
    (try simp only [Exit.inBlock, Exit.then]); refine bodyPost_ret (results_tmp4 rfl _ _ _) rfl ?_
    exact ⟨_, _, rfl, Own.nil _ _, Own.nil _ _, fresh_nil _ _ _, fresh_nil _ _ _, Mod.refl _ _⟩
  rw [if_neg e0] at ho
  have hb0 : decide ((l.length : Int) < 1) = false := by rw [decide_eq_false_iff_not]; omega
  obtain ⟨ad, hA, hB, hc0⟩ := h4.byte (k := 0) (by omega)
  subst hA
  rw [show ad.add 0 = ad by simp [Addr.add]] at hc0
  have hg0 : l.getD 0 0 = l[0] := by rw [List.getD_eq_getElem?_getD, List.getElem?_eq_getElem (by omega)]; rfl
  obtain ⟨b0, hbb⟩ : ∃ b0, b0 = l[0] := ⟨_, rfl⟩
  rw [← hbb] at hc0 hg0
  rw [hg0] at ho
  replace hg0 := Lib.hid hg0
  clear hbb
  have hand : bits .and .u8 (b0.toNat : Int) 31 = ((b0 &&& 31).toNat : Int) := u8_and_nat b0.toNat 31 b0.toNat_lt (by omega)
  by_cases e1 : b0 &&& 31 = 31
  · rw [if_pos e1] at ho
    subst ho
    rw [bnext_err' (e := 3) (by rw [← ho'.out]) (by omega)]
    have hb1 : ((((b0 &&& 31).toNat : Nat) : Int) == 31) = true := by rw [e1]; rfl
    go_enter Try.func23, Try.ntmps23
    go_wp2_with fail
    (try simp only [Exit.inBlock, Exit.then]); refine bodyPost_ret (results_tmp4 rfl _ _ _) rfl ?_
    exact ⟨_, _, rfl, Own.nil _ _, Own.nil _ _, fresh_nil _ _ _, fresh_nil _ _ _, Mod.refl _ _⟩
  rw [if_neg e1] at ho
  have hb1 : ((((b0 &&& 31).toNat : Nat) : Int) == 31) = false := by
    rw [beq_eq_false_iff_ne]; intro h; exact e1 (UInt8.toNat_inj.1 (by have : (31 : UInt8).toNat = 31 := rfl; omega))
  obtain ⟨zz, hzz⟩ : ∃ zz : Int, zz = (((b0 &&& 31).toNat : Nat) : Int) := ⟨_, rfl⟩
  rw [← hzz] at hand hb1
  have hp := b0.toNat_lt
  obtain ⟨p0, hp0⟩ : ∃ p0, p0 = b0.toNat := ⟨_, rfl⟩
  rw [← hp0] at hand hc0 hp
  replace hzz := Lib.hid hzz
  replace hp0 := Lib.hid hp0
  clear e1
  by_cases e2 : l.length = 1
  · rw [if_pos e2] at ho
    subst ho
    rw [bnext_err' (e := 2) (by rw [← ho'.out]) (by omega)]
    have hb2 : decide ((l.length : Int) < 2) = true := by rw [e2]; rfl
    go_enter Try.func23, Try.ntmps23
    go_wp2_with fail
    (try simp only [Exit.inBlock, Exit.then]); refine bodyPost_ret (results_tmp4 rfl _ _ _) rfl ?_
    exact ⟨_, _, rfl, Own.nil _ _, Own.nil _ _, fresh_nil _ _ _, fresh_nil _ _ _, Mod.refl _ _⟩
  rw [if_neg e2] at ho
  have hb2 : decide ((l.length : Int) < 2) = false := by rw [decide_eq_false_iff_not]; omega
  obtain ⟨ad', hA', hB', hc1⟩ := h4.byte (k := 1) (by omega)
  injection hA' with hA'
  subst hA'
  rw [show ad.add 1 = ⟨ad.block, ad.off + 1, none⟩ by simp [Addr.add]] at hc1
  have hg1 : (l.getD 1 0).toNat = l[1].toNat := by rw [List.getD_eq_getElem?_getD, List.getElem?_eq_getElem (by omega)]; rfl
  rw [hg1] at ho
  have hq := l[1].toNat_lt
  generalize l[1].toNat = q at *
  have hi0 : 0 < l.length := by omega
  have hi1 : 1 < (l.length : Int) := by omega
  clear hg1 e0 e2
  by_cases e3 : q < 128
  · rw [if_pos e3] at ho
    unfold bfin at ho
    rw [if_neg (by omega)] at ho
    by_cases e4 : l.length - 2 < q
    · rw [if_pos e4] at ho
      subst ho
      rw [bnext_err' (e := 2) (by rw [← ho'.out]) (by omega)]
      go_enter Try.func23, Try.ntmps23
      go_wp2_with fail
      (try simp only [Exit.inBlock, Exit.then]); refine bodyPost_ret (results_tmp4 rfl _ _ _) rfl ?_
      exact ⟨_, _, rfl, Own.nil _ _, Own.nil _ _, fresh_nil _ _ _, fresh_nil _ _ _, Mod.refl _ _⟩
    · rw [if_neg e4] at ho
      subst ho
      rw [bnext_ok' ho'.out.symm, hg0.out]
      simp only
      rw [← hp0.out]
      have t1 := bs_cut (w := w.drew) h0 (a := 2) (n := 2 + q) (by omega) (by omega)
      rw [show ad.add 2 = ⟨ad.block, ad.off + 2, none⟩ by simp [Addr.add]] at t1
      exact rnext_try hl q (2 + q) e3 (by omega) zz p0 hb1 hand hc0 hc1 h1 h2 (by omega) (by omega) t1 (bs_end (w := w.drew) h0 (by omega)) (by rw [List.length_take, List.length_drop]; omega) (by rw [List.length_drop]; omega)
  rw [if_neg e3] at ho
  obtain ⟨k, hk⟩ : ∃ k, k = q - 128 := ⟨_, rfl⟩
  rw [← hk] at ho
  by_cases e4 : k = 0 ∨ 4 < k
  · rw [if_pos e4] at ho
    subst ho
    rw [bnext_err' (e := 3) (by rw [← ho'.out]) (by omega)]
    have hb3 : decide ((q : Int) - 128 < 1) = decide (k = 0) := by rw [Bool.eq_iff_iff]; simp only [decide_eq_true_eq]; omega
    have hb4 : decide ((4 : Int) < (q : Int) - 128) = decide (4 < k) := by rw [Bool.eq_iff_iff]; simp only [decide_eq_true_eq]; omega
    rcases e4 with e4 | e4
    · rw [decide_eq_true e4] at hb3
      go_enter Try.func23, Try.ntmps23
      go_wp2_with fail
      (try simp only [Exit.inBlock, Exit.then]); refine bodyPost_ret (results_tmp4 rfl _ _ _) rfl ?_
      exact ⟨_, _, rfl, Own.nil _ _, Own.nil _ _, fresh_nil _ _ _, fresh_nil _ _ _, Mod.refl _ _⟩
    · rw [decide_eq_true e4] at hb4
      replace hb3 : decide ((q : Int) - 128 < 1) = false := by rw [hb3]; exact decide_eq_false (by omega)
      go_enter Try.func23, Try.ntmps23
      go_wp2_with fail
      (try simp only [Exit.inBlock, Exit.then]); refine bodyPost_ret (results_tmp4 rfl _ _ _) rfl ?_
      exact ⟨_, _, rfl, Own.nil _ _, Own.nil _ _, fresh_nil _ _ _, fresh_nil _ _ _, Mod.refl _ _⟩
  rw [if_neg e4] at ho
  have hk4 : k ≤ 4 := by omega
  have hk1 : 1 ≤ k := by omega
  have hb4 : (q : Int) - 128 = (k : Int) := by omega
  have hq1 : 128 ≤ (q : Int) := by omega
  have hb3 : decide ((k : Int) < 1) = false := by rw [decide_eq_false_iff_not]; omega
  clear hk e3 e4
  obtain ⟨a, ha⟩ : ∃ a, a = 2 + k := ⟨_, rfl⟩
  rw [← ha] at ho
  by_cases e5 : l.length < a
  · rw [if_pos e5] at ho
    subst ho
    rw [bnext_err' (e := 2) (by rw [← ho'.out]) (by omega)]
    have hb5 : decide ((l.length : Int) < 2 + (k : Int)) = true := by rw [decide_eq_true_eq]; omega
    go_enter Try.func23, Try.ntmps23
    go_wp2_with fail
    (try simp only [Exit.inBlock, Exit.then]); refine bodyPost_ret (results_tmp4 rfl _ _ _) rfl ?_
    exact ⟨_, _, rfl, Own.nil _ _, Own.nil _ _, fresh_nil _ _ _, fresh_nil _ _ _, Mod.refl _ _⟩
  rw [if_neg e5] at ho
  have hb5 : decide ((l.length : Int) < 2 + (k : Int)) = false := by rw [decide_eq_false_iff_not]; omega
  obtain ⟨ds, hds⟩ : ∃ ds, ds = (l.drop 2).take k := ⟨_, rfl⟩
  have hdl : ds.length = k := by rw [hds, List.length_take, List.length_drop]; omega
  have hcell : ∀ j, (hj : j < k) → w.cell? (ad.add (2 + j)) = some (.int .u8 ((ds[j]'(by omega)).toNat : Int)) := fun j hj => by
    obtain ⟨ad9, hA9, hB9, hc9⟩ := h4.byte (k := 2 + j) (by omega)
    injection hA9 with hA9
    subst hA9
    rw [hc9]
    congr 3
    simp [hds]
  rw [← hds] at ho
  replace hds := Lib.hid hds
  replace ho := Lib.hid ho
  go_enter Try.func23, Try.ntmps23
  go_wp2_with fail
  go_loop [6, 9] (fun n i => ∃ j : Nat, j ≤ k ∧ i = .int .i64 j ∧ n = .int .i64 (uval (ds.take j) : Nat)) (fun _ i => k - (intOf i).toNat)
  case atStart => exact ⟨0, Nat.zero_le _, rfl, by simp [uval]⟩
  case round =>
    obtain ⟨j, hj, rfl, rfl⟩ := hrel
    by_cases hlt : j < k
    · have hc9 := hcell j hlt
      have hsn : uval (ds.take (j + 1)) = uval (ds.take j) * 256 + ds[j].toNat := by
        rw [List.take_succ_eq_append_getElem (by omega), uval_snoc]
      have hlt2 : uval (ds.take j) < 16777216 := by
        have := uval_lt (ds.take j)
        have h9 : 2 ^ (8 * (ds.take j).length) ≤ 2 ^ (8 * 3) := Nat.pow_le_pow_right (by omega) (by rw [List.length_take]; omega)
        have h10 : (2 : Nat) ^ (8 * 3) = 16777216 := rfl
        omega
      have hb := ds[j].toNat_lt
      replace hsn := Lib.hid hsn
      generalize ds[j].toNat = b at *
      generalize uval (ds.take j) = u at *
      have hor := i64_or_small u b (by omega) (by omega)
      have hjj : (2 : Int) + (j : Int) = ((2 + j : Nat) : Int) := by omega
      generalize 2 + j = jj at *
      have hwj : IntKind.i64.wrap (jj : Int) = (jj : Int) := by rw [IntKind.wrap_i64]; omega
      have hjl : (jj : Int) < (l.length : Int) := by omega
      clear hcell hdl h0 h4
      go_wp2_with fail
      exact ⟨⟨j + 1, by omega, by go_num, by rw [hsn.out]; go_num⟩, by simp [intOf] <;> omega⟩
    · rw [List.take_of_length_le (by omega)]
      have hul := uval_lt ds
      have h9 : 2 ^ (8 * ds.length) ≤ 2 ^ (8 * 4) := Nat.pow_le_pow_right (by omega) (by omega)
      have h10 : (2 : Nat) ^ (8 * 4) = 4294967296 := rfl
      have hu : uval ds < 4294967296 := by omega
      replace ho := ho.out
      clear hul h9 h10 hcell
      generalize uval ds = u at *
      have hak : (2 : Int) + (k : Int) = (a : Int) := by omega
      rw [hak]
      replace hak := Lib.hid hak
      unfold bfin at ho
      by_cases e6 : 65536 < u
      · rw [if_pos e6] at ho
        subst ho
        go_wp2_with fail
        (try simp only [Exit.inBlock, Exit.then]); refine bodyPost_ret (results_tmp4 rfl _ _ _) rfl ?_
        rw [bnext_err' (e := 5) (by rw [← ho'.out]) (by omega)]
        exact ⟨_, _, rfl, Own.nil _ _, Own.nil _ _, fresh_nil _ _ _, fresh_nil _ _ _, Mod.refl _ _⟩
      rw [if_neg e6] at ho
      by_cases e7 : l.length - a < u
      · rw [if_pos e7] at ho
        subst ho
        have hb7 : decide ((l.length : Int) - (a : Int) < (u : Int)) = true := by rw [decide_eq_true_eq]; omega
        go_wp2_with fail
        (try simp only [Exit.inBlock, Exit.then]); refine bodyPost_ret (results_tmp4 rfl _ _ _) rfl ?_
        rw [bnext_err' (e := 2) (by rw [← ho'.out]) (by omega)]
        exact ⟨_, _, rfl, Own.nil _ _, Own.nil _ _, fresh_nil _ _ _, fresh_nil _ _ _, Mod.refl _ _⟩
      · rw [if_neg e7] at ho
        subst ho
        have hb7 : decide ((l.length : Int) - (2 + (k : Int)) < (u : Int)) = false := by rw [decide_eq_false_iff_not]; omega
        have hb6 : decide ((65536 : Int) < (u : Int)) = false := by rw [decide_eq_false_iff_not]; omega
        obtain ⟨n, hn⟩ : ∃ n, n = a + u := ⟨_, rfl⟩
        rw [← hn] at ho'
        have hbn := bnext_ok' ho'.out.symm
        rw [hg0.out] at hbn
        have hb1' := bs_cut (w := w.drew) h0 (a := a) (n := n) (by omega) (by omega)
        have hb2' := bs_end (w := w.drew) h0 (n := n) (by omega)
        have hbl : ((l.drop a).take (n - a)).length ≤ 1000000 := by rw [List.length_take, List.length_drop]; omega
        have hrl : (l.drop n).length ≤ 1000000 := by rw [List.length_drop]; omega
        generalize (l.drop a).take (n - a) = bd at *
        generalize l.drop n = rs at *
        replace hbn := Lib.hid hbn
        have x0 : (a : Int) ≤ (n : Int) := by omega
        have x1 : (n : Int) ≤ (l.length : Int) := by omega
        have x2 : (n : Int) ≤ (c : Int) := by omega
        have x3 : (l.length : Int) ≤ (c : Int) := by omega
        have x5 : (0 : Int) ≤ (n : Int) := by omega
        have x7 : (0 : Int) ≤ (a : Int) := by omega
        have x8 : (a : Int) + (u : Int) = (n : Int) := by omega
        have x6 : IntKind.i64.wrap (n : Int) = (n : Int) := by rw [IntKind.wrap_i64]; omega
        have hx : ∀ wx, Ext w.drew wx → wx.cell? ad = some (.int .u8 (p0 : Int)) := fun wx hx => (hx.cell (lt_of_cell (w := w) hc0) (fun h => h)).trans hc0
        have hn1 : (([] : List Value).length + (bd.map bv).length) * 1 ≤ 140737488355328 := by rw [List.length_map]; simp; omega
        have hn2 : (([] : List Value).length + (rs.map bv).length) * 1 ≤ 140737488355328 := by rw [List.length_map]; simp; omega
        replace hn1 := Lib.hid hn1
        replace hn2 := Lib.hid hn2
        have hx00 : Ext w.drew w.drew := Mod.refl _ _
        clear h h0 h4 hn ha hdl e5 e6 e7
        go_upto_region 24 with fail
        rw [hak.out]
        go_cut [2, 3, 4, 5] (fun s2 s3 s4 s5 wx => s2 = .int .u8 (p0 : Int) ∧ s5 = .int .i64 0 ∧ Own wx 5 s3 (bd.map bv) ∧ Own wx 5 s4 (rs.map bv) ∧ Fresh w.heap.size s3 ∧ Fresh w.heap.size s4 ∧ Ext w wx)
        case first =>
          have hc0d : w.drew.cell? ad = some (.int .u8 (p0 : Int)) := hc0
          refine wp_region_held_drew (S := fun w' => w'.cell? ad = some (.int .u8 (p0 : Int))) (by kernel_rfl) hc0d (fun hH => ?_)
          clear hH
          have hxd : Ext w w.drew := (Mod.refl _ w).drew
          generalize w.drew = wd at *
          (refine wpAnyH_take (i := 0) (oi := ⟨_, _, _, _, _, _⟩) (v := ?tv1) rfl (by kernel_rfl) (by kernel_rfl) (by kernel_rfl) (fun _ _ _ h => h) (Or.inl ⟨by rfl, ?hy1⟩) (by assumption) ?rs1; (case hy1 => (intro wx hSw; (try dsimp only at hSw); go_simp; try with_reducible rfl)); try simp only [Act.put, List.setIfInBounds_toArray, List.set_cons_zero, List.set_cons_succ])
          (refine wpAnyH_take (i := 1) (oi := ⟨_, _, _, _, _, _⟩) (v := ?tv2) rfl (by kernel_rfl) (by kernel_rfl) (by kernel_rfl) (fun _ _ _ h => h) (Or.inl ⟨by rfl, ?hy2⟩) (by assumption) ?rs2; (case hy2 => (intro wx hSw; (try dsimp only at hSw); go_simp; try with_reducible rfl)); try simp only [Act.put, List.setIfInBounds_toArray, List.set_cons_zero, List.set_cons_succ])
          (refine wpAnyH_take (i := 2) (oi := ⟨_, _, _, _, _, _⟩) (v := ?tv3) rfl (by kernel_rfl) (by kernel_rfl) (by kernel_rfl) (fun _ _ _ h => h) (Or.inl ⟨by rfl, ?hy3⟩) (by assumption) ?rs3; (case hy3 => (intro wx hSw; (try dsimp only at hSw); go_simp; try with_reducible rfl)); try simp only [Act.put, List.setIfInBounds_toArray, List.set_cons_zero, List.set_cons_succ])
          (refine wpAnyH_take (i := 4) (oi := ⟨_, _, _, _, _, _⟩) (v := ?tv4) rfl (by kernel_rfl) (by kernel_rfl) (by kernel_rfl) (fun _ _ _ h => h) (Or.inl ⟨by rfl, ?hy4⟩) (by assumption) ?rs4; (case hy4 => (intro wx hSw; (try dsimp only at hSw); go_simp; try with_reducible rfl)); try simp only [Act.put, List.setIfInBounds_toArray, List.set_cons_zero, List.set_cons_succ])
          (refine wpAnyH_take (i := 5) (oi := ⟨_, _, _, _, _, _⟩) (v := ?tv5) rfl (by kernel_rfl) (by kernel_rfl) (by kernel_rfl) (fun _ _ _ h => h) (Or.inl ⟨by rfl, ?hy5⟩) (by assumption) ?rs5; (case hy5 => (intro wx hSw; (try dsimp only at hSw); go_simp; try with_reducible rfl)); try simp only [Act.put, List.setIfInBounds_toArray, List.set_cons_zero, List.set_cons_succ])
          (refine wpAnyH_take (i := 6) (oi := ⟨_, _, _, _, _, _⟩) (v := ?tv6) rfl (by kernel_rfl) (by kernel_rfl) (by kernel_rfl) (fun _ _ _ h => h) (Or.inl ⟨by rfl, ?hy6⟩) (by assumption) ?rs6; (case hy6 => (intro wx hSw; (try dsimp only at hSw); go_simp; try with_reducible rfl)); try simp only [Act.put, List.setIfInBounds_toArray, List.set_cons_zero, List.set_cons_succ])
          (refine wpAnyH_take (i := 7) (oi := ⟨_, _, _, _, _, _⟩) (v := ?tv7) rfl (by kernel_rfl) (by kernel_rfl) (by kernel_rfl) (fun _ _ _ h => h) (Or.inl ⟨by rfl, ?hy7⟩) (by assumption) ?rs7; (case hy7 => (intro wx hSw; (try dsimp only at hSw); go_simp; try with_reducible rfl)); try simp only [Act.put, List.setIfInBounds_toArray, List.set_cons_zero, List.set_cons_succ])
          (refine wpAnyH_take (i := 8) (oi := ⟨_, _, _, _, _, _⟩) (v := ?tv8) rfl (by kernel_rfl) (by kernel_rfl) (by kernel_rfl) (fun _ _ _ h => h) (Or.inl ⟨by rfl, ?hy8⟩) (by assumption) ?rs8; (case hy8 => (intro wx hSw; (try dsimp only at hSw); go_simp; try with_reducible rfl)); try simp only [Act.put, List.setIfInBounds_toArray, List.set_cons_zero, List.set_cons_succ])
          (refine wpAnyH_take (i := 9) (oi := ⟨_, _, _, _, _, _⟩) (v := ?tv9) rfl (by kernel_rfl) (by kernel_rfl) (by kernel_rfl) (fun _ _ _ h => h) (Or.inl ⟨by rfl, ?hy9⟩) (by assumption) ?rs9; (case hy9 => (intro wx hSw; (try dsimp only at hSw); go_simp; try with_reducible rfl)); try simp only [Act.put, List.setIfInBounds_toArray, List.set_cons_zero, List.set_cons_succ])
          (refine wpAnyH_take (i := 12) (oi := ⟨_, _, _, _, _, _⟩) (v := ?tv10) rfl (by kernel_rfl) (by kernel_rfl) (by kernel_rfl) (fun _ _ _ h => h) (Or.inl ⟨by rfl, ?hy10⟩) (by assumption) ?rs10; (case hy10 => (intro wx hSw; (try dsimp only at hSw); go_simp; try with_reducible rfl)); try simp only [Act.put, List.setIfInBounds_toArray, List.set_cons_zero, List.set_cons_succ])
          (refine wpAnyH_take (i := 13) (oi := ⟨_, _, _, _, _, _⟩) (v := ?tv11) rfl (by kernel_rfl) (by kernel_rfl) (by kernel_rfl) (fun _ _ _ h => h) (Or.inl ⟨by rfl, ?hy11⟩) (by assumption) ?rs11; (case hy11 => (intro wx hSw; (try dsimp only at hSw); go_simp; try with_reducible rfl)); try simp only [Act.put, List.setIfInBounds_toArray, List.set_cons_zero, List.set_cons_succ])
          (refine wpAnyH_take (i := 14) (oi := ⟨_, _, _, _, _, _⟩) (v := ?tv12) rfl (by kernel_rfl) (by kernel_rfl) (by kernel_rfl) (fun _ _ _ h => h) (Or.inl ⟨by rfl, ?hy12⟩) (by assumption) ?rs12; (case hy12 => (intro wx hSw; (try dsimp only at hSw); go_simp; try with_reducible rfl)); try simp only [Act.put, List.setIfInBounds_toArray, List.set_cons_zero, List.set_cons_succ])
          (refine wpAnyH_take (i := 15) (oi := ⟨_, _, _, _, _, _⟩) (v := ?tv13) rfl (by kernel_rfl) (by kernel_rfl) (by kernel_rfl) (fun _ _ _ h => h) (Or.inl ⟨by rfl, ?hy13⟩) (by assumption) ?rs13; (case hy13 => (intro wx hSw; (try dsimp only at hSw); go_simp; try with_reducible rfl)); try simp only [Act.put, List.setIfInBounds_toArray, List.set_cons_zero, List.set_cons_succ])
          (refine wpAnyH_take (i := 16) (oi := ⟨_, _, _, _, _, _⟩) (v := ?tv14) rfl (by kernel_rfl) (by kernel_rfl) (by kernel_rfl) (fun _ _ _ h => h) (Or.inl ⟨by rfl, ?hy14⟩) (by assumption) ?rs14; (case hy14 => (intro wx hSw; (try dsimp only at hSw); go_simp; try with_reducible rfl)); try simp only [Act.put, List.setIfInBounds_toArray, List.set_cons_zero, List.set_cons_succ])
          generalize (Value.slice (if c = a then some ad else some (ad.add a)) (n - a) (c - a)) = V1 at *
          generalize (Value.slice (if c = n then some ad else some (ad.add n)) (l.length - n) (c - n)) = V2 at *
          refine wpAnyH_ready (rs := [3, 11]) (by kernel_rfl) (by simp) ?_
          refine AllReadyH.cons rfl (fun K hK => ?_) (AllReadyH.cons rfl (fun K hK => ?_) (AllReadyH.nil))
          · go_simp
            refine hK.out _ _ (hx _ (Mod.alloc hx00 _)) (fun hH => ?_)
            clear hK K hH
            try simp only [Act.put, List.setIfInBounds_toArray, List.set_cons_zero, List.set_cons_succ]
            have hx101 : Ext wd (wd.alloc (.cells #[] 5)) := Mod.alloc hx00 _
            have pe1 := Own.empty wd 5
            generalize (wd.alloc (.cells #[] 5)) = w101 at *
            refine wpAnyH_ready (rs := [10, 11]) (by kernel_rfl) (by simp) ?_
            refine AllReadyH.cons rfl (fun K hK => ?_) (AllReadyH.cons rfl (fun K hK => ?_) (AllReadyH.nil))
            · rw [if_pos (by rfl)]
              refine op_app tyB pe1 (hb1'.ext hx101) (bv_one _) (.tmp 67) (.tmp 73) 74 rfl rfl rfl rfl hn1.out ?_
              intro va2 w102 qa2 qb2 qc2
              rw [List.nil_append] at qa2
              have hx102 : Ext wd w102 := Mod.trans hx101 qb2 (fun _ _ h => h) (fun k hk h => Nat.lt_irrefl _ (Nat.lt_of_lt_of_le hk (by have h9 : wd.heap.size = k := Option.some.inj h; rw [← h9]; exact (hx00).size)))
              have fe2 : Fresh wd.heap.size (.slice (some ⟨wd.heap.size, 0, none⟩) 0 0) := fun k h => by have h9 : wd.heap.size = k := Option.some.inj h; rw [← h9]; exact (hx00).size
              have ff2 := (qc2.fresh fe2 (hx101).size).mono hxd.size
              refine hK.out _ _ (hx _ hx102) (fun hH => ?_)
              clear hK K hH
              try simp only [Act.put, List.setIfInBounds_toArray, List.set_cons_zero, List.set_cons_succ]
              refine wpAnyH_ready (rs := [11]) (by kernel_rfl) (by simp) ?_
              refine AllReadyH.cons rfl (fun K hK => ?_) (AllReadyH.nil)
              · go_simp
                refine hK.out _ _ (hx _ (Mod.alloc hx102 _)) (fun hH => ?_)
                clear hK K hH
                try simp only [Act.put, List.setIfInBounds_toArray, List.set_cons_zero, List.set_cons_succ]
                have hx103 : Ext wd (w102.alloc (.cells #[] 5)) := Mod.alloc hx102 _
                have pe3 := Own.empty w102 5
                have po3 := Own.alloc qa2 (.cells #[] 5)
                have pd3 : ∀ k, own (.slice (some ⟨w102.heap.size, 0, none⟩) 0 0) k → own va2 k → False := fun k h1 h2 => by have h3 := Own.lt qa2 h2; have : w102.heap.size = k := Option.some.inj h1; omega
                generalize (w102.alloc (.cells #[] 5)) = w103 at *
                refine wpAnyH_ready (rs := [17]) (by kernel_rfl) (by simp) ?_
                refine AllReadyH.cons rfl (fun K hK => ?_) (AllReadyH.nil)
                · rw [if_pos (by rfl)]
                  refine op_app tyB pe3 (hb2'.ext hx103) (bv_one _) (.tmp 75) (.tmp 80) 81 rfl rfl rfl rfl hn2.out ?_
                  intro va4 w104 qa4 qb4 qc4
                  rw [List.nil_append] at qa4
                  have hx104 : Ext wd w104 := Mod.trans hx103 qb4 (fun _ _ h => h) (fun k hk h => Nat.lt_irrefl _ (Nat.lt_of_lt_of_le hk (by have h9 : w102.heap.size = k := Option.some.inj h; rw [← h9]; exact (hx102).size)))
                  have ps4 := app_sep po3 pd3 qb4 qc4
                  have fe4 : Fresh wd.heap.size (.slice (some ⟨w102.heap.size, 0, none⟩) 0 0) := fun k h => by have h9 : w102.heap.size = k := Option.some.inj h; rw [← h9]; exact (hx102).size
                  have ff4 := (qc4.fresh fe4 (hx103).size).mono hxd.size
                  refine hK.out _ _ (hx _ hx104) (fun hH => ?_)
                  clear hK K hH
                  try simp only [Act.put, List.setIfInBounds_toArray, List.set_cons_zero, List.set_cons_succ]
                  have hcz := hx _ hx104
                  (refine wpAnyH_take (i := 18) (oi := ⟨_, _, _, _, _, _⟩) (v := ?tv15) rfl (by kernel_rfl) (by kernel_rfl) (by kernel_rfl) (fun _ _ _ h => h) (Or.inl ⟨by rfl, ?hy15⟩) (by assumption) ?rs15; (case hy15 => (intro wx hSw; (try dsimp only at hSw); go_simp; try with_reducible rfl)); try simp only [Act.put, List.setIfInBounds_toArray, List.set_cons_zero, List.set_cons_succ])
                  (refine wpAnyH_take (i := 19) (oi := ⟨_, _, _, _, _, _⟩) (v := ?tv16) rfl (by kernel_rfl) (by kernel_rfl) (by kernel_rfl) (fun _ _ _ h => h) (Or.inl ⟨by rfl, ?hy16⟩) (by assumption) ?rs16; (case hy16 => (intro wx hSw; (try dsimp only at hSw); go_simp; try with_reducible rfl)); try simp only [Act.put, List.setIfInBounds_toArray, List.set_cons_zero, List.set_cons_succ])
                  (refine wpAnyH_take (i := 20) (oi := ⟨_, _, _, _, _, _⟩) (v := ?tv17) rfl (by kernel_rfl) (by kernel_rfl) (by kernel_rfl) (fun _ _ _ h => h) (Or.inl ⟨by rfl, ?hy17⟩) (by assumption) ?rs17; (case hy17 => (intro wx hSw; (try dsimp only at hSw); go_simp; try with_reducible rfl)); try simp only [Act.put, List.setIfInBounds_toArray, List.set_cons_zero, List.set_cons_succ])
                  (refine wpAnyH_take (i := 21) (oi := ⟨_, _, _, _, _, _⟩) (v := ?tv18) rfl (by kernel_rfl) (by kernel_rfl) (by kernel_rfl) (fun _ _ _ h => h) (Or.inl ⟨by rfl, ?hy18⟩) (by assumption) ?rs18; (case hy18 => (intro wx hSw; (try dsimp only at hSw); go_simp; try with_reducible rfl)); try simp only [Act.put, List.setIfInBounds_toArray, List.set_cons_zero, List.set_cons_succ])
                  refine wpAnyH_done (by kernel_rfl) ?_ _
                  go_wp2_with fail
                  go_meet
                  exact ⟨rfl, rfl, ps4.1, qa4, ff2, ff4, hxd.trans hx104 (fun _ _ h => h) (fun _ _ h => h)⟩
            · go_simp
              refine hK.out _ _ (hx _ (Mod.alloc hx101 _)) (fun hH => ?_)
              clear hK K hH
              try simp only [Act.put, List.setIfInBounds_toArray, List.set_cons_zero, List.set_cons_succ]
              have hx105 : Ext wd (w101.alloc (.cells #[] 5)) := Mod.alloc hx101 _
              have pe5 := Own.empty w101 5
              have po5 := Own.alloc pe1 (.cells #[] 5)
              have pd5 : ∀ k, own (.slice (some ⟨w101.heap.size, 0, none⟩) 0 0) k → own (.slice (some ⟨wd.heap.size, 0, none⟩) 0 0) k → False := fun k h1 h2 => by have h3 := Own.lt pe1 h2; have : w101.heap.size = k := Option.some.inj h1; omega
              generalize (w101.alloc (.cells #[] 5)) = w105 at *
              refine wpAnyH_ready (rs := [10]) (by kernel_rfl) (by simp) ?_
              refine AllReadyH.cons rfl (fun K hK => ?_) (AllReadyH.nil)
              · rw [if_pos (by rfl)]
                refine op_app tyB po5 (hb1'.ext hx105) (bv_one _) (.tmp 67) (.tmp 73) 74 rfl rfl rfl rfl hn1.out ?_
                intro va6 w106 qa6 qb6 qc6
                rw [List.nil_append] at qa6
                have hx106 : Ext wd w106 := Mod.trans hx105 qb6 (fun _ _ h => h) (fun k hk h => Nat.lt_irrefl _ (Nat.lt_of_lt_of_le hk (by have h9 : wd.heap.size = k := Option.some.inj h; rw [← h9]; exact (hx00).size)))
                have ps6 := app_sep pe5 (fun k h1 h2 => pd5 k h2 h1) qb6 qc6
                have fe6 : Fresh wd.heap.size (.slice (some ⟨wd.heap.size, 0, none⟩) 0 0) := fun k h => by have h9 : wd.heap.size = k := Option.some.inj h; rw [← h9]; exact (hx00).size
                have ff6 := (qc6.fresh fe6 (hx105).size).mono hxd.size
                refine hK.out _ _ (hx _ hx106) (fun hH => ?_)
                clear hK K hH
                try simp only [Act.put, List.setIfInBounds_toArray, List.set_cons_zero, List.set_cons_succ]
                refine wpAnyH_ready (rs := [17]) (by kernel_rfl) (by simp) ?_
                refine AllReadyH.cons rfl (fun K hK => ?_) (AllReadyH.nil)
                · rw [if_pos (by rfl)]
                  refine op_app tyB ps6.1 (hb2'.ext hx106) (bv_one _) (.tmp 75) (.tmp 80) 81 rfl rfl rfl rfl hn2.out ?_
                  intro va7 w107 qa7 qb7 qc7
                  rw [List.nil_append] at qa7
                  have hx107 : Ext wd w107 := Mod.trans hx106 qb7 (fun _ _ h => h) (fun k hk h => Nat.lt_irrefl _ (Nat.lt_of_lt_of_le hk (by have h9 : w101.heap.size = k := Option.some.inj h; rw [← h9]; exact (hx101).size)))
                  have ps7 := app_sep qa6 (fun k h1 h2 => ps6.2 k h2 h1) qb7 qc7
                  have fe7 : Fresh wd.heap.size (.slice (some ⟨w101.heap.size, 0, none⟩) 0 0) := fun k h => by have h9 : w101.heap.size = k := Option.some.inj h; rw [← h9]; exact (hx101).size
                  have ff7 := (qc7.fresh fe7 (hx106).size).mono hxd.size
                  refine hK.out _ _ (hx _ hx107) (fun hH => ?_)
                  clear hK K hH
                  try simp only [Act.put, List.setIfInBounds_toArray, List.set_cons_zero, List.set_cons_succ]
                  have hcz := hx _ hx107
                  (refine wpAnyH_take (i := 18) (oi := ⟨_, _, _, _, _, _⟩) (v := ?tv19) rfl (by kernel_rfl) (by kernel_rfl) (by kernel_rfl) (fun _ _ _ h => h) (Or.inl ⟨by rfl, ?hy19⟩) (by assumption) ?rs19; (case hy19 => (intro wx hSw; (try dsimp only at hSw); go_simp; try with_reducible rfl)); try simp only [Act.put, List.setIfInBounds_toArray, List.set_cons_zero, List.set_cons_succ])
                  (refine wpAnyH_take (i := 19) (oi := ⟨_, _, _, _, _, _⟩) (v := ?tv20) rfl (by kernel_rfl) (by kernel_rfl) (by kernel_rfl) (fun _ _ _ h => h) (Or.inl ⟨by rfl, ?hy20⟩) (by assumption) ?rs20; (case hy20 => (intro wx hSw; (try dsimp only at hSw); go_simp; try with_reducible rfl)); try simp only [Act.put, List.setIfInBounds_toArray, List.set_cons_zero, List.set_cons_succ])
                  (refine wpAnyH_take (i := 20) (oi := ⟨_, _, _, _, _, _⟩) (v := ?tv21) rfl (by kernel_rfl) (by kernel_rfl) (by kernel_rfl) (fun _ _ _ h => h) (Or.inl ⟨by rfl, ?hy21⟩) (by assumption) ?rs21; (case hy21 => (intro wx hSw; (try dsimp only at hSw); go_simp; try with_reducible rfl)); try simp only [Act.put, List.setIfInBounds_toArray, List.set_cons_zero, List.set_cons_succ])
                  (refine wpAnyH_take (i := 21) (oi := ⟨_, _, _, _, _, _⟩) (v := ?tv22) rfl (by kernel_rfl) (by kernel_rfl) (by kernel_rfl) (fun _ _ _ h => h) (Or.inl ⟨by rfl, ?hy22⟩) (by assumption) ?rs22; (case hy22 => (intro wx hSw; (try dsimp only at hSw); go_simp; try with_reducible rfl)); try simp only [Act.put, List.setIfInBounds_toArray, List.set_cons_zero, List.set_cons_succ])
                  refine wpAnyH_done (by kernel_rfl) ?_ _
                  go_wp2_with fail
                  go_meet
                  exact ⟨rfl, rfl, ps7.1, qa7, ff6, ff7, hxd.trans hx107 (fun _ _ h => h) (fun _ _ h => h)⟩
          · go_simp
            refine hK.out _ _ (hx _ (Mod.alloc hx00 _)) (fun hH => ?_)
            clear hK K hH
            try simp only [Act.put, List.setIfInBounds_toArray, List.set_cons_zero, List.set_cons_succ]
            have hx108 : Ext wd (wd.alloc (.cells #[] 5)) := Mod.alloc hx00 _
            have pe8 := Own.empty wd 5
            generalize (wd.alloc (.cells #[] 5)) = w108 at *
            refine wpAnyH_ready (rs := [3]) (by kernel_rfl) (by simp) ?_
            refine AllReadyH.cons rfl (fun K hK => ?_) (AllReadyH.nil)
            · go_simp
              refine hK.out _ _ (hx _ (Mod.alloc hx108 _)) (fun hH => ?_)
              clear hK K hH
              try simp only [Act.put, List.setIfInBounds_toArray, List.set_cons_zero, List.set_cons_succ]
              have hx109 : Ext wd (w108.alloc (.cells #[] 5)) := Mod.alloc hx108 _
              have pe9 := Own.empty w108 5
              have po9 := Own.alloc pe8 (.cells #[] 5)
              have pd9 : ∀ k, own (.slice (some ⟨w108.heap.size, 0, none⟩) 0 0) k → own (.slice (some ⟨wd.heap.size, 0, none⟩) 0 0) k → False := fun k h1 h2 => by have h3 := Own.lt pe8 h2; have : w108.heap.size = k := Option.some.inj h1; omega
              generalize (w108.alloc (.cells #[] 5)) = w109 at *
              refine wpAnyH_ready (rs := [10]) (by kernel_rfl) (by simp) ?_
              refine AllReadyH.cons rfl (fun K hK => ?_) (AllReadyH.nil)
              · rw [if_pos (by rfl)]
                refine op_app tyB pe9 (hb1'.ext hx109) (bv_one _) (.tmp 67) (.tmp 73) 74 rfl rfl rfl rfl hn1.out ?_
                intro va10 w110 qa10 qb10 qc10
                rw [List.nil_append] at qa10
                have hx110 : Ext wd w110 := Mod.trans hx109 qb10 (fun _ _ h => h) (fun k hk h => Nat.lt_irrefl _ (Nat.lt_of_lt_of_le hk (by have h9 : w108.heap.size = k := Option.some.inj h; rw [← h9]; exact (hx108).size)))
                have ps10 := app_sep po9 pd9 qb10 qc10
                have fe10 : Fresh wd.heap.size (.slice (some ⟨w108.heap.size, 0, none⟩) 0 0) := fun k h => by have h9 : w108.heap.size = k := Option.some.inj h; rw [← h9]; exact (hx108).size
                have ff10 := (qc10.fresh fe10 (hx109).size).mono hxd.size
                refine hK.out _ _ (hx _ hx110) (fun hH => ?_)
                clear hK K hH
                try simp only [Act.put, List.setIfInBounds_toArray, List.set_cons_zero, List.set_cons_succ]
                refine wpAnyH_ready (rs := [17]) (by kernel_rfl) (by simp) ?_
                refine AllReadyH.cons rfl (fun K hK => ?_) (AllReadyH.nil)
                · rw [if_pos (by rfl)]
                  refine op_app tyB ps10.1 (hb2'.ext hx110) (bv_one _) (.tmp 75) (.tmp 80) 81 rfl rfl rfl rfl hn2.out ?_
                  intro va11 w111 qa11 qb11 qc11
                  rw [List.nil_append] at qa11
                  have hx111 : Ext wd w111 := Mod.trans hx110 qb11 (fun _ _ h => h) (fun k hk h => Nat.lt_irrefl _ (Nat.lt_of_lt_of_le hk (by have h9 : wd.heap.size = k := Option.some.inj h; rw [← h9]; exact (hx00).size)))
                  have ps11 := app_sep qa10 (fun k h1 h2 => ps10.2 k h2 h1) qb11 qc11
                  have fe11 : Fresh wd.heap.size (.slice (some ⟨wd.heap.size, 0, none⟩) 0 0) := fun k h => by have h9 : wd.heap.size = k := Option.some.inj h; rw [← h9]; exact (hx00).size
                  have ff11 := (qc11.fresh fe11 (hx110).size).mono hxd.size
                  refine hK.out _ _ (hx _ hx111) (fun hH => ?_)
                  clear hK K hH
                  try simp only [Act.put, List.setIfInBounds_toArray, List.set_cons_zero, List.set_cons_succ]
                  have hcz := hx _ hx111
                  (refine wpAnyH_take (i := 18) (oi := ⟨_, _, _, _, _, _⟩) (v := ?tv23) rfl (by kernel_rfl) (by kernel_rfl) (by kernel_rfl) (fun _ _ _ h => h) (Or.inl ⟨by rfl, ?hy23⟩) (by assumption) ?rs23; (case hy23 => (intro wx hSw; (try dsimp only at hSw); go_simp; try with_reducible rfl)); try simp only [Act.put, List.setIfInBounds_toArray, List.set_cons_zero, List.set_cons_succ])
                  (refine wpAnyH_take (i := 19) (oi := ⟨_, _, _, _, _, _⟩) (v := ?tv24) rfl (by kernel_rfl) (by kernel_rfl) (by kernel_rfl) (fun _ _ _ h => h) (Or.inl ⟨by rfl, ?hy24⟩) (by assumption) ?rs24; (case hy24 => (intro wx hSw; (try dsimp only at hSw); go_simp; try with_reducible rfl)); try simp only [Act.put, List.setIfInBounds_toArray, List.set_cons_zero, List.set_cons_succ])
                  (refine wpAnyH_take (i := 20) (oi := ⟨_, _, _, _, _, _⟩) (v := ?tv25) rfl (by kernel_rfl) (by kernel_rfl) (by kernel_rfl) (fun _ _ _ h => h) (Or.inl ⟨by rfl, ?hy25⟩) (by assumption) ?rs25; (case hy25 => (intro wx hSw; (try dsimp only at hSw); go_simp; try with_reducible rfl)); try simp only [Act.put, List.setIfInBounds_toArray, List.set_cons_zero, List.set_cons_succ])
                  (refine wpAnyH_take (i := 21) (oi := ⟨_, _, _, _, _, _⟩) (v := ?tv26) rfl (by kernel_rfl) (by kernel_rfl) (by kernel_rfl) (fun _ _ _ h => h) (Or.inl ⟨by rfl, ?hy26⟩) (by assumption) ?rs26; (case hy26 => (intro wx hSw; (try dsimp only at hSw); go_simp; try with_reducible rfl)); try simp only [Act.put, List.setIfInBounds_toArray, List.set_cons_zero, List.set_cons_succ])
                  refine wpAnyH_done (by kernel_rfl) ?_ _
                  go_wp2_with fail
                  go_meet
                  exact ⟨rfl, rfl, ps11.1, qa11, ff10, ff11, hxd.trans hx111 (fun _ _ h => h) (fun _ _ h => h)⟩
        case rest =>
          obtain ⟨rfl, rfl, r1, r2, rf1, rf2, r3⟩ := hcut
          go_wp2_with fail
          (try simp only [Exit.inBlock, Exit.then]); refine bodyPost_ret (results_tmp4 rfl _ _ _) rfl ?_
          rw [hbn.out]
          simp only
          rw [← hp0.out]
          exact ⟨_, _, rfl, r1, r2, rf1, rf2, r3⟩
end Go.Proofs.Ytcffefadagfdcaa
