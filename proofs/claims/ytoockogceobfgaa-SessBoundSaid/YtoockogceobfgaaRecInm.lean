/- ber: the document's Next, all of it. -/
import Derived.Test.YtoockogceobfgaaBerSm
import Derived.Test.YtoockogceobfgaaBerGm
import Derived.Deep.RegionHeld3
import Derived.Lib.AppendStr
namespace Go.Proofs.Ytoockogceobfgaa
open Go.RowKit
set_option maxRecDepth 100000

/-- v[a:n], of whatever room. -/
theorem bs_cut {w : World} {S : Nat → Prop} {ad : Addr} {c : Nat} {l : List UInt8} (h : Bs w S (.slice (some ad) l.length c) l) {a n : Nat} (han : a ≤ n) (hn : n ≤ l.length) : Bs w S (.slice (if c = a then some ad else some (ad.add a)) (n - a) (c - a)) ((l.drop a).take (n - a)) := by
  by_cases hca : c = a
  · rw [if_pos hca]
    have := h.rest0 (m := a) (by omega) hca
    rw [show l.length - a = (l.drop a).length by simp] at this
    have := this.begin (m := n - a) (by simp; omega)
    rwa [show c - a = 0 by omega]
  · rw [if_neg hca]
    have := h.rest (m := a) (by omega)
    rw [show l.length - a = (l.drop a).length by simp] at this
    exact this.begin (m := n - a) (by simp; omega)
theorem bs_end {w : World} {S : Nat → Prop} {ad : Addr} {c : Nat} {l : List UInt8} (h : Bs w S (.slice (some ad) l.length c) l) {n : Nat} (hn : n ≤ l.length) : Bs w S (.slice (if c = n then some ad else some (ad.add n)) (l.length - n) (c - n)) (l.drop n) := by
  by_cases hca : c = n
  · rw [if_pos hca]
    have := h.rest0 (m := n) (by omega) hca
    rwa [show c - n = 0 by omega]
  · rw [if_neg hca]
    exact h.rest (m := n) (by omega)
theorem bnext_err' {l : List UInt8} {e : Nat} (h : (blook l).2.2 = e) (he : e ≠ 0) : bnext l = (0, [], [], e) := by
  unfold bnext
  rw [if_neg (by rw [h]; exact he), h]
theorem bnext_ok' {l : List UInt8} {a n : Nat} (h : blook l = (a, n, 0)) : bnext l = (l.getD 0 0, (l.drop a).take (n - a), l.drop n, 0) := by
  unfold bnext
  rw [h, if_pos rfl]

set_option maxHeartbeats 4000000 in
theorem rnext_any {w : World} {S : Nat → Prop} {v : Value} {l : List UInt8} (h : Bs w S v l) (hl : l.length ≤ 100000) :
    Calls Try.prog 37 #[v] w fun e w' => ∃ v1 v2, e = .returned (.tuple #[.int .u8 (bnext l).1.toNat, v1, v2, .int .i64 ((bnext l).2.2.2 : Nat)]) ∧ Own w' 5 v1 ((bnext l).2.1.map bv) ∧ Own w' 5 v2 ((bnext l).2.2.1.map bv) ∧ Fresh w.heap.size v1 ∧ Fresh w.heap.size v2 ∧ Ext w w' := by
  obtain ⟨o, ho⟩ : ∃ o, o = blook l := ⟨_, rfl⟩
  have ho' := ho
  replace ho' := Lib.hid ho'
  unfold blook at ho
  have h0 := h
  obtain ⟨A, c, rfl, h1, h2, h3, h4⟩ := h.open_
  by_cases e0 : l.length = 0
  · rw [if_pos e0] at ho
    subst ho
    rw [bnext_err' (e := 2) (by rw [← ho'.out]) (by omega)]
    have hb : decide ((l.length : Int) < 1) = true := by rw [e0]; rfl
    go_enter Try.func37, Try.ntmps37
    go_wp2_with fail
    (try simp only [Exit.inBlock, Exit.then]); refine bodyPost_ret (results_tmp4 rfl _ _ _) rfl ?_
    exact ⟨_, _, rfl, Own.nil _ _, Own.nil _ _, fresh_nil _ _ _, fresh_nil _ _ _, Mod.refl _ _⟩
  rw [if_neg e0] at ho
  have hb0 : decide ((l.length : Int) < 1) = false := by rw [decide_eq_false_iff_not]; omega
  obtain ⟨ad, hA, hB, hc0⟩ := h4.byte (k := 0) (by omega)
  subst hA
  rw [show ad.add 0 = ad by simp [Addr.add]] at hc0
  have hg0 : l.getD 0 0 = l[0] := by rw [List.getD_eq_getElem?_getD, List.getElem?_eq_getElem (by omega)]; rfl
  obtain ⟨b0, hbb⟩ : ∃ b0, b0 = l[0] := ⟨_, rfl⟩
  rw [← hbb] at hc0 hg0
  rw [hg0] at ho
  replace hg0 := Lib.hid hg0
  clear hbb
  have hand : bits .and .u8 (b0.toNat : Int) 31 = ((b0 &&& 31).toNat : Int) := u8_and_nat b0.toNat 31 b0.toNat_lt (by omega)
  by_cases e1 : b0 &&& 31 = 31
  · rw [if_pos e1] at ho
    subst ho
    rw [bnext_err' (e := 3) (by rw [← ho'.out]) (by omega)]
    have hb1 : ((((b0 &&& 31).toNat : Nat) : Int) == 31) = true := by rw [e1]; rfl
    go_enter Try.func37, Try.ntmps37
    go_wp2_with fail
    (try simp only [Exit.inBlock, Exit.then]); refine bodyPost_ret (results_tmp4 rfl _ _ _) rfl ?_
    exact ⟨_, _, rfl, Own.nil _ _, Own.nil _ _, fresh_nil _ _ _, fresh_nil _ _ _, Mod.refl _ _⟩
  rw [if_neg e1] at ho
  have hb1 : ((((b0 &&& 31).toNat : Nat) : Int) == 31) = false := by
    rw [beq_eq_false_iff_ne]; intro h; exact e1 (UInt8.toNat_inj.1 (by have : (31 : UInt8).toNat = 31 := rfl; omega))
  obtain ⟨zz, hzz⟩ : ∃ zz : Int, zz = (((b0 &&& 31).toNat : Nat) : Int) := ⟨_, rfl⟩
  rw [← hzz] at hand hb1
  have hp := b0.toNat_lt
  obtain ⟨p0, hp0⟩ : ∃ p0, p0 = b0.toNat := ⟨_, rfl⟩
  rw [← hp0] at hand hc0 hp
  replace hzz := Lib.hid hzz
  replace hp0 := Lib.hid hp0
  clear e1
  by_cases e2 : l.length = 1
  · rw [if_pos e2] at ho
    subst ho
    rw [bnext_err' (e := 2) (by rw [← ho'.out]) (by omega)]
    have hb2 : decide ((l.length : Int) < 2) = true := by rw [e2]; rfl
    go_enter Try.func37, Try.ntmps37
    go_wp2_with fail
    (try simp only [Exit.inBlock, Exit.then]); refine bodyPost_ret (results_tmp4 rfl _ _ _) rfl ?_
    exact ⟨_, _, rfl, Own.nil _ _, Own.nil _ _, fresh_nil _ _ _, fresh_nil _ _ _, Mod.refl _ _⟩
  rw [if_neg e2] at ho
  have hb2 : decide ((l.length : Int) < 2) = false := by rw [decide_eq_false_iff_not]; omega
  obtain ⟨ad', hA', hB', hc1⟩ := h4.byte (k := 1) (by omega)
  injection hA' with hA'
  subst hA'
  rw [show ad.add 1 = ⟨ad.block, ad.off + 1, none⟩ by simp [Addr.add]] at hc1
  have hg1 : (l.getD 1 0).toNat = l[1].toNat := by rw [List.getD_eq_getElem?_getD, List.getElem?_eq_getElem (by omega)]; rfl
  rw [hg1] at ho
  have hq := l[1].toNat_lt
  generalize l[1].toNat = q at *
  have hi0 : 0 < l.length := by omega
  have hi1 : 1 < (l.length : Int) := by omega
  clear hg1 e0 e2
  by_cases e3 : q < 128
  · rw [if_pos e3] at ho
    unfold bfin at ho
    rw [if_neg (by omega)] at ho
    by_cases e4 : l.length - 2 < q
    · rw [if_pos e4] at ho
      subst ho
      rw [bnext_err' (e := 2) (by rw [← ho'.out]) (by omega)]
      go_enter Try.func37, Try.ntmps37
      go_wp2_with fail
      (try simp only [Exit.inBlock, Exit.then]); refine bodyPost_ret (results_tmp4 rfl _ _ _) rfl ?_
      exact ⟨_, _, rfl, Own.nil _ _, Own.nil _ _, fresh_nil _ _ _, fresh_nil _ _ _, Mod.refl _ _⟩
    · rw [if_neg e4] at ho
      subst ho
      rw [bnext_ok' ho'.out.symm, hg0.out]
      simp only
      rw [← hp0.out]
      have t1 := bs_cut (w := w.drew) h0 (a := 2) (n := 2 + q) (by omega) (by omega)
      rw [show ad.add 2 = ⟨ad.block, ad.off + 2, none⟩ by simp [Addr.add]] at t1
      exact rnext_try hl q (2 + q) e3 (by omega) zz p0 hb1 hand hc0 hc1 h1 h2 (by omega) (by omega) t1 (bs_end (w := w.drew) h0 (by omega)) (by rw [List.length_take, List.length_drop]; omega) (by rw [List.length_drop]; omega)
  rw [if_neg e3] at ho
  obtain ⟨k, hk⟩ : ∃ k, k = q - 128 := ⟨_, rfl⟩
  rw [← hk] at ho
  by_cases e4 : k = 0 ∨ 4 < k
  · rw [if_pos e4] at ho
    subst ho
    rw [bnext_err' (e := 3) (by rw [← ho'.out]) (by omega)]
    have hb3 : decide ((q : Int) - 128 < 1) = decide (k = 0) := by rw [Bool.eq_iff_iff]; simp only [decide_eq_true_eq]; omega
    have hb4 : decide ((4 : Int) < (q : Int) - 128) = decide (4 < k) := by rw [Bool.eq_iff_iff]; simp only [decide_eq_true_eq]; omega
    rcases e4 with e4 | e4
    · rw [decide_eq_true e4] at hb3
      go_enter Try.func37, Try.ntmps37
      go_wp2_with fail
      (try simp only [Exit.inBlock, Exit.then]); refine bodyPost_ret (results_tmp4 rfl _ _ _) rfl ?_
      exact ⟨_, _, rfl, Own.nil _ _, Own.nil _ _, fresh_nil _ _ _, fresh_nil _ _ _, Mod.refl _ _⟩
    · rw [decide_eq_true e4] at hb4
      replace hb3 : decide ((q : Int) - 128 < 1) = false := by rw [hb3]; exact decide_eq_false (by omega)
      go_enter Try.func37, Try.ntmps37
      go_wp2_with fail
      (try simp only [Exit.inBlock, Exit.then]); refine bodyPost_ret (results_tmp4 rfl _ _ _) rfl ?_
      exact ⟨_, _, rfl, Own.nil _ _, Own.nil _ _, fresh_nil _ _ _, fresh_nil _ _ _, Mod.refl _ _⟩
  rw [if_neg e4] at ho
  have hk4 : k ≤ 4 := by omega
  have hk1 : 1 ≤ k := by omega
  have hb4 : (q : Int) - 128 = (k : Int) := by omega
  have hq1 : 128 ≤ (q : Int) := by omega
  have hb3 : decide ((k : Int) < 1) = false := by rw [decide_eq_false_iff_not]; omega
  clear hk e3 e4
  obtain ⟨a, ha⟩ : ∃ a, a = 2 + k := ⟨_, rfl⟩
  rw [← ha] at ho
  by_cases e5 : l.length < a
  · rw [if_pos e5] at ho
    subst ho
    rw [bnext_err' (e := 2) (by rw [← ho'.out]) (by omega)]
    have hb5 : decide ((l.length : Int) < 2 + (k : Int)) = true := by rw [decide_eq_true_eq]; omega
    go_enter Try.func37, Try.ntmps37
    go_wp2_with fail
    (try simp only [Exit.inBlock, Exit.then]); refine bodyPost_ret (results_tmp4 rfl _ _ _) rfl ?_
    exact ⟨_, _, rfl, Own.nil _ _, Own.nil _ _, fresh_nil _ _ _, fresh_nil _ _ _, Mod.refl _ _⟩
  rw [if_neg e5] at ho
  have hb5 : decide ((l.length : Int) < 2 + (k : Int)) = false := by rw [decide_eq_false_iff_not]; omega
  obtain ⟨ds, hds⟩ : ∃ ds, ds = (l.drop 2).take k := ⟨_, rfl⟩
  have hdl : ds.length = k := by rw [hds, List.length_take, List.length_drop]; omega
  have hcell : ∀ j, (hj : j < k) → w.cell? (ad.add (2 + j)) = some (.int .u8 ((ds[j]'(by omega)).toNat : Int)) := fun j hj => by
    obtain ⟨ad9, hA9, hB9, hc9⟩ := h4.byte (k := 2 + j) (by omega)
    injection hA9 with hA9
    subst hA9
    rw [hc9]
    congr 3
    simp [hds]
  rw [← hds] at ho
  replace hds := Lib.hid hds
  replace ho := Lib.hid ho
  go_enter Try.func37, Try.ntmps37
  go_wp2_with fail
  go_loop [6, 9] (fun n i => ∃ j : Nat, j ≤ k ∧ i = .int .i64 j ∧ n = .int .i64 (uval (ds.take j) : Nat)) (fun _ i => k - (intOf i).toNat)
  case atStart => exact ⟨0, Nat.zero_le _, rfl, by simp [uval]⟩
  case round =>
    obtain ⟨j, hj, rfl, rfl⟩ := hrel
    by_cases hlt : j < k
    · have hc9 := hcell j hlt
      have hsn : uval (ds.take (j + 1)) = uval (ds.take j) * 256 + ds[j].toNat := by
        rw [List.take_succ_eq_append_getElem (by omega), uval_snoc]
      have hlt2 : uval (ds.take j) < 16777216 := by
        have := uval_lt (ds.take j)
        have h9 : 2 ^ (8 * (ds.take j).length) ≤ 2 ^ (8 * 3) := Nat.pow_le_pow_right (by omega) (by rw [List.length_take]; omega)
        have h10 : (2 : Nat) ^ (8 * 3) = 16777216 := rfl
        omega
      have hb := ds[j].toNat_lt
      replace hsn := Lib.hid hsn
      generalize ds[j].toNat = b at *
      generalize uval (ds.take j) = u at *
      have hor := i64_or_small u b (by omega) (by omega)
      have hjj : (2 : Int) + (j : Int) = ((2 + j : Nat) : Int) := by omega
      generalize 2 + j = jj at *
      have hwj : IntKind.i64.wrap (jj : Int) = (jj : Int) := by rw [IntKind.wrap_i64]; omega
      have hjl : (jj : Int) < (l.length : Int) := by omega
      clear hcell hdl h0 h4
      go_wp2_with fail
      exact ⟨⟨j + 1, by omega, by go_num, by rw [hsn.out]; go_num⟩, by simp [intOf] <;> omega⟩
    · rw [List.take_of_length_le (by omega)]
      have hul := uval_lt ds
      have h9 : 2 ^ (8 * ds.length) ≤ 2 ^ (8 * 4) := Nat.pow_le_pow_right (by omega) (by omega)
      have h10 : (2 : Nat) ^ (8 * 4) = 4294967296 := rfl
      have hu : uval ds < 4294967296 := by omega
      replace ho := ho.out
      clear hul h9 h10 hcell
      generalize uval ds = u at *
      have hak : (2 : Int) + (k : Int) = (a : Int) := by omega
      rw [hak]
      replace hak := Lib.hid hak
      unfold bfin at ho
      by_cases e6 : 65536 < u
      · rw [if_pos e6] at ho
        subst ho
        go_wp2_with fail
        (try simp only [Exit.inBlock, Exit.then]); refine bodyPost_ret (results_tmp4 rfl _ _ _) rfl ?_
        rw [bnext_err' (e := 5) (by rw [← ho'.out]) (by omega)]
        exact ⟨_, _, rfl, Own.nil _ _, Own.nil _ _, fresh_nil _ _ _, fresh_nil _ _ _, Mod.refl _ _⟩
      rw [if_neg e6] at ho
      by_cases e7 : l.length - a < u
      · rw [if_pos e7] at ho
        subst ho
        have hb7 : decide ((l.length : Int) - (a : Int) < (u : Int)) = true := by rw [decide_eq_true_eq]; omega
        go_wp2_with fail
        (try simp only [Exit.inBlock, Exit.then]); refine bodyPost_ret (results_tmp4 rfl _ _ _) rfl ?_
        rw [bnext_err' (e := 2) (by rw [← ho'.out]) (by omega)]
        exact ⟨_, _, rfl, Own.nil _ _, Own.nil _ _, fresh_nil _ _ _, fresh_nil _ _ _, Mod.refl _ _⟩
      · rw [if_neg e7] at ho
        subst ho
        have hb7 : decide ((l.length : Int) - (2 + (k : Int)) < (u : Int)) = false := by rw [decide_eq_false_iff_not]; omega
        have hb6 : decide ((65536 : Int) < (u : Int)) = false := by rw [decide_eq_false_iff_not]; omega
        obtain ⟨n, hn⟩ : ∃ n, n = a + u := ⟨_, rfl⟩
        rw [← hn] at ho'
        have hbn := bnext_ok' ho'.out.symm
        rw [hg0.out] at hbn
        have hb1' := bs_cut (w := w.drew) h0 (a := a) (n := n) (by omega) (by omega)
        have hb2' := bs_end (w := w.drew) h0 (n := n) (by omega)
        have hbl : ((l.drop a).take (n - a)).length ≤ 1000000 := by rw [List.length_take, List.length_drop]; omega
        have hrl : (l.drop n).length ≤ 1000000 := by rw [List.length_drop]; omega
        generalize (l.drop a).take (n - a) = bd at *
        generalize l.drop n = rs at *
        replace hbn := Lib.hid hbn
        have x0 : (a : Int) ≤ (n : Int) := by omega
        have x1 : (n : Int) ≤ (l.length : Int) := by omega
        have x2 : (n : Int) ≤ (c : Int) := by omega
        have x3 : (l.length : Int) ≤ (c : Int) := by omega
        have x5 : (0 : Int) ≤ (n : Int) := by omega
        have x7 : (0 : Int) ≤ (a : Int) := by omega
        have x8 : (a : Int) + (u : Int) = (n : Int) := by omega
        have x6 : IntKind.i64.wrap (n : Int) = (n : Int) := by rw [IntKind.wrap_i64]; omega
        have hx : ∀ wx, Ext w.drew wx → wx.cell? ad = some (.int .u8 (p0 : Int)) := fun wx hx => (hx.cell (lt_of_cell (w := w) hc0) (fun h => h)).trans hc0
        have hn1 : (([] : List Value).length + (bd.map bv).length) * 1 ≤ 140737488355328 := by rw [List.length_map]; simp; omega
        have hn2 : (([] : List Value).length + (rs.map bv).length) * 1 ≤ 140737488355328 := by rw [List.length_map]; simp; omega
        replace hn1 := Lib.hid hn1
        replace hn2 := Lib.hid hn2
        have hx00 : Ext w.drew w.drew := Mod.refl _ _
        clear h h0 h4 hn ha hdl e5 e6 e7
        go_upto_region 24 with fail
        rw [hak.out]
        go_cut [2, 3, 4, 5] (fun s2 s3 s4 s5 wx => s2 = .int .u8 (p0 : Int) ∧ s5 = .int .i64 0 ∧ Own wx 5 s3 (bd.map bv) ∧ Own wx 5 s4 (rs.map bv) ∧ Fresh w.heap.size s3 ∧ Fresh w.heap.size s4 ∧ Ext w wx)
        case first =>
          have hc0d : w.drew.cell? ad = some (.int .u8 (p0 : Int)) := hc0
          refine wp_region_held_drew (S := fun w' => w'.cell? ad = some (.int .u8 (p0 : Int))) (by kernel_rfl) hc0d (fun hH => ?_)
          clear hH
          have hxd : Ext w w.drew := (Mod.refl _ w).drew
          generalize w.drew = wd at *
          (refine wpAnyH_take (i := 0) (oi := ⟨_, _, _, _, _, _⟩) (v := ?tv1) rfl (by kernel_rfl) (by kernel_rfl) (by kernel_rfl) (fun _ _ _ h => h) (Or.inl ⟨by rfl, ?hy1⟩) (by assumption) ?rs1; (case hy1 => (intro wx hSw; (try dsimp only at hSw); go_simp; try with_reducible rfl)); try simp only [Act.put, List.setIfInBounds_toArray, List.set_cons_zero, List.set_cons_succ])
          (refine wpAnyH_take (i := 1) (oi := ⟨_, _, _, _, _, _⟩) (v := ?tv2) rfl (by kernel_rfl) (by kernel_rfl) (by kernel_rfl) (fun _ _ _ h => h) (Or.inl ⟨by rfl, ?hy2⟩) (by assumption) ?rs2; (case hy2 => (intro wx hSw; (try dsimp only at hSw); go_simp; try with_reducible rfl)); try simp only [Act.put, List.setIfInBounds_toArray, List.set_cons_zero, List.set_cons_succ])
          (refine wpAnyH_take (i := 2) (oi := ⟨_, _, _, _, _, _⟩) (v := ?tv3) rfl (by kernel_rfl) (by kernel_rfl) (by kernel_rfl) (fun _ _ _ h => h) (Or.inl ⟨by rfl, ?hy3⟩) (by assumption) ?rs3; (case hy3 => (intro wx hSw; (try dsimp only at hSw); go_simp; try with_reducible rfl)); try simp only [Act.put, List.setIfInBounds_toArray, List.set_cons_zero, List.set_cons_succ])
          (refine wpAnyH_take (i := 4) (oi := ⟨_, _, _, _, _, _⟩) (v := ?tv4) rfl (by kernel_rfl) (by kernel_rfl) (by kernel_rfl) (fun _ _ _ h => h) (Or.inl ⟨by rfl, ?hy4⟩) (by assumption) ?rs4; (case hy4 => (intro wx hSw; (try dsimp only at hSw); go_simp; try with_reducible rfl)); try simp only [Act.put, List.setIfInBounds_toArray, List.set_cons_zero, List.set_cons_succ])
          (refine wpAnyH_take (i := 5) (oi := ⟨_, _, _, _, _, _⟩) (v := ?tv5) rfl (by kernel_rfl) (by kernel_rfl) (by kernel_rfl) (fun _ _ _ h => h) (Or.inl ⟨by rfl, ?hy5⟩) (by assumption) ?rs5; (case hy5 => (intro wx hSw; (try dsimp only at hSw); go_simp; try with_reducible rfl)); try simp only [Act.put, List.setIfInBounds_toArray, List.set_cons_zero, List.set_cons_succ])
          (refine wpAnyH_take (i := 6) (oi := ⟨_, _, _, _, _, _⟩) (v := ?tv6) rfl (by kernel_rfl) (by kernel_rfl) (by kernel_rfl) (fun _ _ _ h => h) (Or.inl ⟨by rfl, ?hy6⟩) (by assumption) ?rs6; (case hy6 => (intro wx hSw; (try dsimp only at hSw); go_simp; try with_reducible rfl)); try simp only [Act.put, List.setIfInBounds_toArray, List.set_cons_zero, List.set_cons_succ])
          (refine wpAnyH_take (i := 7) (oi := ⟨_, _, _, _, _, _⟩) (v := ?tv7) rfl (by kernel_rfl) (by kernel_rfl) (by kernel_rfl) (fun _ _ _ h => h) (Or.inl ⟨by rfl, ?hy7⟩) (by assumption) ?rs7; (case hy7 => (intro wx hSw; (try dsimp only at hSw); go_simp; try with_reducible rfl)); try simp only [Act.put, List.setIfInBounds_toArray, List.set_cons_zero, List.set_cons_succ])
          (refine wpAnyH_take (i := 8) (oi := ⟨_, _, _, _, _, _⟩) (v := ?tv8) rfl (by kernel_rfl) (by kernel_rfl) (by kernel_rfl) (fun _ _ _ h => h) (Or.inl ⟨by rfl, ?hy8⟩) (by assumption) ?rs8; (case hy8 => (intro wx hSw; (try dsimp only at hSw); go_simp; try with_reducible rfl)); try simp only [Act.put, List.setIfInBounds_toArray, List.set_cons_zero, List.set_cons_succ])
          (refine wpAnyH_take (i := 9) (oi := ⟨_, _, _, _, _, _⟩) (v := ?tv9) rfl (by kernel_rfl) (by kernel_rfl) (by kernel_rfl) (fun _ _ _ h => h) (Or.inl ⟨by rfl, ?hy9⟩) (by assumption) ?rs9; (case hy9 => (intro wx hSw; (try dsimp only at hSw); go_simp; try with_reducible rfl)); try simp only [Act.put, List.setIfInBounds_toArray, List.set_cons_zero, List.set_cons_succ])
          (refine wpAnyH_take (i := 12) (oi := ⟨_, _, _, _, _, _⟩) (v := ?tv10) rfl (by kernel_rfl) (by kernel_rfl) (by kernel_rfl) (fun _ _ _ h => h) (Or.inl ⟨by rfl, ?hy10⟩) (by assumption) ?rs10; (case hy10 => (intro wx hSw; (try dsimp only at hSw); go_simp; try with_reducible rfl)); try simp only [Act.put, List.setIfInBounds_toArray, List.set_cons_zero, List.set_cons_succ])
          (refine wpAnyH_take (i := 13) (oi := ⟨_, _, _, _, _, _⟩) (v := ?tv11) rfl (by kernel_rfl) (by kernel_rfl) (by kernel_rfl) (fun _ _ _ h => h) (Or.inl ⟨by rfl, ?hy11⟩) (by assumption) ?rs11; (case hy11 => (intro wx hSw; (try dsimp only at hSw); go_simp; try with_reducible rfl)); try simp only [Act.put, List.setIfInBounds_toArray, List.set_cons_zero, List.set_cons_succ])
          (refine wpAnyH_take (i := 14) (oi := ⟨_, _, _, _, _, _⟩) (v := ?tv12) rfl (by kernel_rfl) (by kernel_rfl) (by kernel_rfl) (fun _ _ _ h => h) (Or.inl ⟨by rfl, ?hy12⟩) (by assumption) ?rs12; (case hy12 => (intro wx hSw; (try dsimp only at hSw); go_simp; try with_reducible rfl)); try simp only [Act.put, List.setIfInBounds_toArray, List.set_cons_zero, List.set_cons_succ])
          (refine wpAnyH_take (i := 15) (oi := ⟨_, _, _, _, _, _⟩) (v := ?tv13) rfl (by kernel_rfl) (by kernel_rfl) (by kernel_rfl) (fun _ _ _ h => h) (Or.inl ⟨by rfl, ?hy13⟩) (by assumption) ?rs13; (case hy13 => (intro wx hSw; (try dsimp only at hSw); go_simp; try with_reducible rfl)); try simp only [Act.put, List.setIfInBounds_toArray, List.set_cons_zero, List.set_cons_succ])
          (refine wpAnyH_take (i := 16) (oi := ⟨_, _, _, _, _, _⟩) (v := ?tv14) rfl (by kernel_rfl) (by kernel_rfl) (by kernel_rfl) (fun _ _ _ h => h) (Or.inl ⟨by rfl, ?hy14⟩) (by assumption) ?rs14; (case hy14 => (intro wx hSw; (try dsimp only at hSw); go_simp; try with_reducible rfl)); try simp only [Act.put, List.setIfInBounds_toArray, List.set_cons_zero, List.set_cons_succ])
          generalize (Value.slice (if c = a then some ad else some (ad.add a)) (n - a) (c - a)) = V1 at *
          generalize (Value.slice (if c = n then some ad else some (ad.add n)) (l.length - n) (c - n)) = V2 at *
          refine wpAnyH_ready (rs := [3, 11]) (by kernel_rfl) (by simp) ?_
          refine AllReadyH.cons rfl (fun K hK => ?_) (AllReadyH.cons rfl (fun K hK => ?_) (AllReadyH.nil))
          · go_simp
            refine hK.out _ _ (hx _ (Mod.alloc hx00 _)) (fun hH => ?_)
            clear hK K hH
            try simp only [Act.put, List.setIfInBounds_toArray, List.set_cons_zero, List.set_cons_succ]
            have hx101 : Ext wd (wd.alloc (.cells #[] 5)) := Mod.alloc hx00 _
            have pe1 := Own.empty wd 5
            generalize (wd.alloc (.cells #[] 5)) = w101 at *
            refine wpAnyH_ready (rs := [10, 11]) (by kernel_rfl) (by simp) ?_
            refine AllReadyH.cons rfl (fun K hK => ?_) (AllReadyH.cons rfl (fun K hK => ?_) (AllReadyH.nil))
            · rw [if_pos (by rfl)]
              refine op_app tyB pe1 (hb1'.ext hx101) (bv_one _) (.tmp 67) (.tmp 73) 74 rfl rfl rfl rfl hn1.out ?_
              intro va2 w102 qa2 qb2 qc2
              rw [List.nil_append] at qa2
              have hx102 : Ext wd w102 := Mod.trans hx101 qb2 (fun _ _ h => h) (fun k hk h => Nat.lt_irrefl _ (Nat.lt_of_lt_of_le hk (by have h9 : wd.heap.size = k := Option.some.inj h; rw [← h9]; exact (hx00).size)))
              have fe2 : Fresh wd.heap.size (.slice (some ⟨wd.heap.size, 0, none⟩) 0 0) := fun k h => by have h9 : wd.heap.size = k := Option.some.inj h; rw [← h9]; exact (hx00).size
              have ff2 := (qc2.fresh fe2 (hx101).size).mono hxd.size
              refine hK.out _ _ (hx _ hx102) (fun hH => ?_)
              clear hK K hH
              try simp only [Act.put, List.setIfInBounds_toArray, List.set_cons_zero, List.set_cons_succ]
              refine wpAnyH_ready (rs := [11]) (by kernel_rfl) (by simp) ?_
              refine AllReadyH.cons rfl (fun K hK => ?_) (AllReadyH.nil)
              · go_simp
                refine hK.out _ _ (hx _ (Mod.alloc hx102 _)) (fun hH => ?_)
                clear hK K hH
                try simp only [Act.put, List.setIfInBounds_toArray, List.set_cons_zero, List.set_cons_succ]
                have hx103 : Ext wd (w102.alloc (.cells #[] 5)) := Mod.alloc hx102 _
                have pe3 := Own.empty w102 5
                have po3 := Own.alloc qa2 (.cells #[] 5)
                have pd3 : ∀ k, own (.slice (some ⟨w102.heap.size, 0, none⟩) 0 0) k → own va2 k → False := fun k h1 h2 => by have h3 := Own.lt qa2 h2; have : w102.heap.size = k := Option.some.inj h1; omega
                generalize (w102.alloc (.cells #[] 5)) = w103 at *
                refine wpAnyH_ready (rs := [17]) (by kernel_rfl) (by simp) ?_
                refine AllReadyH.cons rfl (fun K hK => ?_) (AllReadyH.nil)
                · rw [if_pos (by rfl)]
                  refine op_app tyB pe3 (hb2'.ext hx103) (bv_one _) (.tmp 75) (.tmp 80) 81 rfl rfl rfl rfl hn2.out ?_
                  intro va4 w104 qa4 qb4 qc4
                  rw [List.nil_append] at qa4
                  have hx104 : Ext wd w104 := Mod.trans hx103 qb4 (fun _ _ h => h) (fun k hk h => Nat.lt_irrefl _ (Nat.lt_of_lt_of_le hk (by have h9 : w102.heap.size = k := Option.some.inj h; rw [← h9]; exact (hx102).size)))
                  have ps4 := app_sep po3 pd3 qb4 qc4
                  have fe4 : Fresh wd.heap.size (.slice (some ⟨w102.heap.size, 0, none⟩) 0 0) := fun k h => by have h9 : w102.heap.size = k := Option.some.inj h; rw [← h9]; exact (hx102).size
                  have ff4 := (qc4.fresh fe4 (hx103).size).mono hxd.size
                  refine hK.out _ _ (hx _ hx104) (fun hH => ?_)
                  clear hK K hH
                  try simp only [Act.put, List.setIfInBounds_toArray, List.set_cons_zero, List.set_cons_succ]
                  have hcz := hx _ hx104
                  (refine wpAnyH_take (i := 18) (oi := ⟨_, _, _, _, _, _⟩) (v := ?tv15) rfl (by kernel_rfl) (by kernel_rfl) (by kernel_rfl) (fun _ _ _ h => h) (Or.inl ⟨by rfl, ?hy15⟩) (by assumption) ?rs15; (case hy15 => (intro wx hSw; (try dsimp only at hSw); go_simp; try with_reducible rfl)); try simp only [Act.put, List.setIfInBounds_toArray, List.set_cons_zero, List.set_cons_succ])
                  (refine wpAnyH_take (i := 19) (oi := ⟨_, _, _, _, _, _⟩) (v := ?tv16) rfl (by kernel_rfl) (by kernel_rfl) (by kernel_rfl) (fun _ _ _ h => h) (Or.inl ⟨by rfl, ?hy16⟩) (by assumption) ?rs16; (case hy16 => (intro wx hSw; (try dsimp only at hSw); go_simp; try with_reducible rfl)); try simp only [Act.put, List.setIfInBounds_toArray, List.set_cons_zero, List.set_cons_succ])
                  (refine wpAnyH_take (i := 20) (oi := ⟨_, _, _, _, _, _⟩) (v := ?tv17) rfl (by kernel_rfl) (by kernel_rfl) (by kernel_rfl) (fun _ _ _ h => h) (Or.inl ⟨by rfl, ?hy17⟩) (by assumption) ?rs17; (case hy17 => (intro wx hSw; (try dsimp only at hSw); go_simp; try with_reducible rfl)); try simp only [Act.put, List.setIfInBounds_toArray, List.set_cons_zero, List.set_cons_succ])
                  (refine wpAnyH_take (i := 21) (oi := ⟨_, _, _, _, _, _⟩) (v := ?tv18) rfl (by kernel_rfl) (by kernel_rfl) (by kernel_rfl) (fun _ _ _ h => h) (Or.inl ⟨by rfl, ?hy18⟩) (by assumption) ?rs18; (case hy18 => (intro wx hSw; (try dsimp only at hSw); go_simp; try with_reducible rfl)); try simp only [Act.put, List.setIfInBounds_toArray, List.set_cons_zero, List.set_cons_succ])
                  refine wpAnyH_done (by kernel_rfl) ?_ _
                  go_wp2_with fail
                  go_meet
                  exact ⟨rfl, rfl, ps4.1, qa4, ff2, ff4, hxd.trans hx104 (fun _ _ h => h) (fun _ _ h => h)⟩
            · go_simp
              refine hK.out _ _ (hx _ (Mod.alloc hx101 _)) (fun hH => ?_)
              clear hK K hH
              try simp only [Act.put, List.setIfInBounds_toArray, List.set_cons_zero, List.set_cons_succ]
              have hx105 : Ext wd (w101.alloc (.cells #[] 5)) := Mod.alloc hx101 _
              have pe5 := Own.empty w101 5
              have po5 := Own.alloc pe1 (.cells #[] 5)
              have pd5 : ∀ k, own (.slice (some ⟨w101.heap.size, 0, none⟩) 0 0) k → own (.slice (some ⟨wd.heap.size, 0, none⟩) 0 0) k → False := fun k h1 h2 => by have h3 := Own.lt pe1 h2; have : w101.heap.size = k := Option.some.inj h1; omega
              generalize (w101.alloc (.cells #[] 5)) = w105 at *
              refine wpAnyH_ready (rs := [10]) (by kernel_rfl) (by simp) ?_
              refine AllReadyH.cons rfl (fun K hK => ?_) (AllReadyH.nil)
              · rw [if_pos (by rfl)]
                refine op_app tyB po5 (hb1'.ext hx105) (bv_one _) (.tmp 67) (.tmp 73) 74 rfl rfl rfl rfl hn1.out ?_
                intro va6 w106 qa6 qb6 qc6
                rw [List.nil_append] at qa6
                have hx106 : Ext wd w106 := Mod.trans hx105 qb6 (fun _ _ h => h) (fun k hk h => Nat.lt_irrefl _ (Nat.lt_of_lt_of_le hk (by have h9 : wd.heap.size = k := Option.some.inj h; rw [← h9]; exact (hx00).size)))
                have ps6 := app_sep pe5 (fun k h1 h2 => pd5 k h2 h1) qb6 qc6
                have fe6 : Fresh wd.heap.size (.slice (some ⟨wd.heap.size, 0, none⟩) 0 0) := fun k h => by have h9 : wd.heap.size = k := Option.some.inj h; rw [← h9]; exact (hx00).size
                have ff6 := (qc6.fresh fe6 (hx105).size).mono hxd.size
                refine hK.out _ _ (hx _ hx106) (fun hH => ?_)
                clear hK K hH
                try simp only [Act.put, List.setIfInBounds_toArray, List.set_cons_zero, List.set_cons_succ]
                refine wpAnyH_ready (rs := [17]) (by kernel_rfl) (by simp) ?_
                refine AllReadyH.cons rfl (fun K hK => ?_) (AllReadyH.nil)
                · rw [if_pos (by rfl)]
                  refine op_app tyB ps6.1 (hb2'.ext hx106) (bv_one _) (.tmp 75) (.tmp 80) 81 rfl rfl rfl rfl hn2.out ?_
                  intro va7 w107 qa7 qb7 qc7
                  rw [List.nil_append] at qa7
                  have hx107 : Ext wd w107 := Mod.trans hx106 qb7 (fun _ _ h => h) (fun k hk h => Nat.lt_irrefl _ (Nat.lt_of_lt_of_le hk (by have h9 : w101.heap.size = k := Option.some.inj h; rw [← h9]; exact (hx101).size)))
                  have ps7 := app_sep qa6 (fun k h1 h2 => ps6.2 k h2 h1) qb7 qc7
                  have fe7 : Fresh wd.heap.size (.slice (some ⟨w101.heap.size, 0, none⟩) 0 0) := fun k h => by have h9 : w101.heap.size = k := Option.some.inj h; rw [← h9]; exact (hx101).size
                  have ff7 := (qc7.fresh fe7 (hx106).size).mono hxd.size
                  refine hK.out _ _ (hx _ hx107) (fun hH => ?_)
                  clear hK K hH
                  try simp only [Act.put, List.setIfInBounds_toArray, List.set_cons_zero, List.set_cons_succ]
                  have hcz := hx _ hx107
                  (refine wpAnyH_take (i := 18) (oi := ⟨_, _, _, _, _, _⟩) (v := ?tv19) rfl (by kernel_rfl) (by kernel_rfl) (by kernel_rfl) (fun _ _ _ h => h) (Or.inl ⟨by rfl, ?hy19⟩) (by assumption) ?rs19; (case hy19 => (intro wx hSw; (try dsimp only at hSw); go_simp; try with_reducible rfl)); try simp only [Act.put, List.setIfInBounds_toArray, List.set_cons_zero, List.set_cons_succ])
                  (refine wpAnyH_take (i := 19) (oi := ⟨_, _, _, _, _, _⟩) (v := ?tv20) rfl (by kernel_rfl) (by kernel_rfl) (by kernel_rfl) (fun _ _ _ h => h) (Or.inl ⟨by rfl, ?hy20⟩) (by assumption) ?rs20; (case hy20 => (intro wx hSw; (try dsimp only at hSw); go_simp; try with_reducible rfl)); try simp only [Act.put, List.setIfInBounds_toArray, List.set_cons_zero, List.set_cons_succ])
                  (refine wpAnyH_take (i := 20) (oi := ⟨_, _, _, _, _, _⟩) (v := ?tv21) rfl (by kernel_rfl) (by kernel_rfl) (by kernel_rfl) (fun _ _ _ h => h) (Or.inl ⟨by rfl, ?hy21⟩) (by assumption) ?rs21; (case hy21 => (intro wx hSw; (try dsimp only at hSw); go_simp; try with_reducible rfl)); try simp only [Act.put, List.setIfInBounds_toArray, List.set_cons_zero, List.set_cons_succ])
                  (refine wpAnyH_take (i := 21) (oi := ⟨_, _, _, _, _, _⟩) (v := ?tv22) rfl (by kernel_rfl) (by kernel_rfl) (by kernel_rfl) (fun _ _ _ h => h) (Or.inl ⟨by rfl, ?hy22⟩) (by assumption) ?rs22; (case hy22 => (intro wx hSw; (try dsimp only at hSw); go_simp; try with_reducible rfl)); try simp only [Act.put, List.setIfInBounds_toArray, List.set_cons_zero, List.set_cons_succ])
                  refine wpAnyH_done (by kernel_rfl) ?_ _
                  go_wp2_with fail
                  go_meet
                  exact ⟨rfl, rfl, ps7.1, qa7, ff6, ff7, hxd.trans hx107 (fun _ _ h => h) (fun _ _ h => h)⟩
          · go_simp
            refine hK.out _ _ (hx _ (Mod.alloc hx00 _)) (fun hH => ?_)
            clear hK K hH
            try simp only [Act.put, List.setIfInBounds_toArray, List.set_cons_zero, List.set_cons_succ]
            have hx108 : Ext wd (wd.alloc (.cells #[] 5)) := Mod.alloc hx00 _
            have pe8 := Own.empty wd 5
            generalize (wd.alloc (.cells #[] 5)) = w108 at *
            refine wpAnyH_ready (rs := [3]) (by kernel_rfl) (by simp) ?_
            refine AllReadyH.cons rfl (fun K hK => ?_) (AllReadyH.nil)
            · go_simp
              refine hK.out _ _ (hx _ (Mod.alloc hx108 _)) (fun hH => ?_)
              clear hK K hH
              try simp only [Act.put, List.setIfInBounds_toArray, List.set_cons_zero, List.set_cons_succ]
              have hx109 : Ext wd (w108.alloc (.cells #[] 5)) := Mod.alloc hx108 _
              have pe9 := Own.empty w108 5
              have po9 := Own.alloc pe8 (.cells #[] 5)
              have pd9 : ∀ k, own (.slice (some ⟨w108.heap.size, 0, none⟩) 0 0) k → own (.slice (some ⟨wd.heap.size, 0, none⟩) 0 0) k → False := fun k h1 h2 => by have h3 := Own.lt pe8 h2; have : w108.heap.size = k := Option.some.inj h1; omega
              generalize (w108.alloc (.cells #[] 5)) = w109 at *
              refine wpAnyH_ready (rs := [10]) (by kernel_rfl) (by simp) ?_
              refine AllReadyH.cons rfl (fun K hK => ?_) (AllReadyH.nil)
              · rw [if_pos (by rfl)]
                refine op_app tyB pe9 (hb1'.ext hx109) (bv_one _) (.tmp 67) (.tmp 73) 74 rfl rfl rfl rfl hn1.out ?_
                intro va10 w110 qa10 qb10 qc10
                rw [List.nil_append] at qa10
                have hx110 : Ext wd w110 := Mod.trans hx109 qb10 (fun _ _ h => h) (fun k hk h => Nat.lt_irrefl _ (Nat.lt_of_lt_of_le hk (by have h9 : w108.heap.size = k := Option.some.inj h; rw [← h9]; exact (hx108).size)))
                have ps10 := app_sep po9 pd9 qb10 qc10
                have fe10 : Fresh wd.heap.size (.slice (some ⟨w108.heap.size, 0, none⟩) 0 0) := fun k h => by have h9 : w108.heap.size = k := Option.some.inj h; rw [← h9]; exact (hx108).size
                have ff10 := (qc10.fresh fe10 (hx109).size).mono hxd.size
                refine hK.out _ _ (hx _ hx110) (fun hH => ?_)
                clear hK K hH
                try simp only [Act.put, List.setIfInBounds_toArray, List.set_cons_zero, List.set_cons_succ]
                refine wpAnyH_ready (rs := [17]) (by kernel_rfl) (by simp) ?_
                refine AllReadyH.cons rfl (fun K hK => ?_) (AllReadyH.nil)
                · rw [if_pos (by rfl)]
                  refine op_app tyB ps10.1 (hb2'.ext hx110) (bv_one _) (.tmp 75) (.tmp 80) 81 rfl rfl rfl rfl hn2.out ?_
                  intro va11 w111 qa11 qb11 qc11
                  rw [List.nil_append] at qa11
                  have hx111 : Ext wd w111 := Mod.trans hx110 qb11 (fun _ _ h => h) (fun k hk h => Nat.lt_irrefl _ (Nat.lt_of_lt_of_le hk (by have h9 : wd.heap.size = k := Option.some.inj h; rw [← h9]; exact (hx00).size)))
                  have ps11 := app_sep qa10 (fun k h1 h2 => ps10.2 k h2 h1) qb11 qc11
                  have fe11 : Fresh wd.heap.size (.slice (some ⟨wd.heap.size, 0, none⟩) 0 0) := fun k h => by have h9 : wd.heap.size = k := Option.some.inj h; rw [← h9]; exact (hx00).size
                  have ff11 := (qc11.fresh fe11 (hx110).size).mono hxd.size
                  refine hK.out _ _ (hx _ hx111) (fun hH => ?_)
                  clear hK K hH
                  try simp only [Act.put, List.setIfInBounds_toArray, List.set_cons_zero, List.set_cons_succ]
                  have hcz := hx _ hx111
                  (refine wpAnyH_take (i := 18) (oi := ⟨_, _, _, _, _, _⟩) (v := ?tv23) rfl (by kernel_rfl) (by kernel_rfl) (by kernel_rfl) (fun _ _ _ h => h) (Or.inl ⟨by rfl, ?hy23⟩) (by assumption) ?rs23; (case hy23 => (intro wx hSw; (try dsimp only at hSw); go_simp; try with_reducible rfl)); try simp only [Act.put, List.setIfInBounds_toArray, List.set_cons_zero, List.set_cons_succ])
                  (refine wpAnyH_take (i := 19) (oi := ⟨_, _, _, _, _, _⟩) (v := ?tv24) rfl (by kernel_rfl) (by kernel_rfl) (by kernel_rfl) (fun _ _ _ h => h) (Or.inl ⟨by rfl, ?hy24⟩) (by assumption) ?rs24; (case hy24 => (intro wx hSw; (try dsimp only at hSw); go_simp; try with_reducible rfl)); try simp only [Act.put, List.setIfInBounds_toArray, List.set_cons_zero, List.set_cons_succ])
                  (refine wpAnyH_take (i := 20) (oi := ⟨_, _, _, _, _, _⟩) (v := ?tv25) rfl (by kernel_rfl) (by kernel_rfl) (by kernel_rfl) (fun _ _ _ h => h) (Or.inl ⟨by rfl, ?hy25⟩) (by assumption) ?rs25; (case hy25 => (intro wx hSw; (try dsimp only at hSw); go_simp; try with_reducible rfl)); try simp only [Act.put, List.setIfInBounds_toArray, List.set_cons_zero, List.set_cons_succ])
                  (refine wpAnyH_take (i := 21) (oi := ⟨_, _, _, _, _, _⟩) (v := ?tv26) rfl (by kernel_rfl) (by kernel_rfl) (by kernel_rfl) (fun _ _ _ h => h) (Or.inl ⟨by rfl, ?hy26⟩) (by assumption) ?rs26; (case hy26 => (intro wx hSw; (try dsimp only at hSw); go_simp; try with_reducible rfl)); try simp only [Act.put, List.setIfInBounds_toArray, List.set_cons_zero, List.set_cons_succ])
                  refine wpAnyH_done (by kernel_rfl) ?_ _
                  go_wp2_with fail
                  go_meet
                  exact ⟨rfl, rfl, ps11.1, qa11, ff10, ff11, hxd.trans hx111 (fun _ _ h => h) (fun _ _ h => h)⟩
        case rest =>
          obtain ⟨rfl, rfl, r1, r2, rf1, rf2, r3⟩ := hcut
          go_wp2_with fail
          (try simp only [Exit.inBlock, Exit.then]); refine bodyPost_ret (results_tmp4 rfl _ _ _) rfl ?_
          rw [hbn.out]
          simp only
          rw [← hp0.out]
          exact ⟨_, _, rfl, r1, r2, rf1, rf2, r3⟩
end Go.Proofs.Ytoockogceobfgaa
namespace Go.Proofs.Ytoockogceobfgaa
open Go.RowKit
set_option maxRecDepth 100000

theorem tyItem : SliceTyK Try.prog 106 112 (.agg #[.int .u8 0, .slice none 0 0]) 2 32 := ⟨Try.underlying106, by kernel_rfl, rfl, by decide, by decide⟩
theorem tyRItem : SliceTyK Try.prog 116 123 (.agg #[.int .u8 0, .slice none 0 0]) 2 32 := ⟨Try.underlying116, by kernel_rfl, rfl, by decide, by decide⟩

/-- append, of an operation alone, elements of k cells. -/
theorem op_appk {P : Program} {w : World} {t e : TypeId} {z : Value} {k n m bytes : Nat} {S : Nat → Prop} {o : Oper} {a : Act} {K : Act → World → Prop} {Q : Exit → Act → World → Prop} (hT : SliceTyK P t e z k bytes) {v y : Value} {xs news : List Value} (hown : OwnK w e k v n xs) (hr : SlK w S k y m news) (h1 : ∀ u ∈ news, u.oneCell' = true)
    (s x : Operand) (d : Tmp) (hd : o.dst = some d) (ho : o.op = .call { callee := .builtin .append, args := #[s, x], argTypes := #[t, t] }) (hs : a.eval s = v) (hx : a.eval x = y)
    (hn : (n + m) * bytes ≤ 140737488355328)
    (h : ∀ v' w', OwnK w' e k v' (n + m) (xs ++ news) → Mod (own v) w w' → Next w.heap.size v v' → K (a.put (some d) v') w') : Oper.wp P o a w K Q := by
  obtain ⟨v', w', hrun, h2, h3, h4⟩ := run_appk (P := P) hT o.type hown hr h1 hn
  unfold Oper.wp execOp
  simp only [ho, resolve, invoke, builtin, Sem.run_bind, Sem.run_pure, Result.andThen_ok, List.map_toArray, List.map_cons, List.map_nil, hs, hx, hrun]
  simp only [Oper.upon, hd]
  exact h v' w' h2 h3 h4

/-- v's elements are tags and bodies; no body lies in v's own block. -/
def ItsAt (w : World) (v : Value) (xs : List Value) (L : List (UInt8 × List UInt8)) : Prop :=
  ∀ i t b, L[i]? = some (t, b) → ∃ x, xs[i * 2]? = some (.int .u8 t.toNat) ∧ xs[i * 2 + 1]? = some x ∧ Bs w (fun k => ¬ own v k) x b
def Its (w : World) (e : TypeId) (v : Value) (L : List (UInt8 × List UInt8)) : Prop :=
  ∃ xs, OwnK w e 2 v L.length xs ∧ ItsAt w v xs L
section
variable {w wa w' : World} {e : TypeId} {v v' x : Value} {xs : List Value} {L : List (UInt8 × List UInt8)} {t : UInt8} {b : List UInt8}
theorem Its.nil (w : World) (e : TypeId) : Its w e (.slice none 0 0) [] := ⟨[], OwnK.nil _ _ _, fun i t b h => by simp at h⟩
theorem ItsAt.ext (h : ItsAt w v xs L) (hm : Ext w w') : ItsAt w' v xs L := fun i t b hi => by
  obtain ⟨x, h1, h2, h3⟩ := h i t b hi
  exact ⟨x, h1, h2, h3.ext hm⟩
theorem Its.ext (h : Its w e v L) (hm : Ext w w') : Its w' e v L := by
  obtain ⟨xs, h1, h2⟩ := h
  exact ⟨xs, h1.mod hm (fun _ _ h => h), h2.ext hm⟩
theorem Its.shape (h : Its w e v L) : ∃ A c, v = .slice A L.length c := by
  obtain ⟨xs, h1, h2⟩ := h
  exact h1.shape
theorem bs_moves {l : List UInt8} (hx : Bs wa (fun k => ¬ own v k) x l) (hm : Mod (own v) wa w') (hnx : Next wa.heap.size v v') : Bs w' (fun k => ¬ own v' k) x l :=
  ((hx.mono (T := fun k => ¬ own v k ∧ ¬ own v' k) (fun _k hk hS => ⟨hS, fun hF => hS (hnx.sub hk hF)⟩)).mod hm (fun _k _ hS hF => hS.1 hF)).mono (fun _k _ hS => hS.2)
theorem Its.snoc (hit : ItsAt wa v xs L) (hxs : xs.length = L.length * 2) (hx : Bs wa (fun k => ¬ own v k) x b) (hown : OwnK w' e 2 v' (L.length + 1) (xs ++ [.int .u8 t.toNat, x])) (hm : Mod (own v) wa w') (hnx : Next wa.heap.size v v') : Its w' e v' (L ++ [(t, b)]) := by
  refine ⟨_, by rw [List.length_append]; exact hown, fun i t' b' hi => ?_⟩
  by_cases hlt : i < L.length
  · rw [List.getElem?_append_left hlt] at hi
    obtain ⟨y, h1, h2, h3⟩ := hit i t' b' hi
    refine ⟨y, ?_, ?_, bs_moves h3 hm hnx⟩
    · rw [List.getElem?_append_left (by omega)]; exact h1
    · rw [List.getElem?_append_left (by omega)]; exact h2
  · have hi0 : i = L.length := by
      have := (List.getElem?_eq_some_iff.1 hi).1
      rw [List.length_append] at this
      simp at this; omega
    subst hi0
    rw [List.getElem?_append_right (Nat.le_refl _), Nat.sub_self] at hi
    simp at hi
    obtain ⟨rfl, rfl⟩ := hi
    refine ⟨x, ?_, ?_, bs_moves hx hm hnx⟩
    · rw [List.getElem?_append_right (by omega), hxs, Nat.sub_self]; rfl
    · rw [List.getElem?_append_right (by omega), hxs, show L.length * 2 + 1 - L.length * 2 = 1 by omega]; rfl
end

/-- All of them, in n steps at most. -/
def balls : Nat → List UInt8 → List (UInt8 × List UInt8) → List (UInt8 × List UInt8) × Nat
  | 0, _, acc => (acc, 0)
  | n + 1, l, acc => if l.length = 0 then (acc, 0) else if (bnext l).2.2.2 = 0 then balls n (bnext l).2.2.1 (acc ++ [((bnext l).1, (bnext l).2.1)]) else ([], (bnext l).2.2.2)
theorem balls_nil (n : Nat) {l : List UInt8} (acc : List (UInt8 × List UInt8)) (h : l.length = 0) : balls n l acc = (acc, 0) := by
  cases n with
  | zero => rfl
  | succ n => rw [balls, if_pos h]
theorem balls_err {n : Nat} {l : List UInt8} (acc : List (UInt8 × List UInt8)) (h : ¬ l.length = 0) (he : (bnext l).2.2.2 ≠ 0) : balls (n + 1) l acc = ([], (bnext l).2.2.2) := by
  rw [balls, if_neg h, if_neg he]
theorem balls_ok {n : Nat} {l : List UInt8} (acc : List (UInt8 × List UInt8)) (h : ¬ l.length = 0) (he : (bnext l).2.2.2 = 0) : balls (n + 1) l acc = balls n (bnext l).2.2.1 (acc ++ [((bnext l).1, (bnext l).2.1)]) := by
  rw [balls, if_neg h, if_pos he]
theorem bnext_short {l : List UInt8} (he : (bnext l).2.2.2 = 0) : (bnext l).2.2.1.length + 2 ≤ l.length := by
  have hok := @blook_ok l
  unfold bnext at he ⊢
  by_cases h : (blook l).2.2 = 0
  · rw [if_pos h]
    have := hok h
    simp only [List.length_drop]; omega
  · rw [if_neg h] at he
    exact absurd he h

set_option maxHeartbeats 4000000 in
theorem ralls_any {w : World} {S : Nat → Prop} {v : Value} {l : List UInt8} (h : Bs w S v l) (hl : l.length ≤ 100000) :
    Calls Try.prog 67 #[v] w fun e w' => ∃ v', e = .returned (.tuple #[v', .int .i64 ((balls l.length l []).2 : Nat)]) ∧ Its w' 123 v' (balls l.length l []).1 ∧ Ext w w' := by
  obtain ⟨r, hr⟩ : ∃ r, r = balls l.length l [] := ⟨_, rfl⟩
  rw [← hr]
  replace hr := Lib.hid hr
  go_enter Try.func67, Try.ntmps67
  go_wp2_with fail
  go_loopw [0, 4] (fun vb vo wr => ∃ (n : Nat) (l' : List UInt8) (acc : List (UInt8 × List UInt8)), Bs wr (fun k => ¬ own vo k) vb l' ∧ Its wr 123 vo acc ∧ Fresh w.heap.size vo ∧ Ext w wr ∧ Hid (balls n l' acc = r) ∧ l'.length ≤ n ∧ acc.length + l'.length ≤ 100000) (fun vb _ _ => slen vb)
  case atStart => exact ⟨l.length, l, [], h.mono (fun _ _ _ hF => by cases hF), Its.nil _ _, fresh_nil _ _ _, Mod.refl _ _, Lib.hid hr.out.symm, Nat.le_refl _, by simpa using hl⟩
  case round =>
    obtain ⟨n, l', acc, p0, p1, p2, p3, p4, p5, p6⟩ := hrel
    have p00 := p0
    obtain ⟨A, c, rfl, h1, h2, h3, h4⟩ := p0.open_
    clear h3 h4 p0
    by_cases e0 : l'.length = 0
    · have hb : decide ((0 : Int) < (l'.length : Int)) = false := by rw [decide_eq_false_iff_not]; omega
      have hrr := p4.out
      rw [balls_nil n acc e0] at hrr
      replace hrr := Lib.hid hrr
      clear p4
      go_wp2_with fail
      go_ret2
      rw [← hrr.out]
      exact ⟨_, rfl, p1, p3⟩
    have hb : decide ((0 : Int) < (l'.length : Int)) = true := by rw [decide_eq_true_eq]; omega
    obtain ⟨m, rfl⟩ : ∃ m, n = m + 1 := ⟨n - 1, by omega⟩
    go_wp2_with fail
    refine (rnext_any p00 (by omega)).mono ?_
    rintro e w1 ⟨v1, v2, rfl, g1, g2, g3, g4, g5⟩
    replace p3 := ext_trans p3 g5
    by_cases he : (bnext l').2.2.2 = 0
    · have hrr := p4.out
      rw [balls_ok acc e0 he] at hrr
      have hsh := bnext_short he
      rw [he]
      generalize bnext l' = o at *
      obtain ⟨ot, ob, os, oe⟩ := o
      simp only at g1 g2 hrr hsh ⊢
      clear he p4
      obtain ⟨xs, u1, u2⟩ := p1.ext g5
      have ul := u1.len
      have hlt4 : ∀ k, own u4 k → k < wr.heap.size := fun k hk => by
        obtain ⟨xs0, a0, _⟩ := p1
        exact a0.lt hk
      have g1s := g1.sl
      have g2s := g2.sl
      have hx1 : Bs w1 (fun k => ¬ own u4 k) v1 ob := g1s.mono (fun k hk hS hF => by have := g3 k hS; have := hlt4 k hF; omega)
      have hx2 : Bs w1 (fun k => ¬ own u4 k) v2 os := g2s.mono (fun k hk hS hF => by have := g4 k hS; have := hlt4 k hF; omega)
      clear hlt4 g1s g2s g3 g4
      obtain ⟨A1, c1, hv1⟩ := g1.shape
      obtain ⟨A3, c3, hv3⟩ := g2.shape
      clear g1 g2
      rw [List.length_map] at hv1 hv3
      subst hv1 hv3
      have hn1 := Lib.hid (show (acc.length + 1) * 32 ≤ 140737488355328 by omega)
      have hone : ∀ u ∈ ([.int .u8 (ot.toNat : Int), .slice A1 ob.length c1] : List Value), u.oneCell' = true := by
        intro u hu; simp only [List.mem_cons, List.not_mem_nil, or_false] at hu; rcases hu with rfl | rfl <;> rfl
      replace hone := Lib.hid hone
      have hsl := SlK.one w1 123 [.int .u8 (ot.toNat : Int), .slice A1 ob.length c1] 2 rfl
      have u1a := u1.alloc (.cells #[.int .u8 (ot.toNat : Int), .slice A1 ob.length c1] 123)
      replace ul := Lib.hid ul
      replace hrr := Lib.hid hrr
      go_wp2_with ((with_reducible show wpList _ _ _ (⟨some 27, _, _, _, _, _⟩ :: _) _ _); refine wp_appk tyRItem u1a hsl hone.out rfl (.tmp 22) (.tmp 26) rfl rfl rfl hn1.out ?_; intro v3 w3 q1 q2 q3)
      have xa : Ext w1 (w1.alloc (.cells #[.int .u8 (ot.toNat : Int), .slice A1 ob.length c1] 123)) := (Mod.refl _ w1).alloc _
      refine ⟨⟨m, os, acc ++ [(ot, ob)], bs_moves (hx2.ext xa) q2 q3, Its.snoc (u2.ext xa) ul.out (hx1.ext xa) q1 q2 q3, (q3.fresh p2 (ext_trans p3 xa).size), ext_app0 (ext_trans p3 xa) p2 q2, hrr, by omega, by simp; omega⟩, ?_⟩
      simp [slen]; omega
    · have hrr := p4.out
      rw [balls_err acc e0 he] at hrr
      generalize (bnext l').2.2.2 = oe at *
      have hne : ((oe : Int) != 0) = true := by rw [bne_iff_ne]; omega
      replace hrr := Lib.hid hrr
      clear p4 g1 g2 g3 g4 he
      go_wp2_with fail
      go_ret2
      rw [← hrr.out]
      exact ⟨_, rfl, Its.nil _ _, p3⟩
end Go.Proofs.Ytoockogceobfgaa
namespace Go.Proofs.Ytoockogceobfgaa
open Go.RowKit
set_option maxRecDepth 100000

theorem step_appk1 {P : Program} {w : World} {t e : TypeId} {z : Value} {k n m bytes : Nat} {S : Nat → Prop} {ops : Array Oper} {o : Oper} {a : Act} {K : Act → World → Prop} {Q : Exit → Act → World → Prop} {E : Prop} {d : Tmp} (hT : SliceTyK P t e z k bytes) {v y : Value} {xs news : List Value} (hown : OwnK w e k v n xs) (hr : SlK w S k y m news) (h1 : ∀ u ∈ news, u.oneCell' = true)
    (hgd : o.guard = none) (hd : o.dst = some d) (s x : Operand) (ho : o.op = .call { callee := .builtin .append, args := #[s, x], argTypes := #[t, t] }) (hs : a.eval s = v) (hx : a.eval x = y)
    (hn : (n + m) * bytes ≤ 140737488355328)
    (h : ∀ v' w', OwnK w' e k v' (n + m) (xs ++ news) → Mod (own v) w w' → Next w.heap.size v v' → K (a.put o.dst v') w') : if Region.wanted o (yielded ops a.tmps) = true then Oper.wp P o a w K Q else E := by
  have hw : Region.wanted o (yielded ops a.tmps) = true := by simp [Region.wanted, hgd]
  rw [if_pos hw]
  obtain ⟨v', w', hrun, h2, h3, h4⟩ := run_appk (P := P) hT o.type hown hr h1 hn
  unfold Oper.wp execOp
  simp only [ho, resolve, invoke, builtin, Sem.run_bind, Sem.run_pure, Result.andThen_ok, List.map_toArray, List.map_cons, List.map_nil, hs, hx, hrun]
  simp only [Oper.upon, hd]
  have := h v' w' h2 h3 h4
  rw [hd] at this
  exact this

set_option maxHeartbeats 8000000 in
theorem alls_any {w : World} {S : Nat → Prop} {v : Value} {l : List UInt8} (h : Bs w S v l) (hl : l.length ≤ 100000) :
    Calls Try.prog 64 #[v] w fun e w' => ∃ v', e = .returned (.tuple #[v', .int .i64 ((balls l.length l []).2 : Nat)]) ∧ Its w' 112 v' (balls l.length l []).1 ∧ Ext w w' := by
  obtain ⟨r, hr⟩ : ∃ r, r = balls l.length l [] := ⟨_, rfl⟩
  rw [← hr]
  replace hr := Lib.hid hr
  go_enter Try.func64, Try.ntmps64
  go_wp2_with fail
  go_loopw [0, 4] (fun vb vo wr => ∃ (n : Nat) (l' : List UInt8) (acc : List (UInt8 × List UInt8)), Bs wr (fun k => ¬ own vo k) vb l' ∧ Its wr 112 vo acc ∧ Fresh w.heap.size vo ∧ Ext w wr ∧ Hid (balls n l' acc = r) ∧ l'.length ≤ n ∧ acc.length + l'.length ≤ 100000) (fun vb _ _ => slen vb)
  case atStart => exact ⟨l.length, l, [], h.mono (fun _ _ _ hF => by cases hF), Its.nil _ _, fresh_nil _ _ _, Mod.refl _ _, Lib.hid hr.out.symm, Nat.le_refl _, by simpa using hl⟩
  case round =>
    obtain ⟨n, l', acc, p0, p1, p2, p3, p4, p5, p6⟩ := hrel
    have p00 := p0
    obtain ⟨A, c, rfl, h1, h2, h3, h4⟩ := p0.open_
    clear h3 p0
    by_cases e0 : l'.length = 0
    · have hb : decide ((0 : Int) < (l'.length : Int)) = false := by rw [decide_eq_false_iff_not]; omega
      have hrr := p4.out
      rw [balls_nil n acc e0] at hrr
      replace hrr := Lib.hid hrr
      clear p4
      go_wp2_with fail
      go_ret2
      rw [← hrr.out]
      exact ⟨_, rfl, p1, p3⟩
    have hb : decide ((0 : Int) < (l'.length : Int)) = true := by rw [decide_eq_true_eq]; omega
    obtain ⟨m, rfl⟩ : ∃ m, n = m + 1 := ⟨n - 1, by omega⟩
    go_wp2_with fail
    refine (blook_any p00 (by omega)).mono ?_
    rintro e wq ⟨rfl, hwq⟩
    rw [hwq]
    clear hwq
    have hok := @blook_ok l'
    have hbn : bnext l' = if (blook l').2.2 = 0 then (l'.getD 0 0, (l'.drop (blook l').1).take ((blook l').2.1 - (blook l').1), l'.drop (blook l').2.1, 0) else (0, [], [], (blook l').2.2) := rfl
    generalize blook l' = d at *
    obtain ⟨fr, en, er⟩ := d
    simp only at hok hbn ⊢
    by_cases hd : er = 0
    · subst hd
      rw [if_pos rfl] at hbn
      obtain ⟨a1, a2, a3⟩ := hok rfl
      clear hok
      have hrr := p4.out
      have he : (bnext l').2.2.2 = 0 := by rw [hbn]
      rw [balls_ok acc e0 he, hbn] at hrr
      have hsh := bnext_short he
      rw [hbn] at hsh
      simp only at hrr hsh
      clear he p4 hbn
      obtain ⟨ad, hA, hB, hc0⟩ := h4.byte (k := 0) (by omega)
      subst hA
      rw [show ad.add 0 = ad by simp [Addr.add]] at hc0
      rw [show l'.getD 0 0 = l'[0] by rw [List.getD_eq_getElem?_getD, List.getElem?_eq_getElem (by omega)]; rfl] at hrr
      have hi0 : 0 < l'.length := by omega
      generalize l'[0] = b0 at *
      have x1 : (0 : Int) ≤ (fr : Int) := by omega
      have x2 : (fr : Int) ≤ (en : Int) := by omega
      have x3 : (en : Int) ≤ (l'.length : Int) := by omega
      have x4 : (en : Int) ≤ (c : Int) := by omega
      have x5 : (0 : Int) ≤ (en : Int) := by omega
      have x6 : (l'.length : Int) ≤ (c : Int) := by omega
      obtain ⟨xs, u1, u2⟩ := p1
      have ul := Lib.hid u1.len
      have hBlt : ad.block < wr.heap.size := lt_of_cell hc0
      have hx0 : ¬ own u4 ad.block := hB
      have hx : ∀ wx, Mod (fun b => own u4 b ∨ wr.heap.size ≤ b) wr wx → wx.cell? ad = some (.int .u8 (b0.toNat : Int)) := fun wx hm => (hm.cell (lt_of_cell (w := wr) hc0) (by rintro (h | h); exact hx0 h; omega)).trans hc0
      have hlb : ((l'.drop fr).take (en - fr)).length = en - fr := by simp; omega
      have hl1 : ((l'.drop fr).take (en - fr)).length ≤ 281474976710656 := by omega
      have hrsI := bs_end p00 a3
      have hn1 := Lib.hid (show (acc.length + 1) * 32 ≤ 140737488355328 by omega)
      have hone : ∀ (A1 : Option Addr) (c1 : Nat), ∀ u ∈ ([.int .u8 (b0.toNat : Int), .slice A1 ((l'.drop fr).take (en - fr)).length c1] : List Value), u.oneCell' = true := by
        intro A1 c1 u hu; simp only [List.mem_cons, List.not_mem_nil, or_false] at hu; rcases hu with rfl | rfl <;> rfl
      have hlr : (l'.drop en).length = l'.length - en := by simp
      have q0 : Mod (fun b => own u4 b ∨ wr.heap.size ≤ b) wr wr.drew := (Mod.refl _ wr).drew
      by_cases hcm : c = fr
      · have hbd : Bs wr.drew (fun k => ¬ own u4 k) (.slice (some ad) (en - fr) 0) ((l'.drop fr).take (en - fr)) := by
          have := p00.rest0 (m := fr) (by omega) hcm
          rw [show l'.length - fr = (l'.drop fr).length by simp] at this
          exact this.begin (m := en - fr) (by simp; omega)
        obtain rfl : fr = c := hcm.symm
        obtain rfl : en = fr := by omega
        have hb0 : (l'.drop en).take (en - en) = [] := by rw [Nat.sub_self]; rfl
        rw [hb0] at hbd hl1 hlb hrr hone
        rw [Nat.sub_self] at hbd
        clear hb0
        have hrs0 : Bs wr (fun k => ¬ own u4 k) (.slice (some ad) (l'.length - en) 0) (l'.drop en) := p00.rest0 (m := en) (by omega) rfl
        rw [show l'.length - en = 0 by omega] at hrs0 hlr
        have hrn : l'.drop en = [] := List.eq_nil_of_length_eq_zero hlr
        rw [hrn] at hrs0 hrr hsh
        clear hrn hlr hrsI
        replace hrr := Lib.hid hrr
        replace hone := Lib.hid hone
        go_wp2_with fail
        have u1d : OwnK wr.drew 112 2 u4 acc.length xs := u1
        go_region_held3 (fun w' => w'.cell? ad = some (.int .u8 (b0.toNat : Int))) (first | exact hx _ q0 | exact hx _ q1 | exact hx _ (q1.alloc _) | exact hx _ q2) (first
          | (go_at_call 63; refine (bown_any hbd hl1).mono ?_; rintro e w2 ⟨v1, rfl, g1, g2, g3, g4⟩; have q1 : Mod (fun b => own u4 b ∨ wr.heap.size ≤ b) wr w2 := q0.then_ g3 (fun _ _ h => h.elim); obtain ⟨A1, c1, hv1⟩ := g1.shape; rw [List.length_map] at hv1; subst hv1; have u1a := (u1d.mod g3 (fun _ _ h => h)).alloc (.cells #[.int .u8 (b0.toNat : Int), .slice A1 0 c1] 112))
          | (refine step_appk1 tyItem u1a (SlK.one w2 112 [.int .u8 (b0.toNat : Int), .slice A1 0 c1] 2 rfl) (hone.out A1 c1) rfl rfl (.tmp 20) (.tmp 30) rfl rfl rfl hn1.out ?_; intro v3 w3 k1 k2 k3; have q2 := (q1.alloc _).then_ k2 (fun b _ h => .inl h)))
        have hlt4 : ∀ k, own u4 k → k < wr.heap.size := fun k hk => u1.lt hk
        have g1s := g1.sl
        have hx1 : Bs w2 (fun k => ¬ own u4 k) (.slice A1 0 c1) [] := g1s.mono (fun k hk hS hF => by have h1 := g2 k hS; have h2 := hlt4 k hF; have : wr.heap.size ≤ k := h1; omega)
        have e2 : Ext wr w2 := ext_trans ((Mod.refl _ wr).drew) g3
        have ea : Ext wr (w2.alloc (.cells #[.int .u8 (b0.toNat : Int), .slice A1 0 c1] 112)) := e2.alloc _
        have hits : Its w3 112 v3 (acc ++ [(b0, [])]) := Its.snoc (u2.ext ea) ul.out (hx1.ext ((Mod.refl _ w2).alloc _)) k1 k2 k3
        have hfr : Fresh w.heap.size v3 := k3.fresh p2 (Nat.le_trans p3.size ea.size)
        have hex : Ext w w3 := ext_app0 (ext_trans p3 ea) p2 k2
        have hrs : ∀ x, Bs wr (fun k => ¬ own u4 k) x [] → Bs w3 (fun k => ¬ own v3 k) x [] := fun x h => bs_moves (h.ext ea) k2 k3
        clear u1d g1s hx1 g1 g2 g3 g4 k1 k2 k3 q0 q1 q2 hx e2 ea u1 u1a u2 hlt4
        go_wp2_with fail
        refine ⟨⟨m, [], acc ++ [(b0, [])], hrs _ hrs0, hits, hfr, hex, hrr, by simp, by simp; omega⟩, ?_⟩
        simp [slen]; omega
      · have hbd : Bs wr.drew (fun k => ¬ own u4 k) (.slice (some (ad.add fr)) (en - fr) (c - fr)) ((l'.drop fr).take (en - fr)) := by
          have := p00.rest (m := fr) (by omega)
          rw [show l'.length - fr = (l'.drop fr).length by simp] at this
          exact this.begin (m := en - fr) (by simp; omega)
        generalize (l'.drop fr).take (en - fr) = bd at *
        generalize l'.drop en = rs at *
        replace hlb := Lib.hid hlb
        replace hlr := Lib.hid hlr
        replace hrr := Lib.hid hrr
        replace hone := Lib.hid hone
        go_wp2_with fail
        have u1d : OwnK wr.drew 112 2 u4 acc.length xs := u1
        go_region_held3 (fun w' => w'.cell? ad = some (.int .u8 (b0.toNat : Int))) (first | exact hx _ q0 | exact hx _ q1 | exact hx _ (q1.alloc _) | exact hx _ q2) (first
          | (go_at_call 63; refine (bown_any hbd hl1).mono ?_; rintro e w2 ⟨v1, rfl, g1, g2, g3, g4⟩; have q1 : Mod (fun b => own u4 b ∨ wr.heap.size ≤ b) wr w2 := q0.then_ g3 (fun _ _ h => h.elim); obtain ⟨A1, c1, hv1⟩ := g1.shape; rw [List.length_map] at hv1; subst hv1; have u1a := (u1d.mod g3 (fun _ _ h => h)).alloc (.cells #[.int .u8 (b0.toNat : Int), .slice A1 bd.length c1] 112))
          | (refine step_appk1 tyItem u1a (SlK.one w2 112 [.int .u8 (b0.toNat : Int), .slice A1 bd.length c1] 2 rfl) (hone.out A1 c1) rfl rfl (.tmp 20) (.tmp 30) rfl rfl rfl hn1.out ?_; intro v3 w3 k1 k2 k3; have q2 := (q1.alloc _).then_ k2 (fun b _ h => .inl h)))
        have hlt4 : ∀ k, own u4 k → k < wr.heap.size := fun k hk => u1.lt hk
        have g1s := g1.sl
        have hx1 : Bs w2 (fun k => ¬ own u4 k) (.slice A1 bd.length c1) bd := g1s.mono (fun k hk hS hF => by have h1 := g2 k hS; have h2 := hlt4 k hF; have : wr.heap.size ≤ k := h1; omega)
        have e2 : Ext wr w2 := ext_trans ((Mod.refl _ wr).drew) g3
        have ea : Ext wr (w2.alloc (.cells #[.int .u8 (b0.toNat : Int), .slice A1 bd.length c1] 112)) := e2.alloc _
        have hits : Its w3 112 v3 (acc ++ [(b0, bd)]) := Its.snoc (u2.ext ea) ul.out (hx1.ext ((Mod.refl _ w2).alloc _)) k1 k2 k3
        have hfr : Fresh w.heap.size v3 := k3.fresh p2 (Nat.le_trans p3.size ea.size)
        have hex : Ext w w3 := ext_app0 (ext_trans p3 ea) p2 k2
        have hrs : ∀ x, Bs wr (fun k => ¬ own u4 k) x rs → Bs w3 (fun k => ¬ own v3 k) x rs := fun x h => bs_moves (h.ext ea) k2 k3
        clear u1d g1s hx1 g1 g2 g3 g4 k1 k2 k3 q0 q1 q2 hx e2 ea u1 u1a u2 hlt4
        go_wp2_with fail
        refine ⟨⟨m, rs, acc ++ [(b0, bd)], hrs _ hrsI, hits, hfr, hex, hrr, by omega, by simp; omega⟩, ?_⟩
        have := hlr.out
        simp [slen]; omega
    · have hrr := p4.out
      rw [balls_err acc e0 (by rw [hbn, if_neg hd]; exact hd), hbn, if_neg hd] at hrr
      simp only at hrr
      have hne : ((er : Int) != 0) = true := by rw [bne_iff_ne]; omega
      replace hrr := Lib.hid hrr
      clear p4 hd hbn hok
      go_wp2_with fail
      go_ret2
      rw [← hrr.out]
      exact ⟨_, rfl, Its.nil _ _, p3⟩
end Go.Proofs.Ytoockogceobfgaa
namespace Go.Proofs.Ytoockogceobfgaa
open Go.RowKit
set_option maxRecDepth 100000

theorem Its.at_ {w : World} {e : TypeId} {A : Option Addr} {c : Nat} {L : List (UInt8 × List UInt8)} (h : Its w e (.slice A L.length c) L) {i : Nat} (hi : i < L.length) :
    ∃ ad x, A = some ad ∧ w.cell? (ad.add (i * 2)) = some (.int .u8 (L[i].1.toNat : Int)) ∧ w.cell? ⟨(ad.add (i * 2)).block, (ad.add (i * 2)).off + 1, none⟩ = some x ∧ Bs w (fun k => ¬ own (.slice A L.length c) k) x L[i].2 := by
  obtain ⟨xs, h1, h2⟩ := h
  obtain ⟨x, g1, g2, g3⟩ := h2 i L[i].1 L[i].2 (by rw [List.getElem?_eq_getElem hi])
  have hs := h1.slk
  obtain ⟨ad, e1, _, e2⟩ := hs.at_ (i := i) (j := 0) (by rw [Nat.add_zero]; exact g1)
  obtain ⟨ad', e3, _, e4⟩ := hs.at_ (i := i) (j := 1) g2
  rw [e1] at e3
  injection e3 with e3
  subst e3
  rw [add_next _ _ 1 (by omega)] at e4
  exact ⟨ad, x, e1, e2, e4, g3⟩
theorem balls_len (n : Nat) : ∀ (l : List UInt8) (acc : List (UInt8 × List UInt8)), (balls n l acc).1.length ≤ acc.length + n := by
  induction n with
  | zero => intro l acc; simp [balls]
  | succ n ih =>
    intro l acc
    unfold balls
    split
    · simp
    · split
      · have := ih (bnext l).2.2.1 (acc ++ [((bnext l).1, (bnext l).2.1)])
        simp at this
        omega
      · simp

end Go.Proofs.Ytoockogceobfgaa
namespace Go.Proofs.Ytoockogceobfgaa
open Go.RowKit
set_option maxRecDepth 100000

theorem sv_get (l : List UInt8) (k : Nat) (_h : k < l.length) (h' : k < (⟨l.toArray⟩ : ByteArray).size) : (⟨l.toArray⟩ : ByteArray)[k]'h' = l[k] := by
  show l.toArray[k] = l[k]
  simp
theorem sv_size (l : List UInt8) : (⟨l.toArray⟩ : ByteArray).size = l.length := by
  show l.toArray.size = l.length
  simp
theorem sv_list (l : List UInt8) : (⟨l.toArray⟩ : ByteArray).toList = l := by
  simp
theorem bool_eq {p : Prop} [Decidable p] {b : Bool} (h : b = true ↔ p) : b = decide p := by
  rw [Bool.eq_iff_iff, decide_eq_true_eq]; exact h

theorem ret_bool {b : Bool} {p : Prop} [Decidable p] {w w' : World} (h : b = true ↔ p) (hw : w' = w) : Ending.returned (.bool b) = .returned (.bool (decide p)) ∧ w' = w := ⟨by rw [bool_eq h], hw⟩

def letN (p : Nat) : Prop := (97 ≤ p ∧ p ≤ 122) ∨ (65 ≤ p ∧ p ≤ 90)
instance (p : Nat) : Decidable (letN p) := inferInstanceAs (Decidable (_ ∨ _))
def typN (p : Nat) : Prop := letN p ∨ (48 ≤ p ∧ p ≤ 57) ∨ p = 45
instance (p : Nat) : Decidable (typN p) := inferInstanceAs (Decidable (_ ∨ _))
/-- Is a text a type? -/
def isTyp (s : List UInt8) : Prop := 1 ≤ s.length ∧ s.length ≤ 32 ∧ letN (s.getD 0 0).toNat ∧ ∀ b ∈ s, typN b.toNat
instance (s : List UInt8) : Decidable (isTyp s) := inferInstanceAs (Decidable (_ ∧ _))

set_option maxHeartbeats 1000000 in
theorem letter_any {w : World} (p : Nat) :
    Calls Try.prog 118 #[.int .u8 (p : Int)] w fun e w' => e = .returned (.bool (decide (letN p))) ∧ w' = w := by
  go_enter Try.func118, Try.ntmps118
  go_wp2_with fail
  all_goals go_ret
  all_goals refine ret_bool ?_ rfl
  all_goals unfold letN
  all_goals simp
  all_goals omega
set_option maxHeartbeats 1000000 in
theorem inType_any {w : World} (p : Nat) :
    Calls Try.prog 119 #[.int .u8 (p : Int)] w fun e w' => e = .returned (.bool (decide (typN p))) ∧ w' = w := by
  go_enter Try.func119, Try.ntmps119
  go_wp2_with fail
  refine (letter_any p).mono ?_
  rintro e w1 ⟨rfl, rfl⟩
  obtain ⟨q, hq⟩ : ∃ q, q = decide (letN p) := ⟨_, rfl⟩
  rw [← hq]
  replace hq := Lib.hid hq
  cases q
  all_goals go_wp2_with fail
  all_goals go_ret
  all_goals refine ret_bool ?_ rfl
  all_goals have hq' := hq.out
  all_goals unfold typN
  all_goals simp at hq' ⊢
  all_goals (try simp only [hq', true_or, false_or])
  all_goals (try omega)
end Go.Proofs.Ytoockogceobfgaa
namespace Go.Proofs.Ytoockogceobfgaa
open Go.RowKit
set_option maxRecDepth 100000

theorem ret_no {p : Prop} [Decidable p] {w w' : World} (h : ¬ p) (hw : w' = w) : Ending.returned (.bool false) = .returned (.bool (decide p)) ∧ w' = w := ⟨by rw [decide_eq_false h], hw⟩
theorem ret_yes {p : Prop} [Decidable p] {w w' : World} (h : p) (hw : w' = w) : Ending.returned (.bool true) = .returned (.bool (decide p)) ∧ w' = w := ⟨by rw [decide_eq_true h], hw⟩
theorem dtrue {p : Prop} [Decidable p] (h : p) : decide p = true := decide_eq_true h
theorem dfalse {p : Prop} [Decidable p] (h : ¬ p) : decide p = false := decide_eq_false h
theorem getD_at (s : List UInt8) {k : Nat} (h : k < s.length) : s.getD k 0 = s[k] := by rw [List.getD_eq_getElem?_getD, List.getElem?_eq_getElem h]; rfl

set_option maxHeartbeats 2000000 in
theorem type_any {w : World} (s : List UInt8) (hl : s.length ≤ 9223372036854775807) :
    Calls Try.prog 114 #[sv s] w fun e w' => e = .returned (.bool (decide (isTyp s))) ∧ w' = w := by
  have hsz := sv_size s
  by_cases h1 : s.length < 1
  · have hb : decide ((s.length : Int) < 1) = true := dtrue (by omega)
    go_enter Try.func114, Try.ntmps114
    go_wp2_with fail
    go_ret
    exact ret_no (fun h => by have := h.1; omega) rfl
  have hb1 : decide ((s.length : Int) < 1) = false := dfalse (by omega)
  by_cases h2 : 32 < s.length
  · have hb : decide ((32 : Int) < (s.length : Int)) = true := dtrue (by omega)
    go_enter Try.func114, Try.ntmps114
    go_wp2_with fail
    go_ret
    exact ret_no (fun h => by have := h.2.1; omega) rfl
  have hb2 : decide ((32 : Int) < (s.length : Int)) = false := dfalse (by omega)
  have h0 : 0 < s.length := by omega
  obtain ⟨b, hbk⟩ : ∃ b, b = s[0] := ⟨_, rfl⟩
  have hg : ∀ h', (⟨s.toArray⟩ : ByteArray)[0]'h' = b := fun h' => (sv_get s 0 h0 h').trans hbk.symm
  have hgd : s.getD 0 0 = b := by rw [getD_at s h0, hbk]
  replace hbk := Lib.hid hbk
  by_cases h3 : letN b.toNat
  · go_enter Try.func114, Try.ntmps114
    go_wp2_with fail
    refine (letter_any b.toNat).mono ?_
    rintro e w1 ⟨rfl, rfl⟩
    rw [decide_eq_true h3]
    go_wp2_with fail
    go_loop [20] (fun i => ∃ k : Nat, k ≤ s.length ∧ i = .int .i64 k ∧ ∀ (j : Nat) (hj : j < s.length), j < k → typN s[j].toNat) (fun i => s.length - (intOf i).toNat)
    case atStart => exact ⟨0, Nat.zero_le _, rfl, fun j _ h => by omega⟩
    case round =>
      obtain ⟨k, hk, rfl, hall⟩ := hrel
      replace hall := Lib.hid hall
      by_cases hlt : k < s.length
      · have hbl : decide ((k : Int) < (s.length : Int)) = true := dtrue (by omega)
        obtain ⟨c, hck⟩ : ∃ c, c = s[k] := ⟨_, rfl⟩
        have hg : ∀ h', (⟨s.toArray⟩ : ByteArray)[k]'h' = c := fun h' => (sv_get s k hlt h').trans hck.symm
        replace hck := Lib.hid hck
        go_wp2_with fail
        refine (inType_any c.toNat).mono ?_
        rintro e w1 ⟨rfl, rfl⟩
        by_cases h4 : typN c.toNat
        · rw [decide_eq_true h4]
          go_wp2_with fail
          refine ⟨⟨k + 1, by omega, by go_num, fun j hj hjk => ?_⟩, by simp [intOf] <;> omega⟩
          by_cases hj2 : j < k
          · exact hall.out j hj hj2
          · obtain rfl : j = k := by omega
            rw [← hck.out]; exact h4
        · rw [decide_eq_false h4]
          go_wp2_with fail
          go_ret
          exact ret_no (fun h => h4 (by rw [hck.out]; exact h.2.2.2 _ (List.getElem_mem _))) rfl
      · have hbl : decide ((k : Int) < (s.length : Int)) = false := dfalse (by omega)
        go_wp2_with fail
        go_ret
        exact ret_yes ⟨by omega, by omega, by rw [hgd]; exact h3, fun x hx => by
          obtain ⟨j, hj, rfl⟩ := List.mem_iff_getElem.1 hx
          exact hall.out j hj (by omega)⟩ rfl
  · go_enter Try.func114, Try.ntmps114
    go_wp2_with fail
    refine (letter_any b.toNat).mono ?_
    rintro e w1 ⟨rfl, rfl⟩
    rw [decide_eq_false h3]
    go_wp2_with fail
    go_ret
    exact ret_no (fun h => h3 (by rw [← hgd]; exact h.2.2.1)) rfl
end Go.Proofs.Ytoockogceobfgaa
namespace Go.Proofs.Ytoockogceobfgaa
open Go.RowKit
set_option maxRecDepth 100000

def low (b : UInt8) : UInt8 := if 65 ≤ b.toNat ∧ b.toNat ≤ 90 then b + 32 else b
def fstep (o : List UInt8) (b : UInt8) : List UInt8 := if low b = 32 ∧ (o = [] ∨ o.getLast? = some 32) then o else o ++ [low b]
def fcut (o : List UInt8) : List UInt8 := if o.getLast? = some 32 then o.dropLast else o
/-- A text in which case and blanks do not count. -/
def foldB (s : List UInt8) : List UInt8 := fcut (s.foldl fstep [])
theorem fold_snoc (s : List UInt8) {k : Nat} (h : k < s.length) : (s.take (k + 1)).foldl fstep [] = fstep ((s.take k).foldl fstep []) s[k] := by
  rw [List.take_succ_eq_append_getElem h, List.foldl_append, List.foldl_cons, List.foldl_nil]
theorem fstep_len (o : List UInt8) (b : UInt8) : (fstep o b).length ≤ o.length + 1 := by
  unfold fstep; split <;> simp
theorem ffold_len (s : List UInt8) : ∀ o, (s.foldl fstep o).length ≤ o.length + s.length := by
  induction s with
  | nil => intro o; simp
  | cons b s ih => intro o; rw [List.foldl_cons]; have := ih (fstep o b); have := fstep_len o b; simp only [List.length_cons]; omega
theorem fcut_len (o : List UInt8) : (fcut o).length ≤ o.length := by
  unfold fcut; split <;> simp
theorem foldB_len (s : List UInt8) : (foldB s).length ≤ s.length := by
  have := fcut_len (s.foldl fstep []); have := ffold_len s []; unfold foldB; simp at *; omega
theorem low_up {b : UInt8} (h : 65 ≤ b.toNat ∧ b.toNat ≤ 90) : (low b).toNat = b.toNat + 32 := by
  unfold low
  rw [if_pos h, UInt8.toNat_add]
  show (b.toNat + 32) % 256 = _
  omega
theorem low_no {b : UInt8} (h : ¬ (65 ≤ b.toNat ∧ b.toNat ≤ 90)) : low b = b := by
  unfold low
  rw [if_neg h]
theorem last_get (o : List UInt8) (h : 0 < o.length) : o.getLast? = some o[o.length - 1] := by
  rw [List.getLast?_eq_getElem?, List.getElem?_eq_getElem (by omega)]
theorem fstep_out {o : List UInt8} {b : UInt8} (h : (low b).toNat ≠ 32) : fstep o b = o ++ [low b] := by
  unfold fstep
  rw [if_neg (fun hh => h (by rw [hh.1]; rfl))]
theorem fstep_out2 {o : List UInt8} {b : UInt8} {m : Nat} (hm : o.length = m + 1) (h : o[m].toNat ≠ 32) : fstep o b = o ++ [low b] := by
  unfold fstep
  rw [if_neg]
  rintro ⟨_, rfl | h2⟩
  · simp at hm
  · rw [last_get o (by omega)] at h2
    have : o[o.length - 1] = o[m] := by congr 1; omega
    rw [this] at h2
    exact h (by rw [Option.some.inj h2]; rfl)
theorem fstep_skip0 {b : UInt8} (h : low b = 32) : fstep [] b = [] := by
  unfold fstep
  rw [if_pos ⟨h, .inl rfl⟩]
theorem fstep_skip {o : List UInt8} {b : UInt8} {m : Nat} (hm : o.length = m + 1) (hb : low b = 32) (h : o[m].toNat = 32) : fstep o b = o := by
  unfold fstep
  rw [if_pos]
  refine ⟨hb, .inr ?_⟩
  rw [last_get o (by omega)]
  have : o[o.length - 1] = o[m] := by congr 1; omega
  rw [this]
  congr 1
  exact UInt8.toNat_inj.1 h
theorem fcut_no {o : List UInt8} {m : Nat} (hm : o.length = m + 1) (h : o[m].toNat ≠ 32) : fcut o = o := by
  unfold fcut
  rw [if_neg]
  rw [last_get o (by omega)]
  have : o[o.length - 1] = o[m] := by congr 1; omega
  rw [this]
  intro h2
  exact h (by rw [Option.some.inj h2]; rfl)
theorem fcut_yes {o : List UInt8} {m : Nat} (hm : o.length = m + 1) (h : o[m].toNat = 32) : fcut o = o.take m := by
  unfold fcut
  rw [if_pos]
  · rw [List.dropLast_eq_take, hm]; rfl
  · rw [last_get o (by omega)]
    have : o[o.length - 1] = o[m] := by congr 1; omega
    rw [this]
    congr 1
    exact UInt8.toNat_inj.1 h

end Go.Proofs.Ytoockogceobfgaa
namespace Go.Proofs.Ytoockogceobfgaa
open Go.RowKit
set_option maxRecDepth 100000

/-- A value, folded. -/
def normV (s : List UInt8) : List UInt8 := if foldB s = [] ∧ s ≠ [] then [32] else foldB s
/-- A part, folded. -/
def normA (a : List UInt8 × List UInt8) : List UInt8 × List UInt8 := (foldB a.1, normV a.2)
theorem sv_empty (l : List UInt8) : (⟨l.toArray⟩ : ByteArray).toList.isEmpty = l.isEmpty := by simp

end Go.Proofs.Ytoockogceobfgaa
namespace Go.Proofs.Ytoockogceobfgaa
open Go.RowKit
set_option maxRecDepth 100000

abbrev Av : Type := List UInt8 × List UInt8
/-- No text is longer than memory. -/
def Fits (L : List Av) : Prop := (∀ a ∈ L, a.1.length ≤ 140737488351232 ∧ a.2.length ≤ 140737488351232) ∧ L.length * 32 ≤ 140737488351232
theorem Fits.at_ {L : List Av} (h : Fits L) {k : Nat} (hk : k < L.length) : L[k].1.length ≤ 140737488351232 ∧ L[k].2.length ≤ 140737488351232 := h.1 _ (List.getElem_mem _)
/-- A name, folded. -/
def norm (L : List Av) : List Av := L.map normA
theorem norm_snoc (L : List Av) {k : Nat} (h : k < L.length) : norm (L.take (k + 1)) = norm (L.take k) ++ [normA L[k]] := by
  unfold norm
  rw [List.take_succ_eq_append_getElem h, List.map_append]; rfl

end Go.Proofs.Ytoockogceobfgaa
namespace Go.Proofs.Ytoockogceobfgaa
open Go.RowKit
set_option maxRecDepth 100000

theorem strCells_sv (l : List UInt8) : Lib.strCells (⟨l.toArray⟩ : ByteArray) = l.map bv := rfl
theorem sv_size' (l : List UInt8) : (⟨l.toArray⟩ : ByteArray).size = l.length := by
  show l.toArray.size = l.length
  simp
section
variable {P : Program} {w : World} {t u e : TypeId} {ops : Array Oper} {rest : List Oper} {o : Oper} {a : Act} {Q : Exit → Act → World → Prop}
theorem run_appS (hT : SliceTy P t e (.int .u8 0) 1) (hu : P.underlying u = some .string) (ty : TypeId) {v : Value} {xs : List Value} (hown : Own w e v xs) (l : List UInt8) (hn : xs.length + l.length ≤ 140737488355328) :
    ∃ v' w', (Builtin.append_ #[t, u] ty #[v, sv l]).run P w = .ok v' w' ∧ Own w' e v' (xs ++ l.map bv) ∧ Mod (own v) w w' ∧ Next w.heap.size v v' := by
  obtain ⟨i, hi, hz0, hz1, hz2⟩ := info_parts hT.hi
  have h63 : xs.length + (⟨l.toArray⟩ : ByteArray).size ≤ maxLen := by rw [sv_size']; simp only [maxLen]; omega
  have hb : xs.length + (⟨l.toArray⟩ : ByteArray).size ≤ 140737488355328 := by rw [sv_size']; exact hn
  have hlen : (xs ++ l.map bv).length = xs.length + (⟨l.toArray⟩ : ByteArray).size := by rw [List.length_append, List.length_map, sv_size']
  rcases hown.2 with ⟨rfl, h0⟩ | ⟨g, cap, cur, rfl, hg, hh, hnc, hcm, hcs, htk⟩
  · have hx : xs = [] := List.eq_nil_of_length_eq_zero h0
    subst hx
    obtain ⟨v', w', hrun, h2, h3, _⟩ := Lib.run_append_own_string (P := P) w w.heap.size t u ty e i hT.ht hu hi hz0 hz1 hz2 (.slice none 0 0) 0 [] (World.ownsRow_nil w _ e 1) (⟨l.toArray⟩ : ByteArray) h63 hb (Nat.le_refl _)
    refine ⟨v', w', hrun, ?_, Mod.of_grown h3 fun k hk => hk, .inr fun k hk => (World.ownsRow.lt h2 k hk).1⟩
    unfold Own
    rw [hlen]
    refine ⟨h2.1, ?_⟩
    rcases h2.2 with h4 | ⟨g, cap, cur, r1, r2, r3⟩
    · exact .inl h4
    · exact .inr ⟨g, cap, cur, r1, Nat.zero_le _, r3⟩
  · obtain ⟨v', w', hrun, h2, h3, _⟩ := Lib.run_append_own_string (P := P) w 0 t u ty e i hT.ht hu hi hz0 hz1 hz2 _ xs.length xs hown (⟨l.toArray⟩ : ByteArray) h63 hb (Nat.zero_le _)
    refine ⟨v', w', hrun, by unfold Own; rw [hlen]; exact h2, Mod.of_grown h3 fun k hk => hk, ?_⟩
    by_cases hroom : xs.length + (⟨l.toArray⟩ : ByteArray).size ≤ cap
    · have := Lib.run_append_room_string (P := P) w t u ty e i hT.ht hu hi hz1 g xs.length cap cur hh (⟨l.toArray⟩ : ByteArray) hroom (by omega)
      rw [this] at hrun
      injection hrun with h1 _
      subst h1
      exact .inl rfl
    · have holds : ∀ j u, xs[j]? = some u → w.cell? ((⟨g, 0, none⟩ : Addr).add j) = some u := World.ownsRow.cells hown (g := g) rfl
      have hr := Lib.run_append_grow_string (P := P) w t u ty e i (.int .u8 0) hT.ht hu hi hz0 ⟨g, 0, none⟩ xs.length cap xs (by rw [hz1, Nat.mul_one]) holds (⟨l.toArray⟩ : ByteArray) (by omega) (by simp only [maxLen] at h63; omega) (by rw [hz2]; exact growslice_fits (by omega) (by omega))
      rw [hr] at hrun
      injection hrun with h1 _
      subst h1
      exact .inr fun k hk => by have : w.heap.size = k := Option.some.inj hk; omega
/-- append(v, s...). -/
theorem wp_appS (hT : SliceTy P t e (.int .u8 0) 1) (hu : P.underlying u = some .string) {v : Value} {xs : List UInt8} {l : List UInt8} (hown : Own w e v (xs.map bv)) (hn : xs.length + l.length ≤ 140737488355328)
    (hgd : o.guard = none) (s y : Operand) (ho : o.op = .call { callee := .builtin .append, args := #[s, y], argTypes := #[t, u] }) (hs : a.eval s = v) (hy : a.eval y = sv l)
    (h : ∀ v' w', Own w' e v' ((xs ++ l).map bv) → Mod (own v) w w' → Next w.heap.size v v' → wpList P ops Q rest (a.put o.dst v') w') : wpList P ops Q (o :: rest) a w := by
  refine wpList_plain hgd fun K hK => ?_
  obtain ⟨v', w', hrun, h2, h3, h4⟩ := run_appS (P := P) hT hu o.type hown l (by rw [List.length_map]; exact hn)
  unfold Oper.wp execOp
  simp only [ho, resolve, invoke, builtin, Sem.run_bind, Sem.run_pure, Result.andThen_ok, List.map_toArray, List.map_cons, List.map_nil, hs, hy, hrun]
  exact hK _ _ (h v' w' (by rw [List.map_append]; exact h2) h3 h4)
/-- append(v, b, c), two bytes. -/
theorem wp_app2 {z : Value} (hT : SliceTy P t e z 1) {v : Value} {l : List UInt8} {b c : UInt8} {x y : Int} (hown : Own w e v (l.map bv)) (hx : x = (b.toNat : Int)) (hy : y = (c.toNat : Int)) (hn : l.length + 2 ≤ 140737488355328)
    (hgd : o.guard = none) (s yy : Operand) (ho : o.op = .call { callee := .builtin .append, args := #[s, yy], argTypes := #[t, t] }) (hs : a.eval s = v) (hyy : a.eval yy = .slice (some ⟨w.heap.size, 0, none⟩) 2 2)
    (h : ∀ v' w', Own w' e v' ((l ++ [b, c]).map bv) → Mod (own v) w w' → Next w.heap.size v v' → wpList P ops Q rest (a.put o.dst v') w') : wpList P ops Q (o :: rest) a (w.alloc (.cells #[.int .u8 x, .int .u8 y] e)) := by
  subst hx
  subst hy
  refine wp_app hT (hown.alloc _) (Sl.lit w e [bv b, bv c] (by simp [maxLen])) (by intro u hu; simp only [List.mem_cons, List.not_mem_nil, or_false] at hu; rcases hu with rfl | rfl <;> rfl) hgd s yy ho hs hyy (by simpa using hn) fun v' w' k1 k2 k3 => ?_
  exact h v' w' (by rw [List.map_append]; exact k1) (mod_app k2) (k3.sooner (by simp))
end
end Go.Proofs.Ytoockogceobfgaa
namespace Go.Proofs.Ytoockogceobfgaa
open Go.RowKit Go.WideShapes Go.ChangeShapes Go.Deep
set_option maxRecDepth 100000

section
variable {H : Type} {enc : TypeId × Value → H} {P : Program} {W : World} {base : Nat} {spare : Nat → Bool} {held : Bool} {t e : TypeId} {v : Value} {d : DataW H} {p : List MemPlace}
/-- What a datum weighs lies within reach. -/
def Light (P : Program) (t : TypeId) (d : DataW H) : Prop := ∀ q ∈ d.weights P t, q ≤ 140737488351232
theorem light_of {ts : List TypeId} {ds : List (DataW H)} {j : Nat} (hsz : (DataW.weightsEach P ts ds).all (· ≤ reachBytes) = true) (htj : ts[j]? = some t) (hj : ds[j]? = some d) : Light P t d := fun q hq => by
  have := List.all_eq_true.1 hsz _ (DataW.weights_mem_each htj hj q hq)
  have := of_decide_eq_true this
  simpa [reachBytes] using this
theorem Light.elem {elems rest : List (DataW H)} {d : DataW H} (ht : P.underlying t = some (.slice e)) (h : Light P t (.slice elems rest)) (hd : d ∈ elems) : Light P e d := fun q hq => h q (by
  simp only [DataW.weights, ht]
  exact List.mem_cons_of_mem _ (List.mem_append_left _ (mem_weightsAll hd hq)))
theorem Light.len {elems rest : List (DataW H)} (ht : P.underlying t = some (.slice e)) (h : Light P t (.slice elems rest)) : elems.length * P.bytesOf e ≤ 140737488351232 := by
  have := h ((elems.length + rest.length) * P.bytesOf e) (by simp [DataW.weights, ht])
  exact Nat.le_trans (Nat.mul_le_mul_right _ (Nat.le_add_right _ _)) this
theorem Light.str {l : List UInt8} (h : Light P t (.lit (.string l) : DataW H)) : l.length ≤ 140737488351232 := h _ (by simp [DataW.weights])
theorem mem_weightsEach : ∀ {ts : List TypeId} {ds : List (DataW H)} {j : Nat} {t : TypeId} {d : DataW H} {q : Nat}, ts[j]? = some t → ds[j]? = some d → q ∈ d.weights P t → q ∈ DataW.weightsEach P ts ds := fun h1 h2 h3 => DataW.weights_mem_each h1 h2 _ h3
theorem Light.part {fs : Array Field} {parts : List (DataW H)} {j : Nat} {f : Field} {d : DataW H} (ht : P.underlying t = some (.struct fs)) (h : Light P t (.agg parts)) (hf : fs[j]? = some f) (hd : parts[j]? = some d) : Light P f.type d := fun q hq => h q (by
  simp only [DataW.weights, ht]
  exact mem_weightsEach (j := j) (by rw [List.getElem?_map, Array.getElem?_toList, hf]; rfl) hd hq)

/-- Slices of records. -/
theorem recs_in {α : Type} [Inhabited α] (f : α → List Value) {k bts : Nat} (hf : ∀ a, (f a).length = k) (R : α → Prop) (ht : P.underlying t = some (.slice e)) (ce : P.cellsOf e = k) (hby : P.bytesOf e = bts)
    (each : ∀ cs x n, DataW.trod enc P W base spare held n e cs = some x → Light P e x.1 → ∃ a, cs = f a ∧ R a) (hv : ∃ a len cap, v = .slice a len cap) (h : DataW.Trod enc P W base spare held t v d p) (hl : Light P t d) :
    ∃ L, Rc f k W (fun _ => True) v L ∧ (∀ a ∈ L, R a) ∧ L.length * bts ≤ 140737488351232 := by
  obtain ⟨a0, len0, cap0, rfl⟩ := hv
  obtain ⟨fuel, hfu⟩ := h
  rcases open_slice ht hfu with ⟨hcs, _⟩ | ⟨a, len, cap, m, n, D, Pl, hcs, _, hlc, hm, hmm, hx, hcell⟩
  · simp [Value.cells] at hcs
    obtain ⟨rfl, rfl, rfl⟩ := hcs
    exact ⟨[], Rc.nil _ _ _ _, (fun l hl => by cases hl), by simp⟩
  · simp [Value.cells] at hcs
    obtain ⟨rfl, rfl, rfl⟩ := hcs
    have hlm : len0 ≤ m := by rw [hmm]; split <;> omega
    injection hx with hd _
    subst hd
    have every : ∀ i, i < len0 → ∃ b, (W.cells? base (a.add (i * P.cellsOf e)) (P.cellsOf e) = some (f b)) ∧ R b := by
      intro i hi
      obtain ⟨cs', h1, h2⟩ := hcell i (by omega)
      obtain ⟨b, hb, hR⟩ := each cs' _ _ h2 (hl.elem ht (List.mem_map.2 ⟨i, List.mem_range.2 hi, rfl⟩))
      exact ⟨b, by rw [h1, hb], hR⟩
    obtain ⟨q, hq⟩ := choose_lt every
    refine ⟨(List.range len0).map q, ⟨some a, cap0, by simp, by simp; omega, hm, by simp, by rw [flat_len hf], fun j u hu => ⟨a, rfl, trivial, ?_⟩⟩, fun l hl => ?_, ?_⟩
    · have hk : j < len0 * k := by
        have := (List.getElem?_eq_some_iff.1 hu).1
        rw [flat_len hf] at this
        simpa using this
      have hk0 : 0 < k := by
        rcases Nat.eq_zero_or_pos k with h0 | h0
        · rw [h0] at hk; omega
        · exact h0
      obtain ⟨i, b, hb, rfl⟩ : ∃ i b, b < k ∧ j = i * k + b := ⟨j / k, j % k, Nat.mod_lt _ hk0, by rw [Nat.mul_comm]; exact (Nat.div_add_mod j k).symm⟩
      have hi : i < len0 := by
        rcases Nat.lt_or_ge i len0 with h | h
        · exact h
        · have := Nat.mul_le_mul_right k h; omega
      rw [flat_at hf _ i b (by simpa using hi) hb] at hu
      simp only [List.getElem_map, List.getElem_range] at hu
      obtain ⟨h1, _⟩ := hq i hi
      obtain ⟨_, _, h3⟩ := World.cells?_some h1
      have := h3 b (by rw [ce]; exact hb)
      rw [hu, add_of_add, ce] at this
      exact this
    · obtain ⟨i, hi, rfl⟩ := List.mem_map.1 hl
      exact (hq i (List.mem_range.1 hi)).2
    · have := hl.len ht
      rw [hby] at this
      simpa using this
/-- A record of texts, two of them. -/
theorem ava_each {f0 f1 : Field} (he : P.underlying e = some (.struct #[f0, f1])) (ce : P.cellsOf e = 2) (o0 : f0.offset = 0) (o1 : f1.offset = 1) (c0 : P.cellsOf f0.type = 1) (c1 : P.cellsOf f1.type = 1)
    (s0 : P.underlying f0.type = some .string) (s1 : P.underlying f1.type = some .string) (cs : List Value) (x : DataW H × List MemPlace) (n : Nat) (h : DataW.trod enc P W base spare held n e cs = some x) (hl : Light P e x.1) :
    ∃ a : List UInt8 × List UInt8, cs = avc a ∧ (a.1.length ≤ 140737488351232 ∧ a.2.length ≤ 140737488351232) := by
  obtain ⟨xs, m, _, rfl, hlen, hxl, hfi⟩ := DataW.trod_struct he h
  match xs, hxl, cs, hlen.trans ce with
  | [y0, y1], _, [v0, v1], _ =>
    have g0 := hfi 0 f0 rfl
    have g1 := hfi 1 f1 rfl
    simp [o0, o1, c0, c1] at g0 g1
    obtain ⟨x0, q0, z0, _⟩ := DataW.trod_string s0 g0
    obtain ⟨x1, q1, z1, _⟩ := DataW.trod_string s1 g1
    injection q0 with q0
    injection q1 with q1
    have l0 := Light.part (j := 0) he hl rfl rfl
    have l1 := Light.part (j := 1) he hl rfl rfl
    rw [z0] at l0
    rw [z1] at l1
    exact ⟨(x0.data.toList, x1.data.toList), by rw [q0, q1, sv_of x0, sv_of x1], l0.str, l1.str⟩
end
end Go.Proofs.Ytoockogceobfgaa
