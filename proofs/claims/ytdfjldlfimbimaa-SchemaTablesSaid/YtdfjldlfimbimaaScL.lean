/- schema: the document's classes. -/
import Derived.Test.YtdfjldlfimbimaaScK
namespace Go.Proofs.Ytdfjldlfimbimaa
open Go.RowKit
set_option maxRecDepth 100000

set_option maxHeartbeats 64000000 in
theorem rclasses_any {w : World} {vd va : Value} {E : Ent} (hd : As w AllE vd E.dn) (ha : Ats w va E.ats) (hw : wE E ≤ 1000000) (hkn : knownE E.ats) (hco : countsE E.ats) :
    Calls Try.prog 28 #[.agg #[vd, va]] w fun e w' => e = .returned (.bool (decide (askedE E.ats (namedE E.ats)))) ∧ Ext w w' := by
  obtain ⟨VV, hVV⟩ : ∃ V, V = valsS E.ats ocB := ⟨_, rfl⟩
  have hvv : ∀ {wx : World}, Ext w wx → Calls Try.prog 14 #[.agg #[vd, va], .string ⟨#[111, 98, 106, 101, 99, 116, 99, 108, 97, 115, 115]⟩] wx fun e' w' => ∃ v', e' = .returned v' ∧ Own w' 9 v' (VV.map sv) ∧ Fresh wx.heap.size v' ∧ Ext wx w' := fun {wx} x => by
    have h := vals14F_any (e := E) (typ := ocB) (hd.ext x) (ha.ext x) hw (by decide)
    rw [oc_fold] at h
    rw [hVV]
    exact h
  have hvu0 : ∀ {u : List UInt8} {wx : World}, u.length ≤ 1000 → Ext w wx → Calls Try.prog 14 #[.agg #[vd, va], sv u] wx fun e' w' => ∃ v', e' = .returned v' ∧ Own w' 9 v' ((valsS E.ats (foldB u)).map sv) ∧ Ext wx w' := fun {u wx} hu x =>
    vals14_any (e := E) (typ := u) (hd.ext x) (ha.ext x) hw (by omega)
  have hVm : ∀ v, v ∈ VV ↔ ∃ a ∈ E.ats, fo a = ocB ∧ v ∈ a.vals := fun v => by rw [hVV]; exact mem_valsS
  have hVl : VV.length ≤ 1000000 := by have := selE_len ocB E.ats; rw [hVV]; show (E.ats.flatMap (selE ocB)).length ≤ _; unfold wE at hw; omega
  obtain ⟨NN, hNN⟩ : ∃ N, N = VV.map clD := ⟨_, rfl⟩
  obtain ⟨H, hH⟩ : ∃ H, H = E.ats.map fo := ⟨_, rfl⟩
  have hres : Hid (askedE E.ats (namedE E.ats) ↔ (∀ c ∈ NN, ∀ t ∈ c.1, t ∈ H) ∧ ∀ x ∈ H, x ∈ letsL NN) := Lib.hid (by rw [hH, hNN, hVV]; exact asked_iff)
  have hsm : ∀ v, (clD v).1.length + (clD v).2.length ≤ 100 ∧ ∀ t ∈ letC (clD v), t.length ≤ 1000 := clD_small
  have hnone : Hid (∀ t, (valsS E.ats t).length = 0 ↔ t ∉ H) := Lib.hid fun t => by rw [hH]; exact vals_none hco t
  replace hVV := Lib.hid hVV
  replace hVm := Lib.hid hVm
  replace hH := Lib.hid hH
  replace hkn := Lib.hid hkn
  replace hco := Lib.hid hco
  have hwa : wA E.ats ≤ 1000000 := by unfold wE at hw; omega
  have hgl := wA_ge E.ats
  have hfm : ∀ x ∈ E.ats, x.typ.length ≤ 1000000 ∧ x.vals.length ≤ 1000000 ∧ ∀ u ∈ x.vals, u.length ≤ 1000000 := fun x hx => by
    have h1 := wA_mem hx
    have h2 := wV_ge x.vals
    exact ⟨by omega, by omega, fun u hu => by have := wV_mem hu; omega⟩
  have hax := fun {wx : World} (x : Ext w wx) => (ha.ext x).open_
  obtain ⟨A, c, hva, -⟩ := ha.open_
  obtain ⟨A0, c0, hvd⟩ := Rc.shape hd
  obtain ⟨m, hm⟩ : ∃ n, n = E.ats.length := ⟨_, rfl⟩
  obtain ⟨m0, hm0⟩ : ∃ n, n = E.dn.length := ⟨_, rfl⟩
  rw [← hm] at hva hgl
  rw [← hm0] at hvd
  subst hva
  subst hvd
  have hM : m ≤ 1000000 := by omega
  obtain ⟨w1, hw1⟩ : ∃ x, x = w.alloc (.cells #[.slice A0 m0 c0, .slice A m c] 31) := ⟨_, rfl⟩
  obtain ⟨p, hp⟩ : ∃ p, p = w.heap.size := ⟨_, rfl⟩
  have x1 : Ext w w1 := by rw [hw1]; exact (Mod.refl _ w).alloc _
  have BP : Blk w1 p 31 #[.slice A0 m0 c0, .slice A m c] := by rw [hw1, hp]; exact Blk.new w _ _
  have hpc : ∀ {wx : World}, Ext w1 wx → wx.cell? ⟨p, 1, none⟩ = some (.slice A m c) := fun x => (BP.mod x (fun h => h)).cell 1
  have hpd : ∀ {wx : World}, Ext w1 wx → wx.cell? ⟨p, 0, none⟩ = some (.slice A0 m0 c0) := fun x => (BP.mod x (fun h => h)).cell 0
  replace hm := Lib.hid hm
  replace hm0 := Lib.hid hm0
  replace hw1 := Lib.hid hw1
  replace hp := Lib.hid hp
  clear BP hw
  have hcell : ∀ {wx : World}, Ext w1 wx → wx.cell? ⟨p, 0, none⟩ = some (.slice A0 m0 c0) ∧ wx.cell? ⟨p, 1, none⟩ = some (.slice A m c) := fun x => ⟨hpd x, hpc x⟩
  have oc0 : Own (w1.alloc (.cells #[sv ocB] 9)) 9 (.slice (some ⟨w1.heap.size, 0, none⟩) 1 1) ([ocB].map sv) := Own.lit w1 9 [sv ocB] (by simp [maxLen])
  have xc0 : Ext w1 (w1.alloc (.cells #[sv ocB] 9)) := (Mod.refl _ w1).alloc _
  have fc0 : Fresh w1.heap.size (.slice (some ⟨w1.heap.size, 0, none⟩) 1 1) := fun k hk => by (have h9 : w1.heap.size = k := Option.some.inj hk); omega
  obtain ⟨b0, b1⟩ := hcell xc0
  have hvc := hvv (ext_trans x1 xc0)
  go_enter Try.func28, Try.ntmps28
  go_upto_region 1 with fail
  rw [← hw1.out, ← hp.out]
  clear hw1 hp
  obtain ⟨wc, hwc⟩ : ∃ x, x = w1.alloc (.cells #[sv ocB] 9) := ⟨_, rfl⟩
  obtain ⟨gc, hgc⟩ : ∃ g, g = w1.heap.size := ⟨_, rfl⟩
  rw [← hwc] at oc0 xc0 b0 b1 hvc
  rw [← hgc] at oc0
  have fc1 : Fresh w1.heap.size (.slice (some ⟨gc, 0, none⟩) 1 1) := by rw [hgc]; exact fc0
  replace hwc := Lib.hid hwc
  replace hgc := Lib.hid hgc
  clear fc0
  go_upto_region 2 with fail
  rw [show (w1.alloc (.cells #[.string ⟨#[111, 98, 106, 101, 99, 116, 99, 108, 97, 115, 115]⟩] 9)) = wc from hwc.out.symm, ← hgc.out]
  clear hwc hgc
  go_wp2_with fail
  refine hvc.mono ?_
  rintro e w2 ⟨v2, rfl, o2, fr2, x2⟩
  clear hvc b0 b1
  have y2 := ext_trans xc0 x2
  have hs2 := o2.sl
  obtain ⟨Av, cv, hv2, -⟩ := Sl.open_ hs2
  obtain ⟨nv, hnv⟩ : ∃ n, n = VV.length := ⟨_, rfl⟩
  rw [← hnv] at hv2 hVl
  subst hv2
  replace hnv := Lib.hid hnv
  have oc2 := Own.mod oc0 x2 (fun _ _ h => h)
  have hb2 : ∀ q, own (.slice Av nv cv) q → q < w2.heap.size := fun q hq => o2.lt hq
  have hdj0 : ∀ q, own (.slice (some ⟨gc, 0, none⟩) 1 1) q → ¬ own (.slice Av nv cv) q := fun q hq hs => by
    have h1 := fr2 q hs
    have h2 : gc = q := Option.some.inj hq
    have h3 := oc0.lt (k := gc) rfl
    omega
  have hNl : NN.length = VV.length := by rw [hNN, List.length_map]
  have hNk : ∀ k (h : k < VV.length), NN[k]'(by rw [hNl]; exact h) = clD VV[k] := fun k h => by simp [hNN]
  have hNm : ∀ c ∈ NN, ∃ v ∈ VV, c = clD v := fun c hc => by rw [hNN] at hc; obtain ⟨v, h1, h2⟩ := List.mem_map.1 hc; exact ⟨v, h1, h2.symm⟩
  replace hNN := Lib.hid hNN
  clear o2 oc0 fr2
  go_wp2_with fail
  go_loopw [3, 5] (fun v i wr => ∃ (va0 : Value) (k : Nat), va0 = v ∧ k ≤ nv ∧ i = .int .i64 k ∧ Own wr 9 va0 ((letsL (NN.take k)).map sv) ∧ (letsL (NN.take k)).length ≤ 1 + 100 * k ∧ Fresh w1.heap.size va0 ∧ Hid (∀ c ∈ NN.take k, ∀ t ∈ c.1, t ∈ H) ∧ Ts wr (own (.slice Av nv cv)) (.slice Av nv cv) VV ∧ Hid (∀ q, own va0 q → ¬ own (.slice Av nv cv) q) ∧ w2.heap.size ≤ wr.heap.size ∧ Ext w1 wr) (fun _ i _ => nv - (intOf i).toNat)
  case atStart => exact ⟨_, 0, rfl, Nat.zero_le _, rfl, oc2, by simp, fc1, Lib.hid (fun c hc => by cases hc), hs2, Lib.hid hdj0, Nat.le_refl _, y2⟩
  case round =>
    clear oc2 fc1 hs2 hdj0 y2
    obtain ⟨va0, k, rfl, hk, rfl, hov, hll, hfr, hmu, hVV2, hdj, hsz, hx⟩ := hrel
    by_cases hlt : k < nv
    case neg =>
      have hbl : decide ((k : Int) < (nv : Int)) = false := dfalseI (by omega)
      have hbn : decide (k < nv) = false := dfalseI (by omega)
      have hE : NN.take k = NN := List.take_of_length_le (by have := hnv.out; omega)
      rw [hE] at hov hmu hll
      clear hE
      have hal := hov.sl
      obtain ⟨Aa, ca, hva2, -⟩ := Sl.open_ hal
      obtain ⟨na, hna⟩ : ∃ n, n = (letsL NN).length := ⟨_, rfl⟩
      rw [← hna] at hva2
      subst hva2
      replace hna := Lib.hid hna
      have p3 := hpc hx
      clear hov hVV2 hdj
      go_wp2_with fail
      go_loopw [10] (fun i wq => ∃ j : Nat, j ≤ m ∧ i = .int .i64 j ∧ Hid (∀ x ∈ (E.ats.take j).map fo, x ∈ letsL NN) ∧ Ext wr wq) (fun i _ => m - (intOf i).toNat)
      case atStart => exact ⟨0, Nat.zero_le _, rfl, Lib.hid (fun a ha => by cases ha), Mod.refl _ _⟩
      case round =>
        clear p3
        obtain ⟨j, hj, rfl, hjn, hxq⟩ := hrel
        have y4 := ext_trans hx hxq
        have p3 := hpc y4
        have halq := hal.ext hxq
        by_cases hjl : j < m
        case neg =>
          have hbj : decide ((j : Int) < (m : Int)) = false := dfalseI (by omega)
          have hbj' : decide (j < m) = false := dfalseI (by omega)
          have hE : E.ats.take j = E.ats := List.take_of_length_le (by have := hm.out; omega)
          rw [hE, ← hH.out] at hjn
          have hyes : Hid (decide (askedE E.ats (namedE E.ats)) = true) := Lib.hid (dtrueI (hres.out.2 ⟨hmu.out, hjn.out⟩))
          clear hE hjn
          go_wp2_with fail
          go_ret
          exact ⟨by rw [hyes.out]; rfl, ext_trans x1 y4⟩
        have hbj : decide ((j : Int) < (m : Int)) = true := dtrueI (by omega)
        have hbj' : decide (j < m) = true := dtrueI (by omega)
        have l1 : j < E.ats.length := by have := hm.out; omega
        obtain ⟨A', c', hv, hat⟩ := hax (Mod.refl _ w)
        obtain ⟨ad, y, hA, a0w, a1w, hy⟩ := hat j l1
        have a0 := ext_cell (ext_trans x1 y4) a0w
        clear a0w a1w
        injection hv with hv1 hvl hv3
        clear hvl
        subst hv1
        subst hv3
        subst hA
        have hfx := hfm _ (List.getElem_mem l1)
        have hxm : E.ats[j] ∈ E.ats := List.getElem_mem l1
        have htk : E.ats.take (j + 1) = E.ats.take j ++ [E.ats[j]] := List.take_succ_eq_append_getElem l1
        generalize E.ats[j] = x at *
        have hi0 : (0 : Int) ≤ (j : Int) := by omega
        have hi1 : (j : Int) < (m : Int) := by omega
        clear hat l1 hy
        have hf1 := fun wx : World => rfold_any (w := wx) x.typ (by have := hfx.1; omega)
        obtain ⟨G, hG⟩ : ∃ G, G = foldB x.typ := ⟨_, rfl⟩
        rw [← hG] at hf1
        replace hG := Lib.hid hG
        go_wp2_with fail
        refine (hf1 _).mono ?_
        rintro e' w4 ⟨rfl, x4⟩
        have hh := rhas_any (s := G) (halq.ext x4)
        obtain ⟨q, hq⟩ : ∃ q, q = decide (G ∈ letsL NN) := ⟨_, rfl⟩
        rw [← hq] at hh
        replace hq := Lib.hid hq
        clear hf1 halq
        go_wp2_with fail
        refine hh.mono ?_
        rintro e' w5 ⟨rfl, x5⟩
        have z5 := ext_trans hxq (ext_trans x4 x5)
        clear hh
        cases q
        case false =>
          have hno2 : Hid (decide (askedE E.ats (namedE E.ats)) = false) := Lib.hid (dfalseI fun h => of_decide_eq_false hq.out.symm ((hres.out.1 h).2 G (by rw [hH.out, hG.out]; exact List.mem_map_of_mem (f := fo) hxm)))
          clear hjn htk
          go_wp2_with fail
          go_ret
          exact ⟨by rw [hno2.out]; rfl, ext_trans x1 (ext_trans hx z5)⟩
        have hj2 : Hid (∀ y ∈ (E.ats.take (j + 1)).map fo, y ∈ letsL NN) := Lib.hid (by
          rw [htk, List.map_append]
          intro y hy
          rcases List.mem_append.1 hy with r | r
          · exact hjn.out y r
          · rw [List.map_cons, List.map_nil, List.mem_singleton] at r
            rw [r, show fo x = G from hG.out.symm]
            exact of_decide_eq_true hq.out.symm)
        clear hjn htk
        go_wp2_with fail
        exact ⟨⟨j + 1, by omega, by go_num, hj2, z5⟩, by simp [intOf] <;> omega⟩
    have hbl : decide ((k : Int) < (nv : Int)) = true := dtrueI (by omega)
    have hbn : decide (k < nv) = true := dtrueI (by omega)
    have l2 : k < VV.length := by have := hnv.out; omega
    obtain ⟨Az, cz, hvz, -, -, -, hcz⟩ := Sl.open_ hVV2
    injection hvz with e1 e2 e3
    subst e1
    subst e3
    clear e2
    obtain ⟨adv, hAv, -, cV⟩ := Cells.at_ hcz l2
    subst hAv
    have hln := lets_next NN (k := k) (by rw [hNl]; exact l2)
    have hmn : NN.take (k + 1) = NN.take k ++ [NN[k]'(by rw [hNl]; exact l2)] := List.take_succ_eq_append_getElem _
    rw [hNk k l2] at hln hmn
    have hcm : clD VV[k] ∈ NN := by rw [← hNk k l2]; exact List.getElem_mem _
    have hum : VV[k] ∈ VV := List.getElem_mem l2
    generalize VV[k] = u at *
    obtain ⟨a9, ha9, hf9, hv9⟩ := (hVm.out u).1 hum
    have hul := (hfm a9 ha9).2.2 u hv9
    have hf3 := fun wx : World => rclassF_any (w := wx) (s := u) (by omega)
    obtain ⟨cl9, hcl9⟩ : ∃ c, clP (foldB u) = some c := Option.isSome_iff_exists.1 ((hkn.out a9 ha9).2 hf9 u hv9)
    have hcd : clD u = cl9 := by unfold clD; rw [hcl9]; rfl
    obtain ⟨hs1, hs3⟩ := hsm u
    have hmf := must_fold u
    rw [hcd] at hln hmn hcm hs1 hs3 hmf
    simp only [hcl9] at hf3
    have hk0 : (0 : Int) ≤ (k : Int) := by omega
    have hk1 : (k : Int) < (nv : Int) := by omega
    replace hln := Lib.hid hln
    replace hmn := Lib.hid hmn
    replace hs3 := Lib.hid hs3
    replace hmf := Lib.hid hmf
    clear hcz hcl9 hcd l2 hNm
    go_wp2_with fail
    refine (hf3 _).mono ?_
    rintro e' w6 ⟨⟨vx, vy, rfl, tx, ty⟩, x6⟩
    clear hf3 cV
    obtain ⟨A1, c1, hvx, -⟩ := Sl.open_ tx
    obtain ⟨A2, c2, hvy, -⟩ := Sl.open_ ty
    obtain ⟨n1, hn1⟩ : ∃ n, n = cl9.1.length := ⟨_, rfl⟩
    obtain ⟨n2, hn2⟩ : ∃ n, n = cl9.2.length := ⟨_, rfl⟩
    rw [← hn1] at hvx hs1
    rw [← hn2] at hvy hs1
    subst hvx
    subst hvy
    replace hn1 := Lib.hid hn1
    replace hn2 := Lib.hid hn2
    have y6 := ext_trans hx x6
    have hszk : ∀ q, own va0 q → q < wr.heap.size := fun q hq => hov.lt hq
    have hov6 := Own.mod hov x6 (fun _ _ h => h)
    have hV6 := hVV2.ext x6
    have hsz6 : w2.heap.size ≤ w6.heap.size := Nat.le_trans hsz x6.size
    obtain ⟨lo, hlo⟩ : ∃ l, l = wr.heap.size := ⟨_, rfl⟩
    rw [← hlo] at tx ty hszk
    clear hov hVV2 x6 hlo
    go_wp2_with fail
    go_loopw [9] (fun i wq => ∃ j : Nat, j ≤ n1 ∧ i = .int .i64 j ∧ Hid (∀ t ∈ cl9.1.take j, t ∈ H) ∧ Ext w6 wq) (fun i _ => n1 - (intOf i).toNat)
    case atStart => exact ⟨0, Nat.zero_le _, rfl, Lib.hid (fun a ha => by cases ha), Mod.refl _ _⟩
    case round =>
      obtain ⟨j, hj, rfl, hjn, hxq⟩ := hrel
      have y7 := ext_trans y6 hxq
      by_cases hjl : j < n1
      case pos =>
        have hbj : decide ((j : Int) < (n1 : Int)) = true := dtrueI (by omega)
        have hbj' : decide (j < n1) = true := dtrueI (by omega)
        have l2 : j < cl9.1.length := by have := hn1.out; omega
        obtain ⟨Az, cz, hvz, -, -, -, hcz⟩ := Sl.open_ (tx.ext hxq)
        injection hvz with e1 e2 e3
        subst e1
        subst e3
        clear e2
        obtain ⟨ad2, hA2, -, cV⟩ := Cells.at_ hcz l2
        subst hA2
        have htk : cl9.1.take (j + 1) = cl9.1.take j ++ [cl9.1[j]] := List.take_succ_eq_append_getElem l2
        have hum2 : cl9.1[j] ∈ cl9.1 := List.getElem_mem l2
        generalize cl9.1[j] = u2 at *
        have hul2 := hs3.out u2 (List.mem_append_left _ hum2)
        have hfu : foldB u2 = u2 := hmf.out u2 hum2
        have hbk10 : ∀ {wx : World}, Ext wr wx → wx.cell? ⟨p, 0, none⟩ = some (.slice A0 m0 c0) ∧ wx.cell? ⟨p, 1, none⟩ = some (.slice A m c) ∧ wx.cell? (ad2.add j) = some (sv u2) := fun q => ⟨hpd (ext_trans y7 q), hpc (ext_trans y7 q), ext_cell q cV⟩
        have r10 : Ext wr wr.drew := (Mod.refl _ wr).drew
        have hvu := fun {wx : World} (q : Ext wr wx) => hvu0 (u := u2) hul2 (ext_trans x1 (ext_trans y7 q))
        have hj0 : (0 : Int) ≤ (j : Int) := by omega
        have hj1 : (j : Int) < (n1 : Int) := by omega
        have hnu := hnone.out u2
        replace hnu := Lib.hid hnu
        replace htk := Lib.hid htk
        clear hcz l2
        go_wp2_with fail
        refine wp_region_held_drew (S := fun wx => wx.cell? ⟨p, 0, none⟩ = some (.slice A0 m0 c0) ∧ wx.cell? ⟨p, 1, none⟩ = some (.slice A m c) ∧ wx.cell? (ad2.add j) = some (sv u2)) (by kernel_rfl) (hbk10 r10) (fun hH => ?_)
        (refine wpAnyH_take (i := 0) (oi := ⟨_, _, _, _, _, _⟩) (v := ?tv401) rfl (by kernel_rfl) (by kernel_rfl) (by kernel_rfl) (fun _ _ _ h => h) (Or.inl ⟨by kernel_rfl, ?hy401⟩) hH ?rs401; (case hy401 => (intro wx hSw; (try dsimp only at hSw); go_simp; try with_reducible rfl)); try simp only [Act.put, List.setIfInBounds_toArray, List.set_cons_zero, List.set_cons_succ]; try simp only [List.getElem_toArray, List.getElem_cons_succ, List.getElem_cons_zero])
        (refine wpAnyH_take (i := 1) (oi := ⟨_, _, _, _, _, _⟩) (v := ?tv402) rfl (by kernel_rfl) (by kernel_rfl) (by kernel_rfl) (fun _ _ _ h => h) (Or.inl ⟨by kernel_rfl, ?hy402⟩) hH ?rs402; (case hy402 => (intro wx hSw; (try dsimp only at hSw); go_simp; try with_reducible rfl)); try simp only [Act.put, List.setIfInBounds_toArray, List.set_cons_zero, List.set_cons_succ]; try simp only [List.getElem_toArray, List.getElem_cons_succ, List.getElem_cons_zero])
        (refine wpAnyH_take (i := 2) (oi := ⟨_, _, _, _, _, _⟩) (v := ?tv403) rfl (by kernel_rfl) (by kernel_rfl) (by kernel_rfl) (fun _ _ _ h => h) (Or.inl ⟨by kernel_rfl, ?hy403⟩) hH ?rs403; (case hy403 => (intro wx hSw; (try dsimp only at hSw); go_simp; try with_reducible rfl)); try simp only [Act.put, List.setIfInBounds_toArray, List.set_cons_zero, List.set_cons_succ]; try simp only [List.getElem_toArray, List.getElem_cons_succ, List.getElem_cons_zero])
        (refine wpAnyH_take (i := 3) (oi := ⟨_, _, _, _, _, _⟩) (v := ?tv404) rfl (by kernel_rfl) (by kernel_rfl) (by kernel_rfl) (fun _ _ _ h => h) (Or.inl ⟨by kernel_rfl, ?hy404⟩) hH ?rs404; (case hy404 => (intro wx hSw; (try dsimp only at hSw); go_simp; try with_reducible rfl)); try simp only [Act.put, List.setIfInBounds_toArray, List.set_cons_zero, List.set_cons_succ]; try simp only [List.getElem_toArray, List.getElem_cons_succ, List.getElem_cons_zero])
        (refine wpAnyH_take (i := 4) (oi := ⟨_, _, _, _, _, _⟩) (v := ?tv405) rfl (by kernel_rfl) (by kernel_rfl) (by kernel_rfl) (fun _ _ _ h => h) (Or.inl ⟨by kernel_rfl, ?hy405⟩) hH ?rs405; (case hy405 => (intro wx hSw; (try dsimp only at hSw); go_simp; try with_reducible rfl)); try simp only [Act.put, List.setIfInBounds_toArray, List.set_cons_zero, List.set_cons_succ]; try simp only [List.getElem_toArray, List.getElem_cons_succ, List.getElem_cons_zero])
        (refine wpAnyH_ready (rs := [5]) (by kernel_rfl) (by simp) ?_; refine AllReadyH.cons rfl (fun K hK => ?_) AllReadyH.nil; go_simp)
        refine (hvu r10).mono ?_
        rintro e wb ⟨v5, rfl, o5, xb⟩
        obtain ⟨A5, n5, c5, rfl, hn5⟩ : ∃ A n c, v5 = .slice A n c ∧ n = (valsS E.ats (foldB u2)).length := (Sl.open_ o5.sl).elim fun A h => h.elim fun c h => ⟨A, _, c, h.1, rfl⟩
        replace hn5 := Lib.hid hn5
        have q8 := ext_trans r10 xb
        clear o5
        (go_wp2_with fail; refine hK.out _ _ (hbk10 q8) (fun hH => ?_); clear hK K; try simp only [Act.put, List.setIfInBounds_toArray, List.set_cons_zero, List.set_cons_succ]; try simp only [List.getElem_toArray, List.getElem_cons_succ, List.getElem_cons_zero])
        (refine wpAnyH_take (i := 6) (oi := ⟨_, _, _, _, _, _⟩) (v := ?tv406) rfl (by kernel_rfl) (by kernel_rfl) (by kernel_rfl) (fun _ _ _ h => h) (Or.inl ⟨by kernel_rfl, ?hy406⟩) hH ?rs406; (case hy406 => (intro wx hSw; (try dsimp only at hSw); go_simp; try with_reducible rfl)); try simp only [Act.put, List.setIfInBounds_toArray, List.set_cons_zero, List.set_cons_succ]; try simp only [List.getElem_toArray, List.getElem_cons_succ, List.getElem_cons_zero])
        (refine wpAnyH_take (i := 7) (oi := ⟨_, _, _, _, _, _⟩) (v := ?tv407) rfl (by kernel_rfl) (by kernel_rfl) (by kernel_rfl) (fun _ _ _ h => h) (Or.inl ⟨by kernel_rfl, ?hy407⟩) hH ?rs407; (case hy407 => (intro wx hSw; (try dsimp only at hSw); go_simp; try with_reducible rfl)); try simp only [Act.put, List.setIfInBounds_toArray, List.set_cons_zero, List.set_cons_succ]; try simp only [List.getElem_toArray, List.getElem_cons_succ, List.getElem_cons_zero])
        refine wpAnyH_done (by kernel_rfl) ?_ _
        have z8 := ext_trans y7 q8
        by_cases hz : n5 = 0
        case pos =>
          have q1 : ((n5 : Int) == 0) = true := by rw [beq_iff_eq]; omega
          have q2 : (n5 == 0) = true := by rw [beq_iff_eq]; exact hz
          have hno2 : Hid (decide (askedE E.ats (namedE E.ats)) = false) := Lib.hid (dfalseI fun h => by
            refine hnu.out.1 ?_ ((hres.out.1 h).1 cl9 hcm u2 hum2)
            have := hn5.out
            rw [hfu] at this
            omega)
          replace hz := Lib.hid hz
          replace hfu := Lib.hid hfu
          clear hjn
          go_wp2_with fail
          go_ret
          exact ⟨by rw [hno2.out]; rfl, ext_trans x1 z8⟩
        have q1 : ((n5 : Int) == 0) = false := by rw [beq_eq_false_iff_ne]; omega
        have q2 : (n5 == 0) = false := by rw [beq_eq_false_iff_ne]; exact hz
        have hj2 : Hid (∀ t ∈ cl9.1.take (j + 1), t ∈ H) := Lib.hid (by
          rw [htk.out]
          intro t ht
          rcases List.mem_append.1 ht with r | r
          · exact hjn.out t r
          · rw [List.mem_singleton.1 r]
            refine Decidable.byContradiction fun h => hz ?_
            have h2 := hnu.out.2 h
            have := hn5.out
            rw [hfu] at this
            omega)
        replace hz := Lib.hid hz
        replace hfu := Lib.hid hfu
        clear hjn
        go_wp2_with fail
        exact ⟨⟨j + 1, by omega, by go_num, hj2, ext_trans hxq q8⟩, by simp [intOf] <;> omega⟩
      have hbj : decide ((j : Int) < (n1 : Int)) = false := dfalseI (by omega)
      have hbj' : decide (j < n1) = false := dfalseI (by omega)
      have hE : cl9.1.take j = cl9.1 := List.take_of_length_le (by have := hn1.out; omega)
      rw [hE] at hjn
      clear hE
      have hmu2 : Hid (∀ c ∈ NN.take (k + 1), ∀ t ∈ c.1, t ∈ H) := Lib.hid (by
        rw [hmn.out]
        intro c hc
        rcases List.mem_append.1 hc with r | r
        · exact hmu.out c r
        · rw [List.mem_singleton.1 r]; exact hjn.out)
      have o7 := Own.mod hov6 hxq (fun _ _ h => h)
      have V7 := hV6.ext hxq
      have tx7 := tx.ext hxq
      have ty7 := ty.ext hxq
      have hl7 : (letsL (NN.take (k + 1))).length ≤ 1 + 100 * (k + 1) := by
        rw [hln.out, List.length_append, List.length_append, ← hn1.out, ← hn2.out]
        omega
      have hnA := Lib.hid (show (((letsL (NN.take k)).map sv).length + (cl9.1.map sv).length) * 16 ≤ 140737488355328 by rw [List.length_map, List.length_map, ← hn1.out]; omega)
      have hnB := Lib.hid (show (((letsL (NN.take k)).map sv ++ cl9.1.map sv).length + (cl9.2.map sv).length) * 16 ≤ 140737488355328 by rw [List.length_append, List.length_map, List.length_map, List.length_map, ← hn1.out, ← hn2.out]; omega)
      have hmp : Hid (((letsL (NN.take k)).map sv ++ cl9.1.map sv) ++ cl9.2.map sv = (letsL (NN.take (k + 1))).map sv) := Lib.hid (by rw [hln.out, List.map_append, List.map_append])
      have hwsz : w2.heap.size ≤ wr.heap.size := Nat.le_trans hsz6 hxq.size
      clear hov6 hV6 hjn hmu
      go_wp2_with (first
        | ((with_reducible show wpList _ _ _ (⟨some 45, _, _, _, _, _⟩ :: _) _ _); refine wp_app tySE o7 tx7 (sv_ones _) rfl (.tmp 43) (.tmp 44) rfl rfl rfl hnA.out ?_; intro va wa ka1 ka2 ka3; have ty8 := Sl.mod ty7 ka2 (fun q _ (hq : lo ≤ q) h => by have := hszk q h; omega))
        | ((with_reducible show wpList _ _ _ (⟨some 47, _, _, _, _, _⟩ :: _) _ _); refine wp_app tySE ka1 ty8 (sv_ones _) rfl (.tmp 45) (.tmp 46) rfl rfl rfl hnB.out ?_; intro vb wb kb1 kb2 kb3))
      have hdj1 : ∀ q, own va q → ¬ own (.slice (some adv) nv cv) q := fun q hq hs => hdj.out q (ka3.sub (by have := hb2 q hs; omega) hq) hs
      have hdj2 : ∀ q, own vb q → ¬ own (.slice (some adv) nv cv) q := fun q hq hs => hdj1 q (kb3.sub (by have := hb2 q hs; have := ka2.size; omega) hq) hs
      have fa := ka3.fresh hfr y7.size
      have xa := ext_app0 y7 hfr ka2
      rw [hmp.out] at kb1
      exact ⟨⟨_, k + 1, rfl, by omega, by go_num, kb1, hl7, kb3.fresh fa xa.size, hmu2, (V7.mod ka2 (fun q _ hs ho => hdj.out q ho hs)).mod kb2 (fun q _ hs ho => hdj1 q ho hs), Lib.hid hdj2, by have := ka2.size; have := kb2.size; omega, ext_app0 xa fa kb2⟩, by simp [intOf] <;> omega⟩
end Go.Proofs.Ytdfjldlfimbimaa
