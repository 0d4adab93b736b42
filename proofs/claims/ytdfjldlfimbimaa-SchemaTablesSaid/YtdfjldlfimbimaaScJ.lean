/- schema: the document's counts. -/
import Derived.Test.YtdfjldlfimbimaaScI
namespace Go.Proofs.Ytdfjldlfimbimaa
open Go.RowKit
set_option maxRecDepth 100000

set_option maxHeartbeats 32000000 in
theorem rcounts_any {w : World} {vd va : Value} {E : Ent} (hd : As w AllE vd E.dn) (ha : Ats w va E.ats) (hw : wE E ≤ 1000000) :
    Calls Try.prog 27 #[.agg #[vd, va]] w fun e w' => e = .returned (.bool (decide (countsE E.ats))) ∧ Ext w w' := by
  have hwa : wA E.ats ≤ 1000000 := by unfold wE at hw; omega
  have hgl := wA_ge E.ats
  have hfm : ∀ x ∈ E.ats, x.typ.length ≤ 1000000 ∧ x.vals.length ≤ 1000000 ∧ ∀ u ∈ x.vals, u.length ≤ 1000000 := fun x hx => by
    have h1 := wA_mem hx
    have h2 := wV_ge x.vals
    exact ⟨by omega, by omega, fun u hu => by have := wV_mem hu; omega⟩
  have hax := fun {wx : World} (x : Ext w wx) => (ha.ext x).open_
  obtain ⟨A, c, hva, -⟩ := ha.open_
  obtain ⟨A0, c0, hvd⟩ := Rc.shape hd
  obtain ⟨m, hm⟩ : ∃ n, n = E.ats.length := ⟨_, rfl⟩
  obtain ⟨m0, hm0⟩ : ∃ n, n = E.dn.length := ⟨_, rfl⟩
  rw [← hm] at hva hgl
  rw [← hm0] at hvd
  subst hva
  subst hvd
  have hM : m ≤ 1000000 := by omega
  obtain ⟨w1, hw1⟩ : ∃ x, x = w.alloc (.cells #[.slice A0 m0 c0, .slice A m c] 31) := ⟨_, rfl⟩
  obtain ⟨p, hp⟩ : ∃ p, p = w.heap.size := ⟨_, rfl⟩
  have x1 : Ext w w1 := by rw [hw1]; exact (Mod.refl _ w).alloc _
  have BP : Blk w1 p 31 #[.slice A0 m0 c0, .slice A m c] := by rw [hw1, hp]; exact Blk.new w _ _
  have hpc : ∀ {wx : World}, Ext w1 wx → wx.cell? ⟨p, 1, none⟩ = some (.slice A m c) := fun x => (BP.mod x (fun h => h)).cell 1
  have hpd : ∀ {wx : World}, Ext w1 wx → wx.cell? ⟨p, 0, none⟩ = some (.slice A0 m0 c0) := fun x => (BP.mod x (fun h => h)).cell 0
  replace hm := Lib.hid hm
  replace hm0 := Lib.hid hm0
  replace hw1 := Lib.hid hw1
  replace hp := Lib.hid hp
  clear BP hw
  go_enter Try.func27, Try.ntmps27
  go_upto_region 1 with fail
  rw [← hw1.out, ← hp.out]
  clear hw1 hp
  go_wp2_with fail
  go_loopw [3] (fun i wr => ∃ k : Nat, k ≤ m ∧ i = .int .i64 k ∧ Hid (((E.ats.take k).map fo).Nodup ∧ ∀ a ∈ E.ats.take k, goodA a) ∧ Ext w1 wr) (fun i _ => m - (intOf i).toNat)
  case atStart => exact ⟨0, Nat.zero_le _, rfl, Lib.hid ⟨List.nodup_nil, fun a ha => by cases ha⟩, Mod.refl _ _⟩
  case round =>
    obtain ⟨k, hk, rfl, hgd, hx⟩ := hrel
    have p3 := hpc hx
    by_cases hlt : k < m
    case neg =>
      have hbl : decide ((k : Int) < (m : Int)) = false := dfalseI (by omega)
      have hbn : decide (k < m) = false := dfalseI (by omega)
      rw [List.take_of_length_le (by have := hm.out; omega)] at hgd
      have hres : Hid (decide ((m : Int) ≤ 16) = decide (countsE E.ats)) := Lib.hid (by
        have hmo := hm.out
        by_cases q : m ≤ 16
        · rw [decide_eq_true (show (m : Int) ≤ 16 by omega), decide_eq_true (show countsE E.ats from ⟨hgd.out.1, hgd.out.2, by omega⟩)]
        · rw [decide_eq_false (show ¬ (m : Int) ≤ 16 by omega), decide_eq_false (show ¬ countsE E.ats from fun h => by have := h.2.2; omega)])
      clear hgd
      go_wp2_with fail
      go_ret
      exact ⟨by rw [← hres.out]; (first | rfl | simp), ext_trans x1 hx⟩
    have hbl : decide ((k : Int) < (m : Int)) = true := dtrueI (by omega)
    have hbn : decide (k < m) = true := dtrueI (by omega)
    have hcn := counts_next E.ats (k := k) (by have := hm.out; omega)
    have hcs := fun h : countsE E.ats => counts_sub h (k + 1)
    have hat0 : ∀ j, j < k → ∃ z, z ∈ E.ats.take k ∧ E.ats[j]? = some z ∧ (E.ats.take (j + 1)) = E.ats.take j ++ [z] := fun j hj => by
      have l2 : j < E.ats.length := by have := hm.out; omega
      refine ⟨E.ats[j], ?_, by simp [l2], List.take_succ_eq_append_getElem l2⟩
      exact List.mem_take_iff_getElem.2 ⟨j, by omega, rfl⟩
    have l1 : k < E.ats.length := by have := hm.out; omega
    obtain ⟨A', c', hv, hat⟩ := hax (Mod.refl _ w)
    obtain ⟨ad, y, hA, a0w, a1w, hy⟩ := hat k l1
    have a0 := ext_cell (ext_trans x1 hx) a0w
    have a1 := ext_cell (ext_trans x1 hx) a1w
    clear a0w a1w
    injection hv with hv1 hvl hv3
    clear hvl
    subst hv1
    subst hv3
    subst hA
    have hkn := knownE_next E.ats l1
    have hnn := namedE_next E.ats l1
    have hfx := hfm _ (List.getElem_mem l1)
    have hxm : E.ats[k] ∈ E.ats := List.getElem_mem l1
    have hxk : E.ats[k]? = some E.ats[k] := List.getElem?_eq_getElem l1
    generalize E.ats[k] = x at *
    have hi0 : (0 : Int) ≤ (k : Int) := by omega
    have hi1 : (k : Int) < (m : Int) := by omega
    obtain ⟨Ay, cy, hvy, -, -, -, -⟩ := hy.open_
    obtain ⟨nx, hnx⟩ : ∃ n, n = x.vals.length := ⟨_, rfl⟩
    rw [← hnx] at hvy
    subst hvy
    replace hnx := Lib.hid hnx
    obtain ⟨wa, hwa⟩ : ∃ wa, wa = wr.alloc (.cells #[sv x.typ, .slice Ay nx cy] 43) := ⟨_, rfl⟩
    obtain ⟨ga, hga⟩ : ∃ ga, ga = wr.heap.size := ⟨_, rfl⟩
    have xa : Ext wr wa := by rw [hwa]; exact (Mod.refl _ wr).alloc _
    have BA : Blk wa ga 43 #[sv x.typ, .slice Ay nx cy] := by rw [hwa, hga]; exact Blk.new wr _ _
    have b0 : wa.cell? ⟨ga, 0, none⟩ = some (sv x.typ) := BA.cell 0
    have hbc : ∀ {wx : World}, Ext wa wx → wx.cell? ⟨ga, 0, none⟩ = some (sv x.typ) ∧ wx.cell? ⟨ga, 1, none⟩ = some (.slice Ay nx cy) := fun x => ⟨(BA.mod x (fun h => h)).cell 0, (BA.mod x (fun h => h)).cell 1⟩
    have hya : ∀ {wx : World}, Ext w wx → Ts wx AllE (.slice Ay nx cy) x.vals := fun q => hy.ext q
    have hgaw : wr.heap.size ≤ ga := by omega
    replace hwa := Lib.hid hwa
    replace hga := Lib.hid hga
    clear hat l1
    go_upto_region 5 with fail
    rw [← hwa.out, ← hga.out]
    clear hwa hga a0 a1
    obtain ⟨G, hG⟩ : ∃ G, G = foldB x.typ := ⟨_, rfl⟩
    have hfx1 := fun wx : World => rfold_any (w := wx) x.typ (by have := hfx.1; omega)
    have hty := fun wx : World => rtype_any (w := wx) (s := x.typ) (by have := hfx.1; omega)
    rw [← hG] at hfx1 hty
    replace hG := Lib.hid hG
    have hxa := ext_trans hx xa
    clear hkn hnn b0 p3
    go_wp2_with fail
    go_loopw [5] (fun i wr => ∃ j : Nat, j ≤ k ∧ i = .int .i64 j ∧ Hid (∀ a ∈ E.ats.take j, fo a ≠ G) ∧ Ext wa wr) (fun i _ => k - (intOf i).toNat)
    case atStart => exact ⟨0, Nat.zero_le _, rfl, Lib.hid (fun a ha => by cases ha), Mod.refl _ _⟩
    case round =>
      obtain ⟨j, hj, rfl, hjn, hxq⟩ := hrel
      have xw1 := ext_trans hxa hxq
      by_cases hjl : j < k
      case pos =>
        have hbj : decide ((j : Int) < (k : Int)) = true := dtrueI (by omega)
        have hbj' : decide (j < k) = true := dtrueI (by omega)
        obtain ⟨z, hzm, hz0, hzt⟩ := hat0 j hjl
        have l2 : j < E.ats.length := by have := hm.out; omega
        obtain ⟨A2, c2, hv2, hat2⟩ := hax (Mod.refl _ w)
        obtain ⟨ad2, y2, hA2, z0w, -, -⟩ := hat2 j l2
        injection hv2 with hv21 hv22 hv23
        rw [← hv21] at hA2
        clear hv21 hv22 hv23
        injection hA2 with hA2
        subst hA2
        have hzz : E.ats[j] = z := by rw [List.getElem?_eq_getElem l2] at hz0; exact Option.some.inj hz0
        rw [hzz] at z0w
        have hzl := (hfm z (List.mem_of_mem_take hzm)).1
        have hfz := fun wx : World => rfold_any (w := wx) z.typ (by omega)
        obtain ⟨Z, hZ⟩ : ∃ Z, Z = foldB z.typ := ⟨_, rfl⟩
        rw [← hZ] at hfz
        replace hZ := Lib.hid hZ
        have hbk8 : ∀ {wx : World}, Ext wr wx → wx.cell? ⟨p, 1, none⟩ = some (.slice (some ad) m c) ∧ wx.cell? (ad.add (j * 2)) = some (sv z.typ) ∧ wx.cell? ⟨ga, 0, none⟩ = some (sv x.typ) := fun q => ⟨hpc (ext_trans xw1 q), ext_cell (ext_trans x1 (ext_trans xw1 q)) z0w, (hbc (ext_trans hxq q)).1⟩
        have r8 : Ext wr wr.drew := (Mod.refl _ wr).drew
        have hj0 : (0 : Int) ≤ (j : Int) := by omega
        have hj1 : (j : Int) < (m : Int) := by omega
        replace hzt := Lib.hid hzt
        clear hat2 hz0 hzz l2
        by_cases hZG : Z = G
        case pos =>
          have q5 : (Z == G) = true := by rw [beq_iff_eq]; exact hZG
          have hres : Hid (decide (countsE E.ats) = false) := Lib.hid (dfalseI fun h => by
            have h2 := (hcn.1 (hcs h)).2.1
            refine h2 (List.mem_map.2 ⟨z, hzm, ?_⟩)
            show foldB z.typ = foldB x.typ
            rw [← hZ.out, hZG, hG.out])
          replace hZG := Lib.hid hZG
          clear hgd hcn hcs hjn
          go_wp2_with fail
          refine wp_region_held_drew (S := fun wx => wx.cell? ⟨p, 1, none⟩ = some (.slice (some ad) m c) ∧ wx.cell? (ad.add (j * 2)) = some (sv z.typ) ∧ wx.cell? ⟨ga, 0, none⟩ = some (sv x.typ)) (by kernel_rfl) (hbk8 r8) (fun hH => ?_)
          (refine wpAnyH_take (i := 0) (oi := ⟨_, _, _, _, _, _⟩) (v := ?tv301) rfl (by kernel_rfl) (by kernel_rfl) (by kernel_rfl) (fun _ _ _ h => h) (Or.inl ⟨by kernel_rfl, ?hy301⟩) hH ?rs301; (case hy301 => (intro wx hSw; (try dsimp only at hSw); go_simp; try with_reducible rfl)); try simp only [Act.put, List.setIfInBounds_toArray, List.set_cons_zero, List.set_cons_succ]; try simp only [List.getElem_toArray, List.getElem_cons_succ, List.getElem_cons_zero])
          (refine wpAnyH_take (i := 1) (oi := ⟨_, _, _, _, _, _⟩) (v := ?tv302) rfl (by kernel_rfl) (by kernel_rfl) (by kernel_rfl) (fun _ _ _ h => h) (Or.inl ⟨by kernel_rfl, ?hy302⟩) hH ?rs302; (case hy302 => (intro wx hSw; (try dsimp only at hSw); go_simp; try with_reducible rfl)); try simp only [Act.put, List.setIfInBounds_toArray, List.set_cons_zero, List.set_cons_succ]; try simp only [List.getElem_toArray, List.getElem_cons_succ, List.getElem_cons_zero])
          (refine wpAnyH_take (i := 2) (oi := ⟨_, _, _, _, _, _⟩) (v := ?tv303) rfl (by kernel_rfl) (by kernel_rfl) (by kernel_rfl) (fun _ _ _ h => h) (Or.inl ⟨by kernel_rfl, ?hy303⟩) hH ?rs303; (case hy303 => (intro wx hSw; (try dsimp only at hSw); go_simp; try with_reducible rfl)); try simp only [Act.put, List.setIfInBounds_toArray, List.set_cons_zero, List.set_cons_succ]; try simp only [List.getElem_toArray, List.getElem_cons_succ, List.getElem_cons_zero])
          (refine wpAnyH_take (i := 3) (oi := ⟨_, _, _, _, _, _⟩) (v := ?tv304) rfl (by kernel_rfl) (by kernel_rfl) (by kernel_rfl) (fun _ _ _ h => h) (Or.inl ⟨by kernel_rfl, ?hy304⟩) hH ?rs304; (case hy304 => (intro wx hSw; (try dsimp only at hSw); go_simp; try with_reducible rfl)); try simp only [Act.put, List.setIfInBounds_toArray, List.set_cons_zero, List.set_cons_succ]; try simp only [List.getElem_toArray, List.getElem_cons_succ, List.getElem_cons_zero])
          (refine wpAnyH_take (i := 4) (oi := ⟨_, _, _, _, _, _⟩) (v := ?tv305) rfl (by kernel_rfl) (by kernel_rfl) (by kernel_rfl) (fun _ _ _ h => h) (Or.inl ⟨by kernel_rfl, ?hy305⟩) hH ?rs305; (case hy305 => (intro wx hSw; (try dsimp only at hSw); go_simp; try with_reducible rfl)); try simp only [Act.put, List.setIfInBounds_toArray, List.set_cons_zero, List.set_cons_succ]; try simp only [List.getElem_toArray, List.getElem_cons_succ, List.getElem_cons_zero])
          (refine wpAnyH_take (i := 5) (oi := ⟨_, _, _, _, _, _⟩) (v := ?tv306) rfl (by kernel_rfl) (by kernel_rfl) (by kernel_rfl) (fun _ _ _ h => h) (Or.inl ⟨by kernel_rfl, ?hy306⟩) hH ?rs306; (case hy306 => (intro wx hSw; (try dsimp only at hSw); go_simp; try with_reducible rfl)); try simp only [Act.put, List.setIfInBounds_toArray, List.set_cons_zero, List.set_cons_succ]; try simp only [List.getElem_toArray, List.getElem_cons_succ, List.getElem_cons_zero])
          (refine wpAnyH_take (i := 7) (oi := ⟨_, _, _, _, _, _⟩) (v := ?tv307) rfl (by kernel_rfl) (by kernel_rfl) (by kernel_rfl) (fun _ _ _ h => h) (Or.inl ⟨by kernel_rfl, ?hy307⟩) hH ?rs307; (case hy307 => (intro wx hSw; (try dsimp only at hSw); go_simp; try with_reducible rfl)); try simp only [Act.put, List.setIfInBounds_toArray, List.set_cons_zero, List.set_cons_succ]; try simp only [List.getElem_toArray, List.getElem_cons_succ, List.getElem_cons_zero])
          (refine wpAnyH_take (i := 8) (oi := ⟨_, _, _, _, _, _⟩) (v := ?tv308) rfl (by kernel_rfl) (by kernel_rfl) (by kernel_rfl) (fun _ _ _ h => h) (Or.inl ⟨by kernel_rfl, ?hy308⟩) hH ?rs308; (case hy308 => (intro wx hSw; (try dsimp only at hSw); go_simp; try with_reducible rfl)); try simp only [Act.put, List.setIfInBounds_toArray, List.set_cons_zero, List.set_cons_succ]; try simp only [List.getElem_toArray, List.getElem_cons_succ, List.getElem_cons_zero])
          (refine wpAnyH_ready (rs := [6]) (by kernel_rfl) (by simp) ?_; refine AllReadyH.cons rfl (fun K hK => ?_) AllReadyH.nil; go_simp)
          refine (hfz _).mono ?_
          rintro e wb ⟨rfl, xb⟩
          have q8 := ext_trans r8 xb
          (go_wp2_with fail; refine hK.out _ _ (hbk8 q8) (fun hH => ?_); clear hK K; try simp only [Act.put, List.setIfInBounds_toArray, List.set_cons_zero, List.set_cons_succ]; try simp only [List.getElem_toArray, List.getElem_cons_succ, List.getElem_cons_zero])
          (refine wpAnyH_ready (rs := [9]) (by kernel_rfl) (by simp) ?_; refine AllReadyH.cons rfl (fun K hK => ?_) AllReadyH.nil; go_simp)
          refine (hfx1 _).mono ?_
          rintro e wd ⟨rfl, xd⟩
          have q9 := ext_trans q8 xd
          (go_wp2_with fail; refine hK.out _ _ (hbk8 q9) (fun hH => ?_); clear hK K; try simp only [Act.put, List.setIfInBounds_toArray, List.set_cons_zero, List.set_cons_succ]; try simp only [List.getElem_toArray, List.getElem_cons_succ, List.getElem_cons_zero])
          (refine wpAnyH_take (i := 10) (oi := ⟨_, _, _, _, _, _⟩) (v := ?tv309) rfl (by kernel_rfl) (by kernel_rfl) (by kernel_rfl) (fun _ _ _ h => h) (Or.inl ⟨by kernel_rfl, ?hy309⟩) hH ?rs309; (case hy309 => (intro wx hSw; (try dsimp only at hSw); go_simp; try with_reducible rfl)); try simp only [Act.put, List.setIfInBounds_toArray, List.set_cons_zero, List.set_cons_succ]; try simp only [List.getElem_toArray, List.getElem_cons_succ, List.getElem_cons_zero])
          refine wpAnyH_done (by kernel_rfl) ?_ _
          go_wp2_with fail
          go_ret
          exact ⟨by rw [hres.out]; rfl, ext_trans x1 (ext_trans xw1 q9)⟩
        have q5 : (Z == G) = false := by rw [beq_eq_false_iff_ne]; exact hZG
        have hjn2 : Hid (∀ a ∈ E.ats.take (j + 1), fo a ≠ G) := Lib.hid (by
          rw [hzt.out]
          intro a ha
          rcases List.mem_append.1 ha with r | r
          · exact hjn.out a r
          · rw [List.mem_singleton.1 r]
            show foldB z.typ ≠ G
            rw [← hZ.out]; exact hZG)
        clear hgd hcn hcs hjn
        go_wp2_with fail
        refine wp_region_held_drew (S := fun wx => wx.cell? ⟨p, 1, none⟩ = some (.slice (some ad) m c) ∧ wx.cell? (ad.add (j * 2)) = some (sv z.typ) ∧ wx.cell? ⟨ga, 0, none⟩ = some (sv x.typ)) (by kernel_rfl) (hbk8 r8) (fun hH => ?_)
        (refine wpAnyH_take (i := 0) (oi := ⟨_, _, _, _, _, _⟩) (v := ?tv310) rfl (by kernel_rfl) (by kernel_rfl) (by kernel_rfl) (fun _ _ _ h => h) (Or.inl ⟨by kernel_rfl, ?hy310⟩) hH ?rs310; (case hy310 => (intro wx hSw; (try dsimp only at hSw); go_simp; try with_reducible rfl)); try simp only [Act.put, List.setIfInBounds_toArray, List.set_cons_zero, List.set_cons_succ]; try simp only [List.getElem_toArray, List.getElem_cons_succ, List.getElem_cons_zero])
        (refine wpAnyH_take (i := 1) (oi := ⟨_, _, _, _, _, _⟩) (v := ?tv311) rfl (by kernel_rfl) (by kernel_rfl) (by kernel_rfl) (fun _ _ _ h => h) (Or.inl ⟨by kernel_rfl, ?hy311⟩) hH ?rs311; (case hy311 => (intro wx hSw; (try dsimp only at hSw); go_simp; try with_reducible rfl)); try simp only [Act.put, List.setIfInBounds_toArray, List.set_cons_zero, List.set_cons_succ]; try simp only [List.getElem_toArray, List.getElem_cons_succ, List.getElem_cons_zero])
        (refine wpAnyH_take (i := 2) (oi := ⟨_, _, _, _, _, _⟩) (v := ?tv312) rfl (by kernel_rfl) (by kernel_rfl) (by kernel_rfl) (fun _ _ _ h => h) (Or.inl ⟨by kernel_rfl, ?hy312⟩) hH ?rs312; (case hy312 => (intro wx hSw; (try dsimp only at hSw); go_simp; try with_reducible rfl)); try simp only [Act.put, List.setIfInBounds_toArray, List.set_cons_zero, List.set_cons_succ]; try simp only [List.getElem_toArray, List.getElem_cons_succ, List.getElem_cons_zero])
        (refine wpAnyH_take (i := 3) (oi := ⟨_, _, _, _, _, _⟩) (v := ?tv313) rfl (by kernel_rfl) (by kernel_rfl) (by kernel_rfl) (fun _ _ _ h => h) (Or.inl ⟨by kernel_rfl, ?hy313⟩) hH ?rs313; (case hy313 => (intro wx hSw; (try dsimp only at hSw); go_simp; try with_reducible rfl)); try simp only [Act.put, List.setIfInBounds_toArray, List.set_cons_zero, List.set_cons_succ]; try simp only [List.getElem_toArray, List.getElem_cons_succ, List.getElem_cons_zero])
        (refine wpAnyH_take (i := 4) (oi := ⟨_, _, _, _, _, _⟩) (v := ?tv314) rfl (by kernel_rfl) (by kernel_rfl) (by kernel_rfl) (fun _ _ _ h => h) (Or.inl ⟨by kernel_rfl, ?hy314⟩) hH ?rs314; (case hy314 => (intro wx hSw; (try dsimp only at hSw); go_simp; try with_reducible rfl)); try simp only [Act.put, List.setIfInBounds_toArray, List.set_cons_zero, List.set_cons_succ]; try simp only [List.getElem_toArray, List.getElem_cons_succ, List.getElem_cons_zero])
        (refine wpAnyH_take (i := 5) (oi := ⟨_, _, _, _, _, _⟩) (v := ?tv315) rfl (by kernel_rfl) (by kernel_rfl) (by kernel_rfl) (fun _ _ _ h => h) (Or.inl ⟨by kernel_rfl, ?hy315⟩) hH ?rs315; (case hy315 => (intro wx hSw; (try dsimp only at hSw); go_simp; try with_reducible rfl)); try simp only [Act.put, List.setIfInBounds_toArray, List.set_cons_zero, List.set_cons_succ]; try simp only [List.getElem_toArray, List.getElem_cons_succ, List.getElem_cons_zero])
        (refine wpAnyH_take (i := 7) (oi := ⟨_, _, _, _, _, _⟩) (v := ?tv316) rfl (by kernel_rfl) (by kernel_rfl) (by kernel_rfl) (fun _ _ _ h => h) (Or.inl ⟨by kernel_rfl, ?hy316⟩) hH ?rs316; (case hy316 => (intro wx hSw; (try dsimp only at hSw); go_simp; try with_reducible rfl)); try simp only [Act.put, List.setIfInBounds_toArray, List.set_cons_zero, List.set_cons_succ]; try simp only [List.getElem_toArray, List.getElem_cons_succ, List.getElem_cons_zero])
        (refine wpAnyH_take (i := 8) (oi := ⟨_, _, _, _, _, _⟩) (v := ?tv317) rfl (by kernel_rfl) (by kernel_rfl) (by kernel_rfl) (fun _ _ _ h => h) (Or.inl ⟨by kernel_rfl, ?hy317⟩) hH ?rs317; (case hy317 => (intro wx hSw; (try dsimp only at hSw); go_simp; try with_reducible rfl)); try simp only [Act.put, List.setIfInBounds_toArray, List.set_cons_zero, List.set_cons_succ]; try simp only [List.getElem_toArray, List.getElem_cons_succ, List.getElem_cons_zero])
        (refine wpAnyH_ready (rs := [6]) (by kernel_rfl) (by simp) ?_; refine AllReadyH.cons rfl (fun K hK => ?_) AllReadyH.nil; go_simp)
        refine (hfz _).mono ?_
        rintro e wb ⟨rfl, xb⟩
        have q8 := ext_trans r8 xb
        (go_wp2_with fail; refine hK.out _ _ (hbk8 q8) (fun hH => ?_); clear hK K; try simp only [Act.put, List.setIfInBounds_toArray, List.set_cons_zero, List.set_cons_succ]; try simp only [List.getElem_toArray, List.getElem_cons_succ, List.getElem_cons_zero])
        (refine wpAnyH_ready (rs := [9]) (by kernel_rfl) (by simp) ?_; refine AllReadyH.cons rfl (fun K hK => ?_) AllReadyH.nil; go_simp)
        refine (hfx1 _).mono ?_
        rintro e wd ⟨rfl, xd⟩
        have q9 := ext_trans q8 xd
        (go_wp2_with fail; refine hK.out _ _ (hbk8 q9) (fun hH => ?_); clear hK K; try simp only [Act.put, List.setIfInBounds_toArray, List.set_cons_zero, List.set_cons_succ]; try simp only [List.getElem_toArray, List.getElem_cons_succ, List.getElem_cons_zero])
        (refine wpAnyH_take (i := 10) (oi := ⟨_, _, _, _, _, _⟩) (v := ?tv318) rfl (by kernel_rfl) (by kernel_rfl) (by kernel_rfl) (fun _ _ _ h => h) (Or.inl ⟨by kernel_rfl, ?hy318⟩) hH ?rs318; (case hy318 => (intro wx hSw; (try dsimp only at hSw); go_simp; try with_reducible rfl)); try simp only [Act.put, List.setIfInBounds_toArray, List.set_cons_zero, List.set_cons_succ]; try simp only [List.getElem_toArray, List.getElem_cons_succ, List.getElem_cons_zero])
        refine wpAnyH_done (by kernel_rfl) ?_ _
        go_wp2_with fail
        exact ⟨⟨j + 1, by omega, by go_num, hjn2, ext_trans hxq q9⟩, by simp [intOf] <;> omega⟩
      have hbj : decide ((j : Int) < (k : Int)) = false := dfalseI (by omega)
      have hbj' : decide (j < k) = false := dfalseI (by omega)
      obtain ⟨j9, hj9⟩ : ∃ j9, j9 = j := ⟨_, rfl⟩
      have hE : E.ats.take j = E.ats.take k := by congr 1; omega
      rw [hE] at hjn
      have hnot : fo x ∉ (E.ats.take k).map fo := fun h => by
        obtain ⟨a, ha, e⟩ := List.mem_map.1 h
        exact hjn.out a ha (e.trans hG.out.symm)
      have hgA : Hid (goodA x → ((E.ats.take (k + 1)).map fo).Nodup ∧ ∀ a ∈ E.ats.take (k + 1), goodA a) := Lib.hid fun q => hcn.2 ⟨hgd.out, hnot, q⟩
      have hgB : Hid (¬ goodA x → decide (countsE E.ats) = false) := Lib.hid fun q => dfalseI fun h => q (h.2.1 x hxm)
      have hgo : Hid (goodA x ↔ nx ≠ 0 ∧ nx ≤ 16 ∧ (oneV G = true → nx ≤ 1)) := Lib.hid (by unfold goodA; rw [hnx.out, hG.out])
      generalize oneV G = oq at *
      generalize (lk ⟨G.toArray⟩ tyD).isSome = ok at *
      obtain ⟨b2, b3⟩ := hbc hxq
      clear hcn hcs hgd hnot hjn hE hj9
      go_wp2_with fail
      refine (hty _).mono ?_
      rintro e' w6 ⟨t9, n9, rfl, -, x6⟩
      have y6 := ext_trans xw1 x6
      clear b2 b3
      obtain ⟨b2, b3⟩ := hbc (ext_trans hxq x6)
      by_cases c1 : nx = 0
      case pos =>
        have q1 : ((nx : Int) == 0) = true := by rw [beq_iff_eq]; omega
        have q2 : (nx == 0) = true := by rw [beq_iff_eq]; exact c1
        have hbad := Lib.hid (hgB.out fun q => (hgo.out.1 q).1 c1)
        clear hgA hgB hgo
        replace c1 := Lib.hid c1
        go_wp2_with fail
        go_ret
        exact ⟨by rw [hbad.out]; rfl, ext_trans x1 y6⟩
      have q1 : ((nx : Int) == 0) = false := by rw [beq_eq_false_iff_ne]; omega
      have q2 : (nx == 0) = false := by rw [beq_eq_false_iff_ne]; exact c1
      by_cases c2 : 16 < nx
      case pos =>
        have q3 : decide ((16 : Int) < (nx : Int)) = true := dtrueI (by omega)
        have q4 : decide (16 < nx) = true := dtrueI c2
        have hbad := Lib.hid (hgB.out fun q => by have := (hgo.out.1 q).2.1; omega)
        clear hgA hgB hgo
        go_wp2_with fail
        go_ret
        exact ⟨by rw [hbad.out]; rfl, ext_trans x1 y6⟩
      have q3 : decide ((16 : Int) < (nx : Int)) = false := dfalseI (by omega)
      have q4 : decide (16 < nx) = false := dfalseI c2
      by_cases c3 : oq = true ∧ 1 < nx
      case pos =>
        obtain ⟨c4, c5⟩ := c3
        have q5 : decide ((1 : Int) < (nx : Int)) = true := dtrueI (by omega)
        have q6 : decide (1 < nx) = true := dtrueI c5
        have hbad := Lib.hid (hgB.out fun q => by have := (hgo.out.1 q).2.2 c4; omega)
        subst c4
        clear hgA hgB hgo
        go_wp2_with fail
        go_ret
        exact ⟨by rw [hbad.out]; rfl, ext_trans x1 y6⟩
      have hgood := Lib.hid (hgA.out (hgo.out.2 ⟨c1, by omega, fun q => by
        refine Decidable.byContradiction fun r => c3 ⟨q, by omega⟩⟩))
      clear hgA hgB hgo
      cases oq
      case false =>
        go_wp2_with fail
        exact ⟨⟨k + 1, by omega, by go_num, hgood, y6⟩, by simp [intOf] <;> omega⟩
      have q5 : decide ((1 : Int) < (nx : Int)) = false := dfalseI (fun q => c3 ⟨rfl, by omega⟩)
      have q6 : decide (1 < nx) = false := dfalseI (fun q => c3 ⟨rfl, q⟩)
      clear c3
      go_wp2_with fail
      exact ⟨⟨k + 1, by omega, by go_num, hgood, y6⟩, by simp [intOf] <;> omega⟩
end Go.Proofs.Ytdfjldlfimbimaa
