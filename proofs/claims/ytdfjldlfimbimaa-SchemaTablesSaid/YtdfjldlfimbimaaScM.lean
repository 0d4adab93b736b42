/- schema: the document's named, and its Check. -/
import Derived.Test.YtdfjldlfimbimaaScL
namespace Go.Proofs.Ytdfjldlfimbimaa
open Go.RowKit
set_option maxRecDepth 100000

set_option maxHeartbeats 32000000 in
theorem rnamed_nil {w : World} {vd va : Value} {E : Ent} (hdn : E.dn = []) (hd : As w AllE vd E.dn) (ha : Ats w va E.ats) (hw : wE E ≤ 1000000) :
    Calls Try.prog 29 #[.agg #[vd, va]] w fun e w' => e = .returned (.bool true) ∧ Ext w w' := by
  have hwa : wA E.ats ≤ 1000000 := by unfold wE at hw; omega
  have hgl := wA_ge E.ats
  have hfm : ∀ x ∈ E.ats, x.typ.length ≤ 1000000 ∧ x.vals.length ≤ 1000000 ∧ ∀ u ∈ x.vals, u.length ≤ 1000000 := fun x hx => by
    have h1 := wA_mem hx
    have h2 := wV_ge x.vals
    exact ⟨by omega, by omega, fun u hu => by have := wV_mem hu; omega⟩
  have hax := fun {wx : World} (x : Ext w wx) => (ha.ext x).open_
  obtain ⟨A, c, hva, -⟩ := ha.open_
  obtain ⟨A0, c0, hvd⟩ := Rc.shape hd
  obtain ⟨m, hm⟩ : ∃ n, n = E.ats.length := ⟨_, rfl⟩
  obtain ⟨m0, hm0⟩ : ∃ n, n = E.dn.length := ⟨_, rfl⟩
  rw [← hm] at hva hgl
  rw [← hm0] at hvd
  subst hva
  subst hvd
  have hM : m ≤ 1000000 := by omega
  obtain ⟨w1, hw1⟩ : ∃ x, x = w.alloc (.cells #[.slice A0 m0 c0, .slice A m c] 31) := ⟨_, rfl⟩
  obtain ⟨p, hp⟩ : ∃ p, p = w.heap.size := ⟨_, rfl⟩
  have x1 : Ext w w1 := by rw [hw1]; exact (Mod.refl _ w).alloc _
  have BP : Blk w1 p 31 #[.slice A0 m0 c0, .slice A m c] := by rw [hw1, hp]; exact Blk.new w _ _
  have hpc : ∀ {wx : World}, Ext w1 wx → wx.cell? ⟨p, 1, none⟩ = some (.slice A m c) := fun x => (BP.mod x (fun h => h)).cell 1
  have hpd : ∀ {wx : World}, Ext w1 wx → wx.cell? ⟨p, 0, none⟩ = some (.slice A0 m0 c0) := fun x => (BP.mod x (fun h => h)).cell 0
  replace hm := Lib.hid hm
  replace hm0 := Lib.hid hm0
  replace hw1 := Lib.hid hw1
  replace hp := Lib.hid hp
  clear BP hw
  have hz : m0 = 0 := by have := hm0.out; rw [hdn] at this; exact this
  subst hz
  have p0 := hpd (Mod.refl _ w1)
  clear hdn
  go_enter Try.func29, Try.ntmps29
  go_upto_region 1 with fail
  rw [← hw1.out, ← hp.out]
  clear hw1 hp
  go_wp2_with fail
  go_ret
  exact ⟨rfl, x1⟩
set_option maxHeartbeats 32000000 in
theorem rnamed_any {w : World} {vd va : Value} {E : Ent} {P0 : Av} {D0 : List Av} (hdn : E.dn = P0 :: D0) (hd : As w AllE vd E.dn) (ha : Ats w va E.ats) (hw : wE E ≤ 1000000) (hkn : knownE E.ats) :
    Calls Try.prog 29 #[.agg #[vd, va]] w fun e w' => e = .returned (.bool (decide (nameE E.dn E.ats))) ∧ Ext w w' := by
  have hpl : P0.1.length + P0.2.length ≤ 1000000 := by
    have h1 := wD_mem (L := E.dn) (a := P0) (by rw [hdn]; exact List.mem_cons_self ..)
    unfold wE at hw
    omega
  obtain ⟨VV, hVV⟩ : ∃ V, V = valsS E.ats (foldB P0.1) := ⟨_, rfl⟩
  have hvv : ∀ {wx : World}, Ext w wx → Calls Try.prog 14 #[.agg #[vd, va], sv P0.1] wx fun e' w' => ∃ v', e' = .returned v' ∧ Own w' 9 v' (VV.map sv) ∧ Ext wx w' := fun {wx} x => by
    have h := vals14_any (e := E) (typ := P0.1) (hd.ext x) (ha.ext x) hw (by omega)
    rw [hVV]
    exact h
  have hVm : ∀ v, v ∈ VV ↔ ∃ a ∈ E.ats, fo a = foldB P0.1 ∧ v ∈ a.vals := fun v => by rw [hVV]; exact mem_valsS
  have hVl : VV.length ≤ 1000000 := by have := selE_len (foldB P0.1) E.ats; rw [hVV]; show (E.ats.flatMap (selE (foldB P0.1))).length ≤ _; unfold wE at hw; omega
  have hnm : Hid (nameE E.dn E.ats ↔ ∃ v ∈ VV, foldB v = foldB P0.2) := Lib.hid (by
    rw [hdn, nameE_cons]
    constructor
    · rintro ⟨a, ha, e, v, hv, e2⟩
      exact ⟨v, (hVm v).2 ⟨a, ha, e, hv⟩, e2⟩
    · rintro ⟨v, hv, e2⟩
      obtain ⟨a, ha, e, hv⟩ := (hVm v).1 hv
      exact ⟨a, ha, e, v, hv, e2⟩)
  have hok9 : Hid ((lk ⟨(foldB P0.1).toArray⟩ tyD).isSome = false → VV = []) := Lib.hid fun h => by
    cases hq : VV with
    | nil => rfl
    | cons v l =>
      obtain ⟨a, ha, e, _⟩ := (hVm v).1 (by rw [hq]; exact List.mem_cons_self ..)
      have := (hkn a ha).1
      rw [show foldB a.typ = foldB P0.1 from e, h] at this
      cases this
  replace hVV := Lib.hid hVV
  replace hkn := Lib.hid hkn
  have hwa : wA E.ats ≤ 1000000 := by unfold wE at hw; omega
  have hgl := wA_ge E.ats
  have hfm : ∀ x ∈ E.ats, x.typ.length ≤ 1000000 ∧ x.vals.length ≤ 1000000 ∧ ∀ u ∈ x.vals, u.length ≤ 1000000 := fun x hx => by
    have h1 := wA_mem hx
    have h2 := wV_ge x.vals
    exact ⟨by omega, by omega, fun u hu => by have := wV_mem hu; omega⟩
  have hax := fun {wx : World} (x : Ext w wx) => (ha.ext x).open_
  obtain ⟨A, c, hva, -⟩ := ha.open_
  obtain ⟨A0, c0, hvd⟩ := Rc.shape hd
  obtain ⟨m, hm⟩ : ∃ n, n = E.ats.length := ⟨_, rfl⟩
  obtain ⟨m0, hm0⟩ : ∃ n, n = E.dn.length := ⟨_, rfl⟩
  rw [← hm] at hva hgl
  rw [← hm0] at hvd
  subst hva
  subst hvd
  have hM : m ≤ 1000000 := by omega
  obtain ⟨w1, hw1⟩ : ∃ x, x = w.alloc (.cells #[.slice A0 m0 c0, .slice A m c] 31) := ⟨_, rfl⟩
  obtain ⟨p, hp⟩ : ∃ p, p = w.heap.size := ⟨_, rfl⟩
  have x1 : Ext w w1 := by rw [hw1]; exact (Mod.refl _ w).alloc _
  have BP : Blk w1 p 31 #[.slice A0 m0 c0, .slice A m c] := by rw [hw1, hp]; exact Blk.new w _ _
  have hpc : ∀ {wx : World}, Ext w1 wx → wx.cell? ⟨p, 1, none⟩ = some (.slice A m c) := fun x => (BP.mod x (fun h => h)).cell 1
  have hpd : ∀ {wx : World}, Ext w1 wx → wx.cell? ⟨p, 0, none⟩ = some (.slice A0 m0 c0) := fun x => (BP.mod x (fun h => h)).cell 0
  replace hm := Lib.hid hm
  replace hm0 := Lib.hid hm0
  replace hw1 := Lib.hid hw1
  replace hp := Lib.hid hp
  clear BP hw
  obtain ⟨_, _, he9, -, -, -, hd4⟩ := (hd.ext x1).open_ avc_len
  injection he9 with he1 he2 he3
  subst he1
  subst he3
  clear he2
  obtain ⟨ad0, hA0, -, d0, d1⟩ := As.at_ hd4 (i := 0) (by rw [hdn]; simp)
  subst hA0
  have hP0 : E.dn[0]'(by rw [hdn]; simp) = P0 := by simp [hdn]
  rw [hP0] at d0 d1
  have hadd : ad0.add (0 * 2) = ad0 := by cases ad0; simp [Addr.add]
  rw [hadd] at d0 d1
  have hm1 : 0 < m0 := by have := hm0.out; rw [hdn] at this; simp at this; omega
  have hm1i : (0 : Int) < (m0 : Int) := by omega
  have q0 : ((m0 : Int) == 0) = false := by rw [beq_eq_false_iff_ne]; omega
  have q0' : (m0 == 0) = false := by rw [beq_eq_false_iff_ne]; omega
  have hbk : ∀ {wx : World}, Ext w1 wx → wx.cell? ⟨p, 0, none⟩ = some (.slice (some ad0) m0 c0) ∧ wx.cell? ⟨p, 1, none⟩ = some (.slice A m c) ∧ wx.cell? ad0 = some (sv P0.1) ∧ wx.cell? ⟨ad0.block, ad0.off + 1, none⟩ = some (sv P0.2) := fun x => ⟨hpd x, hpc x, ext_cell x d0, ext_cell x d1⟩
  have hty := rtype_any (w := w1) (s := P0.1) (by omega)
  have hf2 := fun wx : World => rfold_any (w := wx) P0.2 (by omega)
  obtain ⟨F, hF⟩ : ∃ F, F = foldB P0.1 := ⟨_, rfl⟩
  obtain ⟨V, hV⟩ : ∃ V, V = foldB P0.2 := ⟨_, rfl⟩
  rw [← hV] at hf2 hnm
  rw [← hF] at hty hok9
  replace hF := Lib.hid hF
  replace hV := Lib.hid hV
  obtain ⟨ok, hok⟩ : ∃ q, q = (lk ⟨F.toArray⟩ tyD).isSome := ⟨_, rfl⟩
  rw [← hok] at hty hok9
  replace hok := Lib.hid hok
  generalize oneV F = oq at *
  have p0 := hpd (Mod.refl _ w1)
  clear hP0 hadd hd4 hdn
  go_enter Try.func29, Try.ntmps29
  go_upto_region 1 with fail
  rw [← hw1.out, ← hp.out]
  clear hw1 hp
  go_wp2_with fail
  refine hty.mono ?_
  rintro e w2 ⟨t9, n9, rfl, -, x2⟩
  have r4 : Ext w1 w2.drew := x2.drew
  clear hty p0 d0 d1
  go_upto_region 4 with fail
  refine wp_region_held_drew (S := fun wx => wx.cell? ⟨p, 0, none⟩ = some (.slice (some ad0) m0 c0) ∧ wx.cell? ⟨p, 1, none⟩ = some (.slice A m c) ∧ wx.cell? ad0 = some (sv P0.1) ∧ wx.cell? ⟨ad0.block, ad0.off + 1, none⟩ = some (sv P0.2)) (by kernel_rfl) (hbk r4) (fun hH => ?_)
  (refine wpAnyH_take (i := 0) (oi := ⟨_, _, _, _, _, _⟩) (v := ?tv601) rfl (by kernel_rfl) (by kernel_rfl) (by kernel_rfl) (fun _ _ _ h => h) (Or.inl ⟨by kernel_rfl, ?hy601⟩) hH ?rs601; (case hy601 => (intro wx hSw; (try dsimp only at hSw); go_simp; try with_reducible rfl)); try simp only [Act.put, List.setIfInBounds_toArray, List.set_cons_zero, List.set_cons_succ]; try simp only [List.getElem_toArray, List.getElem_cons_succ, List.getElem_cons_zero])
  (refine wpAnyH_take (i := 1) (oi := ⟨_, _, _, _, _, _⟩) (v := ?tv602) rfl (by kernel_rfl) (by kernel_rfl) (by kernel_rfl) (fun _ _ _ h => h) (Or.inl ⟨by kernel_rfl, ?hy602⟩) hH ?rs602; (case hy602 => (intro wx hSw; (try dsimp only at hSw); go_simp; try with_reducible rfl)); try simp only [Act.put, List.setIfInBounds_toArray, List.set_cons_zero, List.set_cons_succ]; try simp only [List.getElem_toArray, List.getElem_cons_succ, List.getElem_cons_zero])
  (refine wpAnyH_take (i := 2) (oi := ⟨_, _, _, _, _, _⟩) (v := ?tv603) rfl (by kernel_rfl) (by kernel_rfl) (by kernel_rfl) (fun _ _ _ h => h) (Or.inl ⟨by kernel_rfl, ?hy603⟩) hH ?rs603; (case hy603 => (intro wx hSw; (try dsimp only at hSw); go_simp; try with_reducible rfl)); try simp only [Act.put, List.setIfInBounds_toArray, List.set_cons_zero, List.set_cons_succ]; try simp only [List.getElem_toArray, List.getElem_cons_succ, List.getElem_cons_zero])
  (refine wpAnyH_take (i := 3) (oi := ⟨_, _, _, _, _, _⟩) (v := ?tv604) rfl (by kernel_rfl) (by kernel_rfl) (by kernel_rfl) (fun _ _ _ h => h) (Or.inl ⟨by kernel_rfl, ?hy604⟩) hH ?rs604; (case hy604 => (intro wx hSw; (try dsimp only at hSw); go_simp; try with_reducible rfl)); try simp only [Act.put, List.setIfInBounds_toArray, List.set_cons_zero, List.set_cons_succ]; try simp only [List.getElem_toArray, List.getElem_cons_succ, List.getElem_cons_zero])
  (refine wpAnyH_take (i := 4) (oi := ⟨_, _, _, _, _, _⟩) (v := ?tv605) rfl (by kernel_rfl) (by kernel_rfl) (by kernel_rfl) (fun _ _ _ h => h) (Or.inl ⟨by kernel_rfl, ?hy605⟩) hH ?rs605; (case hy605 => (intro wx hSw; (try dsimp only at hSw); go_simp; try with_reducible rfl)); try simp only [Act.put, List.setIfInBounds_toArray, List.set_cons_zero, List.set_cons_succ]; try simp only [List.getElem_toArray, List.getElem_cons_succ, List.getElem_cons_zero])
  (refine wpAnyH_take (i := 5) (oi := ⟨_, _, _, _, _, _⟩) (v := ?tv606) rfl (by kernel_rfl) (by kernel_rfl) (by kernel_rfl) (fun _ _ _ h => h) (Or.inl ⟨by kernel_rfl, ?hy606⟩) hH ?rs606; (case hy606 => (intro wx hSw; (try dsimp only at hSw); go_simp; try with_reducible rfl)); try simp only [Act.put, List.setIfInBounds_toArray, List.set_cons_zero, List.set_cons_succ]; try simp only [List.getElem_toArray, List.getElem_cons_succ, List.getElem_cons_zero])
  (refine wpAnyH_ready (rs := [6]) (by kernel_rfl) (by simp) ?_; refine AllReadyH.cons rfl (fun K hK => ?_) AllReadyH.nil; go_simp)
  refine (hvv (ext_trans x1 r4)).mono ?_
  rintro e wb ⟨v5, rfl, o5, xb⟩
  obtain ⟨A5, n5, c5, rfl, hn5⟩ : ∃ A n c, v5 = .slice A n c ∧ n = VV.length := (Sl.open_ o5.sl).elim fun A h => h.elim fun c h => ⟨A, _, c, h.1, rfl⟩
  replace hn5 := Lib.hid hn5
  have q4 := ext_trans r4 xb
  (go_wp2_with fail; refine hK.out _ _ (hbk q4) (fun hH => ?_); clear hK K; try simp only [Act.put, List.setIfInBounds_toArray, List.set_cons_zero, List.set_cons_succ]; try simp only [List.getElem_toArray, List.getElem_cons_succ, List.getElem_cons_zero])
  (refine wpAnyH_take (i := 7) (oi := ⟨_, _, _, _, _, _⟩) (v := ?tv607) rfl (by kernel_rfl) (by kernel_rfl) (by kernel_rfl) (fun _ _ _ h => h) (Or.inl ⟨by kernel_rfl, ?hy607⟩) hH ?rs607; (case hy607 => (intro wx hSw; (try dsimp only at hSw); go_simp; try with_reducible rfl)); try simp only [Act.put, List.setIfInBounds_toArray, List.set_cons_zero, List.set_cons_succ]; try simp only [List.getElem_toArray, List.getElem_cons_succ, List.getElem_cons_zero])
  refine wpAnyH_done (by kernel_rfl) ?_ _
  have hs5 := o5.sl
  rw [← hn5.out] at hVl
  have hVl5 := hVl
  clear o5
  have q4' := q4
  go_wp2_with fail
  go_loopw [8] (fun i wr => ∃ j : Nat, j ≤ n5 ∧ i = .int .i64 j ∧ Hid (∀ v ∈ VV.take j, foldB v ≠ V) ∧ Ext wb wr) (fun i _ => n5 - (intOf i).toNat)
  case atStart => exact ⟨0, Nat.zero_le _, rfl, Lib.hid (fun a ha => by cases ha), Mod.refl _ _⟩
  case round =>
    obtain ⟨j, hj, rfl, hjn, hxq⟩ := hrel
    have y4 := ext_trans q4 hxq
    by_cases hjl : j < n5
    case neg =>
      have hbj : decide ((j : Int) < (n5 : Int)) = false := dfalseI (by omega)
      have hbj' : decide (j < n5) = false := dfalseI (by omega)
      have hE : VV.take j = VV := List.take_of_length_le (by have := hn5.out; omega)
      rw [hE] at hjn
      have hres : Hid (decide (nameE E.dn E.ats) = false) := Lib.hid (dfalseI fun h => by
        obtain ⟨v, hv, e⟩ := hnm.out.1 h
        exact hjn.out v hv e)
      clear hE hjn
      go_wp2_with fail
      go_ret
      exact ⟨by rw [hres.out]; rfl, ext_trans x1 y4⟩
    have hbj : decide ((j : Int) < (n5 : Int)) = true := dtrueI (by omega)
    have hbj' : decide (j < n5) = true := dtrueI (by omega)
    have l2 : j < VV.length := by have := hn5.out; omega
    have hokt : ok = true := by
      cases ok
      · have := hok9.out rfl
        rw [this] at l2
        exact absurd l2 (Nat.not_lt_zero _)
      · rfl
    subst hokt
    obtain ⟨Az, cz, hvz, -, -, -, hcz⟩ := Sl.open_ (hs5.ext hxq)
    injection hvz with e1 e2 e3
    subst e1
    subst e3
    clear e2
    obtain ⟨ad2, hA2, -, cV⟩ := Cells.at_ hcz l2
    subst hA2
    have htk : VV.take (j + 1) = VV.take j ++ [VV[j]] := List.take_succ_eq_append_getElem l2
    have hum : VV[j] ∈ VV := List.getElem_mem l2
    generalize VV[j] = u at *
    obtain ⟨a9, ha9, -, hv9⟩ := (hVm u).1 hum
    have hul := (hfm a9 ha9).2.2 u hv9
    have hfu := fun wx : World => rfold_any (w := wx) u (by omega)
    obtain ⟨U, hU⟩ : ∃ U, U = foldB u := ⟨_, rfl⟩
    rw [← hU] at hfu
    replace hU := Lib.hid hU
    have hbk8 : ∀ {wx : World}, Ext wr wx → wx.cell? ⟨p, 0, none⟩ = some (.slice (some ad0) m0 c0) ∧ wx.cell? (ad2.add j) = some (sv u) ∧ wx.cell? ad0 = some (sv P0.1) ∧ wx.cell? ⟨ad0.block, ad0.off + 1, none⟩ = some (sv P0.2) := fun q => by
      obtain ⟨k0, k1, k2, k3⟩ := hbk (ext_trans y4 q)
      exact ⟨k0, ext_cell q cV, k2, k3⟩
    have r8 : Ext wr wr.drew := (Mod.refl _ wr).drew
    have hj0 : (0 : Int) ≤ (j : Int) := by omega
    have hj1 : (j : Int) < (n5 : Int) := by omega
    replace htk := Lib.hid htk
    clear hcz l2
    by_cases hUV : U = V
    case pos =>
      have q5 : (U == V) = true := by rw [beq_iff_eq]; exact hUV
      have hres : Hid (decide (nameE E.dn E.ats) = true) := Lib.hid (dtrueI (hnm.out.2 ⟨u, hum, hU.out.symm.trans hUV⟩))
      replace hUV := Lib.hid hUV
      clear hjn
      go_wp2_with fail
      refine wp_region_held_drew (S := fun wx => wx.cell? ⟨p, 0, none⟩ = some (.slice (some ad0) m0 c0) ∧ wx.cell? (ad2.add j) = some (sv u) ∧ wx.cell? ad0 = some (sv P0.1) ∧ wx.cell? ⟨ad0.block, ad0.off + 1, none⟩ = some (sv P0.2)) (by kernel_rfl) (hbk8 r8) (fun hH => ?_)
      (refine wpAnyH_take (i := 0) (oi := ⟨_, _, _, _, _, _⟩) (v := ?tv608) rfl (by kernel_rfl) (by kernel_rfl) (by kernel_rfl) (fun _ _ _ h => h) (Or.inl ⟨by kernel_rfl, ?hy608⟩) hH ?rs608; (case hy608 => (intro wx hSw; (try dsimp only at hSw); go_simp; try with_reducible rfl)); try simp only [Act.put, List.setIfInBounds_toArray, List.set_cons_zero, List.set_cons_succ]; try simp only [List.getElem_toArray, List.getElem_cons_succ, List.getElem_cons_zero])
      (refine wpAnyH_take (i := 1) (oi := ⟨_, _, _, _, _, _⟩) (v := ?tv609) rfl (by kernel_rfl) (by kernel_rfl) (by kernel_rfl) (fun _ _ _ h => h) (Or.inl ⟨by kernel_rfl, ?hy609⟩) hH ?rs609; (case hy609 => (intro wx hSw; (try dsimp only at hSw); go_simp; try with_reducible rfl)); try simp only [Act.put, List.setIfInBounds_toArray, List.set_cons_zero, List.set_cons_succ]; try simp only [List.getElem_toArray, List.getElem_cons_succ, List.getElem_cons_zero])
      (refine wpAnyH_take (i := 2) (oi := ⟨_, _, _, _, _, _⟩) (v := ?tv610) rfl (by kernel_rfl) (by kernel_rfl) (by kernel_rfl) (fun _ _ _ h => h) (Or.inl ⟨by kernel_rfl, ?hy610⟩) hH ?rs610; (case hy610 => (intro wx hSw; (try dsimp only at hSw); go_simp; try with_reducible rfl)); try simp only [Act.put, List.setIfInBounds_toArray, List.set_cons_zero, List.set_cons_succ]; try simp only [List.getElem_toArray, List.getElem_cons_succ, List.getElem_cons_zero])
      (refine wpAnyH_take (i := 3) (oi := ⟨_, _, _, _, _, _⟩) (v := ?tv611) rfl (by kernel_rfl) (by kernel_rfl) (by kernel_rfl) (fun _ _ _ h => h) (Or.inl ⟨by kernel_rfl, ?hy611⟩) hH ?rs611; (case hy611 => (intro wx hSw; (try dsimp only at hSw); go_simp; try with_reducible rfl)); try simp only [Act.put, List.setIfInBounds_toArray, List.set_cons_zero, List.set_cons_succ]; try simp only [List.getElem_toArray, List.getElem_cons_succ, List.getElem_cons_zero])
      (refine wpAnyH_take (i := 5) (oi := ⟨_, _, _, _, _, _⟩) (v := ?tv612) rfl (by kernel_rfl) (by kernel_rfl) (by kernel_rfl) (fun _ _ _ h => h) (Or.inl ⟨by kernel_rfl, ?hy612⟩) hH ?rs612; (case hy612 => (intro wx hSw; (try dsimp only at hSw); go_simp; try with_reducible rfl)); try simp only [Act.put, List.setIfInBounds_toArray, List.set_cons_zero, List.set_cons_succ]; try simp only [List.getElem_toArray, List.getElem_cons_succ, List.getElem_cons_zero])
      (refine wpAnyH_take (i := 6) (oi := ⟨_, _, _, _, _, _⟩) (v := ?tv613) rfl (by kernel_rfl) (by kernel_rfl) (by kernel_rfl) (fun _ _ _ h => h) (Or.inl ⟨by kernel_rfl, ?hy613⟩) hH ?rs613; (case hy613 => (intro wx hSw; (try dsimp only at hSw); go_simp; try with_reducible rfl)); try simp only [Act.put, List.setIfInBounds_toArray, List.set_cons_zero, List.set_cons_succ]; try simp only [List.getElem_toArray, List.getElem_cons_succ, List.getElem_cons_zero])
      (refine wpAnyH_take (i := 7) (oi := ⟨_, _, _, _, _, _⟩) (v := ?tv614) rfl (by kernel_rfl) (by kernel_rfl) (by kernel_rfl) (fun _ _ _ h => h) (Or.inl ⟨by kernel_rfl, ?hy614⟩) hH ?rs614; (case hy614 => (intro wx hSw; (try dsimp only at hSw); go_simp; try with_reducible rfl)); try simp only [Act.put, List.setIfInBounds_toArray, List.set_cons_zero, List.set_cons_succ]; try simp only [List.getElem_toArray, List.getElem_cons_succ, List.getElem_cons_zero])
      (refine wpAnyH_take (i := 8) (oi := ⟨_, _, _, _, _, _⟩) (v := ?tv615) rfl (by kernel_rfl) (by kernel_rfl) (by kernel_rfl) (fun _ _ _ h => h) (Or.inl ⟨by kernel_rfl, ?hy615⟩) hH ?rs615; (case hy615 => (intro wx hSw; (try dsimp only at hSw); go_simp; try with_reducible rfl)); try simp only [Act.put, List.setIfInBounds_toArray, List.set_cons_zero, List.set_cons_succ]; try simp only [List.getElem_toArray, List.getElem_cons_succ, List.getElem_cons_zero])
      (refine wpAnyH_take (i := 9) (oi := ⟨_, _, _, _, _, _⟩) (v := ?tv616) rfl (by kernel_rfl) (by kernel_rfl) (by kernel_rfl) (fun _ _ _ h => h) (Or.inl ⟨by kernel_rfl, ?hy616⟩) hH ?rs616; (case hy616 => (intro wx hSw; (try dsimp only at hSw); go_simp; try with_reducible rfl)); try simp only [Act.put, List.setIfInBounds_toArray, List.set_cons_zero, List.set_cons_succ]; try simp only [List.getElem_toArray, List.getElem_cons_succ, List.getElem_cons_zero])
      (refine wpAnyH_ready (rs := [4]) (by kernel_rfl) (by simp) ?_; refine AllReadyH.cons rfl (fun K hK => ?_) AllReadyH.nil; go_simp)
      refine (hfu _).mono ?_
      rintro e wb ⟨rfl, xb⟩
      have q8 := ext_trans r8 xb
      (go_wp2_with fail; refine hK.out _ _ (hbk8 q8) (fun hH => ?_); clear hK K; try simp only [Act.put, List.setIfInBounds_toArray, List.set_cons_zero, List.set_cons_succ]; try simp only [List.getElem_toArray, List.getElem_cons_succ, List.getElem_cons_zero])
      (refine wpAnyH_ready (rs := [10]) (by kernel_rfl) (by simp) ?_; refine AllReadyH.cons rfl (fun K hK => ?_) AllReadyH.nil; go_simp)
      refine (hf2 _).mono ?_
      rintro e wd ⟨rfl, xd⟩
      have q9 := ext_trans q8 xd
      (go_wp2_with fail; refine hK.out _ _ (hbk8 q9) (fun hH => ?_); clear hK K; try simp only [Act.put, List.setIfInBounds_toArray, List.set_cons_zero, List.set_cons_succ]; try simp only [List.getElem_toArray, List.getElem_cons_succ, List.getElem_cons_zero])
      (refine wpAnyH_take (i := 11) (oi := ⟨_, _, _, _, _, _⟩) (v := ?tv617) rfl (by kernel_rfl) (by kernel_rfl) (by kernel_rfl) (fun _ _ _ h => h) (Or.inl ⟨by kernel_rfl, ?hy617⟩) hH ?rs617; (case hy617 => (intro wx hSw; (try dsimp only at hSw); go_simp; try with_reducible rfl)); try simp only [Act.put, List.setIfInBounds_toArray, List.set_cons_zero, List.set_cons_succ]; try simp only [List.getElem_toArray, List.getElem_cons_succ, List.getElem_cons_zero])
      refine wpAnyH_done (by kernel_rfl) ?_ _
      go_wp2_with fail
      go_ret
      exact ⟨by rw [hres.out]; rfl, ext_trans x1 (ext_trans y4 q9)⟩
    have q5 : (U == V) = false := by rw [beq_eq_false_iff_ne]; exact hUV
    have hjn2 : Hid (∀ v ∈ VV.take (j + 1), foldB v ≠ V) := Lib.hid (by
      rw [htk.out]
      intro v hv
      rcases List.mem_append.1 hv with r | r
      · exact hjn.out v r
      · rw [List.mem_singleton.1 r, ← hU.out]; exact hUV)
    clear hjn
    go_wp2_with fail
    refine wp_region_held_drew (S := fun wx => wx.cell? ⟨p, 0, none⟩ = some (.slice (some ad0) m0 c0) ∧ wx.cell? (ad2.add j) = some (sv u) ∧ wx.cell? ad0 = some (sv P0.1) ∧ wx.cell? ⟨ad0.block, ad0.off + 1, none⟩ = some (sv P0.2)) (by kernel_rfl) (hbk8 r8) (fun hH => ?_)
    (refine wpAnyH_take (i := 0) (oi := ⟨_, _, _, _, _, _⟩) (v := ?tv618) rfl (by kernel_rfl) (by kernel_rfl) (by kernel_rfl) (fun _ _ _ h => h) (Or.inl ⟨by kernel_rfl, ?hy618⟩) hH ?rs618; (case hy618 => (intro wx hSw; (try dsimp only at hSw); go_simp; try with_reducible rfl)); try simp only [Act.put, List.setIfInBounds_toArray, List.set_cons_zero, List.set_cons_succ]; try simp only [List.getElem_toArray, List.getElem_cons_succ, List.getElem_cons_zero])
    (refine wpAnyH_take (i := 1) (oi := ⟨_, _, _, _, _, _⟩) (v := ?tv619) rfl (by kernel_rfl) (by kernel_rfl) (by kernel_rfl) (fun _ _ _ h => h) (Or.inl ⟨by kernel_rfl, ?hy619⟩) hH ?rs619; (case hy619 => (intro wx hSw; (try dsimp only at hSw); go_simp; try with_reducible rfl)); try simp only [Act.put, List.setIfInBounds_toArray, List.set_cons_zero, List.set_cons_succ]; try simp only [List.getElem_toArray, List.getElem_cons_succ, List.getElem_cons_zero])
    (refine wpAnyH_take (i := 2) (oi := ⟨_, _, _, _, _, _⟩) (v := ?tv620) rfl (by kernel_rfl) (by kernel_rfl) (by kernel_rfl) (fun _ _ _ h => h) (Or.inl ⟨by kernel_rfl, ?hy620⟩) hH ?rs620; (case hy620 => (intro wx hSw; (try dsimp only at hSw); go_simp; try with_reducible rfl)); try simp only [Act.put, List.setIfInBounds_toArray, List.set_cons_zero, List.set_cons_succ]; try simp only [List.getElem_toArray, List.getElem_cons_succ, List.getElem_cons_zero])
    (refine wpAnyH_take (i := 3) (oi := ⟨_, _, _, _, _, _⟩) (v := ?tv621) rfl (by kernel_rfl) (by kernel_rfl) (by kernel_rfl) (fun _ _ _ h => h) (Or.inl ⟨by kernel_rfl, ?hy621⟩) hH ?rs621; (case hy621 => (intro wx hSw; (try dsimp only at hSw); go_simp; try with_reducible rfl)); try simp only [Act.put, List.setIfInBounds_toArray, List.set_cons_zero, List.set_cons_succ]; try simp only [List.getElem_toArray, List.getElem_cons_succ, List.getElem_cons_zero])
    (refine wpAnyH_take (i := 5) (oi := ⟨_, _, _, _, _, _⟩) (v := ?tv622) rfl (by kernel_rfl) (by kernel_rfl) (by kernel_rfl) (fun _ _ _ h => h) (Or.inl ⟨by kernel_rfl, ?hy622⟩) hH ?rs622; (case hy622 => (intro wx hSw; (try dsimp only at hSw); go_simp; try with_reducible rfl)); try simp only [Act.put, List.setIfInBounds_toArray, List.set_cons_zero, List.set_cons_succ]; try simp only [List.getElem_toArray, List.getElem_cons_succ, List.getElem_cons_zero])
    (refine wpAnyH_take (i := 6) (oi := ⟨_, _, _, _, _, _⟩) (v := ?tv623) rfl (by kernel_rfl) (by kernel_rfl) (by kernel_rfl) (fun _ _ _ h => h) (Or.inl ⟨by kernel_rfl, ?hy623⟩) hH ?rs623; (case hy623 => (intro wx hSw; (try dsimp only at hSw); go_simp; try with_reducible rfl)); try simp only [Act.put, List.setIfInBounds_toArray, List.set_cons_zero, List.set_cons_succ]; try simp only [List.getElem_toArray, List.getElem_cons_succ, List.getElem_cons_zero])
    (refine wpAnyH_take (i := 7) (oi := ⟨_, _, _, _, _, _⟩) (v := ?tv624) rfl (by kernel_rfl) (by kernel_rfl) (by kernel_rfl) (fun _ _ _ h => h) (Or.inl ⟨by kernel_rfl, ?hy624⟩) hH ?rs624; (case hy624 => (intro wx hSw; (try dsimp only at hSw); go_simp; try with_reducible rfl)); try simp only [Act.put, List.setIfInBounds_toArray, List.set_cons_zero, List.set_cons_succ]; try simp only [List.getElem_toArray, List.getElem_cons_succ, List.getElem_cons_zero])
    (refine wpAnyH_take (i := 8) (oi := ⟨_, _, _, _, _, _⟩) (v := ?tv625) rfl (by kernel_rfl) (by kernel_rfl) (by kernel_rfl) (fun _ _ _ h => h) (Or.inl ⟨by kernel_rfl, ?hy625⟩) hH ?rs625; (case hy625 => (intro wx hSw; (try dsimp only at hSw); go_simp; try with_reducible rfl)); try simp only [Act.put, List.setIfInBounds_toArray, List.set_cons_zero, List.set_cons_succ]; try simp only [List.getElem_toArray, List.getElem_cons_succ, List.getElem_cons_zero])
    (refine wpAnyH_take (i := 9) (oi := ⟨_, _, _, _, _, _⟩) (v := ?tv626) rfl (by kernel_rfl) (by kernel_rfl) (by kernel_rfl) (fun _ _ _ h => h) (Or.inl ⟨by kernel_rfl, ?hy626⟩) hH ?rs626; (case hy626 => (intro wx hSw; (try dsimp only at hSw); go_simp; try with_reducible rfl)); try simp only [Act.put, List.setIfInBounds_toArray, List.set_cons_zero, List.set_cons_succ]; try simp only [List.getElem_toArray, List.getElem_cons_succ, List.getElem_cons_zero])
    (refine wpAnyH_ready (rs := [4]) (by kernel_rfl) (by simp) ?_; refine AllReadyH.cons rfl (fun K hK => ?_) AllReadyH.nil; go_simp)
    refine (hfu _).mono ?_
    rintro e wb ⟨rfl, xb⟩
    have q8 := ext_trans r8 xb
    (go_wp2_with fail; refine hK.out _ _ (hbk8 q8) (fun hH => ?_); clear hK K; try simp only [Act.put, List.setIfInBounds_toArray, List.set_cons_zero, List.set_cons_succ]; try simp only [List.getElem_toArray, List.getElem_cons_succ, List.getElem_cons_zero])
    (refine wpAnyH_ready (rs := [10]) (by kernel_rfl) (by simp) ?_; refine AllReadyH.cons rfl (fun K hK => ?_) AllReadyH.nil; go_simp)
    refine (hf2 _).mono ?_
    rintro e wd ⟨rfl, xd⟩
    have q9 := ext_trans q8 xd
    (go_wp2_with fail; refine hK.out _ _ (hbk8 q9) (fun hH => ?_); clear hK K; try simp only [Act.put, List.setIfInBounds_toArray, List.set_cons_zero, List.set_cons_succ]; try simp only [List.getElem_toArray, List.getElem_cons_succ, List.getElem_cons_zero])
    (refine wpAnyH_take (i := 11) (oi := ⟨_, _, _, _, _, _⟩) (v := ?tv627) rfl (by kernel_rfl) (by kernel_rfl) (by kernel_rfl) (fun _ _ _ h => h) (Or.inl ⟨by kernel_rfl, ?hy627⟩) hH ?rs627; (case hy627 => (intro wx hSw; (try dsimp only at hSw); go_simp; try with_reducible rfl)); try simp only [Act.put, List.setIfInBounds_toArray, List.set_cons_zero, List.set_cons_succ]; try simp only [List.getElem_toArray, List.getElem_cons_succ, List.getElem_cons_zero])
    refine wpAnyH_done (by kernel_rfl) ?_ _
    go_wp2_with fail
    exact ⟨⟨j + 1, by omega, by go_num, hjn2, ext_trans hxq q9⟩, by simp [intOf] <;> omega⟩
end Go.Proofs.Ytdfjldlfimbimaa
