/- schema: the document's known and counts. -/
import Derived.Test.YtdfjldlfimbimaaScH
namespace Go.Proofs.Ytdfjldlfimbimaa
open Go.RowKit
set_option maxRecDepth 100000

theorem mem_valsS {L : List Att} {F v : List UInt8} : v ∈ valsS L F ↔ ∃ a ∈ L, fo a = F ∧ v ∈ a.vals := by
  rw [List.mem_flatMap]
  constructor
  · rintro ⟨a, ha, hv⟩
    unfold selE at hv
    by_cases h : foldB a.typ = F
    · rw [if_pos h] at hv; exact ⟨a, ha, h, hv⟩
    · rw [if_neg h] at hv; cases hv
  · rintro ⟨a, ha, h, hv⟩
    exact ⟨a, ha, by unfold selE; rw [if_pos h]; exact hv⟩
theorem oc_fold : foldB ocB = ocB := by decide
theorem rtype_any {w : World} {s : List UInt8} (hs : s.length ≤ 140737488351232) :
    Calls Try.prog 16 #[sv s] w fun e w' => ∃ (t : List UInt8) (n : Int), e = .returned (.tuple #[sv t, .int .i64 n, .bool (oneV (foldB s)), .bool (lk ⟨(foldB s).toArray⟩ tyD).isSome]) ∧ ((lk ⟨(foldB s).toArray⟩ tyD).isSome = true → t = foldB s) ∧ Ext w w' := by
  by_cases h : foldB s ∈ typesL
  · refine (rtype_yes hs h).mono ?_
    rintro e w' ⟨rfl, x⟩
    have hl := lk_types _ h
    refine ⟨foldB s, synT (foldB s), ?_, fun _ => rfl, x⟩
    have ho : oneV (foldB s) = oneT (foldB s) := by unfold oneV; rw [hl]; rfl
    rw [ho, hl]
    rfl
  · refine (rtype_no hs h).mono ?_
    rintro e w' ⟨rfl, x⟩
    have hl := lk_others h
    have ho : oneV (foldB s) = false := by unfold oneV; rw [hl]
    refine ⟨[], 0, ?_, fun q => ?_, x⟩
    · rw [ho, hl]; rfl
    · rw [hl] at q; cases q
set_option maxHeartbeats 32000000 in
theorem rknown_any {w : World} {vd va : Value} {E : Ent} (hd : As w AllE vd E.dn) (ha : Ats w va E.ats) (hw : wE E ≤ 1000000) :
    Calls Try.prog 26 #[.agg #[vd, va]] w fun e w' => e = .returned (.bool (decide (knownE E.ats))) ∧ Ext w w' := by
  obtain ⟨VV, hVV⟩ : ∃ V, V = valsS E.ats ocB := ⟨_, rfl⟩
  have hvv : ∀ {wx : World}, Ext w wx → Calls Try.prog 14 #[.agg #[vd, va], .string ⟨#[111, 98, 106, 101, 99, 116, 99, 108, 97, 115, 115]⟩] wx fun e' w' => ∃ v', e' = .returned v' ∧ Own w' 9 v' (VV.map sv) ∧ Ext wx w' := fun {wx} x => by
    have h := vals14_any (e := E) (typ := ocB) (hd.ext x) (ha.ext x) hw (by decide)
    rw [oc_fold] at h
    rw [hVV]
    exact h
  have hVm : ∀ v, v ∈ VV ↔ ∃ a ∈ E.ats, fo a = ocB ∧ v ∈ a.vals := fun v => by rw [hVV]; exact mem_valsS
  have hVl : VV.length ≤ 1000000 := by have := selE_len ocB E.ats; rw [hVV]; show (E.ats.flatMap (selE ocB)).length ≤ _; unfold wE at hw; omega
  replace hVV := Lib.hid hVV
  replace hVm := Lib.hid hVm
  have hwa : wA E.ats ≤ 1000000 := by unfold wE at hw; omega
  have hgl := wA_ge E.ats
  have hfm : ∀ x ∈ E.ats, x.typ.length ≤ 1000000 ∧ x.vals.length ≤ 1000000 ∧ ∀ u ∈ x.vals, u.length ≤ 1000000 := fun x hx => by
    have h1 := wA_mem hx
    have h2 := wV_ge x.vals
    exact ⟨by omega, by omega, fun u hu => by have := wV_mem hu; omega⟩
  have hax := fun {wx : World} (x : Ext w wx) => (ha.ext x).open_
  obtain ⟨A, c, hva, -⟩ := ha.open_
  obtain ⟨A0, c0, hvd⟩ := Rc.shape hd
  obtain ⟨m, hm⟩ : ∃ n, n = E.ats.length := ⟨_, rfl⟩
  obtain ⟨m0, hm0⟩ : ∃ n, n = E.dn.length := ⟨_, rfl⟩
  rw [← hm] at hva hgl
  rw [← hm0] at hvd
  subst hva
  subst hvd
  have hM : m ≤ 1000000 := by omega
  obtain ⟨w1, hw1⟩ : ∃ x, x = w.alloc (.cells #[.slice A0 m0 c0, .slice A m c] 31) := ⟨_, rfl⟩
  obtain ⟨p, hp⟩ : ∃ p, p = w.heap.size := ⟨_, rfl⟩
  have x1 : Ext w w1 := by rw [hw1]; exact (Mod.refl _ w).alloc _
  have BP : Blk w1 p 31 #[.slice A0 m0 c0, .slice A m c] := by rw [hw1, hp]; exact Blk.new w _ _
  have hpc : ∀ {wx : World}, Ext w1 wx → wx.cell? ⟨p, 1, none⟩ = some (.slice A m c) := fun x => (BP.mod x (fun h => h)).cell 1
  have hpd : ∀ {wx : World}, Ext w1 wx → wx.cell? ⟨p, 0, none⟩ = some (.slice A0 m0 c0) := fun x => (BP.mod x (fun h => h)).cell 0
  replace hm := Lib.hid hm
  replace hm0 := Lib.hid hm0
  replace hw1 := Lib.hid hw1
  replace hp := Lib.hid hp
  clear BP hw
  have p3 := hpc (Mod.refl _ w1)
  have hcell : ∀ {wx : World}, Ext w1 wx → wx.cell? ⟨p, 0, none⟩ = some (.slice A0 m0 c0) ∧ wx.cell? ⟨p, 1, none⟩ = some (.slice A m c) := fun x => ⟨hpd x, hpc x⟩
  go_enter Try.func26, Try.ntmps26
  go_upto_region 1 with fail
  rw [← hw1.out, ← hp.out]
  clear hw1 hp
  go_wp2_with fail
  go_loopw [3] (fun i wr => ∃ k : Nat, k ≤ m ∧ i = .int .i64 k ∧ Hid (∀ a ∈ E.ats.take k, (lk ⟨(fo a).toArray⟩ tyD).isSome = true) ∧ Ext w1 wr) (fun i _ => m - (intOf i).toNat)
  case atStart => exact ⟨0, Nat.zero_le _, rfl, Lib.hid (fun a ha => by cases ha), Mod.refl _ _⟩
  case round =>
    clear p3
    obtain ⟨k, hk, rfl, hkd, hx⟩ := hrel
    obtain ⟨p4, p3⟩ := hcell hx
    by_cases hlt : k < m
    case pos =>
      have hbl : decide ((k : Int) < (m : Int)) = true := dtrueI (by omega)
      have hbn : decide (k < m) = true := dtrueI (by omega)
      have l1 : k < E.ats.length := by have := hm.out; omega
      obtain ⟨A', c', hv, hat⟩ := hax (Mod.refl _ w)
      obtain ⟨ad, y, hA, a0w, a1w, hy⟩ := hat k l1
      have a0 := ext_cell (ext_trans x1 hx) a0w
      clear a0w a1w
      injection hv with hv1 hvl hv3
      clear hvl
      subst hv1
      subst hv3
      subst hA
      have hfx := hfm _ (List.getElem_mem l1)
      have hxm : E.ats[k] ∈ E.ats := List.getElem_mem l1
      have htk : E.ats.take (k + 1) = E.ats.take k ++ [E.ats[k]] := List.take_succ_eq_append_getElem l1
      generalize E.ats[k] = x at *
      have hi0 : (0 : Int) ≤ (k : Int) := by omega
      have hi1 : (k : Int) < (m : Int) := by omega
      clear hat l1 hy
      have hf1 := rtype_any (w := wr) (s := x.typ) (by have := hfx.1; omega)
      obtain ⟨ok, hok⟩ : ∃ q, q = (lk ⟨(foldB x.typ).toArray⟩ tyD).isSome := ⟨_, rfl⟩
      rw [← hok] at hf1
      replace hok := Lib.hid hok
      generalize oneV (foldB x.typ) = oq at *
      go_wp2_with fail
      refine hf1.mono ?_
      rintro e' w4 ⟨t9, n9, rfl, -, x4⟩
      clear hf1
      have y4 := ext_trans hx x4
      cases ok
      case false =>
        have hbad : Hid (decide (knownE E.ats) = false) := Lib.hid (dfalseI fun q => by
          have := (q x hxm).1
          rw [← hok.out] at this
          cases this)
        clear hkd htk
        go_wp2_with fail
        go_ret
        exact ⟨by rw [hbad.out]; rfl, ext_trans x1 y4⟩
      have hk2 : Hid (∀ a ∈ E.ats.take (k + 1), (lk ⟨(fo a).toArray⟩ tyD).isSome = true) := Lib.hid (by
        rw [htk]
        intro a ha
        rcases List.mem_append.1 ha with r | r
        · exact hkd.out a r
        · rw [List.mem_singleton.1 r]; exact hok.out.symm)
      clear hkd htk
      go_wp2_with fail
      exact ⟨⟨k + 1, by omega, by go_num, hk2, y4⟩, by simp [intOf] <;> omega⟩
    have hbl : decide ((k : Int) < (m : Int)) = false := dfalseI (by omega)
    have hbn : decide (k < m) = false := dfalseI (by omega)
    have hE : E.ats.take k = E.ats := List.take_of_length_le (by have := hm.out; omega)
    rw [hE] at hkd
    clear hE
    have hc9 := hvv (ext_trans x1 hx)
    go_wp2_with fail
    refine hc9.mono ?_
    rintro e' w5 ⟨v5, rfl, o5, x5⟩
    clear hc9
    have y5 := ext_trans hx x5
    have hs5 := o5.sl
    obtain ⟨Av, cv, hv5, -⟩ := Sl.open_ hs5
    obtain ⟨nv, hnv⟩ : ∃ n, n = VV.length := ⟨_, rfl⟩
    rw [← hnv] at hv5 hVl
    subst hv5
    replace hnv := Lib.hid hnv
    clear o5 p3 p4
    go_wp2_with fail
    go_loopw [9] (fun i wr => ∃ j : Nat, j ≤ nv ∧ i = .int .i64 j ∧ Hid (∀ v ∈ VV.take j, (clP (foldB v)).isSome = true) ∧ Ext w5 wr) (fun i _ => nv - (intOf i).toNat)
    case atStart => exact ⟨0, Nat.zero_le _, rfl, Lib.hid (fun a ha => by cases ha), Mod.refl _ _⟩
    case round =>
      obtain ⟨j, hj, rfl, hjn, hxq⟩ := hrel
      by_cases hjl : j < nv
      case neg =>
        have hbj : decide ((j : Int) < (nv : Int)) = false := dfalseI (by omega)
        have hbj' : decide (j < nv) = false := dfalseI (by omega)
        have hE : VV.take j = VV := List.take_of_length_le (by have := hnv.out; omega)
        rw [hE] at hjn
        have hres : Hid (decide (knownE E.ats) = true) := Lib.hid (dtrueI fun a ha => ⟨hkd.out a ha, fun q v hv => hjn.out v ((hVm.out v).2 ⟨a, ha, q, hv⟩)⟩)
        clear hE hjn hkd
        go_wp2_with fail
        go_ret
        exact ⟨by rw [hres.out]; rfl, ext_trans x1 (ext_trans y5 hxq)⟩
      have hbj : decide ((j : Int) < (nv : Int)) = true := dtrueI (by omega)
      have hbj' : decide (j < nv) = true := dtrueI (by omega)
      have l2 : j < VV.length := by have := hnv.out; omega
      obtain ⟨Az, cz, hvz, -, -, -, hcz⟩ := Sl.open_ (hs5.ext hxq)
      injection hvz with e1 e2 e3
      subst e1
      subst e3
      clear e2
      obtain ⟨ad2, hA2, -, c2⟩ := Cells.at_ hcz l2
      subst hA2
      have htk : VV.take (j + 1) = VV.take j ++ [VV[j]] := List.take_succ_eq_append_getElem l2
      have hum : VV[j] ∈ VV := List.getElem_mem l2
      generalize VV[j] = u at *
      obtain ⟨a9, ha9, hf9, hv9⟩ := (hVm.out u).1 hum
      have hf3 := rclass_any (w := wr) (s := u) (by have := (hfm a9 ha9).2.2 u hv9; omega)
      have hj0 : (0 : Int) ≤ (j : Int) := by omega
      have hj1 : (j : Int) < (nv : Int) := by omega
      replace htk := Lib.hid htk
      clear hcz
      go_wp2_with fail
      refine hf3.mono ?_
      rintro e' w6 ⟨hcr, x6⟩
      have y6 := ext_trans hxq x6
      clear hf3 c2
      cases hcl : clP (foldB u) with
      | none =>
        rw [hcl] at hcr
        obtain rfl : e' = .returned (.tuple #[.slice none 0 0, .slice none 0 0, .bool false]) := hcr
        have hres : Hid (decide (knownE E.ats) = false) := Lib.hid (dfalseI fun q => by
          have := (q a9 ha9).2 hf9 u hv9
          rw [hcl] at this
          cases this)
        clear hkd hjn hcl
        go_wp2_with fail
        go_ret
        exact ⟨by rw [hres.out]; rfl, ext_trans x1 (ext_trans y5 y6)⟩
      | some c9 =>
        rw [hcl] at hcr
        obtain ⟨vx, vy, rfl, -, -⟩ := hcr
        have hjn2 : Hid (∀ v ∈ VV.take (j + 1), (clP (foldB v)).isSome = true) := Lib.hid (by
          rw [htk.out]
          intro v hv
          rcases List.mem_append.1 hv with r | r
          · exact hjn.out v r
          · rw [List.mem_singleton.1 r, hcl]; rfl)
        clear hjn hcl
        go_wp2_with fail
        exact ⟨⟨j + 1, by omega, by go_num, hjn2, y6⟩, by simp [intOf] <;> omega⟩
end Go.Proofs.Ytdfjldlfimbimaa
