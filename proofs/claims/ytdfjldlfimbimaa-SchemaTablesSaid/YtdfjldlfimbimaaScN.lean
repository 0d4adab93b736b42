/- schema: the document's Check; what the laws call. -/
import Derived.Test.YtdfjldlfimbimaaScM
namespace Go.Proofs.Ytdfjldlfimbimaa
open Go.RowKit
set_option maxRecDepth 100000

set_option maxHeartbeats 32000000 in
theorem rcheck_any {w : World} {vd va : Value} {E : Ent} (hd : As w AllE vd E.dn) (ha : Ats w va E.ats) (hw : wE E ≤ 1000000) :
    Calls Try.prog 13 #[.agg #[vd, va]] w fun e w' => e = .returned (.int .i64 (chkE E)) ∧ Ext w w' := by
  have hw2 := hw
  obtain ⟨VV, hVV⟩ : ∃ V, V = valsS E.ats ocB := ⟨_, rfl⟩
  have hvv : ∀ {wx : World}, Ext w wx → Calls Try.prog 14 #[.agg #[vd, va], .string ⟨#[111, 98, 106, 101, 99, 116, 99, 108, 97, 115, 115]⟩] wx fun e' w' => ∃ v', e' = .returned v' ∧ Own w' 9 v' (VV.map sv) ∧ Ext wx w' := fun {wx} x => by
    have h := vals14_any (e := E) (typ := ocB) (hd.ext x) (ha.ext x) hw (by decide)
    rw [oc_fold] at h
    rw [hVV]
    exact h
  replace hVV := Lib.hid hVV
  have hwa : wA E.ats ≤ 1000000 := by unfold wE at hw; omega
  have hgl := wA_ge E.ats
  have hfm : ∀ x ∈ E.ats, x.typ.length ≤ 1000000 ∧ x.vals.length ≤ 1000000 ∧ ∀ u ∈ x.vals, u.length ≤ 1000000 := fun x hx => by
    have h1 := wA_mem hx
    have h2 := wV_ge x.vals
    exact ⟨by omega, by omega, fun u hu => by have := wV_mem hu; omega⟩
  have hax := fun {wx : World} (x : Ext w wx) => (ha.ext x).open_
  obtain ⟨A, c, hva, -⟩ := ha.open_
  obtain ⟨A0, c0, hvd⟩ := Rc.shape hd
  obtain ⟨m, hm⟩ : ∃ n, n = E.ats.length := ⟨_, rfl⟩
  obtain ⟨m0, hm0⟩ : ∃ n, n = E.dn.length := ⟨_, rfl⟩
  rw [← hm] at hva hgl
  rw [← hm0] at hvd
  subst hva
  subst hvd
  have hM : m ≤ 1000000 := by omega
  obtain ⟨w1, hw1⟩ : ∃ x, x = w.alloc (.cells #[.slice A0 m0 c0, .slice A m c] 31) := ⟨_, rfl⟩
  obtain ⟨p, hp⟩ : ∃ p, p = w.heap.size := ⟨_, rfl⟩
  have x1 : Ext w w1 := by rw [hw1]; exact (Mod.refl _ w).alloc _
  have BP : Blk w1 p 31 #[.slice A0 m0 c0, .slice A m c] := by rw [hw1, hp]; exact Blk.new w _ _
  have hpc : ∀ {wx : World}, Ext w1 wx → wx.cell? ⟨p, 1, none⟩ = some (.slice A m c) := fun x => (BP.mod x (fun h => h)).cell 1
  have hpd : ∀ {wx : World}, Ext w1 wx → wx.cell? ⟨p, 0, none⟩ = some (.slice A0 m0 c0) := fun x => (BP.mod x (fun h => h)).cell 0
  replace hm := Lib.hid hm
  replace hm0 := Lib.hid hm0
  replace hw1 := Lib.hid hw1
  replace hp := Lib.hid hp
  clear BP hw
  have hk := fun {wx : World} (x : Ext w wx) => rknown_any (E := E) (hd.ext x) (ha.ext x) hw2
  have hct := fun {wx : World} (x : Ext w wx) => rcounts_any (E := E) (hd.ext x) (ha.ext x) hw2
  have hcl := fun {wx : World} (h1 : knownE E.ats) (h2 : countsE E.ats) (x : Ext w wx) => rclasses_any (E := E) (hd.ext x) (ha.ext x) hw2 h1 h2
  have hnm0 : ∀ {wx : World}, knownE E.ats → Ext w wx → Calls Try.prog 29 #[.agg #[.slice A0 m0 c0, .slice A m c]] wx fun e w' => e = .returned (.bool (decide (nameE E.dn E.ats))) ∧ Ext wx w' := by
    intro wx h x
    cases hdn : E.dn with
    | nil =>
      have := rnamed_nil hdn (hd.ext x) (ha.ext x) hw2
      rw [dtrueI (nameE_nil E.ats)]
      exact this
    | cons P0 D0 =>
      have := rnamed_any hdn (hd.ext x) (ha.ext x) hw2 h
      rw [hdn] at this
      exact this
  have hcell : ∀ {wx : World}, Ext w1 wx → wx.cell? ⟨p, 0, none⟩ = some (.slice A0 m0 c0) ∧ wx.cell? ⟨p, 1, none⟩ = some (.slice A m c) := fun x => ⟨hpd x, hpc x⟩
  obtain ⟨b0, b1⟩ := hcell (Mod.refl _ w1)
  go_enter Try.func13, Try.ntmps13
  go_upto_region 1 with fail
  rw [← hw1.out, ← hp.out]
  clear hw1 hp
  go_wp2_with fail
  refine (hk x1).mono ?_
  rintro e w2 ⟨rfl, x2⟩
  have y2 := ext_trans x1 x2
  by_cases hkn : knownE E.ats
  case neg =>
    have hres : Hid (chkE E = 17) := Lib.hid (by unfold chkE; rw [if_pos hkn])
    rw [dfalseI hkn]
    clear hkn b0 b1
    go_wp2_with fail
    go_ret
    exact ⟨by rw [hres.out]; rfl, y2⟩
  rw [dtrueI hkn]
  clear b0 b1
  obtain ⟨b0, b1⟩ := hcell x2
  go_wp2_with fail
  refine (hvv y2).mono ?_
  rintro e w3 ⟨v3, rfl, o3, x3⟩
  obtain ⟨A3, n3, c3, rfl, hn3⟩ : ∃ A n c, v3 = .slice A n c ∧ n = VV.length := (Sl.open_ o3.sl).elim fun A h => h.elim fun c h => ⟨A, _, c, h.1, rfl⟩
  have z3 := ext_trans x2 x3
  have y3 := ext_trans y2 x3
  clear b0 b1 o3
  obtain ⟨b0, b1⟩ := hcell z3
  replace hn3 := Lib.hid hn3
  by_cases hz : n3 = 0
  case pos =>
    have q1 : ((n3 : Int) == 0) = true := by rw [beq_iff_eq]; omega
    have q2 : (n3 == 0) = true := by rw [beq_iff_eq]; exact hz
    have hres : Hid (chkE E = 65) := Lib.hid (by
      unfold chkE
      rw [if_neg (Decidable.not_not.2 hkn), if_pos (by rw [← hVV.out]; exact List.eq_nil_of_length_eq_zero (by rw [← hn3.out]; exact hz))])
    clear hkn
    replace hz := Lib.hid hz
    go_wp2_with fail
    go_ret
    exact ⟨by rw [hres.out]; rfl, y3⟩
  have q1 : ((n3 : Int) == 0) = false := by rw [beq_eq_false_iff_ne]; omega
  have q2 : (n3 == 0) = false := by rw [beq_eq_false_iff_ne]; exact hz
  have hne : Hid (valsS E.ats ocB ≠ []) := Lib.hid fun h => hz (by rw [hn3.out, hVV.out, h]; rfl)
  replace hz := Lib.hid hz
  go_wp2_with fail
  refine (hct y3).mono ?_
  rintro e w4 ⟨rfl, x4⟩
  have z4 := ext_trans z3 x4
  have y4 := ext_trans y3 x4
  clear b0 b1
  obtain ⟨b0, b1⟩ := hcell z4
  by_cases hco : countsE E.ats
  case neg =>
    have hres : Hid (chkE E = 19) := Lib.hid (by
      unfold chkE
      rw [if_neg (Decidable.not_not.2 hkn), if_neg hne.out, if_pos hco])
    rw [dfalseI hco]
    clear hkn hco
    go_wp2_with fail
    go_ret
    exact ⟨by rw [hres.out]; rfl, y4⟩
  rw [dtrueI hco]
  have hcl4 := hcl hkn hco y4
  go_wp2_with fail
  refine hcl4.mono ?_
  rintro e w5 ⟨rfl, x5⟩
  have z5 := ext_trans z4 x5
  have y5 := ext_trans y4 x5
  clear b0 b1 hcl4
  obtain ⟨b0, b1⟩ := hcell z5
  by_cases has : askedE E.ats (namedE E.ats)
  case neg =>
    have hres : Hid (chkE E = 65) := Lib.hid (by
      unfold chkE
      rw [if_neg (Decidable.not_not.2 hkn), if_neg hne.out, if_neg (Decidable.not_not.2 hco), if_pos has])
    rw [dfalseI has]
    clear hkn hco has
    go_wp2_with fail
    go_ret
    exact ⟨by rw [hres.out]; rfl, y5⟩
  rw [dtrueI has]
  have hrest : Hid (chkE E = if ¬ nameE E.dn E.ats then 64 else 0) := Lib.hid (by
    unfold chkE
    rw [if_neg (Decidable.not_not.2 hkn), if_neg hne.out, if_neg (Decidable.not_not.2 hco), if_neg (Decidable.not_not.2 has)])
  have hnm5 := hnm0 hkn y5
  clear hkn hco has
  go_wp2_with fail
  refine hnm5.mono ?_
  rintro e w6 ⟨rfl, x6⟩
  have y6 := ext_trans y5 x6
  clear hnm5
  by_cases hna : nameE E.dn E.ats
  case neg =>
    have hres : Hid (chkE E = 64) := Lib.hid (by rw [hrest.out, if_pos hna])
    rw [dfalseI hna]
    clear hna
    go_wp2_with fail
    go_ret
    exact ⟨by rw [hres.out]; rfl, y6⟩
  have hres : Hid (chkE E = 0) := Lib.hid (by rw [hrest.out, if_neg (Decidable.not_not.2 hna)])
  rw [dtrueI hna]
  clear hna
  go_wp2_with fail
  go_ret
  exact ⟨by rw [hres.out]; rfl, y6⟩
theorem wD_snoc (L : List Av) {k : Nat} (h : k < L.length) : wD (L.take (k + 1)) = wD (L.take k) + (1 + L[k].1.length + L[k].2.length) := by
  unfold wD
  rw [List.take_succ_eq_append_getElem h, List.map_append, List.sum_append]
  simp
theorem wA_snoc (L : List Att) {k : Nat} (h : k < L.length) : wA (L.take (k + 1)) = wA (L.take k) + (1 + L[k].typ.length + wV L[k].vals) := by
  unfold wA
  rw [List.take_succ_eq_append_getElem h, List.map_append, List.sum_append]
  simp
theorem wV_snoc (L : List (List UInt8)) {k : Nat} (h : k < L.length) : wV (L.take (k + 1)) = wV (L.take k) + (1 + L[k].length) := by
  unfold wV
  rw [List.take_succ_eq_append_getElem h, List.map_append, List.sum_append]
  simp
theorem wD_take (L : List Av) (k : Nat) : wD (L.take k) ≤ wD L := by
  have := sumF_take aW L k
  rw [← wD_sum, ← wD_sum] at this
  exact this
theorem wA_take (L : List Att) (k : Nat) : wA (L.take k) ≤ wA L := by
  have := sumF_take atW L k
  rw [← wA_sum, ← wA_sum] at this
  exact this
theorem wV_take (L : List (List UInt8)) (k : Nat) : wV (L.take k) ≤ wV L := by
  have := sumF_take vW L k
  rw [← wV_sum, ← wV_sum] at this
  exact this
end Go.Proofs.Ytdfjldlfimbimaa
