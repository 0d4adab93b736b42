/- schema: whether an entry may be. -/
import Derived.Test.YtdfjldlfimbimaaScG
namespace Go.Proofs.Ytdfjldlfimbimaa
open Go.RowKit
set_option maxRecDepth 100000

theorem clD_small (v : List UInt8) : (clD v).1.length + (clD v).2.length ≤ 100 ∧ ∀ t ∈ letC (clD v), t.length ≤ 1000 := by
  have hall : ∀ c ∈ clTab.map (·.2), c.1.length + c.2.length ≤ 100 ∧ ∀ t ∈ letC c, t.length ≤ 1000 := by decide
  have hin : ∀ (C : List (List UInt8 × Tx × Tx)) (k : List UInt8) (c : Tx × Tx), clIn C k = some c → c ∈ C.map (·.2) := by
    intro C k c
    induction C with
    | nil => intro h; cases h
    | cons p C ih =>
      intro h
      unfold clIn at h
      by_cases e : k = p.1
      · rw [if_pos e] at h
        rw [← Option.some.inj h]
        exact List.mem_cons_self ..
      · rw [if_neg e] at h
        exact List.mem_cons_of_mem _ (ih h)
  unfold clD
  cases h : clP (foldB v) with
  | none => exact ⟨by decide, fun t ht => by cases ht⟩
  | some c => exact hall c (hin _ _ _ h)
theorem named_small (L : List Att) : ∀ c ∈ namedE L, c.1.length + c.2.length ≤ 100 ∧ ∀ t ∈ letC c, t.length ≤ 1000 := fun c hc => by
  obtain ⟨v, _, rfl⟩ := List.mem_map.1 hc
  exact clD_small v
theorem named_len (L : List Att) : (namedE L).length ≤ wA L := by
  rw [List.length_map]
  exact selE_len ocB L
set_option maxHeartbeats 32000000 in
theorem check_any {w : World} {vd va : Value} {E : Ent} (hd : As w AllE vd E.dn) (ha : Ats w va E.ats) (hw : wE E ≤ 1000000) :
    Calls Try.prog 12 #[.agg #[vd, va]] w fun e w' => e = .returned (.int .i64 (chkE E)) ∧ Ext w w' := by
  have hw2 := hw
  have hwa : wA E.ats ≤ 1000000 := by unfold wE at hw; omega
  have hgl := wA_ge E.ats
  have hfm : ∀ x ∈ E.ats, x.typ.length ≤ 1000000 ∧ x.vals.length ≤ 1000000 ∧ ∀ u ∈ x.vals, u.length ≤ 1000000 := fun x hx => by
    have h1 := wA_mem hx
    have h2 := wV_ge x.vals
    exact ⟨by omega, by omega, fun u hu => by have := wV_mem hu; omega⟩
  have hax := fun {wx : World} (x : Ext w wx) => (ha.ext x).open_
  obtain ⟨A, c, hva, -⟩ := ha.open_
  obtain ⟨A0, c0, hvd⟩ := Rc.shape hd
  obtain ⟨m, hm⟩ : ∃ n, n = E.ats.length := ⟨_, rfl⟩
  obtain ⟨m0, hm0⟩ : ∃ n, n = E.dn.length := ⟨_, rfl⟩
  rw [← hm] at hva hgl
  rw [← hm0] at hvd
  subst hva
  subst hvd
  have hM : m ≤ 1000000 := by omega
  obtain ⟨w1, hw1⟩ : ∃ x, x = w.alloc (.cells #[.slice A0 m0 c0, .slice A m c] 31) := ⟨_, rfl⟩
  obtain ⟨p, hp⟩ : ∃ p, p = w.heap.size := ⟨_, rfl⟩
  have x1 : Ext w w1 := by rw [hw1]; exact (Mod.refl _ w).alloc _
  have BP : Blk w1 p 31 #[.slice A0 m0 c0, .slice A m c] := by rw [hw1, hp]; exact Blk.new w _ _
  have hpc : ∀ {wx : World}, Ext w1 wx → wx.cell? ⟨p, 1, none⟩ = some (.slice A m c) := fun x => (BP.mod x (fun h => h)).cell 1
  have hpd : ∀ {wx : World}, Ext w1 wx → wx.cell? ⟨p, 0, none⟩ = some (.slice A0 m0 c0) := fun x => (BP.mod x (fun h => h)).cell 0
  replace hm := Lib.hid hm
  replace hm0 := Lib.hid hm0
  replace hw1 := Lib.hid hw1
  replace hp := Lib.hid hp
  clear BP hw
  have hk := fun {wx : World} (x : Ext w wx) => sknown_any (E := E) (hd.ext x) (ha.ext x) hw2
  have hct := fun {wx : World} (x : Ext w wx) => scounted_any (E := E) (hd.ext x) (ha.ext x) hw2
  have hak := fun {wx : World} {v : Value} {B : Nat} (x : Ext w wx) (h : NmAt wx B v (namedE E.ats)) => sasked_any (E := E) (hd.ext x) (ha.ext x) hw2 h (by have := named_len E.ats; omega) (named_small _)
  have hnm0 : ∀ {wx : World}, 0 < m0 → Ext w wx → Calls Try.prog 25 #[.agg #[.slice A0 m0 c0, .slice A m c]] wx fun e w' => e = .returned (.bool (decide (nameE E.dn E.ats))) ∧ Ext wx w' := by
    intro wx h x
    cases hdn : E.dn with
    | nil => have := hm0.out; rw [hdn] at this; simp at this; omega
    | cons P0 D0 =>
      have := shasName_any hdn (hd.ext x) (ha.ext x) hw2
      rw [hdn] at this
      exact this
  have hcell : ∀ {wx : World}, Ext w1 wx → wx.cell? ⟨p, 0, none⟩ = some (.slice A0 m0 c0) ∧ wx.cell? ⟨p, 1, none⟩ = some (.slice A m c) := fun x => ⟨hpd x, hpc x⟩
  obtain ⟨b0, b1⟩ := hcell (Mod.refl _ w1)
  go_enter Try.func12, Try.ntmps12
  go_upto_region 1 with fail
  rw [← hw1.out, ← hp.out]
  clear hw1 hp
  go_wp2_with fail
  refine (hk x1).mono ?_
  rintro e w2 ⟨hkr, x2⟩
  have y2 := ext_trans x1 x2
  rcases hkr with ⟨hkn, rfl⟩ | ⟨hkn, vn, B, rfl, hNm⟩
  case inl =>
    have hres : Hid (chkE E = 17) := Lib.hid (by unfold chkE; rw [if_pos hkn])
    clear hkn b0 b1
    go_wp2_with fail
    go_ret
    exact ⟨by rw [hres.out]; rfl, y2⟩
  clear b0 b1
  obtain ⟨b0, b1⟩ := hcell x2
  obtain ⟨An, cn, hvn, -⟩ := hNm.open_
  obtain ⟨nl, hnl⟩ : ∃ n, n = (namedE E.ats).length := ⟨_, rfl⟩
  rw [← hnl] at hvn
  subst hvn
  have hnl2 : nl = (valsS E.ats ocB).length := by rw [hnl, List.length_map]
  replace hnl := Lib.hid hnl
  by_cases hz : nl = 0
  case pos =>
    have q1 : ((nl : Int) == 0) = true := by rw [beq_iff_eq]; omega
    have q2 : (nl == 0) = true := by rw [beq_iff_eq]; exact hz
    have hres : Hid (chkE E = 65) := Lib.hid (by
      unfold chkE
      rw [if_neg (Decidable.not_not.2 hkn), if_pos (List.eq_nil_of_length_eq_zero (by omega))])
    clear hkn hnl2 hNm
    replace hz := Lib.hid hz
    go_wp2_with fail
    go_ret
    exact ⟨by rw [hres.out]; rfl, y2⟩
  have q1 : ((nl : Int) == 0) = false := by rw [beq_eq_false_iff_ne]; omega
  have q2 : (nl == 0) = false := by rw [beq_eq_false_iff_ne]; exact hz
  have hne : valsS E.ats ocB ≠ [] := fun h => hz (by rw [hnl2, h]; rfl)
  replace hnl2 := Lib.hid hnl2
  replace hne := Lib.hid hne
  go_wp2_with fail
  refine (hct y2).mono ?_
  rintro e w3 ⟨rfl, x3⟩
  have y3 := ext_trans y2 x3
  have z3 := ext_trans x2 x3
  clear b0 b1
  obtain ⟨b0, b1⟩ := hcell z3
  by_cases hco : countsE E.ats
  case neg =>
    have hres : Hid (chkE E = 19) := Lib.hid (by
      unfold chkE
      rw [if_neg (Decidable.not_not.2 hkn), if_neg hne.out, if_pos hco])
    rw [dfalseI hco]
    clear hkn hco hNm
    go_wp2_with fail
    go_ret
    exact ⟨by rw [hres.out]; rfl, y3⟩
  rw [dtrueI hco]
  have hNm3 := hNm.ext x3
  go_wp2_with fail
  refine (hak y3 hNm3).mono ?_
  rintro e w4 ⟨rfl, x4⟩
  have y4 := ext_trans y3 x4
  have z4 := ext_trans z3 x4
  clear b0 b1 hNm hNm3
  obtain ⟨b0, b1⟩ := hcell z4
  by_cases has : askedE E.ats (namedE E.ats)
  case neg =>
    have hres : Hid (chkE E = 65) := Lib.hid (by
      unfold chkE
      rw [if_neg (Decidable.not_not.2 hkn), if_neg hne.out, if_neg (Decidable.not_not.2 hco), if_pos has])
    rw [dfalseI has]
    clear hkn hco has
    go_wp2_with fail
    go_ret
    exact ⟨by rw [hres.out]; rfl, y4⟩
  rw [dtrueI has]
  have hrest : Hid (chkE E = if ¬ nameE E.dn E.ats then 64 else 0) := Lib.hid (by
    unfold chkE
    rw [if_neg (Decidable.not_not.2 hkn), if_neg hne.out, if_neg (Decidable.not_not.2 hco), if_neg (Decidable.not_not.2 has)])
  clear hkn hco has
  by_cases hd0 : 0 < m0
  case neg =>
    have q3 : decide ((0 : Int) < (m0 : Int)) = false := dfalseI (by omega)
    have q4 : decide (0 < m0) = false := dfalseI hd0
    have hres : Hid (chkE E = 0) := Lib.hid (by
      rw [hrest.out, if_neg (Decidable.not_not.2 ?_)]
      have : E.dn = [] := List.eq_nil_of_length_eq_zero (by have := hm0.out; omega)
      rw [this]
      exact nameE_nil _)
    go_wp2_with fail
    go_ret
    exact ⟨by rw [hres.out]; rfl, y4⟩
  have q3 : decide ((0 : Int) < (m0 : Int)) = true := dtrueI (by omega)
  have q4 : decide (0 < m0) = true := dtrueI hd0
  go_wp2_with fail
  refine (hnm0 hd0 y4).mono ?_
  rintro e w5 ⟨rfl, x5⟩
  have y5 := ext_trans y4 x5
  by_cases hna : nameE E.dn E.ats
  case neg =>
    have hres : Hid (chkE E = 64) := Lib.hid (by rw [hrest.out, if_pos hna])
    rw [dfalseI hna]
    clear hna
    go_wp2_with fail
    go_ret
    exact ⟨by rw [hres.out]; rfl, y5⟩
  have hres : Hid (chkE E = 0) := Lib.hid (by rw [hrest.out, if_neg (Decidable.not_not.2 hna)])
  rw [dtrueI hna]
  clear hna
  go_wp2_with fail
  go_ret
  exact ⟨by rw [hres.out]; rfl, y5⟩
end Go.Proofs.Ytdfjldlfimbimaa
