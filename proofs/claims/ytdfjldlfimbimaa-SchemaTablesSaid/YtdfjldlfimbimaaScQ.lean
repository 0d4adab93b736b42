/- schema: the law Musts. -/
import Derived.Test.YtdfjldlfimbimaaScP
namespace Go.Proofs.Ytdfjldlfimbimaa
open Go.RowKit
set_option maxRecDepth 100000

theorem chk0 {E : Ent} : chkE E = 0 ↔ knownE E.ats ∧ valsS E.ats ocB ≠ [] ∧ countsE E.ats ∧ askedE E.ats (namedE E.ats) ∧ nameE E.dn E.ats := by
  unfold chkE
  by_cases h1 : knownE E.ats
  case neg => rw [if_pos h1]; exact ⟨fun h => by omega, fun h => absurd h.1 h1⟩
  rw [if_neg (Decidable.not_not.2 h1)]
  by_cases h2 : valsS E.ats ocB = []
  case pos => rw [if_pos h2]; exact ⟨fun h => by omega, fun h => absurd h2 h.2.1⟩
  rw [if_neg h2]
  by_cases h3 : countsE E.ats
  case neg => rw [if_pos h3]; exact ⟨fun h => by omega, fun h => absurd h.2.2.1 h3⟩
  rw [if_neg (Decidable.not_not.2 h3)]
  by_cases h4 : askedE E.ats (namedE E.ats)
  case neg => rw [if_pos h4]; exact ⟨fun h => by omega, fun h => absurd h.2.2.2.1 h4⟩
  rw [if_neg (Decidable.not_not.2 h4)]
  by_cases h5 : nameE E.dn E.ats
  case neg => rw [if_pos h5]; exact ⟨fun h => by omega, fun h => absurd h.2.2.2.2 h5⟩
  rw [if_neg (Decidable.not_not.2 h5)]
  exact ⟨fun _ => ⟨h1, h2, h3, h4, h5⟩, fun _ => rfl⟩
/-- An entry's attributes but those of a type. -/
abbrev lessA (L : List Att) (t : List UInt8) : List Att := L.filter fun a => !decide (fo a = t)
theorem lessA_fo {L : List Att} {t : List UInt8} : t ∉ (lessA L t).map fo := fun h => by
  obtain ⟨a, ha, e⟩ := List.mem_map.1 h
  have := (List.mem_filter.1 ha).2
  rw [e] at this
  simp at this
theorem lessA_vals {t F : List UInt8} (h : t ≠ F) : ∀ L : List Att, valsS (lessA L t) F = valsS L F
  | [] => rfl
  | a :: L => by
    have ih := lessA_vals h L
    show (lessA (a :: L) t).flatMap (selE F) = selE F a ++ L.flatMap (selE F)
    unfold lessA
    by_cases e : fo a = t
    · rw [List.filter_cons_of_neg (by simp [e])]
      have : selE F a = [] := by unfold selE; rw [if_neg (fun q => h (e.symm.trans q))]
      rw [this]
      exact ih
    · rw [List.filter_cons_of_pos (by simp [e]), List.flatMap_cons]
      exact congrArg _ ih
theorem musts_ne {E : Ent} {c : Tx × Tx} {t : List UInt8} (hc : c ∈ namedE E.ats) (ht : t ∈ c.1) : chkE ⟨E.dn, lessA E.ats t⟩ ≠ 0 := fun h => by
  obtain ⟨_, h2, _, h4, _⟩ := chk0.1 h
  by_cases e : t = ocB
  · subst e
    refine h2 ?_
    cases hq : valsS (lessA E.ats ocB) ocB with
    | nil => rfl
    | cons v l =>
      obtain ⟨a, ha, e, _⟩ := mem_valsS.1 (show v ∈ valsS (lessA E.ats ocB) ocB by rw [hq]; exact List.mem_cons_self ..)
      exact absurd (List.mem_map.2 ⟨a, ha, e⟩) lessA_fo
  · have hn : namedE (lessA E.ats t) = namedE E.ats := by
      show (valsS (lessA E.ats t) ocB).map clD = (valsS E.ats ocB).map clD
      rw [lessA_vals e]
    have h5 := h4.1 c (by rw [hn]; exact hc) t ht
    exact lessA_fo h5
theorem setc_mod (w : World) (g j : Nat) (p : Value) : Mod (fun k => k = g) w (w.setCell ⟨g, j, none⟩ p) := (Mod.refl (fun k => k = g) w).setCell (p := ⟨g, j, none⟩) (fun _ => rfl) p
theorem ownR_ne_blk {α : Type} {f : α → List Value} {n : Nat} {w : World} {e t : TypeId} {v : Value} {L : List α} {b : Nat} {cs : Array Value} (h : OwnR f n w e v L) (hb : Blk w b t cs) (hne : e ≠ t) {k : Nat} (hk : own v k) : k ≠ b := by
  rcases h.2 with ⟨rfl, _⟩ | ⟨g, cap, cur, rfl, _, hh, _⟩
  · cases hk
  · rintro rfl
    have hg : g = k := Option.some.inj hk
    subst hg
    have hc : w.heap[g]? = some (.cells cs t (0, 0)) := hb
    rw [hh] at hc
    injection hc with hc
    injection hc with _ hc
    exact hne hc
/-- A row of attributes, of its own, whose values lie below B. -/
def XAt (w : World) (B : Nat) (v : Value) (L : List Att) : Prop :=
  ∃ C : List AtV, OwnR atc 2 w 43 v C ∧ Fresh B v ∧ B ≤ w.heap.size ∧ C.length = L.length ∧ ∀ (i : Nat) (r : AtV) (a : Att), C[i]? = some r → L[i]? = some a → r.1 = a.typ ∧ Ts w (fun k => k < B) r.2 a.vals
theorem XAt.nil (w : World) {B : Nat} (hB : B ≤ w.heap.size) : XAt w B (.slice none 0 0) [] := ⟨[], OwnR.nil atc 2 w _, fresh_nil _ _ _, hB, rfl, fun i x n hx => by simp at hx⟩
theorem XAt.ext {w w' : World} {B : Nat} {v : Value} {L : List Att} (h : XAt w B v L) (hm : Ext w w') : XAt w' B v L := by
  obtain ⟨C, h1, h2, h3, h4, h5⟩ := h
  exact ⟨C, OwnR.ext h1 hm, h2, Nat.le_trans h3 hm.size, h4, fun i x n hx hn => ⟨(h5 i x n hx hn).1, (h5 i x n hx hn).2.ext hm⟩⟩
theorem XAt.ats {w : World} {B : Nat} {v : Value} {L : List Att} (h : XAt w B v L) : Ats w v L := by
  obtain ⟨C, h1, _, _, h4, h5⟩ := h
  exact ⟨C, (OwnR.rc h1).mono (fun _ _ _ => trivial), h4, fun k r a hr ha => ⟨(h5 k r a hr ha).1, (h5 k r a hr ha).2.mono (fun _ _ _ => trivial)⟩⟩
theorem XAt.more {w w' : World} {B : Nat} {v v' : Value} {L : List Att} {C : List AtV} {r : AtV} {a : Att} (f : Fresh B v) (hB : B ≤ w.heap.size) (hl : C.length = L.length) (hc : ∀ (i : Nat) (r : AtV) (a : Att), C[i]? = some r → L[i]? = some a → r.1 = a.typ ∧ Ts w (fun k => k < B) r.2 a.vals)
    (e1 : r.1 = a.typ) (t2 : Ts w (fun k => k < B) r.2 a.vals) (o : OwnR atc 2 w' 43 v' (C ++ [r])) (hm : Mod (own v) w w') (hn : Next w.heap.size v v') : XAt w' B v' (L ++ [a]) := by
  have ne : ∀ k, k < w.heap.size → k < B → ¬ own v k := fun k _ h q => by have := f k q; omega
  refine ⟨_, o, hn.fresh f hB, Nat.le_trans hB hm.size, by simp [hl], fun i y z hy hz => ?_⟩
  by_cases hi : i < C.length
  · rw [List.getElem?_append_left hi] at hy
    rw [List.getElem?_append_left (by omega)] at hz
    exact ⟨(hc i y z hy hz).1, (hc i y z hy hz).2.mod hm ne⟩
  · rw [List.getElem?_append_right (by omega)] at hy hz
    rw [hl] at hy
    obtain ⟨j, hj⟩ : ∃ j, i - L.length = j := ⟨_, rfl⟩
    rw [hj] at hy hz
    cases j with
    | zero =>
      obtain rfl := Option.some.inj hy
      obtain rfl := Option.some.inj hz
      exact ⟨e1, t2.mod hm ne⟩
    | succ j => cases hy
theorem XAt.far {w : World} {B g : Nat} {v : Value} {L : List Att} {cs : Array Value} (h : XAt w B v L) (hb : Blk w g 31 cs) (u : Value) (hg : B ≤ g) : XAt (w.setCell ⟨g, 1, none⟩ u) B v L := by
  obtain ⟨C, h1, h2, h3, h4, h5⟩ := h
  have m9 : Mod (fun b => b = g) w (w.setCell ⟨g, 1, none⟩ u) := setc_mod w g 1 u
  exact ⟨C, OwnR.mod h1 m9 (fun k hk e => ownR_ne_blk h1 hb (by decide) hk e), h2, by simpa using h3, h4, fun i r a hr ha => ⟨(h5 i r a hr ha).1, (h5 i r a hr ha).2.mod m9 (fun k _ (hk : k < B) e => by omega)⟩⟩
theorem lessA_w (t : List UInt8) : ∀ L : List Att, wA (lessA L t) ≤ wA L
  | [] => Nat.le_refl _
  | a :: L => by
    have ih := lessA_w t L
    have e : wA (a :: L) = 1 + a.typ.length + wV a.vals + wA L := rfl
    unfold lessA
    by_cases q : fo a = t
    · rw [List.filter_cons_of_neg (by simp [q])]
      exact Nat.le_trans ih (by omega)
    · rw [List.filter_cons_of_pos (by simp [q])]
      have e2 : wA (a :: lessA L t) = 1 + a.typ.length + wV a.vals + wA (lessA L t) := rfl
      show wA (a :: lessA L t) ≤ _
      omega
theorem i64_and10 (a : Int) : bits .and .i64 a 1023 = a % 1024 := by
  show IntKind.i64.wrap (((BitVec.ofInt 64 a &&& BitVec.ofInt 64 1023).toNat : Nat) : Int) = _
  rw [BitVec.toNat_and, show (BitVec.ofInt 64 1023).toNat = 2 ^ 10 - 1 by decide, Nat.and_two_pow_sub_one_eq_mod, BitVec.toNat_ofInt]
  have : 0 ≤ a % 18446744073709551616 := Int.emod_nonneg _ (by omega)
  have h2 : ((a % ((2 ^ 64 : Nat) : Int)).toNat : Int) = a % 18446744073709551616 := by
    rw [Int.toNat_of_nonneg (by exact this)]; rfl
  have h3 : (((a % ((2 ^ 64 : Nat) : Int)).toNat % 2 ^ 10 : Nat) : Int) = a % 1024 := by
    rw [Int.natCast_emod, h2]; omega
  rw [h3, IntKind.wrap_i64]
  omega
theorem tmod_at (z : Int) {n : Nat} (hn : 0 < n) : ∃ j : Nat, j < n ∧ Int.tmod (z % 1024) (n : Int) = (j : Int) := by
  have h1 := Int.emod_lt_of_pos (z % 1024) (show (0 : Int) < (n : Int) by omega)
  have h2 := Int.emod_nonneg (z % 1024) (show (n : Int) ≠ 0 by omega)
  refine ⟨((z % 1024) % (n : Int)).toNat, by omega, ?_⟩
  rw [Int.tmod_eq_emod_of_nonneg (by omega)]
  omega
theorem clD_must {v : List UInt8} (h : (clP (foldB v)).isSome = true) : 0 < (clD v).1.length := by
  have hall : ∀ c ∈ clTab.map (·.2), 0 < c.1.length := by decide
  have hin : ∀ (C : List (List UInt8 × Tx × Tx)) (k : List UInt8) (c : Tx × Tx), clIn C k = some c → c ∈ C.map (·.2) := by
    intro C k c
    induction C with
    | nil => intro h; cases h
    | cons p C ih =>
      intro h
      unfold clIn at h
      by_cases e : k = p.1
      · rw [if_pos e] at h
        rw [← Option.some.inj h]
        exact List.mem_cons_self ..
      · rw [if_neg e] at h
        exact List.mem_cons_of_mem _ (ih h)
  unfold clD
  cases hq : clP (foldB v) with
  | none => rw [hq] at h; cases h
  | some c => exact hall c (hin _ _ _ hq)
set_option maxHeartbeats 64000000 in
theorem lmusts_any {w : World} {vd va : Value} {E : Ent} {i : Int} (hd : As w AllE vd E.dn) (ha : Ats w va E.ats) (hw : wE E ≤ 2000000) (hi1 : -9223372036854775808 ≤ i) (hi2 : i ≤ 9223372036854775807) :
    Calls Try.prog 5 #[.agg #[vd, va], .int .i64 i] w fun e w' => e = .returned (.bool true) ∧ Ext w w' := by
  have hwa : wA E.ats ≤ 2000000 := by unfold wE at hw; omega
  have hgl := wA_ge E.ats
  have hfm : ∀ x ∈ E.ats, x.typ.length ≤ 2000000 ∧ x.vals.length ≤ 2000000 ∧ ∀ u ∈ x.vals, u.length ≤ 2000000 := fun x hx => by
    have h1 := wA_mem hx
    have h2 := wV_ge x.vals
    exact ⟨by omega, by omega, fun u hu => by have := wV_mem hu; omega⟩
  have hax := fun {wx : World} (x : Ext w wx) => (ha.ext x).open_
  obtain ⟨A, c, hva, -⟩ := ha.open_
  obtain ⟨A0, c0, hvd⟩ := Rc.shape hd
  obtain ⟨m, hm⟩ : ∃ n, n = E.ats.length := ⟨_, rfl⟩
  obtain ⟨m0, hm0⟩ : ∃ n, n = E.dn.length := ⟨_, rfl⟩
  rw [← hm] at hva hgl
  rw [← hm0] at hvd
  subst hva
  subst hvd
  have hM : m ≤ 2000000 := by omega
  obtain ⟨w1, hw1⟩ : ∃ x, x = w.alloc (.cells #[.slice A0 m0 c0, .slice A m c] 31) := ⟨_, rfl⟩
  obtain ⟨p, hp⟩ : ∃ p, p = w.heap.size := ⟨_, rfl⟩
  have x1 : Ext w w1 := by rw [hw1]; exact (Mod.refl _ w).alloc _
  have BP : Blk w1 p 31 #[.slice A0 m0 c0, .slice A m c] := by rw [hw1, hp]; exact Blk.new w _ _
  have hpc : ∀ {wx : World}, Ext w1 wx → wx.cell? ⟨p, 1, none⟩ = some (.slice A m c) := fun x => (BP.mod x (fun h => h)).cell 1
  have hpd : ∀ {wx : World}, Ext w1 wx → wx.cell? ⟨p, 0, none⟩ = some (.slice A0 m0 c0) := fun x => (BP.mod x (fun h => h)).cell 0
  replace hm := Lib.hid hm
  replace hm0 := Lib.hid hm0
  replace hw1 := Lib.hid hw1
  replace hp := Lib.hid hp
  clear BP
  have hhv := fun {wx : World} (x : Ext w wx) => heavy14_any (E := E) (hd.ext x) (ha.ext x) hw
  have hkn := known14_any
  have hcell : ∀ {wx : World}, Ext w1 wx → wx.cell? ⟨p, 0, none⟩ = some (.slice A0 m0 c0) ∧ wx.cell? ⟨p, 1, none⟩ = some (.slice A m c) := fun x => ⟨hpd x, hpc x⟩
  obtain ⟨b0, b1⟩ := hcell (Mod.refl _ w1)
  go_enter Try.func5, Try.ntmps5
  go_upto_region 1 with fail
  rw [← hw1.out, ← hp.out]
  clear hw1 hp
  go_wp2_with fail
  refine (hhv x1).mono ?_
  rintro e w2 ⟨q, rfl, hsm, x2⟩
  cases q
  case true =>
    go_wp2_with fail
    go_ret
    exact ⟨rfl, ext_trans x1 x2⟩
  have hw3 : wE E ≤ 3000 := hsm (by simp)
  have y2 := ext_trans x1 x2
  clear b0 b1 hhv hsm
  obtain ⟨b0, b1⟩ := hcell x2
  go_wp2_with fail
  refine (rcheck_any (E := E) (hd.ext y2) (ha.ext y2) (by omega)).mono ?_
  rintro e w3 ⟨rfl, x3⟩
  have y3 := ext_trans y2 x3
  have z3 := ext_trans x2 x3
  clear b0 b1
  obtain ⟨b0, b1⟩ := hcell z3
  by_cases hck : chkE E = 0
  case neg =>
    have q1 : (chkE E != 0) = true := by rw [bne_iff_ne]; exact hck
    generalize chkE E = cc at *
    replace hck := Lib.hid hck
    go_wp2_with fail
    go_ret
    exact ⟨rfl, y3⟩
  rw [hck]
  have h0 := chk0.1 hck
  obtain ⟨VV, hVV⟩ : ∃ V, V = valsS E.ats ocB := ⟨_, rfl⟩
  have hvv : Calls Try.prog 14 #[.agg #[.slice A0 m0 c0, .slice A m c], .string ⟨#[111, 98, 106, 101, 99, 116, 99, 108, 97, 115, 115]⟩] w3 fun e' w' => ∃ v', e' = .returned v' ∧ Own w' 9 v' (VV.map sv) ∧ Ext w3 w' := by
    have h := vals14_any (e := E) (typ := ocB) (hd.ext y3) (ha.ext y3) (by omega) (by decide)
    rw [oc_fold] at h
    rw [hVV]
    exact h
  have hVp : 0 < VV.length := by
    rw [hVV]
    exact List.length_pos_iff.2 h0.2.1
  have hVm : ∀ v, v ∈ VV → ∃ a ∈ E.ats, fo a = ocB ∧ v ∈ a.vals := fun v hv => mem_valsS.1 (by rw [← hVV]; exact hv)
  have hVl : VV.length ≤ 1000000 := by have := selE_len ocB E.ats; rw [hVV]; show (E.ats.flatMap (selE ocB)).length ≤ _; unfold wE at hw3; omega
  have hcD : ∀ v ∈ VV, clD v ∈ namedE E.ats := fun v hv => by
    show clD v ∈ (valsS E.ats ocB).map clD
    rw [← hVV]
    exact List.mem_map_of_mem hv
  replace hVV := Lib.hid hVV
  replace hck := Lib.hid hck
  replace h0 := Lib.hid h0
  have hand := i64_and10
  go_wp2_with fail
  refine hvv.mono ?_
  rintro e w4 ⟨v4, rfl, o4, x4⟩
  have y4 := ext_trans y3 x4
  have z4 := ext_trans z3 x4
  have hs4 := o4.sl
  obtain ⟨nv, hnv⟩ : ∃ n, n = VV.length := ⟨_, rfl⟩
  obtain ⟨Av, cv, hv4, -, -, -, hcv⟩ := Sl.open_ hs4
  rw [← hnv] at hv4 hVp hVl
  subst hv4
  obtain ⟨j1, hj1, hm1⟩ := tmod_at i hVp
  have l1 : j1 < VV.length := by omega
  obtain ⟨ad1, hA1, -, cV⟩ := Cells.at_ hcv l1
  subst hA1
  replace hnv := Lib.hid hnv
  have hum : VV[j1] ∈ VV := List.getElem_mem l1
  generalize VV[j1] = u at *
  obtain ⟨a9, ha9, hf9, hv9⟩ := hVm u hum
  have hul := (hfm a9 ha9).2.2 u hv9
  have hcs := (h0.out.1 a9 ha9).2 hf9 u hv9
  have hmp := clD_must hcs
  have hcD1 := hcD u hum
  have hmf := must_fold u
  obtain ⟨hsz1, hsz2⟩ := clD_small u
  have hf3 := rclass_any (w := w4) (s := u) (by omega)
  obtain ⟨cl9, hcl9⟩ : ∃ c, clP (foldB u) = some c := Option.isSome_iff_exists.1 hcs
  have hcd : clD u = cl9 := by unfold clD; rw [hcl9]; rfl
  rw [hcd] at hmp hcD1 hmf hsz1 hsz2
  simp only [hcl9] at hf3
  have hi0 : (0 : Int) ≤ (j1 : Int) := by omega
  have hi1' : (j1 : Int) < (nv : Int) := by omega
  have hnz : (nv : Int) ≠ 0 := by omega
  have jw : IntKind.i64.wrap (j1 : Int) = (j1 : Int) := by rw [IntKind.wrap_i64]; omega
  have hj1' := Lib.hid hj1
  clear hcv hcl9 hcd hvv hVm hcD hj1 b0 b1
  go_wp2_with fail
  refine hf3.mono ?_
  rintro e' w5 ⟨⟨vx, vy, rfl, tx, -⟩, x5⟩
  have y5 := ext_trans y4 x5
  have z5 := ext_trans z4 x5
  clear hf3 cV hm1 jw hnz hi0 hi1'
  obtain ⟨A5, c5, hvx, -, -, -, hcx⟩ := Sl.open_ tx
  obtain ⟨n5, hn5⟩ : ∃ n, n = cl9.1.length := ⟨_, rfl⟩
  rw [← hn5] at hvx hmp hsz1
  subst hvx
  obtain ⟨j2, hj2, hm2⟩ := tmod_at (i / 1024) hmp
  have l2 : j2 < cl9.1.length := by omega
  obtain ⟨ad5, hA5, -, cV⟩ := Cells.at_ hcx l2
  subst hA5
  have htm : cl9.1[j2] ∈ cl9.1 := List.getElem_mem l2
  have hne := musts_ne hcD1 htm
  have hTf := hmf _ htm
  generalize cl9.1[j2] = T at *
  have hi0 : (0 : Int) ≤ (j2 : Int) := by omega
  have hi1' : (j2 : Int) < (n5 : Int) := by omega
  have hnz : (n5 : Int) ≠ 0 := by omega
  have jw : IntKind.i64.wrap (j2 : Int) = (j2 : Int) := by rw [IntKind.wrap_i64]; omega
  obtain ⟨b0, b1⟩ := hcell z5
  replace hne := Lib.hid hne
  replace hTf := Lib.hid hTf
  clear hcx hcD1 hmf hn5 l2 hj2
  go_upto_region 6 with fail
  clear hm2 jw hnz hi0 hi1' cV hand
  obtain ⟨gx, hgx⟩ : ∃ g, g = w5.heap.size := ⟨_, rfl⟩
  obtain ⟨w6, hw6⟩ : ∃ x, x = w5.alloc (.cells #[.slice A0 m0 c0, .slice none 0 0] 31) := ⟨_, rfl⟩
  have x6 : Ext w5 w6 := by rw [hw6]; exact (Mod.refl _ w5).alloc _
  have BX6 : Blk w6 gx 31 #[.slice A0 m0 c0, .slice none 0 0] := by rw [hw6, hgx]; exact Blk.new w5 _ _
  have hgw : w5.heap.size ≤ gx := by omega
  have XA6 := XAt.nil w6 x6.size
  obtain ⟨B, hB⟩ : ∃ B, B = w5.heap.size := ⟨_, rfl⟩
  rw [← hB] at XA6
  have hBg : B ≤ gx := by omega
  have z6 := ext_trans z5 x6
  have hw56 := x6.size
  have hB5 : w5.heap.size ≤ B := by omega
  replace hw6 := Lib.hid hw6
  replace hgx := Lib.hid hgx
  clear hB
  go_upto_region 7 with fail
  rw [← hw6.out, ← hgx.out]
  clear hw6 hgx b0 b1
  obtain ⟨b0, b1⟩ := hcell z6
  go_wp2_with fail
  go_loopw [11] (fun iv wr => ∃ (k : Nat) (vx : Value), k ≤ m ∧ iv = .int .i64 k ∧ XAt wr B vx (lessA (E.ats.take k) T) ∧ Blk wr gx 31 #[.slice A0 m0 c0, vx] ∧ Ext w5 wr) (fun iv _ => m - (intOf iv).toNat)
  case atStart => exact ⟨0, _, Nat.zero_le _, rfl, XA6, BX6, x6⟩
  case round =>
    clear XA6 BX6 x6 z6 b0 b1
    obtain ⟨k, vx, hk, rfl, hXA, hBX, hx5⟩ := hrel
    have hx := ext_trans z5 hx5
    obtain ⟨b0, b1⟩ := hcell hx
    have h0' := h0.out
    by_cases hlt : k < m
    case neg =>
      have hbl : decide ((k : Int) < (m : Int)) = false := dfalseI (by omega)
      have hbn : decide (k < m) = false := dfalseI (by omega)
      have hE : E.ats.take k = E.ats := List.take_of_length_le (by have := hm.out; omega)
      rw [hE] at hXA
      clear hE h0'
      obtain ⟨Ax, nax, cx, rfl⟩ : ∃ A n c, vx = .slice A n c := by
        obtain ⟨C, o1, _⟩ := hXA
        obtain ⟨A, c, e⟩ := OwnR.shape o1
        exact ⟨A, _, c, e⟩
      go_wp2_with fail
      refine (check_any (E := E) (hd.ext (ext_trans x1 hx)) (ha.ext (ext_trans x1 hx)) (by omega)).mono ?_
      rintro e w8 ⟨rfl, x8⟩
      have hX8 := hXA.ext x8
      have B8 := hBX.mod x8 (fun h => h)
      have k0 : w8.cell? ⟨gx, 0, none⟩ = some (.slice A0 m0 c0) := B8.cell 0
      have k1 : w8.cell? ⟨gx, 1, none⟩ = some (.slice Ax nax cx) := B8.cell 1
      have hwX : wE (⟨E.dn, lessA E.ats T⟩ : Ent) ≤ 1000000 := by
        have := lessA_w T E.ats
        have e1 : wE E = wD E.dn + wA E.ats := rfl
        show wD E.dn + wA (lessA E.ats T) ≤ _
        omega
      have y8 := ext_trans (ext_trans x1 hx) x8
      have hcX := check_any (E := ⟨E.dn, lessA E.ats T⟩) (hd.ext y8) hX8.ats hwX
      have hq : (chkE ⟨E.dn, lessA E.ats T⟩ != 0) = true := by rw [bne_iff_ne]; exact hne.out
      rw [hck.out]
      generalize chkE ⟨E.dn, lessA E.ats T⟩ = cc at *
      clear hXA hBX hX8 B8
      go_wp2_with fail
      refine hcX.mono ?_
      rintro e w9 ⟨rfl, x9⟩
      go_wp2_with fail
      refine (hkn w9).mono ?_
      rintro e w10 ⟨rfl, x10⟩
      go_wp2_with fail
      go_ret
      exact ⟨rfl, ext_trans y8 (ext_trans x9 x10)⟩
    have hbl : decide ((k : Int) < (m : Int)) = true := dtrueI (by omega)
    have hbn : decide (k < m) = true := dtrueI (by omega)
    have l1 : k < E.ats.length := by have := hm.out; omega
    obtain ⟨A', c', hv, hat⟩ := hax (Mod.refl _ w)
    obtain ⟨ad, y, hA, a0w, a1w, hy⟩ := hat k l1
    injection hv with hv1 hvl hv3
    clear hvl
    subst hv1
    subst hv3
    subst hA
    have hfx := hfm _ (List.getElem_mem l1)
    have hxm : E.ats[k] ∈ E.ats := List.getElem_mem l1
    have htk : E.ats.take (k + 1) = E.ats.take k ++ [E.ats[k]] := List.take_succ_eq_append_getElem l1
    have hll : (lessA (E.ats.take k) T).length ≤ 2000000 := Nat.le_trans (List.length_filter_le _ _) (by rw [List.length_take]; omega)
    generalize E.ats[k] = x at *
    have hi0 : (0 : Int) ≤ (k : Int) := by omega
    have hi1 : (k : Int) < (m : Int) := by omega
    obtain ⟨Ay, cy, hvy, -, -, -, -⟩ := hy.open_
    obtain ⟨nx, hnx⟩ : ∃ n, n = x.vals.length := ⟨_, rfl⟩
    rw [← hnx] at hvy
    subst hvy
    replace hnx := Lib.hid hnx
    have hyB := hy.mono (T := fun k => k < w.heap.size) (fun k hk _ => hk)
    have hwB : w.heap.size ≤ B := by have := (ext_trans x1 z5).size; omega
    have hbk : ∀ {wx : World}, Ext w1 wx → wx.cell? ⟨p, 1, none⟩ = some (.slice (some ad) m c) ∧ wx.cell? (ad.add (k * 2)) = some (sv x.typ) ∧ wx.cell? ⟨(ad.add (k * 2)).block, (ad.add (k * 2)).off + 1, none⟩ = some (.slice Ay nx cy) := fun q => ⟨hpc q, ext_cell (ext_trans x1 q) a0w, ext_cell (ext_trans x1 q) a1w⟩
    obtain ⟨-, a0, a1⟩ := hbk hx
    have hty := rtype_any (w := wr) (s := x.typ) (by have := hfx.1; omega)
    have hks := (h0'.1 x hxm).1
    obtain ⟨G, hG⟩ : ∃ G, G = foldB x.typ := ⟨_, rfl⟩
    rw [← hG] at hty hks
    replace hG := Lib.hid hG
    generalize oneV G = oq at *
    replace htk := Lib.hid htk
    clear hat l1 h0'
    go_wp2_with fail
    refine hty.mono ?_
    rintro e' w7 ⟨t9, n9, rfl, ht9, x7⟩
    obtain rfl := ht9 hks
    have x57 := ext_trans hx5 x7
    have x17 := ext_trans hx x7
    have hX7 := hXA.ext x7
    have B7 := hBX.mod x7 (fun h => h)
    clear hty ht9 a0 a1 b0 b1 hXA hBX
    by_cases hGT : t9 = T
    case pos =>
      have q1 : (t9 != T) = false := by rw [bne_eq_false_iff_eq]; exact hGT
      have q2 : (t9 == T) = true := by rw [beq_iff_eq]; exact hGT
      have hle : Hid (lessA (E.ats.take (k + 1)) T = lessA (E.ats.take k) T) := Lib.hid (by
        rw [htk.out]
        unfold lessA
        rw [List.filter_append, List.filter_cons_of_neg (by simp [show fo x = T from hG.out.symm.trans hGT]), List.filter_nil, List.append_nil])
      replace hGT := Lib.hid hGT
      go_wp2_with fail
      exact ⟨⟨k + 1, vx, by omega, by go_num, by rw [hle.out]; exact hX7, B7, x57⟩, by simp [intOf] <;> omega⟩
    have q1 : (t9 != T) = true := by rw [bne_iff_ne]; exact hGT
    have q2 : (t9 == T) = false := by rw [beq_eq_false_iff_ne]; exact hGT
    have hle : Hid (lessA (E.ats.take (k + 1)) T = lessA (E.ats.take k) T ++ [x]) := Lib.hid (by
      rw [htk.out]
      unfold lessA
      rw [List.filter_append, List.filter_cons_of_pos (by simp [show fo x = t9 from hG.out.symm, hGT]), List.filter_nil])
    replace hGT := Lib.hid hGT
    obtain ⟨C, o7, f7, sB, lC, rC⟩ := hX7
    obtain ⟨Ax, nax, cx, rfl⟩ : ∃ A n c, vx = .slice A n c := by
      obtain ⟨A, c, e⟩ := OwnR.shape o7
      exact ⟨A, _, c, e⟩
    have hnC : (C.length + 1) * 40 ≤ 140737488355328 := by omega
    have r7 : Ext w1 w7.drew := x17.drew
    have x57d : Ext w5 w7.drew := x57.drew
    have hbkv : Ts w7.drew (fun k => k < B) (.slice Ay nx cy) x.vals := (hyB.ext (ext_trans x1 r7)).mono (fun q _ hq => Nat.lt_of_lt_of_le hq hwB)
    have B7d : Blk w7.drew gx 31 #[.slice A0 m0 c0, .slice Ax nax cx] := B7
    have o7d : OwnR atc 2 w7.drew 43 (.slice Ax nax cx) C := o7
    have sBd : B ≤ w7.drew.heap.size := sB
    have rCd : ∀ (i : Nat) (r : AtV) (a : Att), C[i]? = some r → (lessA (E.ats.take k) T)[i]? = some a → r.1 = a.typ ∧ Ts w7.drew (fun k => k < B) r.2 a.vals := rC
    clear B7 o7 sB rC hx5 x57 hx x17
    go_upto_region 12 with fail
    refine wp_region_held_drew (S := fun wx => wx.cell? ⟨p, 1, none⟩ = some (.slice (some ad) m c) ∧ wx.cell? (ad.add (k * 2)) = some (sv x.typ) ∧ wx.cell? ⟨(ad.add (k * 2)).block, (ad.add (k * 2)).off + 1, none⟩ = some (.slice Ay nx cy)) (by kernel_rfl) (hbk r7) (fun hH => ?_)
    generalize w7.drew = wD at *
    have k1 : wD.cell? ⟨gx, 1, none⟩ = some (.slice Ax nax cx) := B7d.cell 1
    have hrl : Ext w1 (wD.alloc (.cells #[sv x.typ, .slice Ay nx cy] 43)) := r7.alloc _
    have k2 : (wD.alloc (.cells #[sv x.typ, .slice Ay nx cy] 43)).cell? ⟨gx, 1, none⟩ = some (.slice Ax nax cx) := (B7d.alloc _).cell 1
    (refine wpAnyH_take (i := 0) (oi := ⟨_, _, _, _, _, _⟩) (v := ?tv801) rfl (by kernel_rfl) (by kernel_rfl) (by kernel_rfl) (fun _ _ _ h => h) (Or.inl ⟨by kernel_rfl, ?hy801⟩) hH ?rs801; (case hy801 => (intro wx hSw; (try dsimp only at hSw); go_simp; try with_reducible rfl)); try simp only [Act.put, List.setIfInBounds_toArray, List.set_cons_zero, List.set_cons_succ]; try simp only [List.getElem_toArray, List.getElem_cons_succ, List.getElem_cons_zero])
    (refine wpAnyH_take (i := 2) (oi := ⟨_, _, _, _, _, _⟩) (v := ?tv802) rfl (by kernel_rfl) (by kernel_rfl) (by kernel_rfl) (fun _ _ _ h => h) (Or.inl ⟨by kernel_rfl, ?hy802⟩) hH ?rs802; (case hy802 => (intro wx hSw; (try dsimp only at hSw); go_simp; try with_reducible rfl)); try simp only [Act.put, List.setIfInBounds_toArray, List.set_cons_zero, List.set_cons_succ]; try simp only [List.getElem_toArray, List.getElem_cons_succ, List.getElem_cons_zero])
    (refine wpAnyH_take (i := 3) (oi := ⟨_, _, _, _, _, _⟩) (v := ?tv803) rfl (by kernel_rfl) (by kernel_rfl) (by kernel_rfl) (fun _ _ _ h => h) (Or.inl ⟨by kernel_rfl, ?hy803⟩) hH ?rs803; (case hy803 => (intro wx hSw; (try dsimp only at hSw); go_simp; try with_reducible rfl)); try simp only [Act.put, List.setIfInBounds_toArray, List.set_cons_zero, List.set_cons_succ]; try simp only [List.getElem_toArray, List.getElem_cons_succ, List.getElem_cons_zero])
    (refine wpAnyH_take (i := 4) (oi := ⟨_, _, _, _, _, _⟩) (v := ?tv804) rfl (by kernel_rfl) (by kernel_rfl) (by kernel_rfl) (fun _ _ _ h => h) (Or.inl ⟨by kernel_rfl, ?hy804⟩) hH ?rs804; (case hy804 => (intro wx hSw; (try dsimp only at hSw); go_simp; try with_reducible rfl)); try simp only [Act.put, List.setIfInBounds_toArray, List.set_cons_zero, List.set_cons_succ]; try simp only [List.getElem_toArray, List.getElem_cons_succ, List.getElem_cons_zero])
    (refine wpAnyH_take (i := 5) (oi := ⟨_, _, _, _, _, _⟩) (v := ?tv805) rfl (by kernel_rfl) (by kernel_rfl) (by kernel_rfl) (fun _ _ _ h => h) (Or.inl ⟨by kernel_rfl, ?hy805⟩) hH ?rs805; (case hy805 => (intro wx hSw; (try dsimp only at hSw); go_simp; try with_reducible rfl)); try simp only [Act.put, List.setIfInBounds_toArray, List.set_cons_zero, List.set_cons_succ]; try simp only [List.getElem_toArray, List.getElem_cons_succ, List.getElem_cons_zero])
    (refine wpAnyH_take (i := 6) (oi := ⟨_, _, _, _, _, _⟩) (v := ?tv806) rfl (by kernel_rfl) (by kernel_rfl) (by kernel_rfl) (fun _ _ _ h => h) (Or.inl ⟨by kernel_rfl, ?hy806⟩) hH ?rs806; (case hy806 => (intro wx hSw; (try dsimp only at hSw); go_simp; try with_reducible rfl)); try simp only [Act.put, List.setIfInBounds_toArray, List.set_cons_zero, List.set_cons_succ]; try simp only [List.getElem_toArray, List.getElem_cons_succ, List.getElem_cons_zero])
    refine wpAnyH_ready (rs := [1, 7]) (by kernel_rfl) (by simp) ?_
    refine AllReadyH.cons rfl (fun K hK => ?g1) (AllReadyH.cons rfl (fun K hK => ?g2) AllReadyH.nil)
    case g1 =>
      go_simp
      (go_wp2_with fail; refine hK.out _ _ (hbk r7) (fun hH => ?_); clear hK K; try simp only [Act.put, List.setIfInBounds_toArray, List.set_cons_zero, List.set_cons_succ]; try simp only [List.getElem_toArray, List.getElem_cons_succ, List.getElem_cons_zero])
      refine wpAnyH_ready (rs := [7]) (by kernel_rfl) (by simp) ?_
      refine AllReadyH.cons rfl (fun K hK => ?_) AllReadyH.nil
      go_simp
      (go_wp2_with fail; refine hK.out _ _ (hbk hrl) (fun hH => ?_); clear hK K; try simp only [Act.put, List.setIfInBounds_toArray, List.set_cons_zero, List.set_cons_succ]; try simp only [List.getElem_toArray, List.getElem_cons_succ, List.getElem_cons_zero])
      refine wpAnyH_ready (rs := [8]) (by kernel_rfl) (by simp) ?_
      refine AllReadyH.cons rfl (fun K hK => ?_) AllReadyH.nil
      refine step_appR tyAt atc_len (x := (x.typ, .slice Ay nx cy)) o7d rfl atc_ok hnC rfl rfl (.tmp 73) (.tmp 79) rfl rfl rfl ?_
      intro vB wb kb1 kb2 kb3
      have qB := ext_app0 r7 (f7.mono (by have := z5.size; omega)) kb2
      have q5B := ext_app0 x57d (f7.mono hB5) kb2
      have BX9 := B7d.mod kb2 (fun h => ownR_ne_blk o7d B7d (by decide) h rfl)
      have hnew := XAt.more (a := x) f7 sBd lC rCd rfl hbkv kb1 kb2 kb3
      rw [← hle.out] at hnew
      (refine hK.out _ _ (hbk qB) (fun hH => ?_); clear hK K; try simp only [Act.put, List.setIfInBounds_toArray, List.set_cons_zero, List.set_cons_succ]; try simp only [List.getElem_toArray, List.getElem_cons_succ, List.getElem_cons_zero])
      (refine wpAnyH_take (i := 9) (oi := ⟨_, _, _, _, _, _⟩) (v := ?tv807) rfl (by kernel_rfl) (by kernel_rfl) (by kernel_rfl) (fun _ _ _ h => h) (Or.inl ⟨by kernel_rfl, ?hy807⟩) hH ?rs807; (case hy807 => (intro wx hSw; (try dsimp only at hSw); go_simp; try with_reducible rfl)); try simp only [Act.put, List.setIfInBounds_toArray, List.set_cons_zero, List.set_cons_succ]; try simp only [List.getElem_toArray, List.getElem_cons_succ, List.getElem_cons_zero])
      obtain ⟨Av, nv9, cv9, rfl⟩ : ∃ A n c, vB = .slice A n c := (OwnR.shape kb1).elim fun A h => h.elim fun c e => ⟨A, _, c, e⟩
      have f9 := Blk.frozen BX9 1
      have p9 : wb.cell? ⟨gx, 1, none⟩ = some (.slice Ax nax cx) := BX9.cell 1
      have m9 : Mod (fun b => b = gx) wb (wb.setCell ⟨gx, 1, none⟩ (.slice Av nv9 cv9)) := setc_mod wb gx 1 (.slice Av nv9 cv9)
      have q9 : Ext w1 (wb.setCell ⟨gx, 1, none⟩ (.slice Av nv9 cv9)) := qB.trans m9 (fun _ _ h => h) (fun b hb e => by have := z5.size; omega)
      have q59 : Ext w5 (wb.setCell ⟨gx, 1, none⟩ (.slice Av nv9 cv9)) := q5B.trans m9 (fun _ _ h => h) (fun b hb e => by omega)
      have BX10 := BX9.set_ 1 (.slice Av nv9 cv9)
      have hnew2 := XAt.far hnew BX9 (.slice Av nv9 cv9) hBg
      refine wpAnyH_ready (rs := [10]) (by kernel_rfl) (by simp) ?_
      refine AllReadyH.cons rfl (fun K hK => ?_) AllReadyH.nil
      go_simp
      (go_wp2_with fail; refine hK.out _ _ (hbk q9) (fun hH => ?_); clear hK K; try simp only [Act.put, List.setIfInBounds_toArray, List.set_cons_zero, List.set_cons_succ]; try simp only [List.getElem_toArray, List.getElem_cons_succ, List.getElem_cons_zero])
      refine wpAnyH_done (by kernel_rfl) ?_ _
      go_wp2_with fail
      exact ⟨⟨k + 1, _, by omega, by go_num, hnew2, BX10, q59⟩, by simp [intOf] <;> omega⟩
    case g2 =>
      go_simp
      (go_wp2_with fail; refine hK.out _ _ (hbk hrl) (fun hH => ?_); clear hK K; try simp only [Act.put, List.setIfInBounds_toArray, List.set_cons_zero, List.set_cons_succ]; try simp only [List.getElem_toArray, List.getElem_cons_succ, List.getElem_cons_zero])
      refine wpAnyH_ready (rs := [1]) (by kernel_rfl) (by simp) ?_
      refine AllReadyH.cons rfl (fun K hK => ?_) AllReadyH.nil
      go_simp
      (go_wp2_with fail; refine hK.out _ _ (hbk hrl) (fun hH => ?_); clear hK K; try simp only [Act.put, List.setIfInBounds_toArray, List.set_cons_zero, List.set_cons_succ]; try simp only [List.getElem_toArray, List.getElem_cons_succ, List.getElem_cons_zero])
      refine wpAnyH_ready (rs := [8]) (by kernel_rfl) (by simp) ?_
      refine AllReadyH.cons rfl (fun K hK => ?_) AllReadyH.nil
      refine step_appR tyAt atc_len (x := (x.typ, .slice Ay nx cy)) o7d rfl atc_ok hnC rfl rfl (.tmp 73) (.tmp 79) rfl rfl rfl ?_
      intro vB wb kb1 kb2 kb3
      have qB := ext_app0 r7 (f7.mono (by have := z5.size; omega)) kb2
      have q5B := ext_app0 x57d (f7.mono hB5) kb2
      have BX9 := B7d.mod kb2 (fun h => ownR_ne_blk o7d B7d (by decide) h rfl)
      have hnew := XAt.more (a := x) f7 sBd lC rCd rfl hbkv kb1 kb2 kb3
      rw [← hle.out] at hnew
      (refine hK.out _ _ (hbk qB) (fun hH => ?_); clear hK K; try simp only [Act.put, List.setIfInBounds_toArray, List.set_cons_zero, List.set_cons_succ]; try simp only [List.getElem_toArray, List.getElem_cons_succ, List.getElem_cons_zero])
      (refine wpAnyH_take (i := 9) (oi := ⟨_, _, _, _, _, _⟩) (v := ?tv808) rfl (by kernel_rfl) (by kernel_rfl) (by kernel_rfl) (fun _ _ _ h => h) (Or.inl ⟨by kernel_rfl, ?hy808⟩) hH ?rs808; (case hy808 => (intro wx hSw; (try dsimp only at hSw); go_simp; try with_reducible rfl)); try simp only [Act.put, List.setIfInBounds_toArray, List.set_cons_zero, List.set_cons_succ]; try simp only [List.getElem_toArray, List.getElem_cons_succ, List.getElem_cons_zero])
      obtain ⟨Av, nv9, cv9, rfl⟩ : ∃ A n c, vB = .slice A n c := (OwnR.shape kb1).elim fun A h => h.elim fun c e => ⟨A, _, c, e⟩
      have f9 := Blk.frozen BX9 1
      have p9 : wb.cell? ⟨gx, 1, none⟩ = some (.slice Ax nax cx) := BX9.cell 1
      have m9 : Mod (fun b => b = gx) wb (wb.setCell ⟨gx, 1, none⟩ (.slice Av nv9 cv9)) := setc_mod wb gx 1 (.slice Av nv9 cv9)
      have q9 : Ext w1 (wb.setCell ⟨gx, 1, none⟩ (.slice Av nv9 cv9)) := qB.trans m9 (fun _ _ h => h) (fun b hb e => by have := z5.size; omega)
      have q59 : Ext w5 (wb.setCell ⟨gx, 1, none⟩ (.slice Av nv9 cv9)) := q5B.trans m9 (fun _ _ h => h) (fun b hb e => by omega)
      have BX10 := BX9.set_ 1 (.slice Av nv9 cv9)
      have hnew2 := XAt.far hnew BX9 (.slice Av nv9 cv9) hBg
      refine wpAnyH_ready (rs := [10]) (by kernel_rfl) (by simp) ?_
      refine AllReadyH.cons rfl (fun K hK => ?_) AllReadyH.nil
      go_simp
      (go_wp2_with fail; refine hK.out _ _ (hbk q9) (fun hH => ?_); clear hK K; try simp only [Act.put, List.setIfInBounds_toArray, List.set_cons_zero, List.set_cons_succ]; try simp only [List.getElem_toArray, List.getElem_cons_succ, List.getElem_cons_zero])
      refine wpAnyH_done (by kernel_rfl) ?_ _
      go_wp2_with fail
      exact ⟨⟨k + 1, _, by omega, by go_num, hnew2, BX10, q59⟩, by simp [intOf] <;> omega⟩
end Go.Proofs.Ytdfjldlfimbimaa
