/- entry: the document's Decode. -/
import Derived.Test.YtlaaicdofompkaaEntI
namespace Go.Proofs.Ytlaaicdofompkaa
open Go.RowKit
set_option maxRecDepth 100000

/-- What Decode has between its calls: the reader at b, the entry at g, and what lies in it. -/
structure Ek (w : World) (b g : Nat) (wx : World) (vr : Value) (st : St) (vd va : Value) (rs : List AtV) (D : List Av) (L : List Att) : Prop where
  r : Rr wx b (fun k => k = w.heap.size) vr st
  e : Blk wx g 25 #[vd, va]
  d : OwnA wx vd D
  a : OAt wx va rs L
  ex : Ext w wx
  lo : w.heap.size < b
  bg : b < g
  fd : Fresh (b + 1) vd
  fa : Fresh (b + 1) va
  fe : ∀ r ∈ rs, Fresh (b + 1) r.2
section
variable {w wx w' : World} {b g : Nat} {vr vr' vd va v' : Value} {st st' : St} {rs : List AtV} {D : List Av} {L : List Att}
theorem Ek.call (h : Ek w b g wx vr st vd va rs D L) (r : Rr w' b (fun k => k = w.heap.size) vr' st') (m : Mod (fun k => k = b) wx w') : Ek w b g w' vr' st' vd va rs D L where
  r := r
  e := h.e.mod m (fun e => by have := h.bg; omega)
  d := h.d.mod m (fun k hk e => by have := h.fd k hk; omega)
  a := h.a.mod m (fun k hk e => by have := h.fa k hk; omega) (fun r hr k hk e => by have := h.fe r hr k hk; omega)
  ex := h.ex.trans m (fun _ _ h => h) (fun k hk e => by have := h.lo; omega)
  lo := h.lo
  bg := h.bg
  fd := h.fd
  fa := h.fa
  fe := h.fe
theorem Ek.ext (h : Ek w b g wx vr st vd va rs D L) (m : Ext wx w') : Ek w b g w' vr st vd va rs D L where
  r := h.r.mod m (fun h => h) (fun _ _ _ h => h)
  e := h.e.mod m (fun h => h)
  d := h.d.mod m (fun _ _ h => h)
  a := h.a.ext m
  ex := ext_trans h.ex m
  lo := h.lo
  bg := h.bg
  fd := h.fd
  fa := h.fa
  fe := h.fe
/-- One more pair of the name: appended, and laid back. -/
theorem Ek.addD {a : Av} (h : Ek w b g wx vr st vd va rs D L) (k1 : OwnA w' v' (D ++ [a])) (k2 : Mod (own vd) wx w') (k3 : Next wx.heap.size vd v') : Ek w b g (w'.setCell ⟨g, 0, none⟩ v') vr st v' va rs (D ++ [a]) L := by
  have hb := h.r.blk.lt
  have he := h.e.mod k2 (fun hk => ownR_ne_blk h.d h.e (by decide) hk rfl)
  have f' : Fresh (b + 1) v' := k3.fresh h.fd hb
  have sm := setc_mod w' g 0 v'
  have hr := h.r.mod k2 (fun hk => by have := h.fd b hk; omega) (fun k _ hk ho => by have := h.fd k ho; have := h.lo; omega)
  have ha := h.a.mod k2 (fun k hk ho => ownR_neR h.a.own h.d (by decide) hk ho) (fun r hr k hk ho => by
    obtain ⟨i, hi, e⟩ := List.getElem_of_mem hr
    have hl := h.a.len
    exact own_neO h.d (h.a.els i r (L[i]'(by omega)) (by rw [List.getElem?_eq_getElem hi, e]) (by rw [List.getElem?_eq_getElem (by omega)])).2 (by decide) ho hk)
  have hx : Ext w w' := h.ex.trans k2 (fun _ _ h => h) (fun k hk ho => by have := h.fd k ho; have := h.lo; omega)
  exact ⟨hr.mod sm (fun e => by have := h.bg; omega) (fun k _ hk e => by have := h.lo; have := h.bg; omega), he.set_ 0 v', k1.mod sm (fun k hk e => ownR_ne_blk k1 he (by decide) hk e),
    ha.mod sm (fun k hk e => ownR_ne_blk ha.own he (by decide) hk e) (fun r hr k hk e => by
      obtain ⟨i, hi, e'⟩ := List.getElem_of_mem hr
      have hl := ha.len
      exact (ha.els i r (L[i]'(by omega)) (by rw [List.getElem?_eq_getElem hi, e']) (by rw [List.getElem?_eq_getElem (by omega)])).2.ne_blk he (by decide) (by rw [← e]; exact hk)),
    hx.trans sm (fun _ _ h => h) (fun k hk e => by have := h.lo; have := h.bg; omega), h.lo, h.bg, f', h.fa, h.fe⟩
/-- One more attribute: appended, and laid back. -/
theorem Ek.addA {r : AtV} {a : Att} (h : Ek w b g wx vr st vd va rs D L) (k1 : OwnR atc 2 w' 46 v' (rs ++ [r])) (k2 : Mod (own va) wx w') (k3 : Next wx.heap.size va v') (ht : r.1 = a.typ) (hy : Own wx 9 r.2 (a.vals.map sv)) (hf : Fresh (b + 1) r.2) : Ek w b g (w'.setCell ⟨g, 1, none⟩ v') vr st vd v' (rs ++ [r]) D (L ++ [a]) := by
  have hb := h.r.blk.lt
  have he := h.e.mod k2 (fun hk => ownR_ne_blk h.a.own h.e (by decide) hk rfl)
  have f' : Fresh (b + 1) v' := k3.fresh h.fa hb
  have sm := setc_mod w' g 1 v'
  have hr := h.r.mod k2 (fun hk => by have := h.fa b hk; omega) (fun k _ hk ho => by have := h.fa k ho; have := h.lo; omega)
  have hd := h.d.mod k2 (fun k hk ho => ownR_neR h.d h.a.own (by decide) hk ho)
  have ha := h.a.snoc k1 k2 ht hy
  have hx : Ext w w' := h.ex.trans k2 (fun _ _ h => h) (fun k hk ho => by have := h.fa k ho; have := h.lo; omega)
  exact ⟨hr.mod sm (fun e => by have := h.bg; omega) (fun k _ hk e => by have := h.lo; have := h.bg; omega), he.set_ 1 v', hd.mod sm (fun k hk e => ownR_ne_blk hd he (by decide) hk e),
    ha.mod sm (fun k hk e => ownR_ne_blk ha.own he (by decide) hk e) (fun r hr k hk e => by
      obtain ⟨i, hi, e'⟩ := List.getElem_of_mem hr
      have hl := ha.len
      exact (ha.els i r ((L ++ [a])[i]'(by omega)) (by rw [List.getElem?_eq_getElem hi, e']) (by rw [List.getElem?_eq_getElem (by omega)])).2.ne_blk he (by decide) (by rw [← e]; exact hk)),
    hx.trans sm (fun _ _ h => h) (fun k hk e => by have := h.lo; have := h.bg; omega), h.lo, h.bg, h.fd, f', fun x hx => by
      rcases List.mem_append.1 hx with hx | hx
      · exact h.fe x hx
      · rw [List.mem_singleton.1 hx]; exact hf⟩
theorem Ek.far {F : Nat → Prop} (h : Ek w b g wx vr st vd va rs D L) (m : Mod F wx w') (hF : ∀ k, F k → b < k ∧ k ≠ g ∧ ¬ own vd k ∧ ¬ own va k ∧ ∀ r ∈ rs, ¬ own r.2 k) : Ek w b g w' vr st vd va rs D L where
  r := h.r.mod m (fun hb => by have := (hF _ hb).1; omega) (fun k _ hk ho => by have := (hF _ ho).1; have := h.lo; omega)
  e := h.e.mod m (fun hg => (hF _ hg).2.1 rfl)
  d := h.d.mod m (fun k hk ho => (hF _ ho).2.2.1 hk)
  a := h.a.mod m (fun k hk ho => (hF _ ho).2.2.2.1 hk) (fun r hr k hk ho => (hF _ ho).2.2.2.2 r hr hk)
  ex := h.ex.trans m (fun _ _ h => h) (fun k hk ho => by have := (hF _ ho).1; have := h.lo; omega)
  lo := h.lo
  bg := h.bg
  fd := h.fd
  fa := h.fa
  fe := h.fe
/-- A value more of the attribute at ga. -/
theorem Ek.addV {ga : Nat} {ct : Array Value} {vv : Value} {xs ys : List Value} (h : Ek w b g wx vr st vd va rs D L) (hga : g < ga) (BA : Blk wx ga 46 ct) (ha : ∀ k, own va k → k < ga) (hr : ∀ r ∈ rs, ∀ k, own r.2 k → k < ga) (OV : Own wx 9 vv xs) (FV : Fresh ga vv)
    (k1 : Own w' 9 v' ys) (k2 : Mod (own vv) wx w') (k3 : Next wx.heap.size vv v') : Ek w b g (w'.setCell ⟨ga, 1, none⟩ v') vr st vd va rs D L ∧ Blk (w'.setCell ⟨ga, 1, none⟩ v') ga 46 (ct.setIfInBounds 1 v') ∧ Own (w'.setCell ⟨ga, 1, none⟩ v') 9 v' ys ∧ Fresh ga v' := by
  have hbg := h.bg
  have hl := BA.lt
  have K1 := h.far k2 (fun k ho => ⟨by have := FV k ho; omega, by have := FV k ho; omega, fun hd => own_neO h.d OV (by decide) hd ho, fun hd => own_neO h.a.own OV (by decide) hd ho, fun r hr' hk => by have := FV k ho; have := hr r hr' k hk; omega⟩)
  have B1 := BA.mod k2 (fun ho => OV.ne_blk BA (by decide) ho)
  have sm := setc_mod w' ga 1 v'
  exact ⟨K1.far sm (fun k e => by subst e; exact ⟨by omega, by omega, fun hd => ownR_ne_blk K1.d B1 (by decide) hd rfl, fun hd => by have := ha _ hd; omega, fun r hr' hk => by have := hr r hr' _ hk; omega⟩),
    B1.set_ 1 v', k1.mod sm (fun k hk e => k1.ne_blk B1 (by decide) (by rw [← e]; exact hk)), k3.fresh FV (by omega)⟩
end
set_option maxHeartbeats 16000000 in
theorem redec_any {w : World} {s : List UInt8} (hs : s.length ≤ 900000) :
    Calls Try.prog 19 #[sv s] w fun e' w' => ∃ vd va, e' = .returned (.tuple #[.agg #[vd, va], .int .i64 (decN s : Nat)]) ∧ As w' All vd (decE s).dn ∧ Ats w' va (decE s).ats ∧ Ext w w' := by
  have hzs := sv_size' s
  obtain ⟨w1, hw1⟩ : ∃ w1, w1 = w.alloc (.cells #[.slice none 0 0, .slice none 0 0] 25) := ⟨_, rfl⟩
  have x1 : Ext w w1 := by rw [hw1]; exact (Mod.refl _ w).alloc _
  have BR : Blk w1 w.heap.size 25 #[.slice none 0 0, .slice none 0 0] := by rw [hw1]; exact Blk.new w _ _
  obtain ⟨gr, hgr⟩ : ∃ gr, gr = w.heap.size := ⟨_, rfl⟩
  rw [← hgr] at BR
  have hgw : w.heap.size ≤ gr := by rw [hgr]; exact Nat.le_refl _
  replace hw1 := Lib.hid hw1
  replace hgr := Lib.hid hgr
  go_enter Try.func19, Try.ntmps19
  go_upto_region 1 with fail
  rw [← hw1.out, ← hgr.out]
  go_upto_region 2 with ((with_reducible show wpList _ _ _ (⟨some 17, _, _, _, _, _⟩ :: _) _ _); refine wp_tob Try.underlying9 Try.underlying50 Try.underlying5 (l := s) (by omega) rfl (.tmp 16) rfl rfl ?_; intro cp w2 k1 k2 k3; replace k3 := Lib.hid k3)
  obtain ⟨w3, hw3⟩ : ∃ w3, w3 = w2.alloc (.cells #[.slice (some ⟨w1.heap.size, 0, none⟩) s.length cp, .bool false] 71) := ⟨_, rfl⟩
  have x3 : Ext w2 w3 := by rw [hw3]; exact (Mod.refl _ w2).alloc _
  have BB : Blk w3 w2.heap.size 71 #[.slice (some ⟨w1.heap.size, 0, none⟩) s.length cp, .bool false] := by rw [hw3]; exact Blk.new w2 _ _
  obtain ⟨b, hb⟩ : ∃ b, b = w2.heap.size := ⟨_, rfl⟩
  rw [← hb] at BB
  rw [← hw3, ← hb]
  have hb1 : w1.heap.size < b := by have := k3.out; omega
  have y3 := ext_trans k2 x3
  have r3 : Rr w3 b (fun k => k = w1.heap.size) (.slice (some ⟨w1.heap.size, 0, none⟩) s.length cp) (some s) := ⟨BB, k1.mod x3 (fun _ _ _ h => h), by omega⟩
  generalize (Value.slice (some ⟨w1.heap.size, 0, none⟩) s.length cp) = v3 at r3 ⊢
  obtain ⟨w4, hw4⟩ : ∃ w4, w4 = w3.alloc (.cells #[.slice none 0 0, .slice none 0 0] 25) := ⟨_, rfl⟩
  have x4 : Ext w3 w4 := by rw [hw4]; exact (Mod.refl _ w3).alloc _
  have BE : Blk w4 w3.heap.size 25 #[.slice none 0 0, .slice none 0 0] := by rw [hw4]; exact Blk.new w3 _ _
  obtain ⟨g, hg⟩ : ∃ g, g = w3.heap.size := ⟨_, rfl⟩
  rw [← hg] at BE
  have hbg : b < g := by have := BB.lt; omega
  have K0 : Ek w1 b g w4 v3 (some s) (.slice none 0 0) (.slice none 0 0) [] [] [] :=
    ⟨r3.mod x4 (fun h => h) (fun _ _ _ h => h), BE, OwnR.nil _ _ _ _, OAt.nil _, ext_trans y3 x4, hb1, hbg, fresh_nil _ _ _, fresh_nil _ _ _, fun r h => by cases h⟩
  have hr2 : gr < w1.heap.size := BR.lt
  replace hw4 := Lib.hid hw4
  replace hg := Lib.hid hg
  clear k1 k2 k3 r3 x3 x4 BE hb1 hw3 hb BB y3
  go_upto_region 3 with fail
  rw [← hw4.out, ← hg.out]
  have hn := rrnum_any K0.r (by simp only [Option.getD_some]; omega)
  clear hw4 hg hw1 hgr
  go_wp2_with fail
  refine hn.mono ?_
  rintro e' w5 ⟨v5, rfl, r5, m5⟩
  have K5 := K0.call r5 m5
  obtain ⟨X, hX⟩ : ∃ X, X = rdAvs (takeN (some s)).1 (takeN (some s)).2 [] := ⟨_, rfl⟩
  have hnB : (takeN (some s)).1 ≤ 4611686018427387904 := (takeN_le' (some s))
  have hw0 := takeN_w (some s)
  have e3 : mS (some s) = s.length + 1 := rfl
  clear hn K0 r5 m5
  generalize hns : takeN (some s) = ns at *
  obtain ⟨n, s0⟩ := ns
  simp only at hX hnB hw0 K5 ⊢
  replace hns := Lib.hid hns
  have hXX : Hid (rdAvs n s0 [] = X) := Lib.hid hX.symm
  replace hX := Lib.hid hX.symm
  go_wp2_with fail
  go_loopw [7] (fun i wr => ∃ (k m : Nat) (st : St) (vr vd : Value) (D : List Av), i = .int .i64 k ∧ k + m = n ∧ Hid (rdAvs m st D = X) ∧ Ek w1 b g wr vr st vd (.slice none 0 0) [] D [] ∧ wD D + mS st ≤ s.length + 1) (fun i _ => n - (intOf i).toNat)
  case atStart => exact ⟨0, n, s0, v5, _, [], rfl, by omega, hX, K5, by have : wD [] = 0 := rfl; omega⟩
  case round =>
    clear K5 hX
    obtain ⟨k, m, st, vr, vd, D, rfl, hkm, hrun, K, hsz⟩ := hrel
    have hk0 : (0 : Int) ≤ (k : Int) := by omega
    by_cases hst : 0 < m ∧ st.isSome = true
    case pos =>
      obtain ⟨h0, hs1⟩ := hst
      obtain ⟨l, rfl⟩ : ∃ l, st = some l := by cases st with | none => cases hs1 | some l => exact ⟨l, rfl⟩
      obtain ⟨m, rfl⟩ : ∃ j, m = j + 1 := ⟨m - 1, by omega⟩
      have hb0 : decide (k < n) = true := dtrue (by omega)
      have hb1 : decide ((k : Int) < (n : Int)) = true := dtrue (by omega)
      have cE : wr.cell? ⟨b, 1, none⟩ = some (.bool false) := K.r.blk.cell 1
      have hrun2 : Hid (rdAvs m (takeB (takeB (some l)).2).2 (D ++ [((takeB (some l)).1, (takeB (takeB (some l)).2).1)]) = X) := hrun
      have e1 : mS (some l) = l.length + 1 := rfl
      have e2 : szO (some l) = l.length := rfl
      have q1 := takeB_w (some l)
      have q2 := takeB_w (takeB (some l)).2
      have q3 := takeB_sum (some l)
      simp only [Option.isSome_some, if_true] at q1
      have hc1 := rrbytes_any K.r (by simp only [Option.getD_some]; omega)
      have hl2 : ((takeB (some l)).2.getD []).length ≤ 140737488355328 := by have e : szO (takeB (some l)).2 = ((takeB (some l)).2.getD []).length := (by cases (takeB (some l)).2 <;> rfl); omega
      have hdl := wD_ge D
      clear hrun hs1
      go_wp2_with fail
      refine hc1.mono ?_
      rintro e' w7 ⟨v7, y7, rfl, r7, o7, -, m7⟩
      have z7 := run_conv (P := Try.prog) Try.underlying50 Try.underlying5 Try.underlying9 o7.sl
      have K7 := K.call r7 m7
      obtain ⟨wa, hwa⟩ : ∃ wa, wa = w7.alloc (.cells #[sv (takeB (some l)).1, .string ⟨#[]⟩] 49) := ⟨_, rfl⟩
      obtain ⟨ga, hga⟩ : ∃ ga, ga = w7.heap.size := ⟨_, rfl⟩
      have xa : Ext w7 wa := by rw [hwa]; exact (Mod.refl _ w7).alloc _
      have BA : Blk wa ga 49 #[sv (takeB (some l)).1, .string ⟨#[]⟩] := by rw [hwa, hga]; exact Blk.new w7 _ _
      have hga2 : g < ga := by rw [hga]; exact K7.e.lt
      have hvd : ∀ k, own vd k → k < ga := by rw [hga]; exact fun k hk => K7.d.lt hk
      have Ka := K7.ext xa
      have hbg := Ka.bg
      have hc2 := rrbytes_any Ka.r hl2
      clear hc1 K r7 m7 xa K7 hl2 cE
      replace hwa := Lib.hid hwa
      replace hga := Lib.hid hga
      have hws : wD (D ++ [((takeB (some l)).1, (takeB (takeB (some l)).2).1)]) + mS (takeB (takeB (some l)).2).2 ≤ s.length + 1 := by rw [wD_snoc]; simp only; omega
      generalize (takeB (some l)).1 = t at *
      generalize (takeB (takeB (some l)).2).1 = u at *
      generalize (takeB (takeB (some l)).2).2 = st2 at *
      go_upto_region 8 with fail
      rw [← hwa.out, ← hga.out]
      clear hwa hga z7 o7
      go_wp2_with fail
      refine hc2.mono ?_
      rintro e' w8 ⟨v8, y8, rfl, r8, o8, -, m8⟩
      have z8 := run_conv (P := Try.prog) Try.underlying50 Try.underlying5 Try.underlying9 o8.sl
      have K8 := Ka.call r8 m8
      have B8 := BA.mod m8 (fun e => by omega)
      have fz8 := B8.frozen 1
      have cz8 : w8.cell? ⟨ga, 1, none⟩ = some (.string ⟨#[]⟩) := B8.cell 1
      have sm := setc_mod w8 ga 1 (sv u)
      have K9 := K8.far sm (fun k e => by subst e; exact ⟨by omega, by omega, fun hd => by have := hvd _ hd; omega, fun hd => ownR_ne_blk K8.a.own B8 (by decide) hd rfl, fun r hr => by cases hr⟩)
      have B9 := B8.set_ 1 (sv u)
      obtain ⟨w9, hw9⟩ : ∃ w9, w9 = w8.setCell ⟨ga, 1, none⟩ (sv u) := ⟨_, rfl⟩
      rw [← hw9] at K9 B9
      replace hw9 := Lib.hid hw9
      clear hc2 Ka r8 m8 BA sm K8 B8
      go_upto_region 9 with fail
      rw [← hw9.out]
      clear hw9 fz8 cz8 z8 o8
      have hn1 : (D.length + 1) * 32 ≤ 140737488355328 := by omega
      obtain ⟨Ad, cd, rfl⟩ := K9.d.shape
      have c0 : _ = some (Value.slice Ad D.length cd) := K9.e.cell 0
      have d0 : w9.cell? ⟨ga, 0, none⟩ = some (sv t) := B9.cell 0
      have d1 : w9.cell? ⟨ga, 1, none⟩ = some (sv u) := B9.cell 1
      go_wp2_with ((with_reducible show wpList _ _ _ (⟨some 46, _, _, _, _, _⟩ :: _) _ _); refine wp_appR (x := (t, u)) tyA avc_len K9.d rfl (avc_ok _) hn1 rfl (.tmp 43) (.tmp 45) rfl rfl rfl ?_; intro va wa k1 k2 k3; obtain ⟨A9, n9, c9, rfl⟩ : ∃ A n c, va = Value.slice A n c := (by obtain ⟨A, c, h⟩ := k1.shape; exact ⟨A, _, c, h⟩); have Ba := K9.e.mod k2 (fun hk => ownR_ne_blk K9.d K9.e (by decide) hk rfl); have fz := Ba.frozen 0; have c9' : _ = some (Value.slice Ad D.length cd) := Ba.cell 0)
      exact ⟨⟨k + 1, m, st2, v8, _, D ++ [(t, u)], by go_num, by omega, hrun2, K9.addD k1 k2 k3, hws⟩, by simp [intOf] <;> omega⟩
    case neg =>
      have hXe : Hid (X = (D, st)) := Lib.hid (by
        rw [← hrun.out]
        cases m with
        | zero => rfl
        | succ m => cases st with
          | none => rfl
          | some l => exact absurd ⟨Nat.succ_pos _, rfl⟩ hst)
      have hm1 : mS st = match st with | some l => l.length + 1 | none => 0 := by cases st <;> rfl
      have hn := rrnum_any K.r (by cases st <;> simp only [Option.getD_some, Option.getD_none, List.length_nil] at hm1 ⊢ <;> omega)
      have q1 := takeN_w st
      have q2 := takeN_le' st
      clear hrun hm1
      by_cases h0 : 0 < m
      case' pos =>
        have hsn : st.isNone = true := by cases st with | none => rfl | some l => exact absurd ⟨h0, rfl⟩ hst
        have cE : wr.cell? ⟨b, 1, none⟩ = some (.bool true) := by have h : wr.cell? ⟨b, 1, none⟩ = some (.bool st.isNone) := K.r.blk.cell 1; rw [hsn] at h; exact h
        clear hsn
        have hb0 : decide (k < n) = true := dtrue (by omega)
        have hb1 : decide ((k : Int) < (n : Int)) = true := dtrue (by omega)
        clear hst
        go_wp2_with fail
      case' neg =>
        have hb0 : decide (k < n) = false := dfalse (by omega)
        have hb1 : decide ((k : Int) < (n : Int)) = false := dfalse (by omega)
        clear hst
        go_wp2_with fail
      all_goals
        refine hn.mono ?_
        rintro e' w7 ⟨v7, rfl, r7, m7⟩
        have K7 := K.call r7 m7
        clear hn K r7 m7 hb1 hb0 h0
        obtain ⟨Y, hY⟩ : ∃ Y, Y = rdAts (takeN st).1 (takeN st).2 [] := ⟨_, rfl⟩
        have hwd : wD D + mS (takeN st).2 ≤ s.length + 1 := by omega
        have hred : Hid (readE s = (⟨D, Y.1⟩, Y.2)) := Lib.hid (by
          unfold readE
          rw [hns.out]
          simp only
          rw [hXX.out, hXe.out]
          rw [hY])
        generalize takeN st = ns2 at *
        obtain ⟨n2, s2⟩ := ns2
        simp only at hY hwd K7 q2 ⊢
        replace hY := Lib.hid hY.symm
        clear hXe q1
        go_wp2_with fail
        go_loopw [10] (fun i wr => ∃ (k m : Nat) (st : St) (vr va : Value) (rs : List AtV) (L : List Att), i = .int .i64 k ∧ k + m = n2 ∧ Hid (rdAts m st L = Y) ∧ Ek w1 b g wr vr st vd va rs D L ∧ wD D + wA L + mS st ≤ s.length + 1) (fun i _ => n2 - (intOf i).toNat)
        case atStart => exact ⟨0, n2, s2, v7, _, [], [], rfl, by omega, hY, K7, by have : wA [] = 0 := rfl; omega⟩
        case round =>
          clear K7 hY
          obtain ⟨k, m, st, vr, va, rs, L, rfl, hkm, hrun, K, hsz⟩ := hrel
          have hk0 : (0 : Int) ≤ (k : Int) := by omega
          by_cases hst : 0 < m ∧ st.isSome = true
          case neg =>
            have hYe : Hid (Y = (L, st)) := Lib.hid (by
              rw [← hrun.out]
              cases m with
              | zero => rfl
              | succ m => cases st with
                | none => rfl
                | some l => exact absurd ⟨Nat.succ_pos _, rfl⟩ hst)
            have hre : readE s = (⟨D, L⟩, st) := by rw [hred.out, hYe.out]
            have hgi : goodE s ↔ (st.isNone = false ∧ isE ⟨D, L⟩ ∧ encE ⟨D, L⟩ = s) := by have h := good_iff s; rw [hre] at h; exact h
            have hdN : decN s = if goodE s then 0 else 3 := rfl
            have hdE : decE s = if goodE s then ⟨D, L⟩ else eZ := by unfold decE; rw [hre]
            have hen := reenc_any (e := ⟨D, L⟩) K.d.rc K.a.ats (by unfold wE; simp only; omega)
            have c0 : wr.cell? ⟨g, 0, none⟩ = some vd := K.e.cell 0
            have c1 : wr.cell? ⟨g, 1, none⟩ = some va := K.e.cell 1
            clear hrun hred hYe hXX hns hre
            by_cases h0 : 0 < m
            case' pos =>
              have hsn : st.isNone = true := by cases st with | none => rfl | some l => exact absurd ⟨h0, rfl⟩ hst
              have cE : wr.cell? ⟨b, 1, none⟩ = some (.bool true) := by have h : wr.cell? ⟨b, 1, none⟩ = some (.bool st.isNone) := K.r.blk.cell 1; rw [hsn] at h; exact h
              clear hsn
              have hb0 : decide (k < n2) = true := dtrue (by omega)
              have hb1 : decide ((k : Int) < (n2 : Int)) = true := dtrue (by omega)
              clear hst
              go_wp2_with fail
            case' neg =>
              have hb0 : decide (k < n2) = false := dfalse (by omega)
              have hb1 : decide ((k : Int) < (n2 : Int)) = false := dfalse (by omega)
              clear hst
              go_wp2_with fail
            all_goals
              refine hen.mono ?_
              rintro e' w9 ⟨rfl, x8⟩
              have K8 := K.ext x8
              have B8 := BR.mod K8.ex (fun h => h)
              clear hen K x8 c0 c1 hb1 hb0 h0
              obtain ⟨Ad, nd, cd, rfl⟩ : ∃ A n c, vd = Value.slice A n c := by obtain ⟨A, c, h⟩ := OwnR.shape K8.d; exact ⟨A, _, c, h⟩
              obtain ⟨Aa, na, ca, rfl⟩ : ∃ A n c, va = Value.slice A n c := by obtain ⟨A, c, h⟩ := OwnR.shape K8.a.own; exact ⟨A, _, c, h⟩
              have f0 := Blk.frozen B8 0
              have f1 := Blk.frozen B8 1
              have p0 : _ = some (Value.slice none 0 0) := Blk.cell B8 0
              have p1 : _ = some (Value.slice none 0 0) := Blk.cell B8 1
              have hlo := K8.lo
              have cE9 : w9.cell? ⟨b, 1, none⟩ = some (.bool (Option.isNone st)) := K8.r.blk.cell 1
              have fin : ∀ p q, Ext w ((w9.setCell ⟨gr, 0, none⟩ p).setCell ⟨gr, 1, none⟩ q) := fun p q => (ext_trans x1 K8.ex).trans (set2_mod w9 gr p q) (fun _ _ h => h) (fun k hk e => by omega)
              by_cases hg : goodE s
              · obtain ⟨g1, g2, g3⟩ := hgi.1 hg
                rw [if_pos hg] at hdN hdE
                have hbE : bytesE ⟨D, L⟩ = s := (if_pos g2).trans g3
                have hcE : codeE ⟨D, L⟩ = 0 := if_pos g2
                rw [g1] at cE9
                rw [hbE, hcE]
                have hq : (s != s) = false := by simp
                have c0 : w9.cell? ⟨g, 0, none⟩ = some (Value.slice Ad nd cd) := K8.e.cell 0
                have c1 : w9.cell? ⟨g, 1, none⟩ = some (Value.slice Aa na ca) := K8.e.cell 1
                have hd9 : ∀ p q, As ((w9.setCell ⟨gr, 0, none⟩ p).setCell ⟨gr, 1, none⟩ q) All (Value.slice Ad nd cd) D := fun p q => (OwnR.rc (OwnR.mod K8.d (set2_mod w9 gr p q) (fun k hk e => by have := K8.fd k hk; omega))).mono (fun _ _ _ => trivial)
                have ha9 : ∀ p q, Ats ((w9.setCell ⟨gr, 0, none⟩ p).setCell ⟨gr, 1, none⟩ q) (Value.slice Aa na ca) L := fun p q => (K8.a.mod (set2_mod w9 gr p q) (fun k hk e => by have := K8.fa k hk; omega) (fun r hr k hk e => by have := K8.fe r hr k hk; omega)).ats
                have R5 := (B8.set_ 0 (Value.slice Ad nd cd)).set_ 1 (Value.slice Aa na ca)
                clear hgi hg g2 g3 hbE hcE g1
                go_wp2_with fail
                refine bodyPost_ret (results_cell_row2 Try.results19 _ _ _ _ _ _ _ rfl R5 Try.underlying25 rfl (by kernel_rfl)) rfl ?_
                exact ⟨_, _, by rw [hdN]; rfl, by rw [hdE]; exact hd9 _ _, by rw [hdE]; exact ha9 _ _, fin _ _⟩
              rw [if_neg hg] at hdN hdE
              have R5 := (B8.set_ 0 (.slice none 0 0)).set_ 1 (.slice none 0 0)
              have hnn : ∀ wx, As wx All (.slice none 0 0) eZ.dn ∧ Ats wx (.slice none 0 0) eZ.ats := fun wx => ⟨As.none wx, Ats.nil wx⟩
              generalize hIN : Option.isNone st = IN at hgi cE9
              replace hIN := Lib.hid hIN
              have hcs : (IN = true) ∨ (IN = false ∧ codeE ⟨D, L⟩ = 1) ∨ (IN = false ∧ codeE ⟨D, L⟩ = 0 ∧ bytesE ⟨D, L⟩ ≠ s) := by
                cases IN with
                | true => exact .inl rfl
                | false =>
                  by_cases he : isE ⟨D, L⟩
                  · exact .inr (.inr ⟨rfl, if_pos he, fun h => hg (hgi.2 ⟨rfl, he, by unfold bytesE at h; rw [if_pos he] at h; exact h⟩)⟩)
                  · exact .inr (.inl ⟨rfl, if_neg he⟩)
              clear hgi hg
              rcases hcs with q1 | ⟨q1, q2⟩ | ⟨q1, q2, q3⟩
              case' inl => rw [q1] at cE9; generalize codeE ⟨D, L⟩ = CE at *; generalize bytesE ⟨D, L⟩ = BE at *; go_wp2_with fail
              case' inr.inl => rw [q1] at cE9; rw [q2]; have q5 : (((1 : Nat) : Int) != 0) = true := rfl; generalize bytesE ⟨D, L⟩ = BE at *; go_wp2_with fail
              case' inr.inr => (rw [q1] at cE9; rw [q2]; (have q4 : (bytesE ⟨D, L⟩ != s) = true := bne_iff_ne.2 q3); (have q6 : (bytesE ⟨D, L⟩ == s) = false := beq_eq_false_iff_ne.2 q3); (have q5 : (((0 : Nat) : Int) != 0) = false := rfl); generalize bytesE ⟨D, L⟩ = BE at *; clear q3; go_wp2_with fail)
              all_goals refine bodyPost_ret (results_cell_row2 Try.results19 _ _ _ _ _ _ _ rfl R5 Try.underlying25 rfl (by kernel_rfl)) rfl ?_
              all_goals exact ⟨_, _, by rw [hdN]; rfl, by rw [hdE]; exact (hnn _).1, by rw [hdE]; exact (hnn _).2, fin _ _⟩
          obtain ⟨h0, hs1⟩ := hst
          obtain ⟨l, rfl⟩ : ∃ l, st = some l := by cases st with | none => cases hs1 | some l => exact ⟨l, rfl⟩
          obtain ⟨m, rfl⟩ : ∃ j, m = j + 1 := ⟨m - 1, by omega⟩
          have hb0 : decide (k < n2) = true := dtrue (by omega)
          have hb1 : decide ((k : Int) < (n2 : Int)) = true := dtrue (by omega)
          have cE : wr.cell? ⟨b, 1, none⟩ = some (.bool false) := K.r.blk.cell 1
          have hrun2 : Hid (rdAts m (atT (some l)).2 (L ++ [(atT (some l)).1]) = Y) := hrun
          have e1 : mS (some l) = l.length + 1 := rfl
          have e2 : szO (some l) = l.length := rfl
          have q1 := takeB_w (some l)
          have q3 := takeB_sum (some l)
          have q2 := takeN_w (takeB (some l)).2
          have q4 := takeN_le' (takeB (some l)).2
          simp only [Option.isSome_some, if_true] at q1
          have hc1 := rrbytes_any K.r (by simp only [Option.getD_some]; omega)
          have hl2 : ((takeB (some l)).2.getD []).length ≤ 140737488355328 := by have e : szO (takeB (some l)).2 = ((takeB (some l)).2.getD []).length := (by cases (takeB (some l)).2 <;> rfl); omega
          unfold atT at hrun2
          have hal := wA_ge L
          clear hrun hs1 q3
          go_wp2_with fail
          refine hc1.mono ?_
          rintro e' w9 ⟨v9, y9, rfl, r9, o9, -, m9⟩
          have z9 := run_conv (P := Try.prog) Try.underlying50 Try.underlying5 Try.underlying9 o9.sl
          have K9 := K.call r9 m9
          clear hc1 K r9 m9 cE
          generalize (takeB (some l)).1 = t at *
          generalize (takeB (some l)).2 = st1 at *
          obtain ⟨wa, hwa⟩ : ∃ wa, wa = w9.alloc (.cells #[sv t, .slice none 0 0] 46) := ⟨_, rfl⟩
          obtain ⟨ga, hga⟩ : ∃ ga, ga = w9.heap.size := ⟨_, rfl⟩
          have xa : Ext w9 wa := by rw [hwa]; exact (Mod.refl _ w9).alloc _
          have BA : Blk wa ga 46 #[sv t, .slice none 0 0] := by rw [hwa, hga]; exact Blk.new w9 _ _
          have hga2 : g < ga := by rw [hga]; exact K9.e.lt
          have Ka := K9.ext xa
          have hrs : ∀ r ∈ rs, ∀ k, own r.2 k → k < ga := by rw [hga]; exact K9.a.els_lt
          have hva : ∀ k, own va k → k < ga := by rw [hga]; exact fun k hk => K9.a.own.lt hk
          replace hwa := Lib.hid hwa
          replace hga := Lib.hid hga
          have hn := rrnum_any Ka.r hl2
          clear K9 xa hl2
          go_upto_region 15 with fail
          rw [← hwa.out, ← hga.out]
          clear hwa hga z9 o9
          go_wp2_with fail
          refine hn.mono ?_
          rintro e' w10 ⟨v10, rfl, r10, m10⟩
          have K10 := Ka.call r10 m10
          have BA10 := BA.mod m10 (fun e => by have := Ka.bg; omega)
          clear hn Ka r10 m10 BA
          generalize takeN st1 = ns3 at *
          obtain ⟨n3, s3⟩ := ns3
          simp only at hrun2 q2 q4 K10 ⊢
          obtain ⟨Z, hZ⟩ : ∃ Z, Z = rdVals n3 s3 [] := ⟨_, rfl⟩
          rw [← hZ] at hrun2
          replace hZ := Lib.hid hZ.symm
          go_wp2_with fail
          go_loopw [13] (fun i wx => ∃ (j q : Nat) (st : St) (vr vv : Value) (vals : List (List UInt8)), i = .int .i64 j ∧ j + q = n3 ∧ Hid (rdVals q st vals = Z) ∧ Ek w1 b g wx vr st vd va rs D L ∧ Blk wx ga 46 #[sv t, vv] ∧ Own wx 9 vv (vals.map sv) ∧ Fresh ga vv ∧ wD D + wA L + (1 + t.length) + wV vals + mS st ≤ s.length + 1) (fun i _ => n3 - (intOf i).toNat)
          case atStart => exact ⟨0, n3, s3, v10, _, [], rfl, by omega, hZ, K10, BA10, Own.nil _ _, fresh_nil _ _ _, by have : wV [] = 0 := rfl; omega⟩
          case round =>
            clear K10 BA10 hZ
            obtain ⟨j, q, st, vr, vv, vals, rfl, hjq, hrun, K, BA, OV, FV, hsv⟩ := hrel
            have hj0 : (0 : Int) ≤ (j : Int) := by omega
            have hal := wA_ge L
            have hvl := wV_ge vals
            have hgb := K.bg
            by_cases hst : 0 < q ∧ st.isSome = true
            case neg =>
              have hZe : Hid (Z = (vals, st)) := Lib.hid (by
                rw [← hrun.out]
                cases q with
                | zero => rfl
                | succ q => cases st with
                  | none => rfl
                  | some l => exact absurd ⟨Nat.succ_pos _, rfl⟩ hst)
              have hrun3 : Hid (rdAts m st (L ++ [⟨t, vals⟩]) = Y) := Lib.hid (by have h := hrun2.out; rw [hZe.out] at h; exact h)
              have hws : wD D + wA (L ++ [⟨t, vals⟩]) + mS st ≤ s.length + 1 := by rw [wA_snoc]; simp only; omega
              obtain ⟨Av, nv, cv, rfl⟩ : ∃ A n c, vv = Value.slice A n c := by obtain ⟨A, c, h⟩ := OV.shape; exact ⟨A, _, c, h⟩
              obtain ⟨Aa, ca, rfl⟩ := K.a.own.shape
              have hlr := K.a.len
              have hn1 := Lib.hid (show (rs.length + 1) * 40 ≤ 140737488355328 by omega)
              have c1 : wr.cell? ⟨g, 1, none⟩ = some (Value.slice Aa rs.length ca) := K.e.cell 1
              have d0 : wr.cell? ⟨ga, 0, none⟩ = some (sv t) := BA.cell 0
              have d1 : wr.cell? ⟨ga, 1, none⟩ = some (Value.slice Av nv cv) := BA.cell 1
              clear hrun hrun2 hZe hlr hal hvl
              by_cases h0 : 0 < q
              case' pos =>
                have hsn : st.isNone = true := by cases st with | none => rfl | some l => exact absurd ⟨h0, rfl⟩ hst
                have cE : wr.cell? ⟨b, 1, none⟩ = some (.bool true) := by have h : wr.cell? ⟨b, 1, none⟩ = some (.bool st.isNone) := K.r.blk.cell 1; rw [hsn] at h; exact h
                clear hsn
                have hb0 : decide (j < n3) = true := dtrue (by omega)
                have hb1 : decide ((j : Int) < (n3 : Int)) = true := dtrue (by omega)
                clear hst
                go_wp2_with ((with_reducible show wpList _ _ _ (⟨some 92, _, _, _, _, _⟩ :: _) _ _); refine wp_appR (x := ((t, Value.slice Av nv cv) : AtV)) tyAt atc_len K.a.own rfl atc_ok hn1.out rfl (.tmp 89) (.tmp 91) rfl rfl rfl ?_; intro v9 w9 k1 k2 k3; obtain ⟨A9, n9, c9, rfl⟩ : ∃ A n c, v9 = Value.slice A n c := (by obtain ⟨A, c, h⟩ := k1.shape; exact ⟨A, _, c, h⟩); have B9 := K.e.mod k2 (fun hk => ownR_ne_blk K.a.own K.e (by decide) hk rfl); have fz := B9.frozen 1; have c9' := B9.cell 1)
              case' neg =>
                have hb0 : decide (j < n3) = false := dfalse (by omega)
                have hb1 : decide ((j : Int) < (n3 : Int)) = false := dfalse (by omega)
                clear hst
                go_wp2_with ((with_reducible show wpList _ _ _ (⟨some 92, _, _, _, _, _⟩ :: _) _ _); refine wp_appR (x := ((t, Value.slice Av nv cv) : AtV)) tyAt atc_len K.a.own rfl atc_ok hn1.out rfl (.tmp 89) (.tmp 91) rfl rfl rfl ?_; intro v9 w9 k1 k2 k3; obtain ⟨A9, n9, c9, rfl⟩ : ∃ A n c, v9 = Value.slice A n c := (by obtain ⟨A, c, h⟩ := k1.shape; exact ⟨A, _, c, h⟩); have B9 := K.e.mod k2 (fun hk => ownR_ne_blk K.a.own K.e (by decide) hk rfl); have fz := B9.frozen 1; have c9' := B9.cell 1)
              all_goals exact ⟨⟨k + 1, m, st, vr, _, rs ++ [(t, Value.slice Av nv cv)], L ++ [⟨t, vals⟩], by go_num, by omega, hrun3, K.addA k1 k2 k3 rfl OV (fun k hk => by have := FV k hk; omega), hws⟩, by simp [intOf] <;> omega⟩
            obtain ⟨h0, hs1⟩ := hst
            obtain ⟨l2, rfl⟩ : ∃ l, st = some l := by cases st with | none => cases hs1 | some l => exact ⟨l, rfl⟩
            obtain ⟨q, rfl⟩ : ∃ j, q = j + 1 := ⟨q - 1, by omega⟩
            have hb0 : decide (j < n3) = true := dtrue (by omega)
            have hb1 : decide ((j : Int) < (n3 : Int)) = true := dtrue (by omega)
            have cE : wr.cell? ⟨b, 1, none⟩ = some (.bool false) := K.r.blk.cell 1
            have hrun3 : Hid (rdVals q (takeB (some l2)).2 (vals ++ [(takeB (some l2)).1]) = Z) := hrun
            have e5 : mS (some l2) = l2.length + 1 := rfl
            have e6 : szO (some l2) = l2.length := rfl
            have q5 := takeB_w (some l2)
            simp only [Option.isSome_some, if_true] at q5
            have hws : wD D + wA L + (1 + t.length) + wV (vals ++ [(takeB (some l2)).1]) + mS (takeB (some l2)).2 ≤ s.length + 1 := by rw [wV_snoc]; omega
            have hdr : Ext wr wr.drew := (Mod.refl _ wr).drew
            have Kd := K.ext hdr
            have BAd := BA.mod hdr (fun h => h)
            have OVd := OV.mod hdr (fun _ _ h => h)
            have hcT := rrbytes_any Kd.r (by simp only [Option.getD_some]; omega)
            have c1 : wr.drew.cell? ⟨ga, 1, none⟩ = some vv := BAd.cell 1
            have hn1 := Lib.hid (show ((vals.map sv).length + 1) * 16 ≤ 140737488355328 by rw [List.length_map]; omega)
            generalize (takeB (some l2)).1 = tt at *
            generalize (takeB (some l2)).2 = st2 at *
            clear hrun hs1 q5 hal hvl K BA OV hdr
            obtain ⟨Av, cv, hvv⟩ := OVd.shape
            obtain ⟨nv, hnv⟩ : ∃ n, n = (vals.map sv).length := ⟨_, rfl⟩
            rw [← hnv] at hvv
            subst hvv
            replace hnv := Lib.hid hnv
            go_wp2_with fail
            refine wp_region_held_drew (S := fun _ => True) (by kernel_rfl) trivial (fun hH => ?_)
            (refine wpAnyH_take (i := 0) (oi := ⟨_, _, _, _, _, _⟩) (v := ?_) rfl (by kernel_rfl) (by kernel_rfl) (by kernel_rfl) (fun _ _ _ h => h) (Or.inl ⟨by kernel_rfl, ?_⟩) hH ?_; rotate_left; focus (intro wx hSw; (try dsimp only at hSw); go_simp; try with_reducible rfl)); try simp only [Act.put, List.setIfInBounds_toArray, List.set_cons_zero, List.set_cons_succ]; try simp only [List.getElem_toArray, List.getElem_cons_succ, List.getElem_cons_zero]
            (refine wpAnyH_take (i := 2) (oi := ⟨_, _, _, _, _, _⟩) (v := ?_) rfl (by kernel_rfl) (by kernel_rfl) (by kernel_rfl) (fun _ _ _ h => h) (Or.inl ⟨by kernel_rfl, ?_⟩) hH ?_; rotate_left; focus (intro wx hSw; (try dsimp only at hSw); go_simp; try with_reducible rfl)); try simp only [Act.put, List.setIfInBounds_toArray, List.set_cons_zero, List.set_cons_succ]; try simp only [List.getElem_toArray, List.getElem_cons_succ, List.getElem_cons_zero]
            refine wpAnyH_ready (rs := [1, 3]) (by kernel_rfl) (by simp) ?_
            refine AllReadyH.cons rfl (fun K' hK => ?_) (AllReadyH.cons rfl (fun K' hK => ?_) AllReadyH.nil)
            case' refine_1 =>
              go_simp
              (go_wp2_with fail; refine hK.out _ _ trivial (fun hH => ?_); clear hK K'; try simp only [Act.put, List.setIfInBounds_toArray, List.set_cons_zero, List.set_cons_succ]; try simp only [List.getElem_toArray, List.getElem_cons_succ, List.getElem_cons_zero])
              (refine wpAnyH_ready (rs := [3]) (by kernel_rfl) (by simp) ?_; refine AllReadyH.cons rfl (fun K' hK => ?_) AllReadyH.nil)
              go_simp
              refine hcT.mono ?_
              rintro e' w12 ⟨v12, y12, rfl, r12, o12, -, m12⟩
              have z12 := run_conv (P := Try.prog) Try.underlying50 Try.underlying5 Try.underlying9 o12.sl
              have K12 := Kd.call r12 m12
              have BA12 := BAd.mod m12 (fun e => by omega)
              have OV12 := OVd.mod m12 (fun k hk e => by have := FV k hk; omega)
              have c12 : w12.cell? ⟨ga, 1, none⟩ = some (Value.slice Av nv cv) := BA12.cell 1
              have xl : Ext w12 (w12.alloc (.cells #[sv tt] 9)) := (Mod.refl _ w12).alloc _
              have OVl := OV12.mod xl (fun _ _ h => h)
              have BAl := BA12.mod xl (fun h => h)
              have Kl := K12.ext xl
              have cl : (w12.alloc (.cells #[sv tt] 9)).cell? ⟨ga, 1, none⟩ = some (Value.slice Av nv cv) := BAl.cell 1
              have Sll := Sl.lit w12 9 [sv tt] (by simp [maxLen])
              (go_wp2_with fail; refine hK.out _ _ trivial (fun hH => ?_); clear hK K'; try simp only [Act.put, List.setIfInBounds_toArray, List.set_cons_zero, List.set_cons_succ]; try simp only [List.getElem_toArray, List.getElem_cons_succ, List.getElem_cons_zero])
              (refine wpAnyH_ready (rs := [4]) (by kernel_rfl) (by simp) ?_; refine AllReadyH.cons rfl (fun K' hK => ?_) AllReadyH.nil)
              go_simp
              (go_wp2_with fail; refine hK.out _ _ trivial (fun hH => ?_); clear hK K'; try simp only [Act.put, List.setIfInBounds_toArray, List.set_cons_zero, List.set_cons_succ]; try simp only [List.getElem_toArray, List.getElem_cons_succ, List.getElem_cons_zero])
              (refine wpAnyH_ready (rs := [5]) (by kernel_rfl) (by simp) ?_; refine AllReadyH.cons rfl (fun K' hK => ?_) AllReadyH.nil)
              go_simp
              (go_wp2_with fail; refine hK.out _ _ trivial (fun hH => ?_); clear hK K'; try simp only [Act.put, List.setIfInBounds_toArray, List.set_cons_zero, List.set_cons_succ]; try simp only [List.getElem_toArray, List.getElem_cons_succ, List.getElem_cons_zero])
              (refine wpAnyH_ready (rs := [6]) (by kernel_rfl) (by simp) ?_; refine AllReadyH.cons rfl (fun K' hK => ?_) AllReadyH.nil)
              refine step_app 86 tyS OVl Sll (by intro u hu; rw [List.mem_singleton.1 hu]; rfl) hn1.out rfl rfl (.tmp 81) (.tmp 85) rfl rfl rfl ?_
              intro va' wa ka1 ka2 ka3
              obtain ⟨Aw, nw, cw, rfl⟩ : ∃ A n c, va' = Value.slice A n c := (by obtain ⟨A, c, h⟩ := ka1.shape; exact ⟨A, _, c, h⟩)
              have BAa := BAl.mod ka2 (fun ho => OVl.ne_blk BAl (by decide) ho)
              have fz := BAa.frozen 1
              have ca1 : wa.cell? ⟨ga, 1, none⟩ = some (Value.slice Av nv cv) := BAa.cell 1
              (refine hK.out _ _ trivial (fun hH => ?_); clear hK K'; try simp only [Act.put, List.setIfInBounds_toArray]; try simp only [List.getElem_toArray, List.getElem_cons_succ, List.getElem_cons_zero])
              (refine wpAnyH_take (i := 7) (oi := ⟨_, _, _, _, _, _⟩) (v := ?_) rfl (by kernel_rfl) (by kernel_rfl) (by kernel_rfl) (fun _ _ _ h => h) (Or.inl ⟨by kernel_rfl, ?_⟩) hH ?_; rotate_left; focus (intro wx hSw; (try dsimp only at hSw); go_simp; try with_reducible rfl)); try simp only [Act.put, List.setIfInBounds_toArray, List.set_cons_zero, List.set_cons_succ]; try simp only [List.getElem_toArray, List.getElem_cons_succ, List.getElem_cons_zero]
              (refine wpAnyH_ready (rs := [8]) (by kernel_rfl) (by simp) ?_; refine AllReadyH.cons rfl (fun K' hK => ?_) AllReadyH.nil)
              go_simp
              (go_wp2_with fail; refine hK.out _ _ trivial (fun hH => ?_); clear hK K'; try simp only [Act.put, List.setIfInBounds_toArray]; try simp only [List.getElem_toArray, List.getElem_cons_succ, List.getElem_cons_zero])
              refine wpAnyH_done (by kernel_rfl) ?_ _
            case' refine_2 =>
              go_simp
              refine hcT.mono ?_
              rintro e' w12 ⟨v12, y12, rfl, r12, o12, -, m12⟩
              have z12 := run_conv (P := Try.prog) Try.underlying50 Try.underlying5 Try.underlying9 o12.sl
              have K12 := Kd.call r12 m12
              have BA12 := BAd.mod m12 (fun e => by omega)
              have OV12 := OVd.mod m12 (fun k hk e => by have := FV k hk; omega)
              have c12 : w12.cell? ⟨ga, 1, none⟩ = some (Value.slice Av nv cv) := BA12.cell 1
              have xl : Ext w12 (w12.alloc (.cells #[sv tt] 9)) := (Mod.refl _ w12).alloc _
              have OVl := OV12.mod xl (fun _ _ h => h)
              have BAl := BA12.mod xl (fun h => h)
              have Kl := K12.ext xl
              have cl : (w12.alloc (.cells #[sv tt] 9)).cell? ⟨ga, 1, none⟩ = some (Value.slice Av nv cv) := BAl.cell 1
              have Sll := Sl.lit w12 9 [sv tt] (by simp [maxLen])
              (go_wp2_with fail; refine hK.out _ _ trivial (fun hH => ?_); clear hK K'; try simp only [Act.put, List.setIfInBounds_toArray, List.set_cons_zero, List.set_cons_succ]; try simp only [List.getElem_toArray, List.getElem_cons_succ, List.getElem_cons_zero])
              refine wpAnyH_ready (rs := [1, 4]) (by kernel_rfl) (by simp) ?_
              refine AllReadyH.cons rfl (fun K' hK => ?_) (AllReadyH.cons rfl (fun K' hK => ?_) AllReadyH.nil)
              case' refine_1 =>
                go_simp
                (go_wp2_with fail; refine hK.out _ _ trivial (fun hH => ?_); clear hK K'; try simp only [Act.put, List.setIfInBounds_toArray, List.set_cons_zero, List.set_cons_succ]; try simp only [List.getElem_toArray, List.getElem_cons_succ, List.getElem_cons_zero])
                (refine wpAnyH_ready (rs := [4]) (by kernel_rfl) (by simp) ?_; refine AllReadyH.cons rfl (fun K' hK => ?_) AllReadyH.nil)
                go_simp
                (go_wp2_with fail; refine hK.out _ _ trivial (fun hH => ?_); clear hK K'; try simp only [Act.put, List.setIfInBounds_toArray, List.set_cons_zero, List.set_cons_succ]; try simp only [List.getElem_toArray, List.getElem_cons_succ, List.getElem_cons_zero])
                (refine wpAnyH_ready (rs := [5]) (by kernel_rfl) (by simp) ?_; refine AllReadyH.cons rfl (fun K' hK => ?_) AllReadyH.nil)
                go_simp
                (go_wp2_with fail; refine hK.out _ _ trivial (fun hH => ?_); clear hK K'; try simp only [Act.put, List.setIfInBounds_toArray, List.set_cons_zero, List.set_cons_succ]; try simp only [List.getElem_toArray, List.getElem_cons_succ, List.getElem_cons_zero])
                (refine wpAnyH_ready (rs := [6]) (by kernel_rfl) (by simp) ?_; refine AllReadyH.cons rfl (fun K' hK => ?_) AllReadyH.nil)
                refine step_app 86 tyS OVl Sll (by intro u hu; rw [List.mem_singleton.1 hu]; rfl) hn1.out rfl rfl (.tmp 81) (.tmp 85) rfl rfl rfl ?_
                intro va' wa ka1 ka2 ka3
                obtain ⟨Aw, nw, cw, rfl⟩ : ∃ A n c, va' = Value.slice A n c := (by obtain ⟨A, c, h⟩ := ka1.shape; exact ⟨A, _, c, h⟩)
                have BAa := BAl.mod ka2 (fun ho => OVl.ne_blk BAl (by decide) ho)
                have fz := BAa.frozen 1
                have ca1 : wa.cell? ⟨ga, 1, none⟩ = some (Value.slice Av nv cv) := BAa.cell 1
                (refine hK.out _ _ trivial (fun hH => ?_); clear hK K'; try simp only [Act.put, List.setIfInBounds_toArray]; try simp only [List.getElem_toArray, List.getElem_cons_succ, List.getElem_cons_zero])
                (refine wpAnyH_take (i := 7) (oi := ⟨_, _, _, _, _, _⟩) (v := ?_) rfl (by kernel_rfl) (by kernel_rfl) (by kernel_rfl) (fun _ _ _ h => h) (Or.inl ⟨by kernel_rfl, ?_⟩) hH ?_; rotate_left; focus (intro wx hSw; (try dsimp only at hSw); go_simp; try with_reducible rfl)); try simp only [Act.put, List.setIfInBounds_toArray, List.set_cons_zero, List.set_cons_succ]; try simp only [List.getElem_toArray, List.getElem_cons_succ, List.getElem_cons_zero]
                (refine wpAnyH_ready (rs := [8]) (by kernel_rfl) (by simp) ?_; refine AllReadyH.cons rfl (fun K' hK => ?_) AllReadyH.nil)
                go_simp
                (go_wp2_with fail; refine hK.out _ _ trivial (fun hH => ?_); clear hK K'; try simp only [Act.put, List.setIfInBounds_toArray]; try simp only [List.getElem_toArray, List.getElem_cons_succ, List.getElem_cons_zero])
                refine wpAnyH_done (by kernel_rfl) ?_ _
              case' refine_2 =>
                go_simp
                (go_wp2_with fail; refine hK.out _ _ trivial (fun hH => ?_); clear hK K'; try simp only [Act.put, List.setIfInBounds_toArray, List.set_cons_zero, List.set_cons_succ]; try simp only [List.getElem_toArray, List.getElem_cons_succ, List.getElem_cons_zero])
                refine wpAnyH_ready (rs := [1, 5]) (by kernel_rfl) (by simp) ?_
                refine AllReadyH.cons rfl (fun K' hK => ?_) (AllReadyH.cons rfl (fun K' hK => ?_) AllReadyH.nil)
                case' refine_1 =>
                  go_simp
                  (go_wp2_with fail; refine hK.out _ _ trivial (fun hH => ?_); clear hK K'; try simp only [Act.put, List.setIfInBounds_toArray, List.set_cons_zero, List.set_cons_succ]; try simp only [List.getElem_toArray, List.getElem_cons_succ, List.getElem_cons_zero])
                  (refine wpAnyH_ready (rs := [5]) (by kernel_rfl) (by simp) ?_; refine AllReadyH.cons rfl (fun K' hK => ?_) AllReadyH.nil)
                  go_simp
                  (go_wp2_with fail; refine hK.out _ _ trivial (fun hH => ?_); clear hK K'; try simp only [Act.put, List.setIfInBounds_toArray, List.set_cons_zero, List.set_cons_succ]; try simp only [List.getElem_toArray, List.getElem_cons_succ, List.getElem_cons_zero])
                  (refine wpAnyH_ready (rs := [6]) (by kernel_rfl) (by simp) ?_; refine AllReadyH.cons rfl (fun K' hK => ?_) AllReadyH.nil)
                  refine step_app 86 tyS OVl Sll (by intro u hu; rw [List.mem_singleton.1 hu]; rfl) hn1.out rfl rfl (.tmp 81) (.tmp 85) rfl rfl rfl ?_
                  intro va' wa ka1 ka2 ka3
                  obtain ⟨Aw, nw, cw, rfl⟩ : ∃ A n c, va' = Value.slice A n c := (by obtain ⟨A, c, h⟩ := ka1.shape; exact ⟨A, _, c, h⟩)
                  have BAa := BAl.mod ka2 (fun ho => OVl.ne_blk BAl (by decide) ho)
                  have fz := BAa.frozen 1
                  have ca1 : wa.cell? ⟨ga, 1, none⟩ = some (Value.slice Av nv cv) := BAa.cell 1
                  (refine hK.out _ _ trivial (fun hH => ?_); clear hK K'; try simp only [Act.put, List.setIfInBounds_toArray]; try simp only [List.getElem_toArray, List.getElem_cons_succ, List.getElem_cons_zero])
                  (refine wpAnyH_take (i := 7) (oi := ⟨_, _, _, _, _, _⟩) (v := ?_) rfl (by kernel_rfl) (by kernel_rfl) (by kernel_rfl) (fun _ _ _ h => h) (Or.inl ⟨by kernel_rfl, ?_⟩) hH ?_; rotate_left; focus (intro wx hSw; (try dsimp only at hSw); go_simp; try with_reducible rfl)); try simp only [Act.put, List.setIfInBounds_toArray, List.set_cons_zero, List.set_cons_succ]; try simp only [List.getElem_toArray, List.getElem_cons_succ, List.getElem_cons_zero]
                  (refine wpAnyH_ready (rs := [8]) (by kernel_rfl) (by simp) ?_; refine AllReadyH.cons rfl (fun K' hK => ?_) AllReadyH.nil)
                  go_simp
                  (go_wp2_with fail; refine hK.out _ _ trivial (fun hH => ?_); clear hK K'; try simp only [Act.put, List.setIfInBounds_toArray]; try simp only [List.getElem_toArray, List.getElem_cons_succ, List.getElem_cons_zero])
                  refine wpAnyH_done (by kernel_rfl) ?_ _
                case' refine_2 =>
                  go_simp
                  (go_wp2_with fail; refine hK.out _ _ trivial (fun hH => ?_); clear hK K'; try simp only [Act.put, List.setIfInBounds_toArray, List.set_cons_zero, List.set_cons_succ]; try simp only [List.getElem_toArray, List.getElem_cons_succ, List.getElem_cons_zero])
                  (refine wpAnyH_ready (rs := [1]) (by kernel_rfl) (by simp) ?_; refine AllReadyH.cons rfl (fun K' hK => ?_) AllReadyH.nil)
                  go_simp
                  (go_wp2_with fail; refine hK.out _ _ trivial (fun hH => ?_); clear hK K'; try simp only [Act.put, List.setIfInBounds_toArray, List.set_cons_zero, List.set_cons_succ]; try simp only [List.getElem_toArray, List.getElem_cons_succ, List.getElem_cons_zero])
                  (refine wpAnyH_ready (rs := [6]) (by kernel_rfl) (by simp) ?_; refine AllReadyH.cons rfl (fun K' hK => ?_) AllReadyH.nil)
                  refine step_app 86 tyS OVl Sll (by intro u hu; rw [List.mem_singleton.1 hu]; rfl) hn1.out rfl rfl (.tmp 81) (.tmp 85) rfl rfl rfl ?_
                  intro va' wa ka1 ka2 ka3
                  obtain ⟨Aw, nw, cw, rfl⟩ : ∃ A n c, va' = Value.slice A n c := (by obtain ⟨A, c, h⟩ := ka1.shape; exact ⟨A, _, c, h⟩)
                  have BAa := BAl.mod ka2 (fun ho => OVl.ne_blk BAl (by decide) ho)
                  have fz := BAa.frozen 1
                  have ca1 : wa.cell? ⟨ga, 1, none⟩ = some (Value.slice Av nv cv) := BAa.cell 1
                  (refine hK.out _ _ trivial (fun hH => ?_); clear hK K'; try simp only [Act.put, List.setIfInBounds_toArray]; try simp only [List.getElem_toArray, List.getElem_cons_succ, List.getElem_cons_zero])
                  (refine wpAnyH_take (i := 7) (oi := ⟨_, _, _, _, _, _⟩) (v := ?_) rfl (by kernel_rfl) (by kernel_rfl) (by kernel_rfl) (fun _ _ _ h => h) (Or.inl ⟨by kernel_rfl, ?_⟩) hH ?_; rotate_left; focus (intro wx hSw; (try dsimp only at hSw); go_simp; try with_reducible rfl)); try simp only [Act.put, List.setIfInBounds_toArray, List.set_cons_zero, List.set_cons_succ]; try simp only [List.getElem_toArray, List.getElem_cons_succ, List.getElem_cons_zero]
                  (refine wpAnyH_ready (rs := [8]) (by kernel_rfl) (by simp) ?_; refine AllReadyH.cons rfl (fun K' hK => ?_) AllReadyH.nil)
                  go_simp
                  (go_wp2_with fail; refine hK.out _ _ trivial (fun hH => ?_); clear hK K'; try simp only [Act.put, List.setIfInBounds_toArray]; try simp only [List.getElem_toArray, List.getElem_cons_succ, List.getElem_cons_zero])
                  refine wpAnyH_done (by kernel_rfl) ?_ _
            all_goals
              obtain ⟨KA, BB, OO, FF⟩ := Kl.addV hga2 BAl hva hrs OVl FV ka1 ka2 ka3
              have hmp : vals.map sv ++ [sv tt] = (vals ++ [tt]).map sv := by rw [List.map_append]; rfl
              rw [hmp] at OO
              clear K12 BA12 OV12 c12 xl OVl BAl Kl cl Sll ka1 ka2 ka3 BAa fz ca1 r12 m12 Kd BAd OVd c1 hmp o12 z12
              go_wp2_with fail
              exact ⟨⟨j + 1, q, st2, v12, _, vals ++ [tt], by go_num, by omega, hrun3, KA, BB, OO, FF, hws⟩, by simp [intOf] <;> omega⟩
end Go.Proofs.Ytlaaicdofompkaa
