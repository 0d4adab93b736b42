/- entry: Decode. -/
import Derived.Test.YtlaaicdofompkaaEntH
import Derived.Deep.RegionHeld3
namespace Go.Proofs.Ytlaaicdofompkaa
open Go.RowKit
set_option maxRecDepth 100000

theorem results_cell_row2 {P : Program} {fn : Func} {p u : Tmp} {ty : TypeId} (h : fn.results = #[.cell p ty, .tmp u]) (tmps : Array Value) (w : World) (g : Nat) (t : TypeId) (cs : Array Value) (fr : Nat × Nat) (d : TypeDesc)
    (hp : tmps.getD p undef = .pointer (some ⟨g, 0, none⟩)) (hg : w.heap[g]? = some (.cells cs t fr))
    (hu : P.underlying ty = some d) (hd : (match d with | .struct _ | .array _ _ => true | _ => false) = true) (hi : (P.info? ty).map (·.size) = some cs.size) :
    (results fn tmps).run P w = .ok (.tuple #[.agg cs, tmps.getD u undef]) w := by
  have hp' : tmps[p]?.getD undef = .pointer (some ⟨g, 0, none⟩) := by simpa using hp
  rw [results_cell_tmp h]
  simp [hp', asAddr, Result.andThen, run_loadVar_row w g t ty cs fr d hg hu hd hi]
theorem set2_mod (w : World) (g : Nat) (p q : Value) : Mod (fun k => k = g) w ((w.setCell ⟨g, 0, none⟩ p).setCell ⟨g, 1, none⟩ q) := ((Mod.refl (fun k => k = g) w).setCell (p := ⟨g, 0, none⟩) (fun _ => rfl) p).setCell (p := ⟨g, 1, none⟩) (fun _ => rfl) q
theorem whole_iff (st : St) : isWhole st = true ↔ st = some [] := by
  cases st with
  | none => simp [isWhole]
  | some l => simp [isWhole]
theorem takeN_le' (st : St) : (takeN st).1 ≤ 4611686018427387904 := by
  cases st with
  | none => exact Nat.zero_le _
  | some l =>
    unfold takeN takeNum
    simp only
    split
    · exact Nat.zero_le _
    · rename_i n' t' hh
      exact (numF_lt _ _ _ _ _ _ hh).2

section
variable {P : Program} {w : World} {t e : TypeId} {z : Value} {bytes : Nat} {ops : Array Oper} {o : Oper} {a : Act} {Q : Exit → Act → World → Prop}
/-- append(v, bytes that were laid) at a step of a region that draws. -/
theorem step_app {K : Act → World → Prop} {E : Prop} (d : Tmp) (hT : SliceTy P t e z bytes) {v y : Value} {S : Nat → Prop} {xs news : List Value} (hown : Own w e v xs) (hr : Sl w S y news) (h1 : ∀ u ∈ news, u.oneCell' = true)
    (hn : (xs.length + news.length) * bytes ≤ 140737488355328) (hgd : o.guard = none) (hd : o.dst = some d) (s yy : Operand) (ho : o.op = .call { callee := .builtin .append, args := #[s, yy], argTypes := #[t, t] }) (hs : a.eval s = v) (hy : a.eval yy = y)
    (h : ∀ v' w', Own w' e v' (xs ++ news) → Mod (own v) w w' → Next w.heap.size v v' → K (a.put o.dst v') w') : if Region.wanted o (yielded ops a.tmps) = true then Oper.wp P o a w K Q else E := by
  have hw : Region.wanted o (yielded ops a.tmps) = true := by simp [Region.wanted, hgd]
  rw [if_pos hw]
  obtain ⟨v', w', hrun, h2, h3, h4⟩ := run_app (P := P) hT o.type hown hr h1 hn
  unfold Oper.wp execOp
  simp only [ho, resolve, invoke, builtin, Sem.run_bind, Sem.run_pure, Result.andThen_ok, List.map_toArray, List.map_cons, List.map_nil, hs, hy, hrun]
  simp only [Oper.upon, hd]
  have := h v' w' h2 h3 h4
  rw [hd] at this
  exact this
end
section
variable {w wx w' : World} {b g : Nat} {vr vr' vd va v' : Value} {st st' : St} {rs : List AtV} {D : List Av} {L : List Att}
theorem OAt.els_lt (h : OAt w v' rs L) : ∀ r ∈ rs, ∀ k, Go.Proofs.Ytlaaicdofompkaa.own r.2 k → k < w.heap.size := fun r hr k hk => by
  obtain ⟨i, hi, e'⟩ := List.getElem_of_mem hr
  have hl := h.len
  exact (h.els i r (L[i]'(by omega)) (by rw [List.getElem?_eq_getElem hi, e']) (by rw [List.getElem?_eq_getElem (by omega)])).2.lt hk
theorem Dk.far {F : Nat → Prop} (h : Dk w b g wx vr st vd va rs D L) (m : Mod F wx w') (hF : ∀ k, F k → b < k ∧ k ≠ g ∧ ¬ own vd k ∧ ¬ own va k ∧ ∀ r ∈ rs, ¬ own r.2 k) : Dk w b g w' vr st vd va rs D L where
  r := h.r.mod m (fun hb => by have := (hF _ hb).1; omega) (fun k _ hk ho => by have := (hF _ ho).1; have := h.lo; omega)
  e := h.e.mod m (fun hg => (hF _ hg).2.1 rfl)
  d := h.d.mod m (fun k hk ho => (hF _ ho).2.2.1 hk)
  a := h.a.mod m (fun k hk ho => (hF _ ho).2.2.2.1 hk) (fun r hr k hk ho => (hF _ ho).2.2.2.2 r hr hk)
  ex := h.ex.trans m (fun _ _ h => h) (fun k hk ho => by have := (hF _ ho).1; have := h.lo; omega)
  lo := h.lo
  bg := h.bg
  fd := h.fd
  fa := h.fa
  fe := h.fe
/-- A value more of the attribute at ga. -/
theorem Dk.addV {ga : Nat} {ct : Array Value} {vv : Value} {xs ys : List Value} (h : Dk w b g wx vr st vd va rs D L) (hga : g < ga) (BA : Blk wx ga 46 ct) (ha : ∀ k, own va k → k < ga) (hr : ∀ r ∈ rs, ∀ k, own r.2 k → k < ga) (OV : Own wx 9 vv xs) (FV : Fresh ga vv)
    (k1 : Own w' 9 v' ys) (k2 : Mod (own vv) wx w') (k3 : Next wx.heap.size vv v') : Dk w b g (w'.setCell ⟨ga, 1, none⟩ v') vr st vd va rs D L ∧ Blk (w'.setCell ⟨ga, 1, none⟩ v') ga 46 (ct.setIfInBounds 1 v') ∧ Own (w'.setCell ⟨ga, 1, none⟩ v') 9 v' ys ∧ Fresh ga v' := by
  have hbg := h.bg
  have hl := BA.lt
  have K1 := h.far k2 (fun k ho => ⟨by have := FV k ho; omega, by have := FV k ho; omega, fun hd => own_neO h.d OV (by decide) hd ho, fun hd => own_neO h.a.own OV (by decide) hd ho, fun r hr' hk => by have := FV k ho; have := hr r hr' k hk; omega⟩)
  have B1 := BA.mod k2 (fun ho => OV.ne_blk BA (by decide) ho)
  have sm := setc_mod w' ga 1 v'
  exact ⟨K1.far sm (fun k e => by subst e; exact ⟨by omega, by omega, fun hd => ownR_ne_blk K1.d B1 (by decide) hd rfl, fun hd => by have := ha _ hd; omega, fun r hr' hk => by have := hr r hr' _ hk; omega⟩),
    B1.set_ 1 v', k1.mod sm (fun k hk e => k1.ne_blk B1 (by decide) (by rw [← e]; exact hk)), k3.fresh FV (by omega)⟩
end

set_option maxHeartbeats 16000000 in
theorem edec_any {w : World} {s : List UInt8} (hs : s.length ≤ 900000) :
    Calls Try.prog 18 #[sv s] w fun e' w' => ∃ vd va, e' = .returned (.tuple #[.agg #[vd, va], .int .i64 (decN s : Nat)]) ∧ As w' All vd (decE s).dn ∧ Ats w' va (decE s).ats ∧ Ext w w' := by
  have hzs := sv_size' s
  obtain ⟨w1, hw1⟩ : ∃ w1, w1 = w.alloc (.cells #[.slice none 0 0, .slice none 0 0] 25) := ⟨_, rfl⟩
  have x1 : Ext w w1 := by rw [hw1]; exact (Mod.refl _ w).alloc _
  have BR : Blk w1 w.heap.size 25 #[.slice none 0 0, .slice none 0 0] := by rw [hw1]; exact Blk.new w _ _
  obtain ⟨gr, hgr⟩ : ∃ gr, gr = w.heap.size := ⟨_, rfl⟩
  rw [← hgr] at BR
  have hgw : w.heap.size ≤ gr := by rw [hgr]; exact Nat.le_refl _
  replace hw1 := Lib.hid hw1
  replace hgr := Lib.hid hgr
  go_enter Try.func18, Try.ntmps18
  go_upto_region 1 with fail
  rw [← hw1.out, ← hgr.out]
  go_wp2_with ((with_reducible show wpList _ _ _ (⟨some 15, _, _, _, _, _⟩ :: _) _ _); refine wp_tob Try.underlying9 Try.underlying50 Try.underlying5 (l := s) (by omega) rfl (.tmp 14) rfl rfl ?_; intro cp w2 k1 k2 k3; clear k3)
  refine (newreader_any k1 (by omega)).mono ?_
  rintro e' w3 ⟨b, v3, rfl, r3, hb1, hb2, x3⟩
  have y2 := ext_trans x1 k2
  have BR2 := BR.mod k2 (fun h => h)
  obtain ⟨w4, hw4⟩ : ∃ w4, w4 = w3.alloc (.cells #[.slice none 0 0, .slice none 0 0] 25) := ⟨_, rfl⟩
  have x4 : Ext w3 w4 := by rw [hw4]; exact (Mod.refl _ w3).alloc _
  have BE : Blk w4 w3.heap.size 25 #[.slice none 0 0, .slice none 0 0] := by rw [hw4]; exact Blk.new w3 _ _
  obtain ⟨g, hg⟩ : ∃ g, g = w3.heap.size := ⟨_, rfl⟩
  rw [← hg] at BE
  have hbg : b < g := by omega
  have K0 : Dk w2 b g w4 v3 (some s) (.slice none 0 0) (.slice none 0 0) [] [] [] :=
    ⟨r3.mod x4 (fun h => h) (fun _ _ _ h => h), BE, OwnR.nil _ _ _ _, OAt.nil _, ext_trans x3 x4, hb1, hbg, fresh_nil _ _ _, fresh_nil _ _ _, fun r h => by cases h⟩
  have hr2 : gr < w2.heap.size := by have := BR.lt; have := k2.size; omega
  replace hw4 := Lib.hid hw4
  replace hg := Lib.hid hg
  clear k1 k2 r3 x3 x4 BE BR hb1 hb2 x1
  go_upto_region 3 with fail
  rw [← hw4.out, ← hg.out]
  have hn := num_any K0.r
  clear hw4 hg hw1 hgr
  go_wp2_with fail
  refine hn.mono ?_
  rintro e' w5 ⟨v5, rfl, r5, m5, -⟩
  have K5 := K0.call r5 m5
  obtain ⟨X, hX⟩ : ∃ X, X = rdAvs (takeN (some s)).1 (takeN (some s)).2 [] := ⟨_, rfl⟩
  have hnB : (takeN (some s)).1 ≤ 4611686018427387904 := (takeN_le' (some s))
  have hw0 := takeN_w (some s)
  have e3 : mS (some s) = s.length + 1 := rfl
  clear hn K0 r5 m5
  generalize hns : takeN (some s) = ns at *
  obtain ⟨n, s0⟩ := ns
  simp only at hX hnB hw0 K5 ⊢
  replace hns := Lib.hid hns
  have hXX : Hid (rdAvs n s0 [] = X) := Lib.hid hX.symm
  replace hX := Lib.hid hX.symm
  go_wp2_with fail
  go_loopw [6] (fun i wr => ∃ (m : Nat) (st : St) (vr vd : Value) (D : List Av), i = .int .i64 m ∧ m ≤ 4611686018427387904 ∧ Hid (rdAvs m st D = X) ∧ Dk w2 b g wr vr st vd (.slice none 0 0) [] D [] ∧ wD D + mS st ≤ s.length + 1) (fun i _ => (intOf i).toNat)
  case atStart => exact ⟨n, s0, v5, _, [], rfl, hnB, hX, K5, by have : wD [] = 0 := rfl; omega⟩
  case round =>
    clear K5 hX
    obtain ⟨m, st, vr, vd, D, rfl, hm, hrun, K, hsz⟩ := hrel
    have hgo := good_any K.r
    by_cases hst : 0 < m ∧ st.isSome = true
    case pos =>
      obtain ⟨h0, hs1⟩ := hst
      obtain ⟨l, rfl⟩ : ∃ l, st = some l := by cases st with | none => cases hs1 | some l => exact ⟨l, rfl⟩
      obtain ⟨m, rfl⟩ : ∃ j, m = j + 1 := ⟨m - 1, by omega⟩
      have hb0 : decide (0 < m + 1) = true := dtrue (by omega)
      have hb1 : decide ((0 : Int) < ((m + 1 : Nat) : Int)) = true := dtrue (by omega)
      have hrun2 : Hid (rdAvs m (takeB (takeB (some l)).2).2 (D ++ [((takeB (some l)).1, (takeB (takeB (some l)).2).1)]) = X) := hrun
      have e1 : mS (some l) = l.length + 1 := rfl
      have e2 : szO (some l) = l.length := rfl
      have q1 := takeB_w (some l)
      have q2 := takeB_w (takeB (some l)).2
      have q3 := takeB_sum (some l)
      simp only [Option.isSome_some, if_true] at q1 hgo
      have hc1 := text_any K.r (by omega)
      have hdl := wD_ge D
      clear hrun hs1
      go_wp2_with fail
      refine hgo.mono ?_
      rintro e' w6 ⟨rfl, rfl⟩
      go_wp2_with fail
      refine hc1.mono ?_
      rintro e' w7 ⟨v7, rfl, r7, m7⟩
      have K7 := K.call r7 m7
      have hc2 := text_any K7.r (by omega)
      clear hc1 hgo K r7 m7
      go_wp2_with fail
      refine hc2.mono ?_
      rintro e' w8 ⟨v8, rfl, r8, m8⟩
      have K8 := K7.call r8 m8
      clear hc2 K7 r8 m8
      have hws : wD (D ++ [((takeB (some l)).1, (takeB (takeB (some l)).2).1)]) + mS (takeB (takeB (some l)).2).2 ≤ s.length + 1 := by rw [wD_snoc]; simp only; omega
      generalize (takeB (some l)).1 = t at *
      generalize (takeB (takeB (some l)).2).1 = u at *
      generalize (takeB (takeB (some l)).2).2 = st2 at *
      have hn1 : (D.length + 1) * 32 ≤ 140737488355328 := by omega
      obtain ⟨Ad, cd, rfl⟩ := K8.d.shape
      have c0 : _ = some (Value.slice Ad D.length cd) := K8.e.cell 0
      go_wp2_with ((with_reducible show wpList _ _ _ (⟨some 37, _, _, _, _, _⟩ :: _) _ _); refine wp_appR (x := (t, u)) tyA avc_len K8.d rfl (avc_ok _) hn1 rfl (.tmp 32) (.tmp 36) rfl rfl rfl ?_; intro v9 w9 k1 k2 k3; obtain ⟨A9, n9, c9, rfl⟩ : ∃ A n c, v9 = Value.slice A n c := (by obtain ⟨A, c, h⟩ := k1.shape; exact ⟨A, _, c, h⟩); have B9 := K8.e.mod k2 (fun hk => ownR_ne_blk K8.d K8.e (by decide) hk rfl); have fz := B9.frozen 0; have c9' : _ = some (Value.slice Ad D.length cd) := B9.cell 0)
      exact ⟨⟨m, st2, v8, _, D ++ [(t, u)], by go_num, by omega, hrun2, K8.addD k1 k2 k3, hws⟩, by simp [intOf] <;> omega⟩
    case neg =>
      have hXe : Hid (X = (D, st)) := Lib.hid (by
        rw [← hrun.out]
        cases m with
        | zero => rfl
        | succ m => cases st with
          | none => rfl
          | some l => exact absurd ⟨Nat.succ_pos _, rfl⟩ hst)
      have hn := num_any K.r
      have q1 := takeN_w st
      have q2 := takeN_le' st
      clear hrun
      by_cases h0 : 0 < m
      case' pos =>
        have hsn : st.isSome = false := by
          cases h : st.isSome with
          | false => rfl
          | true => exact absurd ⟨h0, h⟩ hst
        rw [hsn] at hgo
        have hb0 : decide (0 < m) = true := dtrue h0
        have hb1 : decide ((0 : Int) < (m : Int)) = true := dtrue (by omega)
        clear hst
        go_wp2_with fail
        refine hgo.mono ?_
        rintro e' w6 ⟨rfl, rfl⟩
        clear hgo hsn
        go_wp2_with fail
      case' neg =>
        have hb0 : decide (0 < m) = false := dfalse h0
        have hb1 : decide ((0 : Int) < (m : Int)) = false := dfalse (by omega)
        clear hst hgo
        go_wp2_with fail
      all_goals
        refine hn.mono ?_
        rintro e' w7 ⟨v7, rfl, r7, m7, -⟩
        have K7 := K.call r7 m7
        clear hn K r7 m7 hb0 hb1 h0
        obtain ⟨Y, hY⟩ : ∃ Y, Y = rdAts (takeN st).1 (takeN st).2 [] := ⟨_, rfl⟩
        have hwd : wD D + mS (takeN st).2 ≤ s.length + 1 := by omega
        have hred : Hid (readE s = (⟨D, Y.1⟩, Y.2)) := Lib.hid (by
          unfold readE
          rw [hns.out]
          simp only
          rw [hXX.out, hXe.out]
          rw [hY])
        generalize takeN st = ns2 at *
        obtain ⟨n2, s2⟩ := ns2
        simp only at hY hwd K7 q2 ⊢
        replace hY := Lib.hid hY.symm
        clear hXe q1
        go_wp2_with fail
        go_loopw [9] (fun i wr => ∃ (m : Nat) (st : St) (vr va : Value) (rs : List AtV) (L : List Att), i = .int .i64 m ∧ m ≤ 4611686018427387904 ∧ Hid (rdAts m st L = Y) ∧ Dk w2 b g wr vr st vd va rs D L ∧ wD D + wA L + mS st ≤ s.length + 1) (fun i _ => (intOf i).toNat)
        case atStart => exact ⟨n2, s2, v7, _, [], [], rfl, q2, hY, K7, by have : wA [] = 0 := rfl; omega⟩
        case round =>
          clear K7 hY
          obtain ⟨m, st, vr, va, rs, L, rfl, hm, hrun, K, hsz⟩ := hrel
          have hgo := good_any K.r
          by_cases hst : 0 < m ∧ st.isSome = true
          case neg =>
            have hYe : Hid (Y = (L, st)) := Lib.hid (by
              rw [← hrun.out]
              cases m with
              | zero => rfl
              | succ m => cases st with
                | none => rfl
                | some l => exact absurd ⟨Nat.succ_pos _, rfl⟩ hst)
            have hre : readE s = (⟨D, L⟩, st) := by rw [hred.out, hYe.out]
            have hgi : goodE s ↔ (isWhole st = true ∧ isE ⟨D, L⟩ ∧ encE ⟨D, L⟩ = s) := by unfold goodE; rw [hre, whole_iff]
            have hdN : decN s = if goodE s then 0 else 3 := rfl
            have hdE : decE s = if goodE s then ⟨D, L⟩ else eZ := by unfold decE; rw [hre]
            have hen := eenc_any (e := ⟨D, L⟩) K.d.rc K.a.ats (by unfold wE; simp only; omega)
            have c0 : wr.cell? ⟨g, 0, none⟩ = some vd := K.e.cell 0
            have c1 : wr.cell? ⟨g, 1, none⟩ = some va := K.e.cell 1
            clear hrun hred hYe hXX hns hre
            by_cases h0 : 0 < m
            case' pos =>
              have hsn : st.isSome = false := by
                cases h : st.isSome with
                | false => rfl
                | true => exact absurd ⟨h0, h⟩ hst
              rw [hsn] at hgo
              have hb0 : decide (0 < m) = true := dtrue h0
              have hb1 : decide ((0 : Int) < (m : Int)) = true := dtrue (by omega)
              clear hst
              go_wp2_with fail
              refine hgo.mono ?_
              rintro e' w6 ⟨rfl, rfl⟩
              clear hgo hsn
              go_wp2_with fail
            case' neg =>
              have hb0 : decide (0 < m) = false := dfalse h0
              have hb1 : decide ((0 : Int) < (m : Int)) = false := dfalse (by omega)
              clear hst hgo
              go_wp2_with fail
            all_goals
              refine hen.mono ?_
              rintro e' w8 ⟨rfl, x8⟩
              have K8 := K.ext x8
              have hwh := whole_any K8.r
              have B8 := BR2.mod K8.ex (fun h => h)
              clear hen K x8 c0 c1 hb0 hb1 h0
              go_wp2_with fail
              refine hwh.mono ?_
              rintro e' w9 ⟨rfl, rfl⟩
              clear hwh
              obtain ⟨Ad, nd, cd, rfl⟩ : ∃ A n c, vd = Value.slice A n c := by obtain ⟨A, c, h⟩ := OwnR.shape K8.d; exact ⟨A, _, c, h⟩
              obtain ⟨Aa, na, ca, rfl⟩ : ∃ A n c, va = Value.slice A n c := by obtain ⟨A, c, h⟩ := OwnR.shape K8.a.own; exact ⟨A, _, c, h⟩
              have f0 := Blk.frozen B8 0
              have f1 := Blk.frozen B8 1
              have p0 : _ = some (Value.slice none 0 0) := Blk.cell B8 0
              have p1 : _ = some (Value.slice none 0 0) := Blk.cell B8 1
              have hlo := K8.lo
              have fin : ∀ p q, Ext w ((w9.setCell ⟨gr, 0, none⟩ p).setCell ⟨gr, 1, none⟩ q) := fun p q => (ext_trans y2 K8.ex).trans (set2_mod w9 gr p q) (fun _ _ h => h) (fun k hk e => by omega)
              by_cases hg : goodE s
              · obtain ⟨g1, g2, g3⟩ := hgi.1 hg
                rw [if_pos hg] at hdN hdE
                have hbE : bytesE ⟨D, L⟩ = s := (if_pos g2).trans g3
                have hcE : codeE ⟨D, L⟩ = 0 := if_pos g2
                rw [g1, hbE, hcE]
                have hq : (s != s) = false := by simp
                have c0 : w9.cell? ⟨g, 0, none⟩ = some (Value.slice Ad nd cd) := K8.e.cell 0
                have c1 : w9.cell? ⟨g, 1, none⟩ = some (Value.slice Aa na ca) := K8.e.cell 1
                have hd9 : ∀ p q, As ((w9.setCell ⟨gr, 0, none⟩ p).setCell ⟨gr, 1, none⟩ q) All (Value.slice Ad nd cd) D := fun p q => (OwnR.rc (OwnR.mod K8.d (set2_mod w9 gr p q) (fun k hk e => by have := K8.fd k hk; omega))).mono (fun _ _ _ => trivial)
                have ha9 : ∀ p q, Ats ((w9.setCell ⟨gr, 0, none⟩ p).setCell ⟨gr, 1, none⟩ q) (Value.slice Aa na ca) L := fun p q => (K8.a.mod (set2_mod w9 gr p q) (fun k hk e => by have := K8.fa k hk; omega) (fun r hr k hk e => by have := K8.fe r hr k hk; omega)).ats
                have R5 := (B8.set_ 0 (Value.slice Ad nd cd)).set_ 1 (Value.slice Aa na ca)
                clear hgi hg g2 g3 hbE hcE
                go_wp2_with fail
                refine bodyPost_ret (results_cell_row2 Try.results18 _ _ _ _ _ _ _ rfl R5 Try.underlying25 rfl (by kernel_rfl)) rfl ?_
                exact ⟨_, _, by rw [hdN]; rfl, by rw [hdE]; exact hd9 _ _, by rw [hdE]; exact ha9 _ _, fin _ _⟩
              rw [if_neg hg] at hdN hdE
              have R5 := (B8.set_ 0 (.slice none 0 0)).set_ 1 (.slice none 0 0)
              have hnn : ∀ wx, As wx All (.slice none 0 0) eZ.dn ∧ Ats wx (.slice none 0 0) eZ.ats := fun wx => ⟨As.none wx, Ats.nil wx⟩
              have hcs : (isWhole st = false) ∨ (isWhole st = true ∧ codeE ⟨D, L⟩ = 1) ∨ (isWhole st = true ∧ codeE ⟨D, L⟩ = 0 ∧ bytesE ⟨D, L⟩ ≠ s) := by
                cases hw : isWhole st with
                | false => exact .inl rfl
                | true =>
                  by_cases he : isE ⟨D, L⟩
                  · exact .inr (.inr ⟨rfl, if_pos he, fun h => hg (hgi.2 ⟨hw, he, by unfold bytesE at h; rw [if_pos he] at h; exact h⟩)⟩)
                  · exact .inr (.inl ⟨rfl, if_neg he⟩)
              clear hgi hg
              rcases hcs with q1 | ⟨q1, q2⟩ | ⟨q1, q2, q3⟩
              case' inl => rw [q1]; generalize codeE ⟨D, L⟩ = CE at *; generalize bytesE ⟨D, L⟩ = BE at *; go_wp2_with fail
              case' inr.inl => rw [q1, q2]; have q5 : (((1 : Nat) : Int) != 0) = true := rfl; generalize bytesE ⟨D, L⟩ = BE at *; go_wp2_with fail
              case' inr.inr => (rw [q1, q2]; (have q4 : (bytesE ⟨D, L⟩ != s) = true := bne_iff_ne.2 q3); (have q6 : (bytesE ⟨D, L⟩ == s) = false := beq_eq_false_iff_ne.2 q3); (have q5 : (((0 : Nat) : Int) != 0) = false := rfl); generalize bytesE ⟨D, L⟩ = BE at *; clear q3; go_wp2_with fail)
              all_goals refine bodyPost_ret (results_cell_row2 Try.results18 _ _ _ _ _ _ _ rfl R5 Try.underlying25 rfl (by kernel_rfl)) rfl ?_
              all_goals exact ⟨_, _, by rw [hdN]; rfl, by rw [hdE]; exact (hnn _).1, by rw [hdE]; exact (hnn _).2, fin _ _⟩
          obtain ⟨h0, hs1⟩ := hst
          obtain ⟨l, rfl⟩ : ∃ l, st = some l := by cases st with | none => cases hs1 | some l => exact ⟨l, rfl⟩
          obtain ⟨m, rfl⟩ : ∃ j, m = j + 1 := ⟨m - 1, by omega⟩
          have hb0 : decide (0 < m + 1) = true := dtrue (by omega)
          have hb1 : decide ((0 : Int) < ((m + 1 : Nat) : Int)) = true := dtrue (by omega)
          have hrun2 : Hid (rdAts m (atT (some l)).2 (L ++ [(atT (some l)).1]) = Y) := hrun
          have e1 : mS (some l) = l.length + 1 := rfl
          have e2 : szO (some l) = l.length := rfl
          have q1 := takeB_w (some l)
          have q2 := takeN_w (takeB (some l)).2
          have q4 := takeN_le' (takeB (some l)).2
          simp only [Option.isSome_some, if_true] at q1 hgo
          have hc1 := text_any K.r (by omega)
          unfold atT at hrun2
          have hal := wA_ge L
          clear hrun hs1
          go_wp2_with fail
          refine hgo.mono ?_
          rintro e' w8 ⟨rfl, rfl⟩
          go_wp2_with fail
          refine hc1.mono ?_
          rintro e' w9 ⟨v9, rfl, r9, m9⟩
          have K9 := K.call r9 m9
          clear hc1 hgo K r9 m9
          generalize (takeB (some l)).1 = t at *
          generalize (takeB (some l)).2 = st1 at *
          obtain ⟨wa, hwa⟩ : ∃ wa, wa = w9.alloc (.cells #[sv t, .slice none 0 0] 46) := ⟨_, rfl⟩
          obtain ⟨ga, hga⟩ : ∃ ga, ga = w9.heap.size := ⟨_, rfl⟩
          have xa : Ext w9 wa := by rw [hwa]; exact (Mod.refl _ w9).alloc _
          have BA : Blk wa ga 46 #[sv t, .slice none 0 0] := by rw [hwa, hga]; exact Blk.new w9 _ _
          have hga2 : g < ga := by rw [hga]; exact K9.e.lt
          have Ka := K9.ext xa
          have hrs : ∀ r ∈ rs, ∀ k, own r.2 k → k < ga := by rw [hga]; exact K9.a.els_lt
          have hva : ∀ k, own va k → k < ga := by rw [hga]; exact fun k hk => K9.a.own.lt hk
          replace hwa := Lib.hid hwa
          replace hga := Lib.hid hga
          have hn := num_any Ka.r
          clear K9 xa
          go_upto_region 12 with fail
          rw [← hwa.out, ← hga.out]
          clear hwa hga
          go_wp2_with fail
          refine hn.mono ?_
          rintro e' w10 ⟨v10, rfl, r10, m10, -⟩
          have K10 := Ka.call r10 m10
          have BA10 := BA.mod m10 (fun e => by have := Ka.bg; omega)
          clear hn Ka r10 m10 BA
          generalize takeN st1 = ns3 at *
          obtain ⟨n3, s3⟩ := ns3
          simp only at hrun2 q2 q4 K10 ⊢
          obtain ⟨Z, hZ⟩ : ∃ Z, Z = rdVals n3 s3 [] := ⟨_, rfl⟩
          rw [← hZ] at hrun2
          replace hZ := Lib.hid hZ.symm
          go_wp2_with fail
          go_loopw [11] (fun i wx => ∃ (m : Nat) (st : St) (vr vv : Value) (vals : List (List UInt8)), i = .int .i64 m ∧ m ≤ 4611686018427387904 ∧ Hid (rdVals m st vals = Z) ∧ Dk w2 b g wx vr st vd va rs D L ∧ Blk wx ga 46 #[sv t, vv] ∧ Own wx 9 vv (vals.map sv) ∧ Fresh ga vv ∧ wD D + wA L + (1 + t.length) + wV vals + mS st ≤ s.length + 1) (fun i _ => (intOf i).toNat)
          case atStart => exact ⟨n3, s3, v10, _, [], rfl, q4, hZ, K10, BA10, Own.nil _ _, fresh_nil _ _ _, by have : wV [] = 0 := rfl; omega⟩
          case round =>
            clear K10 BA10 hZ
            obtain ⟨q, st, vr, vv, vals, rfl, hq, hrun, K, BA, OV, FV, hsv⟩ := hrel
            have hgo := good_any K.r
            have hal := wA_ge L
            have hvl := wV_ge vals
            have hgb := K.bg
            by_cases hst : 0 < q ∧ st.isSome = true
            case neg =>
              have hZe : Hid (Z = (vals, st)) := Lib.hid (by
                rw [← hrun.out]
                cases q with
                | zero => rfl
                | succ q => cases st with
                  | none => rfl
                  | some l => exact absurd ⟨Nat.succ_pos _, rfl⟩ hst)
              have hrun3 : Hid (rdAts m st (L ++ [⟨t, vals⟩]) = Y) := Lib.hid (by have h := hrun2.out; rw [hZe.out] at h; exact h)
              have hws : wD D + wA (L ++ [⟨t, vals⟩]) + mS st ≤ s.length + 1 := by rw [wA_snoc]; simp only; omega
              obtain ⟨Av, nv, cv, rfl⟩ : ∃ A n c, vv = Value.slice A n c := by obtain ⟨A, c, h⟩ := OV.shape; exact ⟨A, _, c, h⟩
              obtain ⟨Aa, ca, rfl⟩ := K.a.own.shape
              have hlr := K.a.len
              have hn1 := Lib.hid (show (rs.length + 1) * 40 ≤ 140737488355328 by omega)
              have c1 : wr.cell? ⟨g, 1, none⟩ = some (Value.slice Aa rs.length ca) := K.e.cell 1
              have d0 : wr.cell? ⟨ga, 0, none⟩ = some (sv t) := BA.cell 0
              have d1 : wr.cell? ⟨ga, 1, none⟩ = some (Value.slice Av nv cv) := BA.cell 1
              clear hrun hrun2 hZe hlr hal hvl
              by_cases h0 : 0 < q
              case' pos =>
                have hsn : st.isSome = false := by
                  cases h : st.isSome with
                  | false => rfl
                  | true => exact absurd ⟨h0, h⟩ hst
                rw [hsn] at hgo
                have hb0 : decide (0 < q) = true := dtrue h0
                have hb1 : decide ((0 : Int) < (q : Int)) = true := dtrue (by omega)
                clear hst
                go_wp2_with fail
                refine hgo.mono ?_
                rintro e' w11 ⟨rfl, rfl⟩
                clear hgo hsn
                go_wp2_with ((with_reducible show wpList _ _ _ (⟨some 73, _, _, _, _, _⟩ :: _) _ _); refine wp_appR (x := ((t, Value.slice Av nv cv) : AtV)) tyAt atc_len K.a.own rfl atc_ok hn1.out rfl (.tmp 70) (.tmp 72) rfl rfl rfl ?_; intro v9 w9 k1 k2 k3; obtain ⟨A9, n9, c9, rfl⟩ : ∃ A n c, v9 = Value.slice A n c := (by obtain ⟨A, c, h⟩ := k1.shape; exact ⟨A, _, c, h⟩); have B9 := K.e.mod k2 (fun hk => ownR_ne_blk K.a.own K.e (by decide) hk rfl); have fz := B9.frozen 1; have c9' := B9.cell 1)
              case' neg =>
                have hb0 : decide (0 < q) = false := dfalse h0
                have hb1 : decide ((0 : Int) < (q : Int)) = false := dfalse (by omega)
                clear hst hgo
                go_wp2_with ((with_reducible show wpList _ _ _ (⟨some 73, _, _, _, _, _⟩ :: _) _ _); refine wp_appR (x := ((t, Value.slice Av nv cv) : AtV)) tyAt atc_len K.a.own rfl atc_ok hn1.out rfl (.tmp 70) (.tmp 72) rfl rfl rfl ?_; intro v9 w9 k1 k2 k3; obtain ⟨A9, n9, c9, rfl⟩ : ∃ A n c, v9 = Value.slice A n c := (by obtain ⟨A, c, h⟩ := k1.shape; exact ⟨A, _, c, h⟩); have B9 := K.e.mod k2 (fun hk => ownR_ne_blk K.a.own K.e (by decide) hk rfl); have fz := B9.frozen 1; have c9' := B9.cell 1)
              all_goals exact ⟨⟨m, st, vr, _, rs ++ [(t, Value.slice Av nv cv)], L ++ [⟨t, vals⟩], by go_num, by omega, hrun3, K.addA k1 k2 k3 rfl OV (fun k hk => by have := FV k hk; omega), hws⟩, by simp [intOf] <;> omega⟩
            obtain ⟨h0, hs1⟩ := hst
            obtain ⟨l2, rfl⟩ : ∃ l, st = some l := by cases st with | none => cases hs1 | some l => exact ⟨l, rfl⟩
            obtain ⟨q, rfl⟩ : ∃ j, q = j + 1 := ⟨q - 1, by omega⟩
            have hb0 : decide (0 < q + 1) = true := dtrue (by omega)
            have hb1 : decide ((0 : Int) < ((q + 1 : Nat) : Int)) = true := dtrue (by omega)
            have hrun3 : Hid (rdVals q (takeB (some l2)).2 (vals ++ [(takeB (some l2)).1]) = Z) := hrun
            have e5 : mS (some l2) = l2.length + 1 := rfl
            have e6 : szO (some l2) = l2.length := rfl
            have q5 := takeB_w (some l2)
            simp only [Option.isSome_some, if_true] at q5 hgo
            have hws : wD D + wA L + (1 + t.length) + wV (vals ++ [(takeB (some l2)).1]) + mS (takeB (some l2)).2 ≤ s.length + 1 := by rw [wV_snoc]; omega
            have hdr : Ext wr wr.drew := (Mod.refl _ wr).drew
            have Kd := K.ext hdr
            have BAd := BA.mod hdr (fun h => h)
            have OVd := OV.mod hdr (fun _ _ h => h)
            have hcT := text_any Kd.r (by omega)
            have c1 : wr.drew.cell? ⟨ga, 1, none⟩ = some vv := BAd.cell 1
            have hn1 := Lib.hid (show ((vals.map sv).length + 1) * 16 ≤ 140737488355328 by rw [List.length_map]; omega)
            generalize (takeB (some l2)).1 = tt at *
            generalize (takeB (some l2)).2 = st2 at *
            clear hrun hs1 q5 hal hvl K BA OV hdr
            obtain ⟨Av, cv, hvv⟩ := OVd.shape
            obtain ⟨nv, hnv⟩ : ∃ n, n = (vals.map sv).length := ⟨_, rfl⟩
            rw [← hnv] at hvv
            subst hvv
            replace hnv := Lib.hid hnv
            go_wp2_with fail
            refine hgo.mono ?_
            rintro e' w11 ⟨rfl, rfl⟩
            clear hgo
            go_wp2_with fail
            refine wp_region_held_drew (S := fun _ => True) (by kernel_rfl) trivial (fun hH => ?_)
            (refine wpAnyH_take (i := 0) (oi := ⟨_, _, _, _, _, _⟩) (v := ?_) rfl (by kernel_rfl) (by kernel_rfl) (by kernel_rfl) (fun _ _ _ h => h) (Or.inl ⟨by kernel_rfl, ?_⟩) hH ?_; rotate_left; focus (intro wx hSw; (try dsimp only at hSw); go_simp; try with_reducible rfl)); try simp only [Act.put, List.setIfInBounds_toArray, List.set_cons_zero, List.set_cons_succ]; try simp only [List.getElem_toArray, List.getElem_cons_succ, List.getElem_cons_zero]
            (refine wpAnyH_take (i := 2) (oi := ⟨_, _, _, _, _, _⟩) (v := ?_) rfl (by kernel_rfl) (by kernel_rfl) (by kernel_rfl) (fun _ _ _ h => h) (Or.inl ⟨by kernel_rfl, ?_⟩) hH ?_; rotate_left; focus (intro wx hSw; (try dsimp only at hSw); go_simp; try with_reducible rfl)); try simp only [Act.put, List.setIfInBounds_toArray, List.set_cons_zero, List.set_cons_succ]; try simp only [List.getElem_toArray, List.getElem_cons_succ, List.getElem_cons_zero]
            refine wpAnyH_ready (rs := [1, 3]) (by kernel_rfl) (by simp) ?_
            refine AllReadyH.cons rfl (fun K' hK => ?_) (AllReadyH.cons rfl (fun K' hK => ?_) AllReadyH.nil)
            case' refine_1 =>
              go_simp
              (go_wp2_with fail; refine hK.out _ _ trivial (fun hH => ?_); clear hK K'; try simp only [Act.put, List.setIfInBounds_toArray, List.set_cons_zero, List.set_cons_succ]; try simp only [List.getElem_toArray, List.getElem_cons_succ, List.getElem_cons_zero])
              (refine wpAnyH_ready (rs := [3]) (by kernel_rfl) (by simp) ?_; refine AllReadyH.cons rfl (fun K' hK => ?_) AllReadyH.nil)
              go_simp
              refine hcT.mono ?_
              rintro e' w12 ⟨v12, rfl, r12, m12⟩
              have K12 := Kd.call r12 m12
              have BA12 := BAd.mod m12 (fun e => by omega)
              have OV12 := OVd.mod m12 (fun k hk e => by have := FV k hk; omega)
              have c12 : w12.cell? ⟨ga, 1, none⟩ = some (Value.slice Av nv cv) := BA12.cell 1
              have xl : Ext w12 (w12.alloc (.cells #[sv tt] 9)) := (Mod.refl _ w12).alloc _
              have OVl := OV12.mod xl (fun _ _ h => h)
              have BAl := BA12.mod xl (fun h => h)
              have Kl := K12.ext xl
              have cl : (w12.alloc (.cells #[sv tt] 9)).cell? ⟨ga, 1, none⟩ = some (Value.slice Av nv cv) := BAl.cell 1
              have Sll := Sl.lit w12 9 [sv tt] (by simp [maxLen])
              (go_wp2_with fail; refine hK.out _ _ trivial (fun hH => ?_); clear hK K'; try simp only [Act.put, List.setIfInBounds_toArray, List.set_cons_zero, List.set_cons_succ]; try simp only [List.getElem_toArray, List.getElem_cons_succ, List.getElem_cons_zero])
              (refine wpAnyH_ready (rs := [4]) (by kernel_rfl) (by simp) ?_; refine AllReadyH.cons rfl (fun K' hK => ?_) AllReadyH.nil)
              go_simp
              (go_wp2_with fail; refine hK.out _ _ trivial (fun hH => ?_); clear hK K'; try simp only [Act.put, List.setIfInBounds_toArray, List.set_cons_zero, List.set_cons_succ]; try simp only [List.getElem_toArray, List.getElem_cons_succ, List.getElem_cons_zero])
              (refine wpAnyH_ready (rs := [5]) (by kernel_rfl) (by simp) ?_; refine AllReadyH.cons rfl (fun K' hK => ?_) AllReadyH.nil)
              refine step_app 67 tyS OVl Sll (by intro u hu; rw [List.mem_singleton.1 hu]; rfl) hn1.out rfl rfl (.tmp 63) (.tmp 66) rfl rfl rfl ?_
              intro va' wa ka1 ka2 ka3
              obtain ⟨Aw, nw, cw, rfl⟩ : ∃ A n c, va' = Value.slice A n c := (by obtain ⟨A, c, h⟩ := ka1.shape; exact ⟨A, _, c, h⟩)
              have BAa := BAl.mod ka2 (fun ho => OVl.ne_blk BAl (by decide) ho)
              have fz := BAa.frozen 1
              have ca1 : wa.cell? ⟨ga, 1, none⟩ = some (Value.slice Av nv cv) := BAa.cell 1
              (refine hK.out _ _ trivial (fun hH => ?_); clear hK K'; try simp only [Act.put, List.setIfInBounds_toArray]; try simp only [List.getElem_toArray, List.getElem_cons_succ, List.getElem_cons_zero])
              (refine wpAnyH_take (i := 6) (oi := ⟨_, _, _, _, _, _⟩) (v := ?_) rfl (by kernel_rfl) (by kernel_rfl) (by kernel_rfl) (fun _ _ _ h => h) (Or.inl ⟨by kernel_rfl, ?_⟩) hH ?_; rotate_left; focus (intro wx hSw; (try dsimp only at hSw); go_simp; try with_reducible rfl)); try simp only [Act.put, List.setIfInBounds_toArray, List.set_cons_zero, List.set_cons_succ]; try simp only [List.getElem_toArray, List.getElem_cons_succ, List.getElem_cons_zero]
              (refine wpAnyH_ready (rs := [7]) (by kernel_rfl) (by simp) ?_; refine AllReadyH.cons rfl (fun K' hK => ?_) AllReadyH.nil)
              go_simp
              (go_wp2_with fail; refine hK.out _ _ trivial (fun hH => ?_); clear hK K'; try simp only [Act.put, List.setIfInBounds_toArray]; try simp only [List.getElem_toArray, List.getElem_cons_succ, List.getElem_cons_zero])
              refine wpAnyH_done (by kernel_rfl) ?_ _
            case' refine_2 =>
              go_simp
              refine hcT.mono ?_
              rintro e' w12 ⟨v12, rfl, r12, m12⟩
              have K12 := Kd.call r12 m12
              have BA12 := BAd.mod m12 (fun e => by omega)
              have OV12 := OVd.mod m12 (fun k hk e => by have := FV k hk; omega)
              have c12 : w12.cell? ⟨ga, 1, none⟩ = some (Value.slice Av nv cv) := BA12.cell 1
              have xl : Ext w12 (w12.alloc (.cells #[sv tt] 9)) := (Mod.refl _ w12).alloc _
              have OVl := OV12.mod xl (fun _ _ h => h)
              have BAl := BA12.mod xl (fun h => h)
              have Kl := K12.ext xl
              have cl : (w12.alloc (.cells #[sv tt] 9)).cell? ⟨ga, 1, none⟩ = some (Value.slice Av nv cv) := BAl.cell 1
              have Sll := Sl.lit w12 9 [sv tt] (by simp [maxLen])
              (go_wp2_with fail; refine hK.out _ _ trivial (fun hH => ?_); clear hK K'; try simp only [Act.put, List.setIfInBounds_toArray, List.set_cons_zero, List.set_cons_succ]; try simp only [List.getElem_toArray, List.getElem_cons_succ, List.getElem_cons_zero])
              refine wpAnyH_ready (rs := [1, 4]) (by kernel_rfl) (by simp) ?_
              refine AllReadyH.cons rfl (fun K' hK => ?_) (AllReadyH.cons rfl (fun K' hK => ?_) AllReadyH.nil)
              case' refine_1 =>
                go_simp
                (go_wp2_with fail; refine hK.out _ _ trivial (fun hH => ?_); clear hK K'; try simp only [Act.put, List.setIfInBounds_toArray, List.set_cons_zero, List.set_cons_succ]; try simp only [List.getElem_toArray, List.getElem_cons_succ, List.getElem_cons_zero])
                (refine wpAnyH_ready (rs := [4]) (by kernel_rfl) (by simp) ?_; refine AllReadyH.cons rfl (fun K' hK => ?_) AllReadyH.nil)
                go_simp
                (go_wp2_with fail; refine hK.out _ _ trivial (fun hH => ?_); clear hK K'; try simp only [Act.put, List.setIfInBounds_toArray, List.set_cons_zero, List.set_cons_succ]; try simp only [List.getElem_toArray, List.getElem_cons_succ, List.getElem_cons_zero])
                (refine wpAnyH_ready (rs := [5]) (by kernel_rfl) (by simp) ?_; refine AllReadyH.cons rfl (fun K' hK => ?_) AllReadyH.nil)
                refine step_app 67 tyS OVl Sll (by intro u hu; rw [List.mem_singleton.1 hu]; rfl) hn1.out rfl rfl (.tmp 63) (.tmp 66) rfl rfl rfl ?_
                intro va' wa ka1 ka2 ka3
                obtain ⟨Aw, nw, cw, rfl⟩ : ∃ A n c, va' = Value.slice A n c := (by obtain ⟨A, c, h⟩ := ka1.shape; exact ⟨A, _, c, h⟩)
                have BAa := BAl.mod ka2 (fun ho => OVl.ne_blk BAl (by decide) ho)
                have fz := BAa.frozen 1
                have ca1 : wa.cell? ⟨ga, 1, none⟩ = some (Value.slice Av nv cv) := BAa.cell 1
                (refine hK.out _ _ trivial (fun hH => ?_); clear hK K'; try simp only [Act.put, List.setIfInBounds_toArray]; try simp only [List.getElem_toArray, List.getElem_cons_succ, List.getElem_cons_zero])
                (refine wpAnyH_take (i := 6) (oi := ⟨_, _, _, _, _, _⟩) (v := ?_) rfl (by kernel_rfl) (by kernel_rfl) (by kernel_rfl) (fun _ _ _ h => h) (Or.inl ⟨by kernel_rfl, ?_⟩) hH ?_; rotate_left; focus (intro wx hSw; (try dsimp only at hSw); go_simp; try with_reducible rfl)); try simp only [Act.put, List.setIfInBounds_toArray, List.set_cons_zero, List.set_cons_succ]; try simp only [List.getElem_toArray, List.getElem_cons_succ, List.getElem_cons_zero]
                (refine wpAnyH_ready (rs := [7]) (by kernel_rfl) (by simp) ?_; refine AllReadyH.cons rfl (fun K' hK => ?_) AllReadyH.nil)
                go_simp
                (go_wp2_with fail; refine hK.out _ _ trivial (fun hH => ?_); clear hK K'; try simp only [Act.put, List.setIfInBounds_toArray]; try simp only [List.getElem_toArray, List.getElem_cons_succ, List.getElem_cons_zero])
                refine wpAnyH_done (by kernel_rfl) ?_ _
              case' refine_2 =>
                go_simp
                (go_wp2_with fail; refine hK.out _ _ trivial (fun hH => ?_); clear hK K'; try simp only [Act.put, List.setIfInBounds_toArray, List.set_cons_zero, List.set_cons_succ]; try simp only [List.getElem_toArray, List.getElem_cons_succ, List.getElem_cons_zero])
                (refine wpAnyH_ready (rs := [1]) (by kernel_rfl) (by simp) ?_; refine AllReadyH.cons rfl (fun K' hK => ?_) AllReadyH.nil)
                go_simp
                (go_wp2_with fail; refine hK.out _ _ trivial (fun hH => ?_); clear hK K'; try simp only [Act.put, List.setIfInBounds_toArray, List.set_cons_zero, List.set_cons_succ]; try simp only [List.getElem_toArray, List.getElem_cons_succ, List.getElem_cons_zero])
                (refine wpAnyH_ready (rs := [5]) (by kernel_rfl) (by simp) ?_; refine AllReadyH.cons rfl (fun K' hK => ?_) AllReadyH.nil)
                refine step_app 67 tyS OVl Sll (by intro u hu; rw [List.mem_singleton.1 hu]; rfl) hn1.out rfl rfl (.tmp 63) (.tmp 66) rfl rfl rfl ?_
                intro va' wa ka1 ka2 ka3
                obtain ⟨Aw, nw, cw, rfl⟩ : ∃ A n c, va' = Value.slice A n c := (by obtain ⟨A, c, h⟩ := ka1.shape; exact ⟨A, _, c, h⟩)
                have BAa := BAl.mod ka2 (fun ho => OVl.ne_blk BAl (by decide) ho)
                have fz := BAa.frozen 1
                have ca1 : wa.cell? ⟨ga, 1, none⟩ = some (Value.slice Av nv cv) := BAa.cell 1
                (refine hK.out _ _ trivial (fun hH => ?_); clear hK K'; try simp only [Act.put, List.setIfInBounds_toArray]; try simp only [List.getElem_toArray, List.getElem_cons_succ, List.getElem_cons_zero])
                (refine wpAnyH_take (i := 6) (oi := ⟨_, _, _, _, _, _⟩) (v := ?_) rfl (by kernel_rfl) (by kernel_rfl) (by kernel_rfl) (fun _ _ _ h => h) (Or.inl ⟨by kernel_rfl, ?_⟩) hH ?_; rotate_left; focus (intro wx hSw; (try dsimp only at hSw); go_simp; try with_reducible rfl)); try simp only [Act.put, List.setIfInBounds_toArray, List.set_cons_zero, List.set_cons_succ]; try simp only [List.getElem_toArray, List.getElem_cons_succ, List.getElem_cons_zero]
                (refine wpAnyH_ready (rs := [7]) (by kernel_rfl) (by simp) ?_; refine AllReadyH.cons rfl (fun K' hK => ?_) AllReadyH.nil)
                go_simp
                (go_wp2_with fail; refine hK.out _ _ trivial (fun hH => ?_); clear hK K'; try simp only [Act.put, List.setIfInBounds_toArray]; try simp only [List.getElem_toArray, List.getElem_cons_succ, List.getElem_cons_zero])
                refine wpAnyH_done (by kernel_rfl) ?_ _
            all_goals
              obtain ⟨KA, BB, OO, FF⟩ := Kl.addV hga2 BAl hva hrs OVl FV ka1 ka2 ka3
              have hmp : vals.map sv ++ [sv tt] = (vals ++ [tt]).map sv := by rw [List.map_append]; rfl
              rw [hmp] at OO
              clear K12 BA12 OV12 c12 xl OVl BAl Kl cl Sll ka1 ka2 ka3 BAa fz ca1 r12 m12 Kd BAd OVd c1 hmp
              go_wp2_with fail
              exact ⟨⟨q, st2, v12, _, vals ++ [tt], by go_num, by omega, hrun3, KA, BB, OO, FF, hws⟩, by simp [intOf] <;> omega⟩
end Go.Proofs.Ytlaaicdofompkaa
