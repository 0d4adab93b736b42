/- msg: the document's operation of Bind. -/
import Derived.Test.YtoockogceobfgaaGreatMgOcm
import Derived.Deep.RegionHeld3
namespace Go.Proofs.YtoockogceobfgaaGreat
open Go.RowKit
set_option maxRecDepth 100000

section
variable {P : Program} {ops : Array Oper} {Q : Exit → Act → World → Prop} {o : Oper} {src dst e : TypeId} {a : Act} {w : World}
theorem step_tob {K : Act → World → Prop} {E : Prop} (hs : P.underlying src = some .string) (hd : P.underlying dst = some (.slice e)) (he : P.underlying e = some (.int .u8)) {l : List UInt8} (hm : l.length ≤ 1000000000)
    (hgd : o.guard = none) (s : Operand) (ho : o.op = .convert src dst s) (hv : a.eval s = sv l)
    (h : ∀ c w', Bs w' (fun k => k = w.heap.size) (.slice (some ⟨w.heap.size, 0, none⟩) l.length c) l → Ext w w' → w'.heap.size = w.heap.size + 1 → K (a.put o.dst (.slice (some ⟨w.heap.size, 0, none⟩) l.length c)) w') : if Region.wanted o (yielded ops a.tmps) = true then Oper.wp P o a w K Q else E := by
  have hw : Region.wanted o (yielded ops a.tmps) = true := by simp [Region.wanted, hgd]
  rw [if_pos hw]
  obtain ⟨c, w', hrun, h2, h3, h4⟩ := run_tob (P := P) (w := w) hs hd he l (by simp only [maxLen]; omega)
  unfold Oper.wp execOp
  simp only [ho, hv, Sem.run_bind, Sem.run_pure, Result.andThen_ok, hrun]
  simp only [Oper.upon]
  exact h c w' h2 h3 h4
end
set_option maxHeartbeats 16000000 in
theorem rop0_any {w : World} {num scope limit fk which : Int} {dn pass ft fv rdn up avt avv : List UInt8} {keep above : Bool} {Y1 Z1 W1 M1 A1 : Option Addr} {Y2 Y3 Z2 Z3 W2 W3 M2 M3 A2 A3 : Nat} (hl : (nuB 2 3 ++ txB dn ++ tlv 128 pass).length ≤ 65536) :
    Calls Tryz.prog 74 #[.agg #[.int .i64 num, .int .i64 0, sv dn, sv pass, .int .i64 scope, .int .i64 limit, .int .i64 fk, sv ft, sv fv, .slice Y1 Y2 Y3, .slice Z1 Z2 Z3, .slice W1 W2 W3, .slice M1 M2 M3, .slice A1 A2 A3, sv rdn, .bool keep, .bool above, sv up, sv avt, sv avv, .int .i64 which]] w fun e w' => ∃ v', e = .returned v' ∧ Own w' 5 v' ((tlv 96 (nuB 2 3 ++ txB dn ++ tlv 128 pass)).map bv) ∧ Fresh w.heap.size v' ∧ Ext w w' := by
  obtain ⟨Z, hZ⟩ : ∃ Z, Z = tlv 96 (nuB 2 3 ++ txB dn ++ tlv 128 pass) := ⟨_, rfl⟩
  rw [← hZ]
  replace hZ := Lib.hid hZ
  obtain ⟨w1, hw1⟩ : ∃ x, x = w.alloc (.cells #[.int .i64 num, .int .i64 0, sv dn, sv pass, .int .i64 scope, .int .i64 limit, .int .i64 fk, sv ft, sv fv, .slice Y1 Y2 Y3, .slice Z1 Z2 Z3, .slice W1 W2 W3, .slice M1 M2 M3, .slice A1 A2 A3, sv rdn, .bool keep, .bool above, sv up, sv avt, sv avv, .int .i64 which] 32) := ⟨_, rfl⟩
  obtain ⟨p, hp⟩ : ∃ p, p = w.heap.size := ⟨_, rfl⟩
  have x1 : Ext w w1 := by rw [hw1]; exact (Mod.refl _ w).alloc _
  have BP : Blk w1 p 32 #[.int .i64 num, .int .i64 0, sv dn, sv pass, .int .i64 scope, .int .i64 limit, .int .i64 fk, sv ft, sv fv, .slice Y1 Y2 Y3, .slice Z1 Z2 Z3, .slice W1 W2 W3, .slice M1 M2 M3, .slice A1 A2 A3, sv rdn, .bool keep, .bool above, sv up, sv avt, sv avv, .int .i64 which] := by rw [hw1, hp]; exact Blk.new w _ _
  have p1 : w1.cell? ⟨p, 1, none⟩ = some (.int .i64 0) := BP.cell 1
  have p2 : w1.cell? ⟨p, 2, none⟩ = some (sv dn) := BP.cell 2
  have p3 : w1.cell? ⟨p, 3, none⟩ = some (sv pass) := BP.cell 3
  have hS : ∀ wx, Ext w1 wx → wx.cell? ⟨p, 2, none⟩ = some (sv dn) ∧ wx.cell? ⟨p, 3, none⟩ = some (sv pass) := fun wx x => ⟨(BP.mod x (fun h => h)).cell 2, (BP.mod x (fun h => h)).cell 3⟩
  have hdp : dn.length ≤ 65536 ∧ pass.length ≤ 65536 := by
    have h1 : (txB dn).length ≤ 65536 ∧ (tlv 128 pass).length ≤ 65536 := by simp only [List.length_append] at hl ⊢; omega
    exact ⟨tlv_le (t := 4) h1.1, tlv_le (t := 128) h1.2⟩
  have hnum : ∀ wx, Calls Tryz.prog 73 #[.int .u8 2, .int .i64 3] wx fun e w' => ∃ v', e = .returned v' ∧ Own w' 5 v' ((nuB 2 3).map bv) ∧ Fresh wx.heap.size v' ∧ Ext wx w' := fun wx => rnum25_any (w := wx) 2 3 (by omega) (by omega)
  have htx : ∀ wx, Calls Tryz.prog 97 #[sv dn] wx fun e w' => ∃ v', e = .returned v' ∧ Own w' 5 v' ((txB dn).map bv) ∧ Fresh wx.heap.size v' ∧ Ext wx w' := fun wx => rtext25_any (w := wx) dn hdp.1
  have hpl := hdp.2
  obtain ⟨D, hD⟩ : ∃ D, D = tlv 128 pass := ⟨_, rfl⟩
  have htag1 : ∀ (wx : World) (S : Nat → Prop) (y : Value), Rw wx S y [pass] → Calls Tryz.prog 72 #[.int .u8 128, y] wx fun e w' => ∃ v', e = .returned v' ∧ Own w' 5 v' ((D).map bv) ∧ Fresh wx.heap.size v' ∧ Ext wx w' := fun wx S y hr => by
    have h := rtag25_any 128 hr (by rw [one_flat]; exact hpl)
    rw [one_flat] at h
    rw [hD]
    exact h
  replace hZ := hZ.out
  rw [← hD] at hl hZ
  generalize nuB 2 3 = X at *
  generalize txB dn = P at *
  have hfl : [X, P, D].flatten = X ++ P ++ D := by simp
  have htag2 : ∀ (wx : World) (S : Nat → Prop) (y : Value), Rw wx S y [X, P, D] → Calls Tryz.prog 72 #[.int .u8 96, y] wx fun e w' => ∃ v', e = .returned v' ∧ Own w' 5 v' ((Z).map bv) ∧ Fresh wx.heap.size v' ∧ Ext wx w' := fun wx S y hr => by
    have h := rtag25_any 96 hr (by rw [hfl]; exact hl)
    rw [hfl] at h
    rw [hZ]
    exact h
  clear hl hdp hfl hD hZ
  have q0 : Ext w1 w1.drew := (Mod.refl _ w1).drew
  replace hw1 := Lib.hid hw1
  replace hp := Lib.hid hp
  clear BP
  go_enter Tryz.func74, Tryz.ntmps74
  go_upto_region 1 with fail
  rw [← hw1.out, ← hp.out]
  clear hw1 hp
  go_wp2_with fail
  refine wp_region_held_drew (S := fun wx => wx.cell? ⟨p, 2, none⟩ = some (sv dn) ∧ wx.cell? ⟨p, 3, none⟩ = some (sv pass)) (by kernel_rfl) (hS _ q0) (fun hH => ?_)
  (refine wpAnyH_take (i := 1) (oi := ⟨_, _, _, _, _, _⟩) (v := ?_) rfl (by kernel_rfl) (by kernel_rfl) (by kernel_rfl) (fun _ _ _ h => h) (Or.inl ⟨by kernel_rfl, ?_⟩) hH ?_; rotate_left; focus (intro wx hSw; (try dsimp only at hSw); go_simp; try with_reducible rfl)); try simp only [Act.put, List.setIfInBounds_toArray, List.set_cons_zero, List.set_cons_succ]; try simp only [List.getElem_toArray, List.getElem_cons_succ, List.getElem_cons_zero]
  (refine wpAnyH_take (i := 2) (oi := ⟨_, _, _, _, _, _⟩) (v := ?_) rfl (by kernel_rfl) (by kernel_rfl) (by kernel_rfl) (fun _ _ _ h => h) (Or.inl ⟨by kernel_rfl, ?_⟩) hH ?_; rotate_left; focus (intro wx hSw; (try dsimp only at hSw); go_simp; try with_reducible rfl)); try simp only [Act.put, List.setIfInBounds_toArray, List.set_cons_zero, List.set_cons_succ]; try simp only [List.getElem_toArray, List.getElem_cons_succ, List.getElem_cons_zero]
  (refine wpAnyH_take (i := 4) (oi := ⟨_, _, _, _, _, _⟩) (v := ?_) rfl (by kernel_rfl) (by kernel_rfl) (by kernel_rfl) (fun _ _ _ h => h) (Or.inl ⟨by kernel_rfl, ?_⟩) hH ?_; rotate_left; focus (intro wx hSw; (try dsimp only at hSw); go_simp; try with_reducible rfl)); try simp only [Act.put, List.setIfInBounds_toArray, List.set_cons_zero, List.set_cons_succ]; try simp only [List.getElem_toArray, List.getElem_cons_succ, List.getElem_cons_zero]
  (refine wpAnyH_take (i := 5) (oi := ⟨_, _, _, _, _, _⟩) (v := ?_) rfl (by kernel_rfl) (by kernel_rfl) (by kernel_rfl) (fun _ _ _ h => h) (Or.inl ⟨by kernel_rfl, ?_⟩) hH ?_; rotate_left; focus (intro wx hSw; (try dsimp only at hSw); go_simp; try with_reducible rfl)); try simp only [Act.put, List.setIfInBounds_toArray, List.set_cons_zero, List.set_cons_succ]; try simp only [List.getElem_toArray, List.getElem_cons_succ, List.getElem_cons_zero]
  refine wpAnyH_ready (rs := [0, 6]) (by kernel_rfl) (by simp) ?_
  refine AllReadyH.cons rfl (fun K' hK => ?_) ?_
  · go_simp
    refine (hnum _).mono ?_
    rintro e u0 ⟨vN, rfl, oN, -, xx⟩
    have g0 := ext_trans q0 xx
    clear xx
    (go_wp2_with fail; refine hK.out _ _ (hS _ g0) (fun hH => ?_); clear hK K'; try simp only [Act.put, List.setIfInBounds_toArray, List.set_cons_zero, List.set_cons_succ]; try simp only [List.getElem_toArray, List.getElem_cons_succ, List.getElem_cons_zero])
    refine wpAnyH_ready (rs := [3, 6]) (by kernel_rfl) (by simp) ?_
    refine AllReadyH.cons rfl (fun K' hK => ?_) ?_
    · go_simp
      refine (htx _).mono ?_
      rintro e u1 ⟨vT, rfl, oT, -, xx⟩
      have g1 := ext_trans g0 xx
      replace oN := oN.mod xx (fun _ _ h => h)
      clear xx
      (go_wp2_with fail; refine hK.out _ _ (hS _ g1) (fun hH => ?_); clear hK K'; try simp only [Act.put, List.setIfInBounds_toArray, List.set_cons_zero, List.set_cons_succ]; try simp only [List.getElem_toArray, List.getElem_cons_succ, List.getElem_cons_zero])
      refine wpAnyH_ready (rs := [6]) (by kernel_rfl) (by simp) ?_
      refine AllReadyH.cons rfl (fun K' hK => ?_) AllReadyH.nil
      refine step_tob Tryz.underlying9 Tryz.underlying22 Tryz.underlying5 (l := pass) (by omega) rfl (.tmp 13) rfl rfl ?_
      intro cp u2 bC xx hz; clear hz
      have g2 := ext_trans g1 xx
      replace oN := oN.mod xx (fun _ _ h => h)
      replace oT := oT.mod xx (fun _ _ h => h)
      clear xx
      refine hK.out _ _ (hS _ g2) (fun hH => ?_)
      clear hK K'
      try simp only [Act.put, List.setIfInBounds_toArray]; try simp only [List.getElem_toArray, List.getElem_cons_succ, List.getElem_cons_zero]
      refine wpAnyH_ready (rs := [7]) (by kernel_rfl) (by simp) ?_
      refine AllReadyH.cons rfl (fun K' hK => ?_) AllReadyH.nil
      go_simp
      have hr := Rw.one 22 bC
      have xx := (Mod.refl (fun _ => False) u2).alloc (.cells #[.slice (some ⟨u1.heap.size, 0, none⟩) pass.length cp] 22)
      have g3 := ext_trans g2 xx
      replace oN := oN.mod xx (fun _ _ h => h)
      replace oT := oT.mod xx (fun _ _ h => h)
      clear xx
      (go_wp2_with fail; refine hK.out _ _ (hS _ g3) (fun hH => ?_); clear hK K'; try simp only [Act.put, List.setIfInBounds_toArray, List.set_cons_zero, List.set_cons_succ]; try simp only [List.getElem_toArray, List.getElem_cons_succ, List.getElem_cons_zero])
      (refine wpAnyH_ready (rs := [8]) (by kernel_rfl) (by simp) ?_; refine AllReadyH.cons rfl (fun K' hK => ?_) AllReadyH.nil); go_simp
      with_reducible refine (htag1 _ _ _ hr).mono ?_
      rintro e wd ⟨vd, rfl, d1, d2, d3⟩
      have qd := ext_trans g3 d3
      (go_wp2_with fail; refine hK.out _ _ (hS _ qd) (fun hH => ?_); clear hK K'; try simp only [Act.put, List.setIfInBounds_toArray, List.set_cons_zero, List.set_cons_succ]; try simp only [List.getElem_toArray, List.getElem_cons_succ, List.getElem_cons_zero])
      obtain ⟨Aa, ca, ea⟩ := oN.shape
      obtain ⟨Ab, cb, eb⟩ := oT.shape
      obtain ⟨Ad, cd, ed⟩ := d1.shape
      rw [List.length_map] at ea eb ed
      subst ea eb ed
      have hr2 := (RwL.cons (oN.mod d3 (fun _ _ h => h)).sl (RwL.cons (oT.mod d3 (fun _ _ h => h)).sl (RwL.cons d1.sl (RwL.nil wd)))).made 22 (by simp [maxLen])
      have qe := ext_trans qd ((Mod.refl (fun _ => False) wd).alloc (.cells #[.slice Aa X.length ca, .slice Ab P.length cb, .slice Ad D.length cd] 22))
      (refine wpAnyH_ready (rs := [9]) (by kernel_rfl) (by simp) ?_; refine AllReadyH.cons rfl (fun K' hK => ?_) AllReadyH.nil); go_simp
      (go_wp2_with fail; refine hK.out _ _ (hS _ qe) (fun hH => ?_); clear hK K'; try simp only [Act.put, List.setIfInBounds_toArray, List.set_cons_zero, List.set_cons_succ]; try simp only [List.getElem_toArray, List.getElem_cons_succ, List.getElem_cons_zero])
      (refine wpAnyH_ready (rs := [10]) (by kernel_rfl) (by simp) ?_; refine AllReadyH.cons rfl (fun K' hK => ?_) AllReadyH.nil); go_simp
      refine (htag2 _ _ _ hr2).mono ?_
      rintro e wf ⟨vf, rfl, t1, t2, t3⟩
      have qf := ext_trans qe t3
      (go_wp2_with fail; refine hK.out _ _ (hS _ qf) (fun hH => ?_); clear hK K'; try simp only [Act.put, List.setIfInBounds_toArray, List.set_cons_zero, List.set_cons_succ]; try simp only [List.getElem_toArray, List.getElem_cons_succ, List.getElem_cons_zero])
      (refine wpAnyH_take (i := 11) (oi := ⟨_, _, _, _, _, _⟩) (v := ?_) rfl (by kernel_rfl) (by kernel_rfl) (by kernel_rfl) (fun _ _ _ h => h) (Or.inl ⟨by kernel_rfl, ?_⟩) hH ?_; rotate_left; focus (intro wx hSw; (try dsimp only at hSw); go_simp; try with_reducible rfl)); try simp only [Act.put, List.setIfInBounds_toArray, List.set_cons_zero, List.set_cons_succ]; try simp only [List.getElem_toArray, List.getElem_cons_succ, List.getElem_cons_zero]
      refine wpAnyH_done (by kernel_rfl) ?_ _
      go_wp2_with fail
      go_ret
      exact ⟨_, rfl, t1, fresh_le t2 (ext_trans x1 qe).size, ext_trans x1 qf⟩
    refine AllReadyH.cons rfl (fun K' hK => ?_) AllReadyH.nil
    refine step_tob Tryz.underlying9 Tryz.underlying22 Tryz.underlying5 (l := pass) (by omega) rfl (.tmp 13) rfl rfl ?_
    intro cp u1 bC xx hz; clear hz
    have g1 := ext_trans g0 xx
    replace oN := oN.mod xx (fun _ _ h => h)
    clear xx
    refine hK.out _ _ (hS _ g1) (fun hH => ?_)
    clear hK K'
    try simp only [Act.put, List.setIfInBounds_toArray]; try simp only [List.getElem_toArray, List.getElem_cons_succ, List.getElem_cons_zero]
    refine wpAnyH_ready (rs := [3, 7]) (by kernel_rfl) (by simp) ?_
    refine AllReadyH.cons rfl (fun K' hK => ?_) ?_
    · go_simp
      refine (htx _).mono ?_
      rintro e u2 ⟨vT, rfl, oT, -, xx⟩
      have g2 := ext_trans g1 xx
      replace oN := oN.mod xx (fun _ _ h => h)
      replace bC := Sl.mod bC xx (fun _ _ _ h => h)
      clear xx
      (go_wp2_with fail; refine hK.out _ _ (hS _ g2) (fun hH => ?_); clear hK K'; try simp only [Act.put, List.setIfInBounds_toArray, List.set_cons_zero, List.set_cons_succ]; try simp only [List.getElem_toArray, List.getElem_cons_succ, List.getElem_cons_zero])
      refine wpAnyH_ready (rs := [7]) (by kernel_rfl) (by simp) ?_
      refine AllReadyH.cons rfl (fun K' hK => ?_) AllReadyH.nil
      go_simp
      have hr := Rw.one 22 bC
      have xx := (Mod.refl (fun _ => False) u2).alloc (.cells #[.slice (some ⟨u0.heap.size, 0, none⟩) pass.length cp] 22)
      have g3 := ext_trans g2 xx
      replace oN := oN.mod xx (fun _ _ h => h)
      replace oT := oT.mod xx (fun _ _ h => h)
      clear xx
      (go_wp2_with fail; refine hK.out _ _ (hS _ g3) (fun hH => ?_); clear hK K'; try simp only [Act.put, List.setIfInBounds_toArray, List.set_cons_zero, List.set_cons_succ]; try simp only [List.getElem_toArray, List.getElem_cons_succ, List.getElem_cons_zero])
      (refine wpAnyH_ready (rs := [8]) (by kernel_rfl) (by simp) ?_; refine AllReadyH.cons rfl (fun K' hK => ?_) AllReadyH.nil); go_simp
      with_reducible refine (htag1 _ _ _ hr).mono ?_
      rintro e wd ⟨vd, rfl, d1, d2, d3⟩
      have qd := ext_trans g3 d3
      (go_wp2_with fail; refine hK.out _ _ (hS _ qd) (fun hH => ?_); clear hK K'; try simp only [Act.put, List.setIfInBounds_toArray, List.set_cons_zero, List.set_cons_succ]; try simp only [List.getElem_toArray, List.getElem_cons_succ, List.getElem_cons_zero])
      obtain ⟨Aa, ca, ea⟩ := oN.shape
      obtain ⟨Ab, cb, eb⟩ := oT.shape
      obtain ⟨Ad, cd, ed⟩ := d1.shape
      rw [List.length_map] at ea eb ed
      subst ea eb ed
      have hr2 := (RwL.cons (oN.mod d3 (fun _ _ h => h)).sl (RwL.cons (oT.mod d3 (fun _ _ h => h)).sl (RwL.cons d1.sl (RwL.nil wd)))).made 22 (by simp [maxLen])
      have qe := ext_trans qd ((Mod.refl (fun _ => False) wd).alloc (.cells #[.slice Aa X.length ca, .slice Ab P.length cb, .slice Ad D.length cd] 22))
      (refine wpAnyH_ready (rs := [9]) (by kernel_rfl) (by simp) ?_; refine AllReadyH.cons rfl (fun K' hK => ?_) AllReadyH.nil); go_simp
      (go_wp2_with fail; refine hK.out _ _ (hS _ qe) (fun hH => ?_); clear hK K'; try simp only [Act.put, List.setIfInBounds_toArray, List.set_cons_zero, List.set_cons_succ]; try simp only [List.getElem_toArray, List.getElem_cons_succ, List.getElem_cons_zero])
      (refine wpAnyH_ready (rs := [10]) (by kernel_rfl) (by simp) ?_; refine AllReadyH.cons rfl (fun K' hK => ?_) AllReadyH.nil); go_simp
      refine (htag2 _ _ _ hr2).mono ?_
      rintro e wf ⟨vf, rfl, t1, t2, t3⟩
      have qf := ext_trans qe t3
      (go_wp2_with fail; refine hK.out _ _ (hS _ qf) (fun hH => ?_); clear hK K'; try simp only [Act.put, List.setIfInBounds_toArray, List.set_cons_zero, List.set_cons_succ]; try simp only [List.getElem_toArray, List.getElem_cons_succ, List.getElem_cons_zero])
      (refine wpAnyH_take (i := 11) (oi := ⟨_, _, _, _, _, _⟩) (v := ?_) rfl (by kernel_rfl) (by kernel_rfl) (by kernel_rfl) (fun _ _ _ h => h) (Or.inl ⟨by kernel_rfl, ?_⟩) hH ?_; rotate_left; focus (intro wx hSw; (try dsimp only at hSw); go_simp; try with_reducible rfl)); try simp only [Act.put, List.setIfInBounds_toArray, List.set_cons_zero, List.set_cons_succ]; try simp only [List.getElem_toArray, List.getElem_cons_succ, List.getElem_cons_zero]
      refine wpAnyH_done (by kernel_rfl) ?_ _
      go_wp2_with fail
      go_ret
      exact ⟨_, rfl, t1, fresh_le t2 (ext_trans x1 qe).size, ext_trans x1 qf⟩
    refine AllReadyH.cons rfl (fun K' hK => ?_) AllReadyH.nil
    go_simp
    have hr := Rw.one 22 bC
    have xx := (Mod.refl (fun _ => False) u1).alloc (.cells #[.slice (some ⟨u0.heap.size, 0, none⟩) pass.length cp] 22)
    have g2 := ext_trans g1 xx
    replace oN := oN.mod xx (fun _ _ h => h)
    clear xx
    (go_wp2_with fail; refine hK.out _ _ (hS _ g2) (fun hH => ?_); clear hK K'; try simp only [Act.put, List.setIfInBounds_toArray, List.set_cons_zero, List.set_cons_succ]; try simp only [List.getElem_toArray, List.getElem_cons_succ, List.getElem_cons_zero])
    refine wpAnyH_ready (rs := [3]) (by kernel_rfl) (by simp) ?_
    refine AllReadyH.cons rfl (fun K' hK => ?_) AllReadyH.nil
    go_simp
    refine (htx _).mono ?_
    rintro e u3 ⟨vT, rfl, oT, -, xx⟩
    have g3 := ext_trans g2 xx
    replace oN := oN.mod xx (fun _ _ h => h)
    replace hr := hr.mod xx (fun _ _ _ h => h)
    clear xx
    (go_wp2_with fail; refine hK.out _ _ (hS _ g3) (fun hH => ?_); clear hK K'; try simp only [Act.put, List.setIfInBounds_toArray, List.set_cons_zero, List.set_cons_succ]; try simp only [List.getElem_toArray, List.getElem_cons_succ, List.getElem_cons_zero])
    (refine wpAnyH_ready (rs := [8]) (by kernel_rfl) (by simp) ?_; refine AllReadyH.cons rfl (fun K' hK => ?_) AllReadyH.nil); go_simp
    with_reducible refine (htag1 _ _ _ hr).mono ?_
    rintro e wd ⟨vd, rfl, d1, d2, d3⟩
    have qd := ext_trans g3 d3
    (go_wp2_with fail; refine hK.out _ _ (hS _ qd) (fun hH => ?_); clear hK K'; try simp only [Act.put, List.setIfInBounds_toArray, List.set_cons_zero, List.set_cons_succ]; try simp only [List.getElem_toArray, List.getElem_cons_succ, List.getElem_cons_zero])
    obtain ⟨Aa, ca, ea⟩ := oN.shape
    obtain ⟨Ab, cb, eb⟩ := oT.shape
    obtain ⟨Ad, cd, ed⟩ := d1.shape
    rw [List.length_map] at ea eb ed
    subst ea eb ed
    have hr2 := (RwL.cons (oN.mod d3 (fun _ _ h => h)).sl (RwL.cons (oT.mod d3 (fun _ _ h => h)).sl (RwL.cons d1.sl (RwL.nil wd)))).made 22 (by simp [maxLen])
    have qe := ext_trans qd ((Mod.refl (fun _ => False) wd).alloc (.cells #[.slice Aa X.length ca, .slice Ab P.length cb, .slice Ad D.length cd] 22))
    (refine wpAnyH_ready (rs := [9]) (by kernel_rfl) (by simp) ?_; refine AllReadyH.cons rfl (fun K' hK => ?_) AllReadyH.nil); go_simp
    (go_wp2_with fail; refine hK.out _ _ (hS _ qe) (fun hH => ?_); clear hK K'; try simp only [Act.put, List.setIfInBounds_toArray, List.set_cons_zero, List.set_cons_succ]; try simp only [List.getElem_toArray, List.getElem_cons_succ, List.getElem_cons_zero])
    (refine wpAnyH_ready (rs := [10]) (by kernel_rfl) (by simp) ?_; refine AllReadyH.cons rfl (fun K' hK => ?_) AllReadyH.nil); go_simp
    refine (htag2 _ _ _ hr2).mono ?_
    rintro e wf ⟨vf, rfl, t1, t2, t3⟩
    have qf := ext_trans qe t3
    (go_wp2_with fail; refine hK.out _ _ (hS _ qf) (fun hH => ?_); clear hK K'; try simp only [Act.put, List.setIfInBounds_toArray, List.set_cons_zero, List.set_cons_succ]; try simp only [List.getElem_toArray, List.getElem_cons_succ, List.getElem_cons_zero])
    (refine wpAnyH_take (i := 11) (oi := ⟨_, _, _, _, _, _⟩) (v := ?_) rfl (by kernel_rfl) (by kernel_rfl) (by kernel_rfl) (fun _ _ _ h => h) (Or.inl ⟨by kernel_rfl, ?_⟩) hH ?_; rotate_left; focus (intro wx hSw; (try dsimp only at hSw); go_simp; try with_reducible rfl)); try simp only [Act.put, List.setIfInBounds_toArray, List.set_cons_zero, List.set_cons_succ]; try simp only [List.getElem_toArray, List.getElem_cons_succ, List.getElem_cons_zero]
    refine wpAnyH_done (by kernel_rfl) ?_ _
    go_wp2_with fail
    go_ret
    exact ⟨_, rfl, t1, fresh_le t2 (ext_trans x1 qe).size, ext_trans x1 qf⟩
  refine AllReadyH.cons rfl (fun K' hK => ?_) AllReadyH.nil
  refine step_tob Tryz.underlying9 Tryz.underlying22 Tryz.underlying5 (l := pass) (by omega) rfl (.tmp 13) rfl rfl ?_
  intro cp u0 bC xx hz; clear hz
  have g0 := ext_trans q0 xx
  rw [show w1.drew.heap.size = w1.heap.size from rfl] at bC
  clear xx
  refine hK.out _ _ (hS _ g0) (fun hH => ?_)
  clear hK K'
  try simp only [Act.put, List.setIfInBounds_toArray]; try simp only [List.getElem_toArray, List.getElem_cons_succ, List.getElem_cons_zero]
  refine wpAnyH_ready (rs := [0, 7]) (by kernel_rfl) (by simp) ?_
  refine AllReadyH.cons rfl (fun K' hK => ?_) ?_
  · go_simp
    refine (hnum _).mono ?_
    rintro e u1 ⟨vN, rfl, oN, -, xx⟩
    have g1 := ext_trans g0 xx
    replace bC := Sl.mod bC xx (fun _ _ _ h => h)
    clear xx
    (go_wp2_with fail; refine hK.out _ _ (hS _ g1) (fun hH => ?_); clear hK K'; try simp only [Act.put, List.setIfInBounds_toArray, List.set_cons_zero, List.set_cons_succ]; try simp only [List.getElem_toArray, List.getElem_cons_succ, List.getElem_cons_zero])
    refine wpAnyH_ready (rs := [3, 7]) (by kernel_rfl) (by simp) ?_
    refine AllReadyH.cons rfl (fun K' hK => ?_) ?_
    · go_simp
      refine (htx _).mono ?_
      rintro e u2 ⟨vT, rfl, oT, -, xx⟩
      have g2 := ext_trans g1 xx
      replace oN := oN.mod xx (fun _ _ h => h)
      replace bC := Sl.mod bC xx (fun _ _ _ h => h)
      clear xx
      (go_wp2_with fail; refine hK.out _ _ (hS _ g2) (fun hH => ?_); clear hK K'; try simp only [Act.put, List.setIfInBounds_toArray, List.set_cons_zero, List.set_cons_succ]; try simp only [List.getElem_toArray, List.getElem_cons_succ, List.getElem_cons_zero])
      refine wpAnyH_ready (rs := [7]) (by kernel_rfl) (by simp) ?_
      refine AllReadyH.cons rfl (fun K' hK => ?_) AllReadyH.nil
      go_simp
      have hr := Rw.one 22 bC
      have xx := (Mod.refl (fun _ => False) u2).alloc (.cells #[.slice (some ⟨w1.heap.size, 0, none⟩) pass.length cp] 22)
      have g3 := ext_trans g2 xx
      replace oN := oN.mod xx (fun _ _ h => h)
      replace oT := oT.mod xx (fun _ _ h => h)
      clear xx
      (go_wp2_with fail; refine hK.out _ _ (hS _ g3) (fun hH => ?_); clear hK K'; try simp only [Act.put, List.setIfInBounds_toArray, List.set_cons_zero, List.set_cons_succ]; try simp only [List.getElem_toArray, List.getElem_cons_succ, List.getElem_cons_zero])
      (refine wpAnyH_ready (rs := [8]) (by kernel_rfl) (by simp) ?_; refine AllReadyH.cons rfl (fun K' hK => ?_) AllReadyH.nil); go_simp
      with_reducible refine (htag1 _ _ _ hr).mono ?_
      rintro e wd ⟨vd, rfl, d1, d2, d3⟩
      have qd := ext_trans g3 d3
      (go_wp2_with fail; refine hK.out _ _ (hS _ qd) (fun hH => ?_); clear hK K'; try simp only [Act.put, List.setIfInBounds_toArray, List.set_cons_zero, List.set_cons_succ]; try simp only [List.getElem_toArray, List.getElem_cons_succ, List.getElem_cons_zero])
      obtain ⟨Aa, ca, ea⟩ := oN.shape
      obtain ⟨Ab, cb, eb⟩ := oT.shape
      obtain ⟨Ad, cd, ed⟩ := d1.shape
      rw [List.length_map] at ea eb ed
      subst ea eb ed
      have hr2 := (RwL.cons (oN.mod d3 (fun _ _ h => h)).sl (RwL.cons (oT.mod d3 (fun _ _ h => h)).sl (RwL.cons d1.sl (RwL.nil wd)))).made 22 (by simp [maxLen])
      have qe := ext_trans qd ((Mod.refl (fun _ => False) wd).alloc (.cells #[.slice Aa X.length ca, .slice Ab P.length cb, .slice Ad D.length cd] 22))
      (refine wpAnyH_ready (rs := [9]) (by kernel_rfl) (by simp) ?_; refine AllReadyH.cons rfl (fun K' hK => ?_) AllReadyH.nil); go_simp
      (go_wp2_with fail; refine hK.out _ _ (hS _ qe) (fun hH => ?_); clear hK K'; try simp only [Act.put, List.setIfInBounds_toArray, List.set_cons_zero, List.set_cons_succ]; try simp only [List.getElem_toArray, List.getElem_cons_succ, List.getElem_cons_zero])
      (refine wpAnyH_ready (rs := [10]) (by kernel_rfl) (by simp) ?_; refine AllReadyH.cons rfl (fun K' hK => ?_) AllReadyH.nil); go_simp
      refine (htag2 _ _ _ hr2).mono ?_
      rintro e wf ⟨vf, rfl, t1, t2, t3⟩
      have qf := ext_trans qe t3
      (go_wp2_with fail; refine hK.out _ _ (hS _ qf) (fun hH => ?_); clear hK K'; try simp only [Act.put, List.setIfInBounds_toArray, List.set_cons_zero, List.set_cons_succ]; try simp only [List.getElem_toArray, List.getElem_cons_succ, List.getElem_cons_zero])
      (refine wpAnyH_take (i := 11) (oi := ⟨_, _, _, _, _, _⟩) (v := ?_) rfl (by kernel_rfl) (by kernel_rfl) (by kernel_rfl) (fun _ _ _ h => h) (Or.inl ⟨by kernel_rfl, ?_⟩) hH ?_; rotate_left; focus (intro wx hSw; (try dsimp only at hSw); go_simp; try with_reducible rfl)); try simp only [Act.put, List.setIfInBounds_toArray, List.set_cons_zero, List.set_cons_succ]; try simp only [List.getElem_toArray, List.getElem_cons_succ, List.getElem_cons_zero]
      refine wpAnyH_done (by kernel_rfl) ?_ _
      go_wp2_with fail
      go_ret
      exact ⟨_, rfl, t1, fresh_le t2 (ext_trans x1 qe).size, ext_trans x1 qf⟩
    refine AllReadyH.cons rfl (fun K' hK => ?_) AllReadyH.nil
    go_simp
    have hr := Rw.one 22 bC
    have xx := (Mod.refl (fun _ => False) u1).alloc (.cells #[.slice (some ⟨w1.heap.size, 0, none⟩) pass.length cp] 22)
    have g2 := ext_trans g1 xx
    replace oN := oN.mod xx (fun _ _ h => h)
    clear xx
    (go_wp2_with fail; refine hK.out _ _ (hS _ g2) (fun hH => ?_); clear hK K'; try simp only [Act.put, List.setIfInBounds_toArray, List.set_cons_zero, List.set_cons_succ]; try simp only [List.getElem_toArray, List.getElem_cons_succ, List.getElem_cons_zero])
    refine wpAnyH_ready (rs := [3]) (by kernel_rfl) (by simp) ?_
    refine AllReadyH.cons rfl (fun K' hK => ?_) AllReadyH.nil
    go_simp
    refine (htx _).mono ?_
    rintro e u3 ⟨vT, rfl, oT, -, xx⟩
    have g3 := ext_trans g2 xx
    replace oN := oN.mod xx (fun _ _ h => h)
    replace hr := hr.mod xx (fun _ _ _ h => h)
    clear xx
    (go_wp2_with fail; refine hK.out _ _ (hS _ g3) (fun hH => ?_); clear hK K'; try simp only [Act.put, List.setIfInBounds_toArray, List.set_cons_zero, List.set_cons_succ]; try simp only [List.getElem_toArray, List.getElem_cons_succ, List.getElem_cons_zero])
    (refine wpAnyH_ready (rs := [8]) (by kernel_rfl) (by simp) ?_; refine AllReadyH.cons rfl (fun K' hK => ?_) AllReadyH.nil); go_simp
    with_reducible refine (htag1 _ _ _ hr).mono ?_
    rintro e wd ⟨vd, rfl, d1, d2, d3⟩
    have qd := ext_trans g3 d3
    (go_wp2_with fail; refine hK.out _ _ (hS _ qd) (fun hH => ?_); clear hK K'; try simp only [Act.put, List.setIfInBounds_toArray, List.set_cons_zero, List.set_cons_succ]; try simp only [List.getElem_toArray, List.getElem_cons_succ, List.getElem_cons_zero])
    obtain ⟨Aa, ca, ea⟩ := oN.shape
    obtain ⟨Ab, cb, eb⟩ := oT.shape
    obtain ⟨Ad, cd, ed⟩ := d1.shape
    rw [List.length_map] at ea eb ed
    subst ea eb ed
    have hr2 := (RwL.cons (oN.mod d3 (fun _ _ h => h)).sl (RwL.cons (oT.mod d3 (fun _ _ h => h)).sl (RwL.cons d1.sl (RwL.nil wd)))).made 22 (by simp [maxLen])
    have qe := ext_trans qd ((Mod.refl (fun _ => False) wd).alloc (.cells #[.slice Aa X.length ca, .slice Ab P.length cb, .slice Ad D.length cd] 22))
    (refine wpAnyH_ready (rs := [9]) (by kernel_rfl) (by simp) ?_; refine AllReadyH.cons rfl (fun K' hK => ?_) AllReadyH.nil); go_simp
    (go_wp2_with fail; refine hK.out _ _ (hS _ qe) (fun hH => ?_); clear hK K'; try simp only [Act.put, List.setIfInBounds_toArray, List.set_cons_zero, List.set_cons_succ]; try simp only [List.getElem_toArray, List.getElem_cons_succ, List.getElem_cons_zero])
    (refine wpAnyH_ready (rs := [10]) (by kernel_rfl) (by simp) ?_; refine AllReadyH.cons rfl (fun K' hK => ?_) AllReadyH.nil); go_simp
    refine (htag2 _ _ _ hr2).mono ?_
    rintro e wf ⟨vf, rfl, t1, t2, t3⟩
    have qf := ext_trans qe t3
    (go_wp2_with fail; refine hK.out _ _ (hS _ qf) (fun hH => ?_); clear hK K'; try simp only [Act.put, List.setIfInBounds_toArray, List.set_cons_zero, List.set_cons_succ]; try simp only [List.getElem_toArray, List.getElem_cons_succ, List.getElem_cons_zero])
    (refine wpAnyH_take (i := 11) (oi := ⟨_, _, _, _, _, _⟩) (v := ?_) rfl (by kernel_rfl) (by kernel_rfl) (by kernel_rfl) (fun _ _ _ h => h) (Or.inl ⟨by kernel_rfl, ?_⟩) hH ?_; rotate_left; focus (intro wx hSw; (try dsimp only at hSw); go_simp; try with_reducible rfl)); try simp only [Act.put, List.setIfInBounds_toArray, List.set_cons_zero, List.set_cons_succ]; try simp only [List.getElem_toArray, List.getElem_cons_succ, List.getElem_cons_zero]
    refine wpAnyH_done (by kernel_rfl) ?_ _
    go_wp2_with fail
    go_ret
    exact ⟨_, rfl, t1, fresh_le t2 (ext_trans x1 qe).size, ext_trans x1 qf⟩
  refine AllReadyH.cons rfl (fun K' hK => ?_) AllReadyH.nil
  go_simp
  have hr := Rw.one 22 bC
  have xx := (Mod.refl (fun _ => False) u0).alloc (.cells #[.slice (some ⟨w1.heap.size, 0, none⟩) pass.length cp] 22)
  have g1 := ext_trans g0 xx
  clear xx
  (go_wp2_with fail; refine hK.out _ _ (hS _ g1) (fun hH => ?_); clear hK K'; try simp only [Act.put, List.setIfInBounds_toArray, List.set_cons_zero, List.set_cons_succ]; try simp only [List.getElem_toArray, List.getElem_cons_succ, List.getElem_cons_zero])
  refine wpAnyH_ready (rs := [0]) (by kernel_rfl) (by simp) ?_
  refine AllReadyH.cons rfl (fun K' hK => ?_) AllReadyH.nil
  go_simp
  refine (hnum _).mono ?_
  rintro e u2 ⟨vN, rfl, oN, -, xx⟩
  have g2 := ext_trans g1 xx
  replace hr := hr.mod xx (fun _ _ _ h => h)
  clear xx
  (go_wp2_with fail; refine hK.out _ _ (hS _ g2) (fun hH => ?_); clear hK K'; try simp only [Act.put, List.setIfInBounds_toArray, List.set_cons_zero, List.set_cons_succ]; try simp only [List.getElem_toArray, List.getElem_cons_succ, List.getElem_cons_zero])
  refine wpAnyH_ready (rs := [3]) (by kernel_rfl) (by simp) ?_
  refine AllReadyH.cons rfl (fun K' hK => ?_) AllReadyH.nil
  go_simp
  refine (htx _).mono ?_
  rintro e u3 ⟨vT, rfl, oT, -, xx⟩
  have g3 := ext_trans g2 xx
  replace oN := oN.mod xx (fun _ _ h => h)
  replace hr := hr.mod xx (fun _ _ _ h => h)
  clear xx
  (go_wp2_with fail; refine hK.out _ _ (hS _ g3) (fun hH => ?_); clear hK K'; try simp only [Act.put, List.setIfInBounds_toArray, List.set_cons_zero, List.set_cons_succ]; try simp only [List.getElem_toArray, List.getElem_cons_succ, List.getElem_cons_zero])
  (refine wpAnyH_ready (rs := [8]) (by kernel_rfl) (by simp) ?_; refine AllReadyH.cons rfl (fun K' hK => ?_) AllReadyH.nil); go_simp
  with_reducible refine (htag1 _ _ _ hr).mono ?_
  rintro e wd ⟨vd, rfl, d1, d2, d3⟩
  have qd := ext_trans g3 d3
  (go_wp2_with fail; refine hK.out _ _ (hS _ qd) (fun hH => ?_); clear hK K'; try simp only [Act.put, List.setIfInBounds_toArray, List.set_cons_zero, List.set_cons_succ]; try simp only [List.getElem_toArray, List.getElem_cons_succ, List.getElem_cons_zero])
  obtain ⟨Aa, ca, ea⟩ := oN.shape
  obtain ⟨Ab, cb, eb⟩ := oT.shape
  obtain ⟨Ad, cd, ed⟩ := d1.shape
  rw [List.length_map] at ea eb ed
  subst ea eb ed
  have hr2 := (RwL.cons (oN.mod d3 (fun _ _ h => h)).sl (RwL.cons (oT.mod d3 (fun _ _ h => h)).sl (RwL.cons d1.sl (RwL.nil wd)))).made 22 (by simp [maxLen])
  have qe := ext_trans qd ((Mod.refl (fun _ => False) wd).alloc (.cells #[.slice Aa X.length ca, .slice Ab P.length cb, .slice Ad D.length cd] 22))
  (refine wpAnyH_ready (rs := [9]) (by kernel_rfl) (by simp) ?_; refine AllReadyH.cons rfl (fun K' hK => ?_) AllReadyH.nil); go_simp
  (go_wp2_with fail; refine hK.out _ _ (hS _ qe) (fun hH => ?_); clear hK K'; try simp only [Act.put, List.setIfInBounds_toArray, List.set_cons_zero, List.set_cons_succ]; try simp only [List.getElem_toArray, List.getElem_cons_succ, List.getElem_cons_zero])
  (refine wpAnyH_ready (rs := [10]) (by kernel_rfl) (by simp) ?_; refine AllReadyH.cons rfl (fun K' hK => ?_) AllReadyH.nil); go_simp
  refine (htag2 _ _ _ hr2).mono ?_
  rintro e wf ⟨vf, rfl, t1, t2, t3⟩
  have qf := ext_trans qe t3
  (go_wp2_with fail; refine hK.out _ _ (hS _ qf) (fun hH => ?_); clear hK K'; try simp only [Act.put, List.setIfInBounds_toArray, List.set_cons_zero, List.set_cons_succ]; try simp only [List.getElem_toArray, List.getElem_cons_succ, List.getElem_cons_zero])
  (refine wpAnyH_take (i := 11) (oi := ⟨_, _, _, _, _, _⟩) (v := ?_) rfl (by kernel_rfl) (by kernel_rfl) (by kernel_rfl) (fun _ _ _ h => h) (Or.inl ⟨by kernel_rfl, ?_⟩) hH ?_; rotate_left; focus (intro wx hSw; (try dsimp only at hSw); go_simp; try with_reducible rfl)); try simp only [Act.put, List.setIfInBounds_toArray, List.set_cons_zero, List.set_cons_succ]; try simp only [List.getElem_toArray, List.getElem_cons_succ, List.getElem_cons_zero]
  refine wpAnyH_done (by kernel_rfl) ?_ _
  go_wp2_with fail
  go_ret
  exact ⟨_, rfl, t1, fresh_le t2 (ext_trans x1 qe).size, ext_trans x1 qf⟩
end Go.Proofs.YtoockogceobfgaaGreat
