/- ber: any bytes under any tag, and any bytes as a tag, a body and what stands behind: the statement's own walk. -/
import Derived.Test.YtcffefadagfdcaaBerT
namespace Go.Proofs.Ytcffefadagfdcaa
open Go.RowKit
set_option maxRecDepth 100000

theorem Sl_row {w : World} {S : Nat → Prop} {v : Value} {L : List (List UInt8)} (h : Rw w S v L) (o : Obj) : Rw (w.alloc o) S v L := h.mod ((Mod.refl _ w).alloc o) (fun _ _ _ h => h)

set_option maxHeartbeats 8000000 in
theorem law_tags {w : World} {S1 S2 : Nat → Prop} {y1 y2 : Value} {a b : List UInt8} (t : UInt8) (h1 : Bs w S1 y1 a) (za : a.length ≤ 140737488351232) (h2 : Bs w S2 y2 b) (zb : b.length ≤ 140737488351232) :
    Calls Try.prog 7 #[.int .u8 t.toNat, y1, y2] w fun e w' => e = .returned (.bool true) ∧ Ext w w' := by
  obtain ⟨A1, c1, hy1, u1, u2, u3, u4⟩ := h1.open_
  obtain ⟨A2, c2, hy2, u5, u6, u7, u8⟩ := h2.open_
  clear u3 u4 u7 u8
  by_cases hl : 3000 < a.length + b.length
  · have hl' : (3000 : Int) < (a.length : Int) + (b.length : Int) := by omega
    subst hy1 hy2
    go_enter Try.func7, Try.ntmps7
    go_wp2_with fail
    go_ret
    exact ⟨rfl, Mod.refl _ _⟩
  have hl' : decide ((3000 : Int) < (a.length : Int) + (b.length : Int)) = false := by rw [decide_eq_false_iff_not]; omega
  have hn0 : (([] : List Value).length + (b.map bv).length) * 1 ≤ 140737488355328 := by rw [List.length_map]; simp; omega
  have hn1 : (([] : List Value).length + (a.map bv).length) * 1 ≤ 140737488355328 := by rw [List.length_map]; simp; omega
  have hn2 : ((a.map bv).length + (b.map bv).length) * 1 ≤ 140737488355328 := by rw [List.length_map, List.length_map]; omega
  replace hn0 := Lib.hid hn0
  replace hn1 := Lib.hid hn1
  replace hn2 := Lib.hid hn2
  have hflat : [a, b].flatten = a ++ b := by simp
  replace hflat := Lib.hid hflat
  obtain ⟨ba, hba⟩ : ∃ ba, ba = t :: lay (a ++ b).length ++ (a ++ b) := ⟨_, rfl⟩
  replace hba := Lib.hid hba
  have hpe := Own.empty w 5
  have hfe : Fresh w.heap.size (.slice (some ⟨w.heap.size, 0, none⟩) 0 0) := fun k q1 => by have q3 : w.heap.size = k := Option.some.inj q1; omega
  have hxe0 : Ext w (w.alloc (.cells #[] 5)) := (Mod.refl _ w).alloc _
  have h2e := h2.ext hxe0
  replace hy1 := Lib.hid hy1
  replace hy2 := Lib.hid hy2
  go_enter Try.func7, Try.ntmps7
  go_upto_region 1 with fail
  rw [hy1.out, hy2.out]
  go_upto_region 3 with fail
  rw [← hy1.out, ← hy2.out]
  go_wp2_with ((with_reducible show wpList _ _ _ (⟨some 24, _, _, _, _, _⟩ :: _) _ _); refine wp_app tyB hpe h2e (bv_one _) rfl (.tmp 22) (.tmp 23) rfl rfl rfl hn0.out ?_; intro v0 w0 k1 k2 k3)
  have hx0 := ext_app0 hxe0 hfe k2
  rw [List.nil_append] at k1
  refine (bnext_any k1.sl (by omega)).mono ?_
  rintro e w1 ⟨vx, vy, rfl, g1, g2, g3, g4, g5⟩
  have hx1 := ext_trans hx0 g5
  clear k1 k2 k3 hpe hfe hxe0 h2e g3 g4 g5 hx0
  go_wp2_with fail
  refine (rnext_any (h2.ext hx1) (by omega)).mono ?_
  rintro e w2 ⟨vu, vv, rfl, g6, g7, g8⟩
  replace g1 := g1.mod g8 (fun _ _ h => h)
  replace g2 := g2.mod g8 (fun _ _ h => h)
  have hx2 := ext_trans hx1 g8
  clear g8 hx1
  generalize bnext b = r at *
  obtain ⟨rt, rx, ry, re⟩ := r
  simp only at g1 g2 g6 g7 ⊢
  replace h1 := h1.ext hx2
  replace h2 := h2.ext hx2
  go_upto_region 5 with fail
  have q1 : (((rt.toNat : Nat) : Int) == ((rt.toNat : Nat) : Int)) = true := by simp
  have q2 : (((re : Nat) : Int) == ((re : Nat) : Int)) = true := by simp
  go_cut [6] (fun s6 wx => s6 = .bool true ∧ Ext w2 wx)
  case first =>
    refine wp_region_held_drew (S := fun _ => True) (by kernel_rfl) trivial (fun hH => ?_)
    clear hH
    have hxd : Ext w2 w2.drew := (Mod.refl _ w2).drew
    replace h1 := h1.ext hxd
    replace h2 := h2.ext hxd
    replace g1 := g1.mod hxd (fun _ _ h => h)
    replace g2 := g2.mod hxd (fun _ _ h => h)
    replace g6 := g6.mod hxd (fun _ _ h => h)
    replace g7 := g7.mod hxd (fun _ _ h => h)
    obtain ⟨wr, hwr⟩ : ∃ wr, wr = w2.drew := ⟨_, rfl⟩
    rw [← hwr] at h1 h2 g1 g2 g6 g7 hxd ⊢
    replace hwr := Lib.hid hwr
    have hS0 : ∀ wz, Ext wr wz → (convert 24 9 vx).run Try.prog wz = .ok (sv rx) wz ∧ (convert 24 9 vu).run Try.prog wz = .ok (sv rx) wz ∧ (convert 24 9 vy).run Try.prog wz = .ok (sv ry) wz ∧ (convert 24 9 vv).run Try.prog wz = .ok (sv ry) wz := fun wz hz => ⟨run_conv (P := Try.prog) Try.underlying24 Try.underlying5 Try.underlying9 (g1.sl.ext hz), run_conv (P := Try.prog) Try.underlying24 Try.underlying5 Try.underlying9 (g6.sl.ext hz), run_conv (P := Try.prog) Try.underlying24 Try.underlying5 Try.underlying9 (g2.sl.ext hz), run_conv (P := Try.prog) Try.underlying24 Try.underlying5 Try.underlying9 (g7.sl.ext hz)⟩
    have hx0 : Ext wr wr := Mod.refl _ _
    have hxd0 := Lib.hid hxd
    clear hxd
    have hS00 := hS0 _ hx0
    refine wpAnyH_mono (S' := fun wz => (convert 24 9 vx).run Try.prog wz = .ok (sv rx) wz ∧ (convert 24 9 vu).run Try.prog wz = .ok (sv rx) wz ∧ (convert 24 9 vy).run Try.prog wz = .ok (sv ry) wz ∧ (convert 24 9 vv).run Try.prog wz = .ok (sv ry) wz) (fun _ _ => trivial) _ _ _ _ ?_
    clear hx2
    (refine wpAnyH_take (i := 0) (oi := ⟨_, _, _, _, _, _⟩) (v := ?tv1) rfl (by kernel_rfl) (by kernel_rfl) (by kernel_rfl) (fun _ _ _ h => h) (Or.inl ⟨by rfl, ?hy1⟩) (by assumption) ?rs1; (case hy1 => (intro wx hSw; (try dsimp only at hSw); go_simp; try with_reducible rfl)); try simp only [Act.put, List.setIfInBounds_toArray, List.set_cons_zero, List.set_cons_succ])
    (refine wpAnyH_take (i := 1) (oi := ⟨_, _, _, _, _, _⟩) (v := ?tv2) rfl (by kernel_rfl) (by kernel_rfl) (by kernel_rfl) (fun _ _ _ h => h) (Or.inl ⟨by rfl, ?hy2⟩) (by assumption) ?rs2; (case hy2 => (intro wx hSw; (try dsimp only at hSw); go_simp; try with_reducible rfl)); try simp only [Act.put, List.setIfInBounds_toArray, List.set_cons_zero, List.set_cons_succ])
    (refine wpAnyH_take (i := 2) (oi := ⟨_, _, _, _, _, _⟩) (v := ?tv3) rfl (by kernel_rfl) (by kernel_rfl) (by kernel_rfl) (fun _ _ _ h => h) (Or.inl ⟨by rfl, ?hy3⟩) (by assumption) ?rs3; (case hy3 => (intro wx hSw; (try dsimp only at hSw); go_simp; try with_reducible rfl)); try simp only [Act.put, List.setIfInBounds_toArray, List.set_cons_zero, List.set_cons_succ])
    (refine wpAnyH_take (i := 6) (oi := ⟨_, _, _, _, _, _⟩) (v := ?tv4) rfl (by kernel_rfl) (by kernel_rfl) (by kernel_rfl) (fun _ _ _ h => h) (Or.inl ⟨by rfl, ?hy4⟩) (by assumption) ?rs4; (case hy4 => (intro wx hSw; (try dsimp only at hSw); go_simp; try with_reducible rfl)); try simp only [Act.put, List.setIfInBounds_toArray, List.set_cons_zero, List.set_cons_succ])
    (refine wpAnyH_take (i := 8) (oi := ⟨_, _, _, _, _, _⟩) (v := ?tv5) rfl (by kernel_rfl) (by kernel_rfl) (by kernel_rfl) (fun _ _ _ h => h) (Or.inl ⟨by rfl, ?hy5⟩) (by assumption) ?rs5; (case hy5 => (intro wx hSw; (try dsimp only at hSw); go_simp; try with_reducible rfl)); try simp only [Act.put, List.setIfInBounds_toArray, List.set_cons_zero, List.set_cons_succ])
    (refine wpAnyH_take (i := 10) (oi := ⟨_, _, _, _, _, _⟩) (v := ?tv6) rfl (by kernel_rfl) (by kernel_rfl) (by kernel_rfl) (fun _ _ _ h => h) (Or.inl ⟨by rfl, ?hy6⟩) (by assumption) ?rs6; (case hy6 => (intro wx hSw; (try dsimp only at hSw); go_simp; try with_reducible rfl)); try simp only [Act.put, List.setIfInBounds_toArray, List.set_cons_zero, List.set_cons_succ])
    refine wpAnyH_ready (rs := [3, 7]) (by kernel_rfl) (by simp) ?_
    refine AllReadyH.cons rfl (fun K hK => ?_) (AllReadyH.cons rfl (fun K hK => ?_) (AllReadyH.nil))
    · skip
      rw [hy1.out, hy2.out]
      go_simp
      refine hK.out _ _ (hS0 _ (Mod.alloc hx0 _)) (fun hH => ?_)
      clear hK K hH
      try simp only [Act.put, List.setIfInBounds_toArray, List.set_cons_zero, List.set_cons_succ]
      rw [← hy1.out, ← hy2.out]
      have hx31 : Ext wr (wr.alloc (.cells #[y1, y2] 24)) := Mod.alloc hx0 _
      have hrow := Rw.two 24 h1 h2
      generalize hgz : wr.alloc (.cells #[y1, y2] 24) = w31 at *
      refine wpAnyH_ready (rs := [4, 7]) (by kernel_rfl) (by simp) ?_
      refine AllReadyH.cons rfl (fun K hK => ?_) (AllReadyH.cons rfl (fun K hK => ?_) (AllReadyH.nil))
      · skip
        go_simp
        refine (tag_any t hrow (by rw [hflat.out, List.length_append]; omega)).mono ?_
        rintro e w32 ⟨va, rfl, pa1, pa2, pa3⟩
        rw [hflat.out, ← hba.out] at pa1
        have hxw32 : Ext wr w32 := ext_trans hx31 pa3
        go_wp2_with fail
        refine hK.out _ _ (hS0 _ hxw32) (fun hH => ?_)
        clear hK K hH
        try simp only [Act.put, List.setIfInBounds_toArray, List.set_cons_zero, List.set_cons_succ]
        have kS : (fun wz => ((convert 24 9 vx).run Try.prog wz = .ok (sv rx) wz ∧ (convert 24 9 vu).run Try.prog wz = .ok (sv rx) wz ∧ (convert 24 9 vy).run Try.prog wz = .ok (sv ry) wz ∧ (convert 24 9 vv).run Try.prog wz = .ok (sv ry) wz) ∧ (convert 24 9 va).run Try.prog wz = .ok (sv ba) wz) w32 := ⟨hS0 _ hxw32, run_conv (P := Try.prog) Try.underlying24 Try.underlying5 Try.underlying9 pa1.sl⟩
        refine wpAnyH_mono (S' := fun wz => ((convert 24 9 vx).run Try.prog wz = .ok (sv rx) wz ∧ (convert 24 9 vu).run Try.prog wz = .ok (sv rx) wz ∧ (convert 24 9 vy).run Try.prog wz = .ok (sv ry) wz ∧ (convert 24 9 vv).run Try.prog wz = .ok (sv ry) wz) ∧ (convert 24 9 va).run Try.prog wz = .ok (sv ba) wz) (fun _ h => h.1) _ _ _ _ ?_
        (refine wpAnyH_take (i := 5) (oi := ⟨_, _, _, _, _, _⟩) (v := ?tv7) rfl (by kernel_rfl) (by kernel_rfl) (by kernel_rfl) (fun _ _ _ h => h) (Or.inl ⟨by rfl, ?hy7⟩) (by assumption) ?rs7; (case hy7 => (intro wx hSw; (try dsimp only at hSw); go_simp; try with_reducible rfl)); try simp only [Act.put, List.setIfInBounds_toArray, List.set_cons_zero, List.set_cons_succ])
        refine wpAnyH_ready (rs := [7]) (by kernel_rfl) (by simp) ?_
        refine AllReadyH.cons rfl (fun K hK => ?_) (AllReadyH.nil)
        go_simp
        refine hK.out _ _ (⟨hS0 _ (Mod.alloc hxw32 _), run_conv (P := Try.prog) Try.underlying24 Try.underlying5 Try.underlying9 (pa1.alloc (.cells #[] 5)).sl⟩) (fun hH => ?_)
        clear hK K hH
        try simp only [Act.put, List.setIfInBounds_toArray, List.set_cons_zero, List.set_cons_succ]
        have hx33 : Ext wr (w32.alloc (.cells #[] 5)) := Mod.alloc hxw32 _
        have pe : Own (w32.alloc (.cells #[] 5)) 5 (.slice (some ⟨w32.heap.size, 0, none⟩) 0 0) [] := Own.empty w32 5
        have fC : Fresh wr.heap.size (.slice (some ⟨w32.heap.size, 0, none⟩) 0 0) := fun k q1 => by have q3 : w32.heap.size = k := Option.some.inj q1; have := hxw32.size; omega
        have hd : ∀ k, own (.slice (some ⟨w32.heap.size, 0, none⟩) 0 0) k → own va k → False := fun k q1 q2 => by have q3 : w32.heap.size = k := Option.some.inj q1; have := pa1.lt q2; omega
        replace pa1 := pa1.alloc (.cells #[] 5)
        generalize hgz : w32.alloc (.cells #[] 5) = w33 at *
        clear hgz kS pa2 pa3
        refine wpAnyH_ready (rs := [9]) (by kernel_rfl) (by simp) ?_
        refine AllReadyH.cons rfl (fun K hK => ?_) (AllReadyH.nil)
        rw [if_pos (by rfl)]
        refine op_app tyB pe (h1.ext hx33) (bv_one _) (.tmp 44) (.tmp 45) 46 rfl rfl rfl rfl hn1.out ?_
        intro vd wd qa1 qa2 qa3
        rw [List.nil_append] at qa1
        have hxd : Ext wr wd := ext_app0 hx33 fC qa2
        have fd := qa3.fresh fC (hx33).size
        obtain ⟨pb1, hd1⟩ := app_sep pa1 hd qa2 qa3
        refine hK.out _ _ ⟨hS0 _ hxd, run_conv (P := Try.prog) Try.underlying24 Try.underlying5 Try.underlying9 pb1.sl⟩ (fun hH => ?_)
        clear hK K hH qa2 qa3 pa1 hd
        try simp only [Act.put, List.setIfInBounds_toArray, List.set_cons_zero, List.set_cons_succ]
        refine wpAnyH_ready (rs := [11]) (by kernel_rfl) (by simp) ?_
        refine AllReadyH.cons rfl (fun K hK => ?_) (AllReadyH.nil)
        rw [if_pos (by rfl)]
        refine op_app tyB qa1 (h2.ext hxd) (bv_one _) (.tmp 46) (.tmp 47) 48 rfl rfl rfl rfl hn2.out ?_
        intro ve we qb1 qb2 qb3
        rw [← List.map_append] at qb1
        have hxe : Ext wr we := ext_app0 hxd fd qb2
        obtain ⟨pc1, hd2⟩ := app_sep pb1 hd1 qb2 qb3
        refine hK.out _ _ ⟨hS0 _ hxe, run_conv (P := Try.prog) Try.underlying24 Try.underlying5 Try.underlying9 pc1.sl⟩ (fun hH => ?_)
        clear hK K hH qb2 qb3 pb1 hd1 hd2 qa1
        try simp only [Act.put, List.setIfInBounds_toArray, List.set_cons_zero, List.set_cons_succ]
        refine wpAnyH_ready (rs := [12]) (by kernel_rfl) (by simp) ?_
        refine AllReadyH.cons rfl (fun K hK => ?_) (AllReadyH.nil)
        go_simp
        refine (rtag_any t qb1.sl (by rw [List.length_append]; omega)).mono ?_
        rintro e wf ⟨vf, rfl, qf1, qf2, qf3⟩
        rw [← hba.out] at qf1
        have hxf : Ext wr wf := ext_trans hxe qf3
        have pf1 := pc1.mod qf3 (fun _ _ h => h)
        go_wp2_with fail
        refine hK.out _ _ ⟨hS0 _ hxf, run_conv (P := Try.prog) Try.underlying24 Try.underlying5 Try.underlying9 pf1.sl⟩ (fun hH => ?_)
        clear hK K hH pc1
        try simp only [Act.put, List.setIfInBounds_toArray, List.set_cons_zero, List.set_cons_succ]
        have kS2 : (fun wz => (((convert 24 9 vx).run Try.prog wz = .ok (sv rx) wz ∧ (convert 24 9 vu).run Try.prog wz = .ok (sv rx) wz ∧ (convert 24 9 vy).run Try.prog wz = .ok (sv ry) wz ∧ (convert 24 9 vv).run Try.prog wz = .ok (sv ry) wz) ∧ (convert 24 9 va).run Try.prog wz = .ok (sv ba) wz) ∧ (convert 24 9 vf).run Try.prog wz = .ok (sv ba) wz) wf := ⟨⟨hS0 _ hxf, run_conv (P := Try.prog) Try.underlying24 Try.underlying5 Try.underlying9 pf1.sl⟩, run_conv (P := Try.prog) Try.underlying24 Try.underlying5 Try.underlying9 qf1.sl⟩
        refine wpAnyH_mono (S' := fun wz => (((convert 24 9 vx).run Try.prog wz = .ok (sv rx) wz ∧ (convert 24 9 vu).run Try.prog wz = .ok (sv rx) wz ∧ (convert 24 9 vy).run Try.prog wz = .ok (sv ry) wz ∧ (convert 24 9 vv).run Try.prog wz = .ok (sv ry) wz) ∧ (convert 24 9 va).run Try.prog wz = .ok (sv ba) wz) ∧ (convert 24 9 vf).run Try.prog wz = .ok (sv ba) wz) (fun _ h => h.1) _ _ _ _ ?_
        replace qf1 := Lib.hid qf1
        replace pf1 := Lib.hid pf1
        replace hxf := Lib.hid hxf
        clear qf2 qf3 qb1 hxe fd hxd
        (refine wpAnyH_take (i := 13) (oi := ⟨_, _, _, _, _, _⟩) (v := ?tv8) rfl (by kernel_rfl) (by kernel_rfl) (by kernel_rfl) (fun _ _ _ h => h) (Or.inl ⟨by rfl, ?hy8⟩) (by assumption) ?rs8; (case hy8 => (intro wx hSw; (try dsimp only at hSw); go_simp; try with_reducible rfl)); try simp only [Act.put, List.setIfInBounds_toArray, List.set_cons_zero, List.set_cons_succ])
        (refine wpAnyH_take (i := 14) (oi := ⟨_, _, _, _, _, _⟩) (v := ?tv9) rfl (by kernel_rfl) (by kernel_rfl) (by kernel_rfl) (fun _ _ _ h => h) (Or.inl ⟨by rfl, ?hy9⟩) (by assumption) ?rs9; (case hy9 => (intro wx hSw; (try dsimp only at hSw); go_simp; try with_reducible rfl)); try simp only [Act.put, List.setIfInBounds_toArray, List.set_cons_zero, List.set_cons_succ])
        (refine wpAnyH_take (i := 15) (oi := ⟨_, _, _, _, _, _⟩) (v := ?tv10) rfl (by kernel_rfl) (by kernel_rfl) (by kernel_rfl) (fun _ _ _ h => h) (Or.inl ⟨by rfl, ?hy10⟩) (by assumption) ?rs10; (case hy10 => (intro wx hSw; (try dsimp only at hSw); go_simp; try with_reducible rfl)); try simp only [Act.put, List.setIfInBounds_toArray, List.set_cons_zero, List.set_cons_succ])
        (refine wpAnyH_take (i := 16) (oi := ⟨_, _, _, _, _, _⟩) (v := ?tv11) rfl (by kernel_rfl) (by kernel_rfl) (by kernel_rfl) (fun _ _ _ h => h) (Or.inl ⟨by rfl, ?hy11⟩) (by assumption) ?rs11; (case hy11 => (intro wx hSw; (try dsimp only at hSw); go_simp; try with_reducible rfl)); try simp only [Act.put, List.setIfInBounds_toArray, List.set_cons_zero, List.set_cons_succ])
        (refine wpAnyH_take (i := 17) (oi := ⟨_, _, _, _, _, _⟩) (v := ?tv12) rfl (by kernel_rfl) (by kernel_rfl) (by kernel_rfl) (fun _ _ _ h => h) (Or.inl ⟨by rfl, ?hy12⟩) (by assumption) ?rs12; (case hy12 => (intro wx hSw; (try dsimp only at hSw); go_simp; try with_reducible rfl)); try simp only [Act.put, List.setIfInBounds_toArray, List.set_cons_zero, List.set_cons_succ])
        (refine wpAnyH_take (i := 18) (oi := ⟨_, _, _, _, _, _⟩) (v := ?tv13) rfl (by kernel_rfl) (by kernel_rfl) (by kernel_rfl) (fun _ _ _ h => h) (Or.inl ⟨by rfl, ?hy13⟩) (by assumption) ?rs13; (case hy13 => (intro wx hSw; (try dsimp only at hSw); go_simp; try with_reducible rfl)); try simp only [Act.put, List.setIfInBounds_toArray, List.set_cons_zero, List.set_cons_succ])
        (refine wpAnyH_take (i := 19) (oi := ⟨_, _, _, _, _, _⟩) (v := ?tv14) rfl (by kernel_rfl) (by kernel_rfl) (by kernel_rfl) (fun _ _ _ h => h) (Or.inl ⟨by rfl, ?hy14⟩) (by assumption) ?rs14; (case hy14 => (intro wx hSw; (try dsimp only at hSw); go_simp; try with_reducible rfl)); try simp only [Act.put, List.setIfInBounds_toArray, List.set_cons_zero, List.set_cons_succ])
        (refine wpAnyH_take (i := 20) (oi := ⟨_, _, _, _, _, _⟩) (v := ?tv15) rfl (by kernel_rfl) (by kernel_rfl) (by kernel_rfl) (fun _ _ _ h => h) (Or.inl ⟨by rfl, ?hy15⟩) (by assumption) ?rs15; (case hy15 => (intro wx hSw; (try dsimp only at hSw); go_simp; try with_reducible rfl)); try simp only [Act.put, List.setIfInBounds_toArray, List.set_cons_zero, List.set_cons_succ])
        (refine wpAnyH_take (i := 21) (oi := ⟨_, _, _, _, _, _⟩) (v := ?tv16) rfl (by kernel_rfl) (by kernel_rfl) (by kernel_rfl) (fun _ _ _ h => h) (Or.inl ⟨by rfl, ?hy16⟩) (by assumption) ?rs16; (case hy16 => (intro wx hSw; (try dsimp only at hSw); go_simp; try with_reducible rfl)); try simp only [Act.put, List.setIfInBounds_toArray, List.set_cons_zero, List.set_cons_succ])
        (refine wpAnyH_take (i := 22) (oi := ⟨_, _, _, _, _, _⟩) (v := ?tv17) rfl (by kernel_rfl) (by kernel_rfl) (by kernel_rfl) (fun _ _ _ h => h) (Or.inl ⟨by rfl, ?hy17⟩) (by assumption) ?rs17; (case hy17 => (intro wx hSw; (try dsimp only at hSw); go_simp; try with_reducible rfl)); try simp only [Act.put, List.setIfInBounds_toArray, List.set_cons_zero, List.set_cons_succ])
        (refine wpAnyH_take (i := 23) (oi := ⟨_, _, _, _, _, _⟩) (v := ?tv18) rfl (by kernel_rfl) (by kernel_rfl) (by kernel_rfl) (fun _ _ _ h => h) (Or.inl ⟨by rfl, ?hy18⟩) (by assumption) ?rs18; (case hy18 => (intro wx hSw; (try dsimp only at hSw); go_simp; try with_reducible rfl)); try simp only [Act.put, List.setIfInBounds_toArray, List.set_cons_zero, List.set_cons_succ])
        (refine wpAnyH_take (i := 24) (oi := ⟨_, _, _, _, _, _⟩) (v := ?tv19) rfl (by kernel_rfl) (by kernel_rfl) (by kernel_rfl) (fun _ _ _ h => h) (Or.inl ⟨by rfl, ?hy19⟩) (by assumption) ?rs19; (case hy19 => (intro wx hSw; (try dsimp only at hSw); go_simp; try with_reducible rfl)); try simp only [Act.put, List.setIfInBounds_toArray, List.set_cons_zero, List.set_cons_succ])
        (refine wpAnyH_take (i := 25) (oi := ⟨_, _, _, _, _, _⟩) (v := ?tv20) rfl (by kernel_rfl) (by kernel_rfl) (by kernel_rfl) (fun _ _ _ h => h) (Or.inl ⟨by rfl, ?hy20⟩) (by assumption) ?rs20; (case hy20 => (intro wx hSw; (try dsimp only at hSw); go_simp; try with_reducible rfl)); try simp only [Act.put, List.setIfInBounds_toArray, List.set_cons_zero, List.set_cons_succ])
        (refine wpAnyH_take (i := 26) (oi := ⟨_, _, _, _, _, _⟩) (v := ?tv21) rfl (by kernel_rfl) (by kernel_rfl) (by kernel_rfl) (fun _ _ _ h => h) (Or.inl ⟨by rfl, ?hy21⟩) (by assumption) ?rs21; (case hy21 => (intro wx hSw; (try dsimp only at hSw); go_simp; try with_reducible rfl)); try simp only [Act.put, List.setIfInBounds_toArray, List.set_cons_zero, List.set_cons_succ])
        (refine wpAnyH_take (i := 27) (oi := ⟨_, _, _, _, _, _⟩) (v := ?tv22) rfl (by kernel_rfl) (by kernel_rfl) (by kernel_rfl) (fun _ _ _ h => h) (Or.inl ⟨by rfl, ?hy22⟩) (by assumption) ?rs22; (case hy22 => (intro wx hSw; (try dsimp only at hSw); go_simp; try with_reducible rfl)); try simp only [Act.put, List.setIfInBounds_toArray, List.set_cons_zero, List.set_cons_succ])
        (refine wpAnyH_take (i := 28) (oi := ⟨_, _, _, _, _, _⟩) (v := ?tv23) rfl (by kernel_rfl) (by kernel_rfl) (by kernel_rfl) (fun _ _ _ h => h) (Or.inl ⟨by rfl, ?hy23⟩) (by assumption) ?rs23; (case hy23 => (intro wx hSw; (try dsimp only at hSw); go_simp; try with_reducible rfl)); try simp only [Act.put, List.setIfInBounds_toArray, List.set_cons_zero, List.set_cons_succ])
        (refine wpAnyH_take (i := 29) (oi := ⟨_, _, _, _, _, _⟩) (v := ?tv24) rfl (by kernel_rfl) (by kernel_rfl) (by kernel_rfl) (fun _ _ _ h => h) (Or.inl ⟨by rfl, ?hy24⟩) (by assumption) ?rs24; (case hy24 => (intro wx hSw; (try dsimp only at hSw); go_simp; try with_reducible rfl)); try simp only [Act.put, List.setIfInBounds_toArray, List.set_cons_zero, List.set_cons_succ])
        (refine wpAnyH_take (i := 30) (oi := ⟨_, _, _, _, _, _⟩) (v := ?tv25) rfl (by kernel_rfl) (by kernel_rfl) (by kernel_rfl) (fun _ _ _ h => h) (Or.inl ⟨by rfl, ?hy25⟩) (by assumption) ?rs25; (case hy25 => (intro wx hSw; (try dsimp only at hSw); go_simp; try with_reducible rfl)); try simp only [Act.put, List.setIfInBounds_toArray, List.set_cons_zero, List.set_cons_succ])
        (refine wpAnyH_take (i := 31) (oi := ⟨_, _, _, _, _, _⟩) (v := ?tv26) rfl (by kernel_rfl) (by kernel_rfl) (by kernel_rfl) (fun _ _ _ h => h) (Or.inl ⟨by rfl, ?hy26⟩) (by assumption) ?rs26; (case hy26 => (intro wx hSw; (try dsimp only at hSw); go_simp; try with_reducible rfl)); try simp only [Act.put, List.setIfInBounds_toArray, List.set_cons_zero, List.set_cons_succ])
        (refine wpAnyH_take (i := 32) (oi := ⟨_, _, _, _, _, _⟩) (v := ?tv27) rfl (by kernel_rfl) (by kernel_rfl) (by kernel_rfl) (fun _ _ _ h => h) (Or.inl ⟨by rfl, ?hy27⟩) (by assumption) ?rs27; (case hy27 => (intro wx hSw; (try dsimp only at hSw); go_simp; try with_reducible rfl)); try simp only [Act.put, List.setIfInBounds_toArray, List.set_cons_zero, List.set_cons_succ])
        (refine wpAnyH_take (i := 33) (oi := ⟨_, _, _, _, _, _⟩) (v := ?tv28) rfl (by kernel_rfl) (by kernel_rfl) (by kernel_rfl) (fun _ _ _ h => h) (Or.inl ⟨by rfl, ?hy28⟩) (by assumption) ?rs28; (case hy28 => (intro wx hSw; (try dsimp only at hSw); go_simp; try with_reducible rfl)); try simp only [Act.put, List.setIfInBounds_toArray, List.set_cons_zero, List.set_cons_succ])
        (refine wpAnyH_take (i := 34) (oi := ⟨_, _, _, _, _, _⟩) (v := ?tv29) rfl (by kernel_rfl) (by kernel_rfl) (by kernel_rfl) (fun _ _ _ h => h) (Or.inl ⟨by rfl, ?hy29⟩) (by assumption) ?rs29; (case hy29 => (intro wx hSw; (try dsimp only at hSw); go_simp; try with_reducible rfl)); try simp only [Act.put, List.setIfInBounds_toArray, List.set_cons_zero, List.set_cons_succ])
        (refine wpAnyH_take (i := 35) (oi := ⟨_, _, _, _, _, _⟩) (v := ?tv30) rfl (by kernel_rfl) (by kernel_rfl) (by kernel_rfl) (fun _ _ _ h => h) (Or.inl ⟨by rfl, ?hy30⟩) (by assumption) ?rs30; (case hy30 => (intro wx hSw; (try dsimp only at hSw); go_simp; try with_reducible rfl)); try simp only [Act.put, List.setIfInBounds_toArray, List.set_cons_zero, List.set_cons_succ])
        (refine wpAnyH_take (i := 36) (oi := ⟨_, _, _, _, _, _⟩) (v := ?tv31) rfl (by kernel_rfl) (by kernel_rfl) (by kernel_rfl) (fun _ _ _ h => h) (Or.inl ⟨by rfl, ?hy31⟩) (by assumption) ?rs31; (case hy31 => (intro wx hSw; (try dsimp only at hSw); go_simp; try with_reducible rfl)); try simp only [Act.put, List.setIfInBounds_toArray, List.set_cons_zero, List.set_cons_succ])
        (refine wpAnyH_take (i := 37) (oi := ⟨_, _, _, _, _, _⟩) (v := ?tv32) rfl (by kernel_rfl) (by kernel_rfl) (by kernel_rfl) (fun _ _ _ h => h) (Or.inl ⟨by rfl, ?hy32⟩) (by assumption) ?rs32; (case hy32 => (intro wx hSw; (try dsimp only at hSw); go_simp; try with_reducible rfl)); try simp only [Act.put, List.setIfInBounds_toArray, List.set_cons_zero, List.set_cons_succ])
        (refine wpAnyH_take (i := 38) (oi := ⟨_, _, _, _, _, _⟩) (v := ?tv33) rfl (by kernel_rfl) (by kernel_rfl) (by kernel_rfl) (fun _ _ _ h => h) (Or.inl ⟨by rfl, ?hy33⟩) (by assumption) ?rs33; (case hy33 => (intro wx hSw; (try dsimp only at hSw); go_simp; try with_reducible rfl)); try simp only [Act.put, List.setIfInBounds_toArray, List.set_cons_zero, List.set_cons_succ])
        (refine wpAnyH_take (i := 39) (oi := ⟨_, _, _, _, _, _⟩) (v := ?tv34) rfl (by kernel_rfl) (by kernel_rfl) (by kernel_rfl) (fun _ _ _ h => h) (Or.inl ⟨by rfl, ?hy34⟩) (by assumption) ?rs34; (case hy34 => (intro wx hSw; (try dsimp only at hSw); go_simp; try with_reducible rfl)); try simp only [Act.put, List.setIfInBounds_toArray, List.set_cons_zero, List.set_cons_succ])
        refine wpAnyH_ready (rs := [40]) (by kernel_rfl) (by simp) ?_
        refine AllReadyH.cons rfl (fun K hK => ?_) (AllReadyH.nil)
        go_simp
        refine known24_any.mono ?_
        rintro e wg ⟨rfl, hxg⟩
        have hxz : Ext wr wg := ext_trans hxf.out hxg
        have kS3 : (fun wz => (((convert 24 9 vx).run Try.prog wz = .ok (sv rx) wz ∧ (convert 24 9 vu).run Try.prog wz = .ok (sv rx) wz ∧ (convert 24 9 vy).run Try.prog wz = .ok (sv ry) wz ∧ (convert 24 9 vv).run Try.prog wz = .ok (sv ry) wz) ∧ (convert 24 9 va).run Try.prog wz = .ok (sv ba) wz) ∧ (convert 24 9 vf).run Try.prog wz = .ok (sv ba) wz) wg := ⟨⟨hS0 _ hxz, run_conv (P := Try.prog) Try.underlying24 Try.underlying5 Try.underlying9 (pf1.out.sl.ext hxg)⟩, run_conv (P := Try.prog) Try.underlying24 Try.underlying5 Try.underlying9 (qf1.out.sl.ext hxg)⟩
        go_wp2_with fail
        refine hK.out _ _ kS3 (fun hH => ?_)
        clear hK K hH
        try simp only [Act.put, List.setIfInBounds_toArray, List.set_cons_zero, List.set_cons_succ]
        (refine wpAnyH_take (i := 41) (oi := ⟨_, _, _, _, _, _⟩) (v := ?tv35) rfl (by kernel_rfl) (by kernel_rfl) (by kernel_rfl) (fun _ _ _ h => h) (Or.inl ⟨by rfl, ?hy35⟩) (by assumption) ?rs35; (case hy35 => (intro wx hSw; (try dsimp only at hSw); go_simp; try with_reducible rfl)); try simp only [Act.put, List.setIfInBounds_toArray, List.set_cons_zero, List.set_cons_succ])
        (refine wpAnyH_take (i := 42) (oi := ⟨_, _, _, _, _, _⟩) (v := ?tv36) rfl (by kernel_rfl) (by kernel_rfl) (by kernel_rfl) (fun _ _ _ h => h) (Or.inl ⟨by rfl, ?hy36⟩) (by assumption) ?rs36; (case hy36 => (intro wx hSw; (try dsimp only at hSw); go_simp; try with_reducible rfl)); try simp only [Act.put, List.setIfInBounds_toArray, List.set_cons_zero, List.set_cons_succ])
        refine wpAnyH_done (by kernel_rfl) ?_ _
        go_wp2_with fail
        go_meet
        exact ⟨rfl, ext_trans hxd0.out hxz⟩
      · skip
        go_simp
        refine hK.out _ _ (hS0 _ (Mod.alloc hx31 _)) (fun hH => ?_)
        clear hK K hH
        try simp only [Act.put, List.setIfInBounds_toArray, List.set_cons_zero, List.set_cons_succ]
        have hx41 : Ext wr (w31.alloc (.cells #[] 5)) := Mod.alloc hx31 _
        have pe : Own (w31.alloc (.cells #[] 5)) 5 (.slice (some ⟨w31.heap.size, 0, none⟩) 0 0) [] := Own.empty w31 5
        replace hrow := Sl_row hrow (.cells #[] 5)
        have fC : Fresh wr.heap.size (.slice (some ⟨w31.heap.size, 0, none⟩) 0 0) := fun k q1 => by have q3 : w31.heap.size = k := Option.some.inj q1; have := hx31.size; omega
        generalize hgz : w31.alloc (.cells #[] 5) = w41 at *
        clear hgz
        generalize w31.heap.size = szC at *
        refine wpAnyH_ready (rs := [4]) (by kernel_rfl) (by simp) ?_
        refine AllReadyH.cons rfl (fun K hK => ?_) (AllReadyH.nil)
        go_simp
        refine (tag_any t hrow (by rw [hflat.out, List.length_append]; omega)).mono ?_
        rintro e w42 ⟨va, rfl, pa1, pa2, pa3⟩
        rw [hflat.out, ← hba.out] at pa1
        have hxw42 : Ext wr w42 := ext_trans hx41 pa3
        have pec := pe.mod pa3 (fun _ _ h => h)
        have hd : ∀ k, own (.slice (some ⟨szC, 0, none⟩) 0 0) k → own va k → False := fun k q1 q2 => by have q3 : szC = k := Option.some.inj q1; have := pa2 k q2; have := pe.lt q1; omega
        go_wp2_with fail
        refine hK.out _ _ (hS0 _ hxw42) (fun hH => ?_)
        clear hK K hH
        try simp only [Act.put, List.setIfInBounds_toArray, List.set_cons_zero, List.set_cons_succ]
        have kS : (fun wz => ((convert 24 9 vx).run Try.prog wz = .ok (sv rx) wz ∧ (convert 24 9 vu).run Try.prog wz = .ok (sv rx) wz ∧ (convert 24 9 vy).run Try.prog wz = .ok (sv ry) wz ∧ (convert 24 9 vv).run Try.prog wz = .ok (sv ry) wz) ∧ (convert 24 9 va).run Try.prog wz = .ok (sv ba) wz) w42 := ⟨hS0 _ hxw42, run_conv (P := Try.prog) Try.underlying24 Try.underlying5 Try.underlying9 pa1.sl⟩
        refine wpAnyH_mono (S' := fun wz => ((convert 24 9 vx).run Try.prog wz = .ok (sv rx) wz ∧ (convert 24 9 vu).run Try.prog wz = .ok (sv rx) wz ∧ (convert 24 9 vy).run Try.prog wz = .ok (sv ry) wz ∧ (convert 24 9 vv).run Try.prog wz = .ok (sv ry) wz) ∧ (convert 24 9 va).run Try.prog wz = .ok (sv ba) wz) (fun _ h => h.1) _ _ _ _ ?_
        (refine wpAnyH_take (i := 5) (oi := ⟨_, _, _, _, _, _⟩) (v := ?tv37) rfl (by kernel_rfl) (by kernel_rfl) (by kernel_rfl) (fun _ _ _ h => h) (Or.inl ⟨by rfl, ?hy37⟩) (by assumption) ?rs37; (case hy37 => (intro wx hSw; (try dsimp only at hSw); go_simp; try with_reducible rfl)); try simp only [Act.put, List.setIfInBounds_toArray, List.set_cons_zero, List.set_cons_succ])
        clear pa2 pa3 kS
        refine wpAnyH_ready (rs := [9]) (by kernel_rfl) (by simp) ?_
        refine AllReadyH.cons rfl (fun K hK => ?_) (AllReadyH.nil)
        rw [if_pos (by rfl)]
        refine op_app tyB pec (h1.ext hxw42) (bv_one _) (.tmp 44) (.tmp 45) 46 rfl rfl rfl rfl hn1.out ?_
        intro vd wd qa1 qa2 qa3
        rw [List.nil_append] at qa1
        have hxd : Ext wr wd := ext_app0 hxw42 fC qa2
        have fd := qa3.fresh fC (hxw42).size
        obtain ⟨pb1, hd1⟩ := app_sep pa1 hd qa2 qa3
        refine hK.out _ _ ⟨hS0 _ hxd, run_conv (P := Try.prog) Try.underlying24 Try.underlying5 Try.underlying9 pb1.sl⟩ (fun hH => ?_)
        clear hK K hH qa2 qa3 pa1 hd
        try simp only [Act.put, List.setIfInBounds_toArray, List.set_cons_zero, List.set_cons_succ]
        refine wpAnyH_ready (rs := [11]) (by kernel_rfl) (by simp) ?_
        refine AllReadyH.cons rfl (fun K hK => ?_) (AllReadyH.nil)
        rw [if_pos (by rfl)]
        refine op_app tyB qa1 (h2.ext hxd) (bv_one _) (.tmp 46) (.tmp 47) 48 rfl rfl rfl rfl hn2.out ?_
        intro ve we qb1 qb2 qb3
        rw [← List.map_append] at qb1
        have hxe : Ext wr we := ext_app0 hxd fd qb2
        obtain ⟨pc1, hd2⟩ := app_sep pb1 hd1 qb2 qb3
        refine hK.out _ _ ⟨hS0 _ hxe, run_conv (P := Try.prog) Try.underlying24 Try.underlying5 Try.underlying9 pc1.sl⟩ (fun hH => ?_)
        clear hK K hH qb2 qb3 pb1 hd1 hd2 qa1
        try simp only [Act.put, List.setIfInBounds_toArray, List.set_cons_zero, List.set_cons_succ]
        refine wpAnyH_ready (rs := [12]) (by kernel_rfl) (by simp) ?_
        refine AllReadyH.cons rfl (fun K hK => ?_) (AllReadyH.nil)
        go_simp
        refine (rtag_any t qb1.sl (by rw [List.length_append]; omega)).mono ?_
        rintro e wf ⟨vf, rfl, qf1, qf2, qf3⟩
        rw [← hba.out] at qf1
        have hxf : Ext wr wf := ext_trans hxe qf3
        have pf1 := pc1.mod qf3 (fun _ _ h => h)
        go_wp2_with fail
        refine hK.out _ _ ⟨hS0 _ hxf, run_conv (P := Try.prog) Try.underlying24 Try.underlying5 Try.underlying9 pf1.sl⟩ (fun hH => ?_)
        clear hK K hH pc1
        try simp only [Act.put, List.setIfInBounds_toArray, List.set_cons_zero, List.set_cons_succ]
        have kS2 : (fun wz => (((convert 24 9 vx).run Try.prog wz = .ok (sv rx) wz ∧ (convert 24 9 vu).run Try.prog wz = .ok (sv rx) wz ∧ (convert 24 9 vy).run Try.prog wz = .ok (sv ry) wz ∧ (convert 24 9 vv).run Try.prog wz = .ok (sv ry) wz) ∧ (convert 24 9 va).run Try.prog wz = .ok (sv ba) wz) ∧ (convert 24 9 vf).run Try.prog wz = .ok (sv ba) wz) wf := ⟨⟨hS0 _ hxf, run_conv (P := Try.prog) Try.underlying24 Try.underlying5 Try.underlying9 pf1.sl⟩, run_conv (P := Try.prog) Try.underlying24 Try.underlying5 Try.underlying9 qf1.sl⟩
        refine wpAnyH_mono (S' := fun wz => (((convert 24 9 vx).run Try.prog wz = .ok (sv rx) wz ∧ (convert 24 9 vu).run Try.prog wz = .ok (sv rx) wz ∧ (convert 24 9 vy).run Try.prog wz = .ok (sv ry) wz ∧ (convert 24 9 vv).run Try.prog wz = .ok (sv ry) wz) ∧ (convert 24 9 va).run Try.prog wz = .ok (sv ba) wz) ∧ (convert 24 9 vf).run Try.prog wz = .ok (sv ba) wz) (fun _ h => h.1) _ _ _ _ ?_
        replace qf1 := Lib.hid qf1
        replace pf1 := Lib.hid pf1
        replace hxf := Lib.hid hxf
        clear qf2 qf3 qb1 hxe fd hxd
        (refine wpAnyH_take (i := 13) (oi := ⟨_, _, _, _, _, _⟩) (v := ?tv38) rfl (by kernel_rfl) (by kernel_rfl) (by kernel_rfl) (fun _ _ _ h => h) (Or.inl ⟨by rfl, ?hy38⟩) (by assumption) ?rs38; (case hy38 => (intro wx hSw; (try dsimp only at hSw); go_simp; try with_reducible rfl)); try simp only [Act.put, List.setIfInBounds_toArray, List.set_cons_zero, List.set_cons_succ])
        (refine wpAnyH_take (i := 14) (oi := ⟨_, _, _, _, _, _⟩) (v := ?tv39) rfl (by kernel_rfl) (by kernel_rfl) (by kernel_rfl) (fun _ _ _ h => h) (Or.inl ⟨by rfl, ?hy39⟩) (by assumption) ?rs39; (case hy39 => (intro wx hSw; (try dsimp only at hSw); go_simp; try with_reducible rfl)); try simp only [Act.put, List.setIfInBounds_toArray, List.set_cons_zero, List.set_cons_succ])
        (refine wpAnyH_take (i := 15) (oi := ⟨_, _, _, _, _, _⟩) (v := ?tv40) rfl (by kernel_rfl) (by kernel_rfl) (by kernel_rfl) (fun _ _ _ h => h) (Or.inl ⟨by rfl, ?hy40⟩) (by assumption) ?rs40; (case hy40 => (intro wx hSw; (try dsimp only at hSw); go_simp; try with_reducible rfl)); try simp only [Act.put, List.setIfInBounds_toArray, List.set_cons_zero, List.set_cons_succ])
        (refine wpAnyH_take (i := 16) (oi := ⟨_, _, _, _, _, _⟩) (v := ?tv41) rfl (by kernel_rfl) (by kernel_rfl) (by kernel_rfl) (fun _ _ _ h => h) (Or.inl ⟨by rfl, ?hy41⟩) (by assumption) ?rs41; (case hy41 => (intro wx hSw; (try dsimp only at hSw); go_simp; try with_reducible rfl)); try simp only [Act.put, List.setIfInBounds_toArray, List.set_cons_zero, List.set_cons_succ])
        (refine wpAnyH_take (i := 17) (oi := ⟨_, _, _, _, _, _⟩) (v := ?tv42) rfl (by kernel_rfl) (by kernel_rfl) (by kernel_rfl) (fun _ _ _ h => h) (Or.inl ⟨by rfl, ?hy42⟩) (by assumption) ?rs42; (case hy42 => (intro wx hSw; (try dsimp only at hSw); go_simp; try with_reducible rfl)); try simp only [Act.put, List.setIfInBounds_toArray, List.set_cons_zero, List.set_cons_succ])
        (refine wpAnyH_take (i := 18) (oi := ⟨_, _, _, _, _, _⟩) (v := ?tv43) rfl (by kernel_rfl) (by kernel_rfl) (by kernel_rfl) (fun _ _ _ h => h) (Or.inl ⟨by rfl, ?hy43⟩) (by assumption) ?rs43; (case hy43 => (intro wx hSw; (try dsimp only at hSw); go_simp; try with_reducible rfl)); try simp only [Act.put, List.setIfInBounds_toArray, List.set_cons_zero, List.set_cons_succ])
        (refine wpAnyH_take (i := 19) (oi := ⟨_, _, _, _, _, _⟩) (v := ?tv44) rfl (by kernel_rfl) (by kernel_rfl) (by kernel_rfl) (fun _ _ _ h => h) (Or.inl ⟨by rfl, ?hy44⟩) (by assumption) ?rs44; (case hy44 => (intro wx hSw; (try dsimp only at hSw); go_simp; try with_reducible rfl)); try simp only [Act.put, List.setIfInBounds_toArray, List.set_cons_zero, List.set_cons_succ])
        (refine wpAnyH_take (i := 20) (oi := ⟨_, _, _, _, _, _⟩) (v := ?tv45) rfl (by kernel_rfl) (by kernel_rfl) (by kernel_rfl) (fun _ _ _ h => h) (Or.inl ⟨by rfl, ?hy45⟩) (by assumption) ?rs45; (case hy45 => (intro wx hSw; (try dsimp only at hSw); go_simp; try with_reducible rfl)); try simp only [Act.put, List.setIfInBounds_toArray, List.set_cons_zero, List.set_cons_succ])
        (refine wpAnyH_take (i := 21) (oi := ⟨_, _, _, _, _, _⟩) (v := ?tv46) rfl (by kernel_rfl) (by kernel_rfl) (by kernel_rfl) (fun _ _ _ h => h) (Or.inl ⟨by rfl, ?hy46⟩) (by assumption) ?rs46; (case hy46 => (intro wx hSw; (try dsimp only at hSw); go_simp; try with_reducible rfl)); try simp only [Act.put, List.setIfInBounds_toArray, List.set_cons_zero, List.set_cons_succ])
        (refine wpAnyH_take (i := 22) (oi := ⟨_, _, _, _, _, _⟩) (v := ?tv47) rfl (by kernel_rfl) (by kernel_rfl) (by kernel_rfl) (fun _ _ _ h => h) (Or.inl ⟨by rfl, ?hy47⟩) (by assumption) ?rs47; (case hy47 => (intro wx hSw; (try dsimp only at hSw); go_simp; try with_reducible rfl)); try simp only [Act.put, List.setIfInBounds_toArray, List.set_cons_zero, List.set_cons_succ])
        (refine wpAnyH_take (i := 23) (oi := ⟨_, _, _, _, _, _⟩) (v := ?tv48) rfl (by kernel_rfl) (by kernel_rfl) (by kernel_rfl) (fun _ _ _ h => h) (Or.inl ⟨by rfl, ?hy48⟩) (by assumption) ?rs48; (case hy48 => (intro wx hSw; (try dsimp only at hSw); go_simp; try with_reducible rfl)); try simp only [Act.put, List.setIfInBounds_toArray, List.set_cons_zero, List.set_cons_succ])
        (refine wpAnyH_take (i := 24) (oi := ⟨_, _, _, _, _, _⟩) (v := ?tv49) rfl (by kernel_rfl) (by kernel_rfl) (by kernel_rfl) (fun _ _ _ h => h) (Or.inl ⟨by rfl, ?hy49⟩) (by assumption) ?rs49; (case hy49 => (intro wx hSw; (try dsimp only at hSw); go_simp; try with_reducible rfl)); try simp only [Act.put, List.setIfInBounds_toArray, List.set_cons_zero, List.set_cons_succ])
        (refine wpAnyH_take (i := 25) (oi := ⟨_, _, _, _, _, _⟩) (v := ?tv50) rfl (by kernel_rfl) (by kernel_rfl) (by kernel_rfl) (fun _ _ _ h => h) (Or.inl ⟨by rfl, ?hy50⟩) (by assumption) ?rs50; (case hy50 => (intro wx hSw; (try dsimp only at hSw); go_simp; try with_reducible rfl)); try simp only [Act.put, List.setIfInBounds_toArray, List.set_cons_zero, List.set_cons_succ])
        (refine wpAnyH_take (i := 26) (oi := ⟨_, _, _, _, _, _⟩) (v := ?tv51) rfl (by kernel_rfl) (by kernel_rfl) (by kernel_rfl) (fun _ _ _ h => h) (Or.inl ⟨by rfl, ?hy51⟩) (by assumption) ?rs51; (case hy51 => (intro wx hSw; (try dsimp only at hSw); go_simp; try with_reducible rfl)); try simp only [Act.put, List.setIfInBounds_toArray, List.set_cons_zero, List.set_cons_succ])
        (refine wpAnyH_take (i := 27) (oi := ⟨_, _, _, _, _, _⟩) (v := ?tv52) rfl (by kernel_rfl) (by kernel_rfl) (by kernel_rfl) (fun _ _ _ h => h) (Or.inl ⟨by rfl, ?hy52⟩) (by assumption) ?rs52; (case hy52 => (intro wx hSw; (try dsimp only at hSw); go_simp; try with_reducible rfl)); try simp only [Act.put, List.setIfInBounds_toArray, List.set_cons_zero, List.set_cons_succ])
        (refine wpAnyH_take (i := 28) (oi := ⟨_, _, _, _, _, _⟩) (v := ?tv53) rfl (by kernel_rfl) (by kernel_rfl) (by kernel_rfl) (fun _ _ _ h => h) (Or.inl ⟨by rfl, ?hy53⟩) (by assumption) ?rs53; (case hy53 => (intro wx hSw; (try dsimp only at hSw); go_simp; try with_reducible rfl)); try simp only [Act.put, List.setIfInBounds_toArray, List.set_cons_zero, List.set_cons_succ])
        (refine wpAnyH_take (i := 29) (oi := ⟨_, _, _, _, _, _⟩) (v := ?tv54) rfl (by kernel_rfl) (by kernel_rfl) (by kernel_rfl) (fun _ _ _ h => h) (Or.inl ⟨by rfl, ?hy54⟩) (by assumption) ?rs54; (case hy54 => (intro wx hSw; (try dsimp only at hSw); go_simp; try with_reducible rfl)); try simp only [Act.put, List.setIfInBounds_toArray, List.set_cons_zero, List.set_cons_succ])
        (refine wpAnyH_take (i := 30) (oi := ⟨_, _, _, _, _, _⟩) (v := ?tv55) rfl (by kernel_rfl) (by kernel_rfl) (by kernel_rfl) (fun _ _ _ h => h) (Or.inl ⟨by rfl, ?hy55⟩) (by assumption) ?rs55; (case hy55 => (intro wx hSw; (try dsimp only at hSw); go_simp; try with_reducible rfl)); try simp only [Act.put, List.setIfInBounds_toArray, List.set_cons_zero, List.set_cons_succ])
        (refine wpAnyH_take (i := 31) (oi := ⟨_, _, _, _, _, _⟩) (v := ?tv56) rfl (by kernel_rfl) (by kernel_rfl) (by kernel_rfl) (fun _ _ _ h => h) (Or.inl ⟨by rfl, ?hy56⟩) (by assumption) ?rs56; (case hy56 => (intro wx hSw; (try dsimp only at hSw); go_simp; try with_reducible rfl)); try simp only [Act.put, List.setIfInBounds_toArray, List.set_cons_zero, List.set_cons_succ])
        (refine wpAnyH_take (i := 32) (oi := ⟨_, _, _, _, _, _⟩) (v := ?tv57) rfl (by kernel_rfl) (by kernel_rfl) (by kernel_rfl) (fun _ _ _ h => h) (Or.inl ⟨by rfl, ?hy57⟩) (by assumption) ?rs57; (case hy57 => (intro wx hSw; (try dsimp only at hSw); go_simp; try with_reducible rfl)); try simp only [Act.put, List.setIfInBounds_toArray, List.set_cons_zero, List.set_cons_succ])
        (refine wpAnyH_take (i := 33) (oi := ⟨_, _, _, _, _, _⟩) (v := ?tv58) rfl (by kernel_rfl) (by kernel_rfl) (by kernel_rfl) (fun _ _ _ h => h) (Or.inl ⟨by rfl, ?hy58⟩) (by assumption) ?rs58; (case hy58 => (intro wx hSw; (try dsimp only at hSw); go_simp; try with_reducible rfl)); try simp only [Act.put, List.setIfInBounds_toArray, List.set_cons_zero, List.set_cons_succ])
        (refine wpAnyH_take (i := 34) (oi := ⟨_, _, _, _, _, _⟩) (v := ?tv59) rfl (by kernel_rfl) (by kernel_rfl) (by kernel_rfl) (fun _ _ _ h => h) (Or.inl ⟨by rfl, ?hy59⟩) (by assumption) ?rs59; (case hy59 => (intro wx hSw; (try dsimp only at hSw); go_simp; try with_reducible rfl)); try simp only [Act.put, List.setIfInBounds_toArray, List.set_cons_zero, List.set_cons_succ])
        (refine wpAnyH_take (i := 35) (oi := ⟨_, _, _, _, _, _⟩) (v := ?tv60) rfl (by kernel_rfl) (by kernel_rfl) (by kernel_rfl) (fun _ _ _ h => h) (Or.inl ⟨by rfl, ?hy60⟩) (by assumption) ?rs60; (case hy60 => (intro wx hSw; (try dsimp only at hSw); go_simp; try with_reducible rfl)); try simp only [Act.put, List.setIfInBounds_toArray, List.set_cons_zero, List.set_cons_succ])
        (refine wpAnyH_take (i := 36) (oi := ⟨_, _, _, _, _, _⟩) (v := ?tv61) rfl (by kernel_rfl) (by kernel_rfl) (by kernel_rfl) (fun _ _ _ h => h) (Or.inl ⟨by rfl, ?hy61⟩) (by assumption) ?rs61; (case hy61 => (intro wx hSw; (try dsimp only at hSw); go_simp; try with_reducible rfl)); try simp only [Act.put, List.setIfInBounds_toArray, List.set_cons_zero, List.set_cons_succ])
        (refine wpAnyH_take (i := 37) (oi := ⟨_, _, _, _, _, _⟩) (v := ?tv62) rfl (by kernel_rfl) (by kernel_rfl) (by kernel_rfl) (fun _ _ _ h => h) (Or.inl ⟨by rfl, ?hy62⟩) (by assumption) ?rs62; (case hy62 => (intro wx hSw; (try dsimp only at hSw); go_simp; try with_reducible rfl)); try simp only [Act.put, List.setIfInBounds_toArray, List.set_cons_zero, List.set_cons_succ])
        (refine wpAnyH_take (i := 38) (oi := ⟨_, _, _, _, _, _⟩) (v := ?tv63) rfl (by kernel_rfl) (by kernel_rfl) (by kernel_rfl) (fun _ _ _ h => h) (Or.inl ⟨by rfl, ?hy63⟩) (by assumption) ?rs63; (case hy63 => (intro wx hSw; (try dsimp only at hSw); go_simp; try with_reducible rfl)); try simp only [Act.put, List.setIfInBounds_toArray, List.set_cons_zero, List.set_cons_succ])
        (refine wpAnyH_take (i := 39) (oi := ⟨_, _, _, _, _, _⟩) (v := ?tv64) rfl (by kernel_rfl) (by kernel_rfl) (by kernel_rfl) (fun _ _ _ h => h) (Or.inl ⟨by rfl, ?hy64⟩) (by assumption) ?rs64; (case hy64 => (intro wx hSw; (try dsimp only at hSw); go_simp; try with_reducible rfl)); try simp only [Act.put, List.setIfInBounds_toArray, List.set_cons_zero, List.set_cons_succ])
        refine wpAnyH_ready (rs := [40]) (by kernel_rfl) (by simp) ?_
        refine AllReadyH.cons rfl (fun K hK => ?_) (AllReadyH.nil)
        go_simp
        refine known24_any.mono ?_
        rintro e wg ⟨rfl, hxg⟩
        have hxz : Ext wr wg := ext_trans hxf.out hxg
        have kS3 : (fun wz => (((convert 24 9 vx).run Try.prog wz = .ok (sv rx) wz ∧ (convert 24 9 vu).run Try.prog wz = .ok (sv rx) wz ∧ (convert 24 9 vy).run Try.prog wz = .ok (sv ry) wz ∧ (convert 24 9 vv).run Try.prog wz = .ok (sv ry) wz) ∧ (convert 24 9 va).run Try.prog wz = .ok (sv ba) wz) ∧ (convert 24 9 vf).run Try.prog wz = .ok (sv ba) wz) wg := ⟨⟨hS0 _ hxz, run_conv (P := Try.prog) Try.underlying24 Try.underlying5 Try.underlying9 (pf1.out.sl.ext hxg)⟩, run_conv (P := Try.prog) Try.underlying24 Try.underlying5 Try.underlying9 (qf1.out.sl.ext hxg)⟩
        go_wp2_with fail
        refine hK.out _ _ kS3 (fun hH => ?_)
        clear hK K hH
        try simp only [Act.put, List.setIfInBounds_toArray, List.set_cons_zero, List.set_cons_succ]
        (refine wpAnyH_take (i := 41) (oi := ⟨_, _, _, _, _, _⟩) (v := ?tv65) rfl (by kernel_rfl) (by kernel_rfl) (by kernel_rfl) (fun _ _ _ h => h) (Or.inl ⟨by rfl, ?hy65⟩) (by assumption) ?rs65; (case hy65 => (intro wx hSw; (try dsimp only at hSw); go_simp; try with_reducible rfl)); try simp only [Act.put, List.setIfInBounds_toArray, List.set_cons_zero, List.set_cons_succ])
        (refine wpAnyH_take (i := 42) (oi := ⟨_, _, _, _, _, _⟩) (v := ?tv66) rfl (by kernel_rfl) (by kernel_rfl) (by kernel_rfl) (fun _ _ _ h => h) (Or.inl ⟨by rfl, ?hy66⟩) (by assumption) ?rs66; (case hy66 => (intro wx hSw; (try dsimp only at hSw); go_simp; try with_reducible rfl)); try simp only [Act.put, List.setIfInBounds_toArray, List.set_cons_zero, List.set_cons_succ])
        refine wpAnyH_done (by kernel_rfl) ?_ _
        go_wp2_with fail
        go_meet
        exact ⟨rfl, ext_trans hxd0.out hxz⟩
    · skip
      go_simp
      refine hK.out _ _ (hS0 _ (Mod.alloc hx0 _)) (fun hH => ?_)
      clear hK K hH
      try simp only [Act.put, List.setIfInBounds_toArray, List.set_cons_zero, List.set_cons_succ]
      have hx51 : Ext wr (wr.alloc (.cells #[] 5)) := Mod.alloc hx0 _
      have pe : Own (wr.alloc (.cells #[] 5)) 5 (.slice (some ⟨wr.heap.size, 0, none⟩) 0 0) [] := Own.empty wr 5
      have fC : Fresh wr.heap.size (.slice (some ⟨wr.heap.size, 0, none⟩) 0 0) := fun k q1 => by have q3 : wr.heap.size = k := Option.some.inj q1; omega
      generalize hgz : wr.alloc (.cells #[] 5) = w51 at *
      clear hgz
      obtain ⟨szC, hszC⟩ : ∃ s, s = wr.heap.size := ⟨_, rfl⟩
      rw [← hszC] at pe fC ⊢
      rw [hszC] at fC
      replace fC : Fresh wr.heap.size (.slice (some ⟨szC, 0, none⟩) 0 0) := by rw [hszC]; exact fC
      clear hszC
      refine wpAnyH_ready (rs := [3]) (by kernel_rfl) (by simp) ?_
      refine AllReadyH.cons rfl (fun K hK => ?_) (AllReadyH.nil)
      rw [hy1.out, hy2.out]
      go_simp
      refine hK.out _ _ (hS0 _ (Mod.alloc hx51 _)) (fun hH => ?_)
      clear hK K hH
      try simp only [Act.put, List.setIfInBounds_toArray, List.set_cons_zero, List.set_cons_succ]
      rw [← hy1.out, ← hy2.out]
      have hx52 : Ext wr (w51.alloc (.cells #[y1, y2] 24)) := Mod.alloc hx51 _
      have hrow := Rw.two 24 (h1.ext hx51) (h2.ext hx51)
      replace pe := pe.alloc (.cells #[y1, y2] 24)
      generalize hgz : w51.alloc (.cells #[y1, y2] 24) = w52 at *
      clear hgz
      refine wpAnyH_ready (rs := [4]) (by kernel_rfl) (by simp) ?_
      refine AllReadyH.cons rfl (fun K hK => ?_) (AllReadyH.nil)
      go_simp
      refine (tag_any t hrow (by rw [hflat.out, List.length_append]; omega)).mono ?_
      rintro e w53 ⟨va, rfl, pa1, pa2, pa3⟩
      rw [hflat.out, ← hba.out] at pa1
      have hxw53 : Ext wr w53 := ext_trans hx52 pa3
      have pec := pe.mod pa3 (fun _ _ h => h)
      have hd : ∀ k, own (.slice (some ⟨szC, 0, none⟩) 0 0) k → own va k → False := fun k q1 q2 => by have q3 : szC = k := Option.some.inj q1; have := pa2 k q2; have := pe.lt q1; omega
      go_wp2_with fail
      refine hK.out _ _ (hS0 _ hxw53) (fun hH => ?_)
      clear hK K hH
      try simp only [Act.put, List.setIfInBounds_toArray, List.set_cons_zero, List.set_cons_succ]
      have kS : (fun wz => ((convert 24 9 vx).run Try.prog wz = .ok (sv rx) wz ∧ (convert 24 9 vu).run Try.prog wz = .ok (sv rx) wz ∧ (convert 24 9 vy).run Try.prog wz = .ok (sv ry) wz ∧ (convert 24 9 vv).run Try.prog wz = .ok (sv ry) wz) ∧ (convert 24 9 va).run Try.prog wz = .ok (sv ba) wz) w53 := ⟨hS0 _ hxw53, run_conv (P := Try.prog) Try.underlying24 Try.underlying5 Try.underlying9 pa1.sl⟩
      refine wpAnyH_mono (S' := fun wz => ((convert 24 9 vx).run Try.prog wz = .ok (sv rx) wz ∧ (convert 24 9 vu).run Try.prog wz = .ok (sv rx) wz ∧ (convert 24 9 vy).run Try.prog wz = .ok (sv ry) wz ∧ (convert 24 9 vv).run Try.prog wz = .ok (sv ry) wz) ∧ (convert 24 9 va).run Try.prog wz = .ok (sv ba) wz) (fun _ h => h.1) _ _ _ _ ?_
      (refine wpAnyH_take (i := 5) (oi := ⟨_, _, _, _, _, _⟩) (v := ?tv67) rfl (by kernel_rfl) (by kernel_rfl) (by kernel_rfl) (fun _ _ _ h => h) (Or.inl ⟨by rfl, ?hy67⟩) (by assumption) ?rs67; (case hy67 => (intro wx hSw; (try dsimp only at hSw); go_simp; try with_reducible rfl)); try simp only [Act.put, List.setIfInBounds_toArray, List.set_cons_zero, List.set_cons_succ])
      clear pa2 pa3 kS
      refine wpAnyH_ready (rs := [9]) (by kernel_rfl) (by simp) ?_
      refine AllReadyH.cons rfl (fun K hK => ?_) (AllReadyH.nil)
      rw [if_pos (by rfl)]
      refine op_app tyB pec (h1.ext hxw53) (bv_one _) (.tmp 44) (.tmp 45) 46 rfl rfl rfl rfl hn1.out ?_
      intro vd wd qa1 qa2 qa3
      rw [List.nil_append] at qa1
      have hxd : Ext wr wd := ext_app0 hxw53 fC qa2
      have fd := qa3.fresh fC (hxw53).size
      obtain ⟨pb1, hd1⟩ := app_sep pa1 hd qa2 qa3
      refine hK.out _ _ ⟨hS0 _ hxd, run_conv (P := Try.prog) Try.underlying24 Try.underlying5 Try.underlying9 pb1.sl⟩ (fun hH => ?_)
      clear hK K hH qa2 qa3 pa1 hd
      try simp only [Act.put, List.setIfInBounds_toArray, List.set_cons_zero, List.set_cons_succ]
      refine wpAnyH_ready (rs := [11]) (by kernel_rfl) (by simp) ?_
      refine AllReadyH.cons rfl (fun K hK => ?_) (AllReadyH.nil)
      rw [if_pos (by rfl)]
      refine op_app tyB qa1 (h2.ext hxd) (bv_one _) (.tmp 46) (.tmp 47) 48 rfl rfl rfl rfl hn2.out ?_
      intro ve we qb1 qb2 qb3
      rw [← List.map_append] at qb1
      have hxe : Ext wr we := ext_app0 hxd fd qb2
      obtain ⟨pc1, hd2⟩ := app_sep pb1 hd1 qb2 qb3
      refine hK.out _ _ ⟨hS0 _ hxe, run_conv (P := Try.prog) Try.underlying24 Try.underlying5 Try.underlying9 pc1.sl⟩ (fun hH => ?_)
      clear hK K hH qb2 qb3 pb1 hd1 hd2 qa1
      try simp only [Act.put, List.setIfInBounds_toArray, List.set_cons_zero, List.set_cons_succ]
      refine wpAnyH_ready (rs := [12]) (by kernel_rfl) (by simp) ?_
      refine AllReadyH.cons rfl (fun K hK => ?_) (AllReadyH.nil)
      go_simp
      refine (rtag_any t qb1.sl (by rw [List.length_append]; omega)).mono ?_
      rintro e wf ⟨vf, rfl, qf1, qf2, qf3⟩
      rw [← hba.out] at qf1
      have hxf : Ext wr wf := ext_trans hxe qf3
      have pf1 := pc1.mod qf3 (fun _ _ h => h)
      go_wp2_with fail
      refine hK.out _ _ ⟨hS0 _ hxf, run_conv (P := Try.prog) Try.underlying24 Try.underlying5 Try.underlying9 pf1.sl⟩ (fun hH => ?_)
      clear hK K hH pc1
      try simp only [Act.put, List.setIfInBounds_toArray, List.set_cons_zero, List.set_cons_succ]
      have kS2 : (fun wz => (((convert 24 9 vx).run Try.prog wz = .ok (sv rx) wz ∧ (convert 24 9 vu).run Try.prog wz = .ok (sv rx) wz ∧ (convert 24 9 vy).run Try.prog wz = .ok (sv ry) wz ∧ (convert 24 9 vv).run Try.prog wz = .ok (sv ry) wz) ∧ (convert 24 9 va).run Try.prog wz = .ok (sv ba) wz) ∧ (convert 24 9 vf).run Try.prog wz = .ok (sv ba) wz) wf := ⟨⟨hS0 _ hxf, run_conv (P := Try.prog) Try.underlying24 Try.underlying5 Try.underlying9 pf1.sl⟩, run_conv (P := Try.prog) Try.underlying24 Try.underlying5 Try.underlying9 qf1.sl⟩
      refine wpAnyH_mono (S' := fun wz => (((convert 24 9 vx).run Try.prog wz = .ok (sv rx) wz ∧ (convert 24 9 vu).run Try.prog wz = .ok (sv rx) wz ∧ (convert 24 9 vy).run Try.prog wz = .ok (sv ry) wz ∧ (convert 24 9 vv).run Try.prog wz = .ok (sv ry) wz) ∧ (convert 24 9 va).run Try.prog wz = .ok (sv ba) wz) ∧ (convert 24 9 vf).run Try.prog wz = .ok (sv ba) wz) (fun _ h => h.1) _ _ _ _ ?_
      replace qf1 := Lib.hid qf1
      replace pf1 := Lib.hid pf1
      replace hxf := Lib.hid hxf
      clear qf2 qf3 qb1 hxe fd hxd
      (refine wpAnyH_take (i := 13) (oi := ⟨_, _, _, _, _, _⟩) (v := ?tv68) rfl (by kernel_rfl) (by kernel_rfl) (by kernel_rfl) (fun _ _ _ h => h) (Or.inl ⟨by rfl, ?hy68⟩) (by assumption) ?rs68; (case hy68 => (intro wx hSw; (try dsimp only at hSw); go_simp; try with_reducible rfl)); try simp only [Act.put, List.setIfInBounds_toArray, List.set_cons_zero, List.set_cons_succ])
      (refine wpAnyH_take (i := 14) (oi := ⟨_, _, _, _, _, _⟩) (v := ?tv69) rfl (by kernel_rfl) (by kernel_rfl) (by kernel_rfl) (fun _ _ _ h => h) (Or.inl ⟨by rfl, ?hy69⟩) (by assumption) ?rs69; (case hy69 => (intro wx hSw; (try dsimp only at hSw); go_simp; try with_reducible rfl)); try simp only [Act.put, List.setIfInBounds_toArray, List.set_cons_zero, List.set_cons_succ])
      (refine wpAnyH_take (i := 15) (oi := ⟨_, _, _, _, _, _⟩) (v := ?tv70) rfl (by kernel_rfl) (by kernel_rfl) (by kernel_rfl) (fun _ _ _ h => h) (Or.inl ⟨by rfl, ?hy70⟩) (by assumption) ?rs70; (case hy70 => (intro wx hSw; (try dsimp only at hSw); go_simp; try with_reducible rfl)); try simp only [Act.put, List.setIfInBounds_toArray, List.set_cons_zero, List.set_cons_succ])
      (refine wpAnyH_take (i := 16) (oi := ⟨_, _, _, _, _, _⟩) (v := ?tv71) rfl (by kernel_rfl) (by kernel_rfl) (by kernel_rfl) (fun _ _ _ h => h) (Or.inl ⟨by rfl, ?hy71⟩) (by assumption) ?rs71; (case hy71 => (intro wx hSw; (try dsimp only at hSw); go_simp; try with_reducible rfl)); try simp only [Act.put, List.setIfInBounds_toArray, List.set_cons_zero, List.set_cons_succ])
      (refine wpAnyH_take (i := 17) (oi := ⟨_, _, _, _, _, _⟩) (v := ?tv72) rfl (by kernel_rfl) (by kernel_rfl) (by kernel_rfl) (fun _ _ _ h => h) (Or.inl ⟨by rfl, ?hy72⟩) (by assumption) ?rs72; (case hy72 => (intro wx hSw; (try dsimp only at hSw); go_simp; try with_reducible rfl)); try simp only [Act.put, List.setIfInBounds_toArray, List.set_cons_zero, List.set_cons_succ])
      (refine wpAnyH_take (i := 18) (oi := ⟨_, _, _, _, _, _⟩) (v := ?tv73) rfl (by kernel_rfl) (by kernel_rfl) (by kernel_rfl) (fun _ _ _ h => h) (Or.inl ⟨by rfl, ?hy73⟩) (by assumption) ?rs73; (case hy73 => (intro wx hSw; (try dsimp only at hSw); go_simp; try with_reducible rfl)); try simp only [Act.put, List.setIfInBounds_toArray, List.set_cons_zero, List.set_cons_succ])
      (refine wpAnyH_take (i := 19) (oi := ⟨_, _, _, _, _, _⟩) (v := ?tv74) rfl (by kernel_rfl) (by kernel_rfl) (by kernel_rfl) (fun _ _ _ h => h) (Or.inl ⟨by rfl, ?hy74⟩) (by assumption) ?rs74; (case hy74 => (intro wx hSw; (try dsimp only at hSw); go_simp; try with_reducible rfl)); try simp only [Act.put, List.setIfInBounds_toArray, List.set_cons_zero, List.set_cons_succ])
      (refine wpAnyH_take (i := 20) (oi := ⟨_, _, _, _, _, _⟩) (v := ?tv75) rfl (by kernel_rfl) (by kernel_rfl) (by kernel_rfl) (fun _ _ _ h => h) (Or.inl ⟨by rfl, ?hy75⟩) (by assumption) ?rs75; (case hy75 => (intro wx hSw; (try dsimp only at hSw); go_simp; try with_reducible rfl)); try simp only [Act.put, List.setIfInBounds_toArray, List.set_cons_zero, List.set_cons_succ])
      (refine wpAnyH_take (i := 21) (oi := ⟨_, _, _, _, _, _⟩) (v := ?tv76) rfl (by kernel_rfl) (by kernel_rfl) (by kernel_rfl) (fun _ _ _ h => h) (Or.inl ⟨by rfl, ?hy76⟩) (by assumption) ?rs76; (case hy76 => (intro wx hSw; (try dsimp only at hSw); go_simp; try with_reducible rfl)); try simp only [Act.put, List.setIfInBounds_toArray, List.set_cons_zero, List.set_cons_succ])
      (refine wpAnyH_take (i := 22) (oi := ⟨_, _, _, _, _, _⟩) (v := ?tv77) rfl (by kernel_rfl) (by kernel_rfl) (by kernel_rfl) (fun _ _ _ h => h) (Or.inl ⟨by rfl, ?hy77⟩) (by assumption) ?rs77; (case hy77 => (intro wx hSw; (try dsimp only at hSw); go_simp; try with_reducible rfl)); try simp only [Act.put, List.setIfInBounds_toArray, List.set_cons_zero, List.set_cons_succ])
      (refine wpAnyH_take (i := 23) (oi := ⟨_, _, _, _, _, _⟩) (v := ?tv78) rfl (by kernel_rfl) (by kernel_rfl) (by kernel_rfl) (fun _ _ _ h => h) (Or.inl ⟨by rfl, ?hy78⟩) (by assumption) ?rs78; (case hy78 => (intro wx hSw; (try dsimp only at hSw); go_simp; try with_reducible rfl)); try simp only [Act.put, List.setIfInBounds_toArray, List.set_cons_zero, List.set_cons_succ])
      (refine wpAnyH_take (i := 24) (oi := ⟨_, _, _, _, _, _⟩) (v := ?tv79) rfl (by kernel_rfl) (by kernel_rfl) (by kernel_rfl) (fun _ _ _ h => h) (Or.inl ⟨by rfl, ?hy79⟩) (by assumption) ?rs79; (case hy79 => (intro wx hSw; (try dsimp only at hSw); go_simp; try with_reducible rfl)); try simp only [Act.put, List.setIfInBounds_toArray, List.set_cons_zero, List.set_cons_succ])
      (refine wpAnyH_take (i := 25) (oi := ⟨_, _, _, _, _, _⟩) (v := ?tv80) rfl (by kernel_rfl) (by kernel_rfl) (by kernel_rfl) (fun _ _ _ h => h) (Or.inl ⟨by rfl, ?hy80⟩) (by assumption) ?rs80; (case hy80 => (intro wx hSw; (try dsimp only at hSw); go_simp; try with_reducible rfl)); try simp only [Act.put, List.setIfInBounds_toArray, List.set_cons_zero, List.set_cons_succ])
      (refine wpAnyH_take (i := 26) (oi := ⟨_, _, _, _, _, _⟩) (v := ?tv81) rfl (by kernel_rfl) (by kernel_rfl) (by kernel_rfl) (fun _ _ _ h => h) (Or.inl ⟨by rfl, ?hy81⟩) (by assumption) ?rs81; (case hy81 => (intro wx hSw; (try dsimp only at hSw); go_simp; try with_reducible rfl)); try simp only [Act.put, List.setIfInBounds_toArray, List.set_cons_zero, List.set_cons_succ])
      (refine wpAnyH_take (i := 27) (oi := ⟨_, _, _, _, _, _⟩) (v := ?tv82) rfl (by kernel_rfl) (by kernel_rfl) (by kernel_rfl) (fun _ _ _ h => h) (Or.inl ⟨by rfl, ?hy82⟩) (by assumption) ?rs82; (case hy82 => (intro wx hSw; (try dsimp only at hSw); go_simp; try with_reducible rfl)); try simp only [Act.put, List.setIfInBounds_toArray, List.set_cons_zero, List.set_cons_succ])
      (refine wpAnyH_take (i := 28) (oi := ⟨_, _, _, _, _, _⟩) (v := ?tv83) rfl (by kernel_rfl) (by kernel_rfl) (by kernel_rfl) (fun _ _ _ h => h) (Or.inl ⟨by rfl, ?hy83⟩) (by assumption) ?rs83; (case hy83 => (intro wx hSw; (try dsimp only at hSw); go_simp; try with_reducible rfl)); try simp only [Act.put, List.setIfInBounds_toArray, List.set_cons_zero, List.set_cons_succ])
      (refine wpAnyH_take (i := 29) (oi := ⟨_, _, _, _, _, _⟩) (v := ?tv84) rfl (by kernel_rfl) (by kernel_rfl) (by kernel_rfl) (fun _ _ _ h => h) (Or.inl ⟨by rfl, ?hy84⟩) (by assumption) ?rs84; (case hy84 => (intro wx hSw; (try dsimp only at hSw); go_simp; try with_reducible rfl)); try simp only [Act.put, List.setIfInBounds_toArray, List.set_cons_zero, List.set_cons_succ])
      (refine wpAnyH_take (i := 30) (oi := ⟨_, _, _, _, _, _⟩) (v := ?tv85) rfl (by kernel_rfl) (by kernel_rfl) (by kernel_rfl) (fun _ _ _ h => h) (Or.inl ⟨by rfl, ?hy85⟩) (by assumption) ?rs85; (case hy85 => (intro wx hSw; (try dsimp only at hSw); go_simp; try with_reducible rfl)); try simp only [Act.put, List.setIfInBounds_toArray, List.set_cons_zero, List.set_cons_succ])
      (refine wpAnyH_take (i := 31) (oi := ⟨_, _, _, _, _, _⟩) (v := ?tv86) rfl (by kernel_rfl) (by kernel_rfl) (by kernel_rfl) (fun _ _ _ h => h) (Or.inl ⟨by rfl, ?hy86⟩) (by assumption) ?rs86; (case hy86 => (intro wx hSw; (try dsimp only at hSw); go_simp; try with_reducible rfl)); try simp only [Act.put, List.setIfInBounds_toArray, List.set_cons_zero, List.set_cons_succ])
      (refine wpAnyH_take (i := 32) (oi := ⟨_, _, _, _, _, _⟩) (v := ?tv87) rfl (by kernel_rfl) (by kernel_rfl) (by kernel_rfl) (fun _ _ _ h => h) (Or.inl ⟨by rfl, ?hy87⟩) (by assumption) ?rs87; (case hy87 => (intro wx hSw; (try dsimp only at hSw); go_simp; try with_reducible rfl)); try simp only [Act.put, List.setIfInBounds_toArray, List.set_cons_zero, List.set_cons_succ])
      (refine wpAnyH_take (i := 33) (oi := ⟨_, _, _, _, _, _⟩) (v := ?tv88) rfl (by kernel_rfl) (by kernel_rfl) (by kernel_rfl) (fun _ _ _ h => h) (Or.inl ⟨by rfl, ?hy88⟩) (by assumption) ?rs88; (case hy88 => (intro wx hSw; (try dsimp only at hSw); go_simp; try with_reducible rfl)); try simp only [Act.put, List.setIfInBounds_toArray, List.set_cons_zero, List.set_cons_succ])
      (refine wpAnyH_take (i := 34) (oi := ⟨_, _, _, _, _, _⟩) (v := ?tv89) rfl (by kernel_rfl) (by kernel_rfl) (by kernel_rfl) (fun _ _ _ h => h) (Or.inl ⟨by rfl, ?hy89⟩) (by assumption) ?rs89; (case hy89 => (intro wx hSw; (try dsimp only at hSw); go_simp; try with_reducible rfl)); try simp only [Act.put, List.setIfInBounds_toArray, List.set_cons_zero, List.set_cons_succ])
      (refine wpAnyH_take (i := 35) (oi := ⟨_, _, _, _, _, _⟩) (v := ?tv90) rfl (by kernel_rfl) (by kernel_rfl) (by kernel_rfl) (fun _ _ _ h => h) (Or.inl ⟨by rfl, ?hy90⟩) (by assumption) ?rs90; (case hy90 => (intro wx hSw; (try dsimp only at hSw); go_simp; try with_reducible rfl)); try simp only [Act.put, List.setIfInBounds_toArray, List.set_cons_zero, List.set_cons_succ])
      (refine wpAnyH_take (i := 36) (oi := ⟨_, _, _, _, _, _⟩) (v := ?tv91) rfl (by kernel_rfl) (by kernel_rfl) (by kernel_rfl) (fun _ _ _ h => h) (Or.inl ⟨by rfl, ?hy91⟩) (by assumption) ?rs91; (case hy91 => (intro wx hSw; (try dsimp only at hSw); go_simp; try with_reducible rfl)); try simp only [Act.put, List.setIfInBounds_toArray, List.set_cons_zero, List.set_cons_succ])
      (refine wpAnyH_take (i := 37) (oi := ⟨_, _, _, _, _, _⟩) (v := ?tv92) rfl (by kernel_rfl) (by kernel_rfl) (by kernel_rfl) (fun _ _ _ h => h) (Or.inl ⟨by rfl, ?hy92⟩) (by assumption) ?rs92; (case hy92 => (intro wx hSw; (try dsimp only at hSw); go_simp; try with_reducible rfl)); try simp only [Act.put, List.setIfInBounds_toArray, List.set_cons_zero, List.set_cons_succ])
      (refine wpAnyH_take (i := 38) (oi := ⟨_, _, _, _, _, _⟩) (v := ?tv93) rfl (by kernel_rfl) (by kernel_rfl) (by kernel_rfl) (fun _ _ _ h => h) (Or.inl ⟨by rfl, ?hy93⟩) (by assumption) ?rs93; (case hy93 => (intro wx hSw; (try dsimp only at hSw); go_simp; try with_reducible rfl)); try simp only [Act.put, List.setIfInBounds_toArray, List.set_cons_zero, List.set_cons_succ])
      (refine wpAnyH_take (i := 39) (oi := ⟨_, _, _, _, _, _⟩) (v := ?tv94) rfl (by kernel_rfl) (by kernel_rfl) (by kernel_rfl) (fun _ _ _ h => h) (Or.inl ⟨by rfl, ?hy94⟩) (by assumption) ?rs94; (case hy94 => (intro wx hSw; (try dsimp only at hSw); go_simp; try with_reducible rfl)); try simp only [Act.put, List.setIfInBounds_toArray, List.set_cons_zero, List.set_cons_succ])
      refine wpAnyH_ready (rs := [40]) (by kernel_rfl) (by simp) ?_
      refine AllReadyH.cons rfl (fun K hK => ?_) (AllReadyH.nil)
      go_simp
      refine known24_any.mono ?_
      rintro e wg ⟨rfl, hxg⟩
      have hxz : Ext wr wg := ext_trans hxf.out hxg
      have kS3 : (fun wz => (((convert 24 9 vx).run Try.prog wz = .ok (sv rx) wz ∧ (convert 24 9 vu).run Try.prog wz = .ok (sv rx) wz ∧ (convert 24 9 vy).run Try.prog wz = .ok (sv ry) wz ∧ (convert 24 9 vv).run Try.prog wz = .ok (sv ry) wz) ∧ (convert 24 9 va).run Try.prog wz = .ok (sv ba) wz) ∧ (convert 24 9 vf).run Try.prog wz = .ok (sv ba) wz) wg := ⟨⟨hS0 _ hxz, run_conv (P := Try.prog) Try.underlying24 Try.underlying5 Try.underlying9 (pf1.out.sl.ext hxg)⟩, run_conv (P := Try.prog) Try.underlying24 Try.underlying5 Try.underlying9 (qf1.out.sl.ext hxg)⟩
      go_wp2_with fail
      refine hK.out _ _ kS3 (fun hH => ?_)
      clear hK K hH
      try simp only [Act.put, List.setIfInBounds_toArray, List.set_cons_zero, List.set_cons_succ]
      (refine wpAnyH_take (i := 41) (oi := ⟨_, _, _, _, _, _⟩) (v := ?tv95) rfl (by kernel_rfl) (by kernel_rfl) (by kernel_rfl) (fun _ _ _ h => h) (Or.inl ⟨by rfl, ?hy95⟩) (by assumption) ?rs95; (case hy95 => (intro wx hSw; (try dsimp only at hSw); go_simp; try with_reducible rfl)); try simp only [Act.put, List.setIfInBounds_toArray, List.set_cons_zero, List.set_cons_succ])
      (refine wpAnyH_take (i := 42) (oi := ⟨_, _, _, _, _, _⟩) (v := ?tv96) rfl (by kernel_rfl) (by kernel_rfl) (by kernel_rfl) (fun _ _ _ h => h) (Or.inl ⟨by rfl, ?hy96⟩) (by assumption) ?rs96; (case hy96 => (intro wx hSw; (try dsimp only at hSw); go_simp; try with_reducible rfl)); try simp only [Act.put, List.setIfInBounds_toArray, List.set_cons_zero, List.set_cons_succ])
      refine wpAnyH_done (by kernel_rfl) ?_ _
      go_wp2_with fail
      go_meet
      exact ⟨rfl, ext_trans hxd0.out hxz⟩
  case rest =>
    obtain ⟨rfl, hxe⟩ := hcut
    go_wp2_with fail
    go_ret
    exact ⟨rfl, ext_trans hx2 hxe⟩
end Go.Proofs.Ytcffefadagfdcaa
