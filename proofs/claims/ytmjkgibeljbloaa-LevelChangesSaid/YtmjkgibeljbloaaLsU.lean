/- level: the law Changes. -/
import Derived.Test.YtmjkgibeljbloaaLsQ
import Derived.Test.YtmjkgibeljbloaaLsT
import Derived.Test.YtmjkgibeljbloaaLvS
import Derived.Test.YtmjkgibeljbloaaLvK
namespace Go.Proofs.Ytmjkgibeljbloaa
open Go.RowKit
set_option maxRecDepth 100000

set_option maxHeartbeats 64000000 in
theorem lchanges_any {w : World} {S S1 S2 : Nat → Prop} {v u va : Value} {n : Int} {L B : List Fl} {G : List Int} (h : Fs w S v L) (hf : MFits L ∧ ∀ c ∈ L, inI c.id) (hg0 : Is w S1 u G) (hgd : ∀ x ∈ G, inI x) (hb0 : Fs w S2 va B) (hfb : MFits B ∧ ∀ c ∈ B, inI c.id) :
    Calls Try.prog 6 #[.agg #[.int .i64 n, v], u, va] w fun e w' => e = .returned (.bool true) ∧ Ext w w' := by
  have hshape := h.shape
  obtain ⟨A, c, rfl⟩ := hshape
  obtain ⟨Ab, cb, rfl⟩ := hb0.shape
  obtain ⟨Ag, cg, rfl, -⟩ := Sl.open_ hg0
  have B0 : Blk (w.alloc (.cells #[.int .i64 n, .slice A L.length c] 24)) w.heap.size 24 #[.int .i64 n, .slice A L.length c] := Blk.new w _ _
  have hB : Ext w (w.alloc (.cells #[.int .i64 n, .slice A L.length c] 24)) := (Mod.refl _ w).alloc _
  obtain ⟨w0, hw0⟩ : ∃ w0, w0 = w.alloc (.cells #[.int .i64 n, .slice A L.length c] 24) := ⟨_, rfl⟩
  rw [← hw0] at B0 hB
  obtain ⟨gv, hgv⟩ : ∃ gv, gv = w.heap.size := ⟨_, rfl⟩
  rw [← hgv] at B0
  replace hw0 := Lib.hid hw0
  replace hgv := Lib.hid hgv
  have h0 := h.ext hB
  have hg := hg0.ext hB
  have hb := hb0.ext hB
  have hhv := heavy11_any h0 hf.1
  have hhb := fun {wx : World} (x : Ext w0 wx) => heavy11_any (hb.ext x) hfb.1
  have hkn := known11_any
  have hbb : ∀ {wx : World}, Ext w0 wx → wx.cell? ⟨gv, 0, none⟩ = some (.int .i64 n) ∧ wx.cell? ⟨gv, 1, none⟩ = some (.slice A L.length c) := by
    have b0 : w0.cell? ⟨gv, 0, none⟩ = some (.int .i64 n) := B0.cell 0
    have b1 : w0.cell? ⟨gv, 1, none⟩ = some (.slice A L.length c) := B0.cell 1
    intro wx x
    exact ⟨ext_cell x b0, ext_cell x b1⟩
  obtain ⟨b0, b1⟩ := hbb (Mod.refl _ w0)
  go_enter Try.func6, Try.ntmps6
  go_upto_region 1 with fail
  rw [← hw0.out, ← hgv.out]
  clear hw0 hgv
  go_wp2_with fail
  refine hhv.mono ?_
  rintro e w1 ⟨hq, rfl, hsL, x1⟩
  cases hq
  case true =>
    go_wp2_with fail
    go_ret
    exact ⟨rfl, ext_trans hB x1⟩
  go_wp2_with fail
  refine (hhb x1).mono ?_
  rintro e w2 ⟨hq, rfl, hsB, x2⟩
  have y2 := ext_trans x1 x2
  cases hq
  case true =>
    go_wp2_with fail
    go_ret
    exact ⟨rfl, ext_trans hB y2⟩
  by_cases hG : (50 : Int) < (G.length : Int)
  case pos =>
    have q1 : decide ((50 : Int) < (G.length : Int)) = true := dtrue hG
    have q1' : decide (50 < G.length) = true := dtrue (by omega)
    go_wp2_with fail
    go_ret
    exact ⟨rfl, ext_trans hB y2⟩
  have q1 : decide ((50 : Int) < (G.length : Int)) = false := dfalse hG
  have q1' : decide (50 < G.length) = false := dfalse (by omega)
  obtain ⟨sL1, sL2⟩ := hsL (by simp)
  obtain ⟨sB1, sB2⟩ := hsB (by simp)
  have hGl : G.length ≤ 1000000 := by omega
  have hLBl : L.length + B.length ≤ 1000000 := by omega
  have hsmm : MFits (L ++ B) := ⟨fun x hx => (List.mem_append.1 hx).elim (hf.1.1 x) (hfb.1.1 x), by rw [List.length_append]; omega⟩
  obtain ⟨N, T, c9, hc9, hT9, hans⟩ := ch_ans n L G B
  have hfT : MFits T := by
    rcases hT9 with q | rfl
    · exact ch_fits (G := G) hsmm q
    · exact ⟨fun x hx => (by cases hx), by simp⟩
  have hone : ∀ z ∈ G.map iv, z.oneCell' = true := fun z hz => by obtain ⟨x, _, rfl⟩ := List.mem_map.1 hz; rfl
  have hnI : (([] : List Value).length + (G.map iv).length) * 8 ≤ 140737488355328 := by simp only [List.length_nil, List.length_map]; omega
  have hnF : (([] : List Fl).length + B.length) * 56 ≤ 140737488355328 := by simp only [List.length_nil]; omega
  have hbk : ∀ {wx : World}, Ext w2 wx → wx.cell? ⟨gv, 0, none⟩ = some (.int .i64 n) ∧ wx.cell? ⟨gv, 1, none⟩ = some (.slice A L.length c) := fun x => hbb (ext_trans y2 x)
  have r0 : Ext w2 w2.drew := (Mod.refl _ w2).drew
  clear b0 b1 hhv sL1 sB1 hsL hsB hT9 hbb
  go_upto_region 3 with fail
  go_cut [7, 8] (fun s7 s8 wx => ∃ (p : Nat) (v1 : Value), s7 = .pointer (some ⟨p, 0, none⟩) ∧ s8 = .int .i64 c9 ∧ Blk wx p 24 #[.int .i64 N, v1] ∧ OwnF wx v1 T ∧ w2.heap.size ≤ p ∧ Ext w2 wx)
  case first =>
    refine wp_region_held_drew (S := fun wx => wx.cell? ⟨gv, 0, none⟩ = some (.int .i64 n) ∧ wx.cell? ⟨gv, 1, none⟩ = some (.slice A L.length c)) (by kernel_rfl) (hbk r0) (fun hH => ?_)
    generalize w2.drew = wD at *
    (refine wpAnyH_take (i := 0) (oi := ⟨_, _, _, _, _, _⟩) (v := ?tv901) rfl (by kernel_rfl) (by kernel_rfl) (by kernel_rfl) (fun _ _ _ h => h) (Or.inl ⟨by kernel_rfl, ?hy901⟩) hH ?rs901; (case hy901 => (intro wx hSw; (try dsimp only at hSw); go_simp; try with_reducible rfl)); try simp only [Act.put, List.setIfInBounds_toArray, List.set_cons_zero, List.set_cons_succ]; try simp only [List.getElem_toArray, List.getElem_cons_succ, List.getElem_cons_zero])
    (refine wpAnyH_take (i := 2) (oi := ⟨_, _, _, _, _, _⟩) (v := ?tv902) rfl (by kernel_rfl) (by kernel_rfl) (by kernel_rfl) (fun _ _ _ h => h) (Or.inl ⟨by kernel_rfl, ?hy902⟩) hH ?rs902; (case hy902 => (intro wx hSw; (try dsimp only at hSw); go_simp; try with_reducible rfl)); try simp only [Act.put, List.setIfInBounds_toArray, List.set_cons_zero, List.set_cons_succ]; try simp only [List.getElem_toArray, List.getElem_cons_succ, List.getElem_cons_zero])
    (refine wpAnyH_take (i := 5) (oi := ⟨_, _, _, _, _, _⟩) (v := ?tv903) rfl (by kernel_rfl) (by kernel_rfl) (by kernel_rfl) (fun _ _ _ h => h) (Or.inl ⟨by kernel_rfl, ?hy903⟩) hH ?rs903; (case hy903 => (intro wx hSw; (try dsimp only at hSw); go_simp; try with_reducible rfl)); try simp only [Act.put, List.setIfInBounds_toArray, List.set_cons_zero, List.set_cons_succ]; try simp only [List.getElem_toArray, List.getElem_cons_succ, List.getElem_cons_zero])
    refine wpAnyH_ready (rs := [1, 4, 11]) (by kernel_rfl) (by simp) ?_
    refine AllReadyH.cons rfl (fun K hK => ?g1) (AllReadyH.cons rfl (fun K hK => ?g2) (AllReadyH.cons rfl (fun K hK => ?g3) AllReadyH.nil))
    case g1 =>
      have oI : Own (wD.alloc (.cells #[] 3)) 3 (.slice (some ⟨wD.heap.size, 0, none⟩) 0 0) [] := Own.empty wD _
      have bI : Blk (wD.alloc (.cells #[] 3)) wD.heap.size 3 #[] := Blk.new wD 3 #[]
      have fI : Fresh w2.heap.size (.slice (some ⟨wD.heap.size, 0, none⟩) 0 0) := fun k hk => by (have h9 : wD.heap.size = k := Option.some.inj hk); have h8 := r0.size; omega
      have q4 : Ext w2 (wD.alloc (.cells #[] 3)) := r0.alloc _
      go_simp
      (go_wp2_with fail; refine hK.out _ _ (hbk q4) (fun hH => ?_); clear hK K; try simp only [Act.put, List.setIfInBounds_toArray, List.set_cons_zero, List.set_cons_succ]; try simp only [List.getElem_toArray, List.getElem_cons_succ, List.getElem_cons_zero])
      generalize (wD.alloc (.cells #[] 3)) = wz5 at *
      generalize wD.heap.size = hI at *
      refine wpAnyH_ready (rs := [3, 4, 11]) (by kernel_rfl) (by simp) ?_
      refine AllReadyH.cons rfl (fun K hK => ?g6) (AllReadyH.cons rfl (fun K hK => ?g7) (AllReadyH.cons rfl (fun K hK => ?g8) AllReadyH.nil))
      case g6 =>
        refine step_app 27 tyI oI (hg.ext (ext_trans y2 q4)) hone hnI rfl rfl (.tmp 25) (.tmp 26) rfl rfl rfl ?_
        intro vI wz10 ka1 ka2 ka3
        rw [List.nil_append] at ka1
        have q9 := ext_app0 q4 fI ka2
        clear oI bI ka2 ka3
        have oI := ka1
        clear ka1
        (refine hK.out _ _ (hbk q9) (fun hH => ?_); clear hK K; try simp only [Act.put, List.setIfInBounds_toArray, List.set_cons_zero, List.set_cons_succ]; try simp only [List.getElem_toArray, List.getElem_cons_succ, List.getElem_cons_zero])
        refine wpAnyH_ready (rs := [4, 11]) (by kernel_rfl) (by simp) ?_
        refine AllReadyH.cons rfl (fun K hK => ?g11) (AllReadyH.cons rfl (fun K hK => ?g12) AllReadyH.nil)
        case g11 =>
          replace oI := Own.alloc oI (.cells #[] 48)
          have oF : OwnF (wz10.alloc (.cells #[] 48)) (.slice (some ⟨wz10.heap.size, 0, none⟩) 0 0) [] := OwnR.empty fic 5 wz10 48
          have bF : Blk (wz10.alloc (.cells #[] 48)) wz10.heap.size 48 #[] := Blk.new wz10 48 #[]
          have fF : Fresh w2.heap.size (.slice (some ⟨wz10.heap.size, 0, none⟩) 0 0) := fun k hk => by (have h9 : wz10.heap.size = k := Option.some.inj hk); have h8 := q9.size; omega
          have q13 : Ext w2 (wz10.alloc (.cells #[] 48)) := q9.alloc _
          go_simp
          (go_wp2_with fail; refine hK.out _ _ (hbk q13) (fun hH => ?_); clear hK K; try simp only [Act.put, List.setIfInBounds_toArray, List.set_cons_zero, List.set_cons_succ]; try simp only [List.getElem_toArray, List.getElem_cons_succ, List.getElem_cons_zero])
          generalize (wz10.alloc (.cells #[] 48)) = wz14 at *
          generalize wz10.heap.size = hF at *
          refine wpAnyH_ready (rs := [6, 11]) (by kernel_rfl) (by simp) ?_
          refine AllReadyH.cons rfl (fun K hK => ?g15) (AllReadyH.cons rfl (fun K hK => ?g16) AllReadyH.nil)
          case g15 =>
            refine step_appRs 30 tyF oF (hb.ext (ext_trans y2 q13)) (fic_all _) hnF rfl rfl (.tmp 28) (.tmp 29) rfl rfl rfl ?_
            intro vF wz18 ka1 ka2 ka3
            rw [List.nil_append] at ka1
            have q17 := ext_app0 q13 fF ka2
            replace oI := Own.mod oI ka2 (fun k hk e => Own.ne_blk oI bF (by decide) (by rw [show hF = k from Option.some.inj e]; exact hk))
            clear oF bF ka2 ka3
            have oF := ka1
            clear ka1
            (refine hK.out _ _ (hbk q17) (fun hH => ?_); clear hK K; try simp only [Act.put, List.setIfInBounds_toArray, List.set_cons_zero, List.set_cons_succ]; try simp only [List.getElem_toArray, List.getElem_cons_succ, List.getElem_cons_zero])
            refine wpAnyH_ready (rs := [7, 11]) (by kernel_rfl) (by simp) ?_
            refine AllReadyH.cons rfl (fun K hK => ?g19) (AllReadyH.cons rfl (fun K hK => ?g20) AllReadyH.nil)
            case g19 =>
              go_simp
              refine (change_any (nx := n) (h0.ext (ext_trans y2 q17)) hf.1 hfb.1 oI (OwnR.rc oF) hf.2 hfb.2 hgd hGl hsmm hLBl).mono ?_
              rintro e wz22 ⟨ha, xc⟩
              obtain ⟨v1, oV, rfl⟩ := hans e _ ha
              obtain ⟨A1, c1, rfl⟩ := OwnR.shape oV
              have q21 := ext_trans q17 xc
              clear ha xc oI oF
              (go_wp2_with fail; refine hK.out _ _ (hbk q21) (fun hH => ?_); clear hK K; try simp only [Act.put, List.setIfInBounds_toArray, List.set_cons_zero, List.set_cons_succ]; try simp only [List.getElem_toArray, List.getElem_cons_succ, List.getElem_cons_zero])
              (refine wpAnyH_take (i := 8) (oi := ⟨_, _, _, _, _, _⟩) (v := ?tv904) rfl (by kernel_rfl) (by kernel_rfl) (by kernel_rfl) (fun _ _ _ h => h) (Or.inl ⟨by kernel_rfl, ?hy904⟩) hH ?rs904; (case hy904 => (intro wx hSw; (try dsimp only at hSw); go_simp; try with_reducible rfl)); try simp only [Act.put, List.setIfInBounds_toArray, List.set_cons_zero, List.set_cons_succ]; try simp only [List.getElem_toArray, List.getElem_cons_succ, List.getElem_cons_zero])
              (refine wpAnyH_take (i := 9) (oi := ⟨_, _, _, _, _, _⟩) (v := ?tv905) rfl (by kernel_rfl) (by kernel_rfl) (by kernel_rfl) (fun _ _ _ h => h) (Or.inl ⟨by kernel_rfl, ?hy905⟩) hH ?rs905; (case hy905 => (intro wx hSw; (try dsimp only at hSw); go_simp; try with_reducible rfl)); try simp only [Act.put, List.setIfInBounds_toArray, List.set_cons_zero, List.set_cons_succ]; try simp only [List.getElem_toArray, List.getElem_cons_succ, List.getElem_cons_zero])
              (refine wpAnyH_take (i := 10) (oi := ⟨_, _, _, _, _, _⟩) (v := ?tv906) rfl (by kernel_rfl) (by kernel_rfl) (by kernel_rfl) (fun _ _ _ h => h) (Or.inl ⟨by kernel_rfl, ?hy906⟩) hH ?rs906; (case hy906 => (intro wx hSw; (try dsimp only at hSw); go_simp; try with_reducible rfl)); try simp only [Act.put, List.setIfInBounds_toArray, List.set_cons_zero, List.set_cons_succ]; try simp only [List.getElem_toArray, List.getElem_cons_succ, List.getElem_cons_zero])
              refine wpAnyH_ready (rs := [11]) (by kernel_rfl) (by simp) ?_
              refine AllReadyH.cons rfl (fun K hK => ?g23) AllReadyH.nil
              case g23 =>
                replace oV := OwnR.alloc oV (.cells #[.int .i64 0, .slice none 0 0] 24)
                have BP : Blk (wz22.alloc (.cells #[.int .i64 0, .slice none 0 0] 24)) wz22.heap.size 24 #[.int .i64 0, .slice none 0 0] := Blk.new wz22 24 #[.int .i64 0, .slice none 0 0]
                have hpp : w2.heap.size ≤ wz22.heap.size := q21.size
                have q24 : Ext w2 (wz22.alloc (.cells #[.int .i64 0, .slice none 0 0] 24)) := q21.alloc _
                go_simp
                (go_wp2_with fail; refine hK.out _ _ (hbk q24) (fun hH => ?_); clear hK K; try simp only [Act.put, List.setIfInBounds_toArray, List.set_cons_zero, List.set_cons_succ]; try simp only [List.getElem_toArray, List.getElem_cons_succ, List.getElem_cons_zero])
                generalize (wz22.alloc (.cells #[.int .i64 0, .slice none 0 0] 24)) = wz25 at *
                generalize wz22.heap.size = p at *
                have f8 := Blk.frozen BP 0
                have f9 := Blk.frozen BP 1
                have p8 : wz25.cell? ⟨p, 0, none⟩ = some (.int .i64 0) := BP.cell 0
                have p9 : wz25.cell? ⟨p, 1, none⟩ = some (.slice none 0 0) := BP.cell 1
                obtain ⟨v1, v2, v3⟩ := ver_put (nx := N) q24 hpp BP oV
                refine wpAnyH_ready (rs := [12]) (by kernel_rfl) (by simp) ?_
                refine AllReadyH.cons rfl (fun K hK => ?_) AllReadyH.nil
                go_simp
                (go_wp2_with fail; refine hK.out _ _ (hbk v3) (fun hH => ?_); clear hK K; try simp only [Act.put, List.setIfInBounds_toArray, List.set_cons_zero, List.set_cons_succ]; try simp only [List.getElem_toArray, List.getElem_cons_succ, List.getElem_cons_zero])
                (refine wpAnyH_take (i := 13) (oi := ⟨_, _, _, _, _, _⟩) (v := ?tv907) rfl (by kernel_rfl) (by kernel_rfl) (by kernel_rfl) (fun _ _ _ h => h) (Or.inl ⟨by kernel_rfl, ?hy907⟩) hH ?rs907; (case hy907 => (intro wx hSw; (try dsimp only at hSw); go_simp; try with_reducible rfl)); try simp only [Act.put, List.setIfInBounds_toArray, List.set_cons_zero, List.set_cons_succ]; try simp only [List.getElem_toArray, List.getElem_cons_succ, List.getElem_cons_zero])
                refine wpAnyH_done (by kernel_rfl) ?_ _
                go_wp2_with fail
                go_meet
                exact ⟨p, _, rfl, rfl, v1, v2, hpp, v3⟩
            case g20 =>
              replace oI := Own.alloc oI (.cells #[.int .i64 0, .slice none 0 0] 24)
              replace oF := OwnR.alloc oF (.cells #[.int .i64 0, .slice none 0 0] 24)
              have BP : Blk (wz18.alloc (.cells #[.int .i64 0, .slice none 0 0] 24)) wz18.heap.size 24 #[.int .i64 0, .slice none 0 0] := Blk.new wz18 24 #[.int .i64 0, .slice none 0 0]
              have hpp : w2.heap.size ≤ wz18.heap.size := q17.size
              have q26 : Ext w2 (wz18.alloc (.cells #[.int .i64 0, .slice none 0 0] 24)) := q17.alloc _
              go_simp
              (go_wp2_with fail; refine hK.out _ _ (hbk q26) (fun hH => ?_); clear hK K; try simp only [Act.put, List.setIfInBounds_toArray, List.set_cons_zero, List.set_cons_succ]; try simp only [List.getElem_toArray, List.getElem_cons_succ, List.getElem_cons_zero])
              generalize (wz18.alloc (.cells #[.int .i64 0, .slice none 0 0] 24)) = wz27 at *
              generalize wz18.heap.size = p at *
              refine wpAnyH_ready (rs := [7]) (by kernel_rfl) (by simp) ?_
              refine AllReadyH.cons rfl (fun K hK => ?g28) AllReadyH.nil
              case g28 =>
                go_simp
                refine (change_any (nx := n) (h0.ext (ext_trans y2 q26)) hf.1 hfb.1 oI (OwnR.rc oF) hf.2 hfb.2 hgd hGl hsmm hLBl).mono ?_
                rintro e wz30 ⟨ha, xc⟩
                obtain ⟨v1, oV, rfl⟩ := hans e _ ha
                obtain ⟨A1, c1, rfl⟩ := OwnR.shape oV
                have q29 := ext_trans q26 xc
                replace BP := BP.mod xc (fun h => h)
                clear ha xc oI oF
                (go_wp2_with fail; refine hK.out _ _ (hbk q29) (fun hH => ?_); clear hK K; try simp only [Act.put, List.setIfInBounds_toArray, List.set_cons_zero, List.set_cons_succ]; try simp only [List.getElem_toArray, List.getElem_cons_succ, List.getElem_cons_zero])
                (refine wpAnyH_take (i := 8) (oi := ⟨_, _, _, _, _, _⟩) (v := ?tv908) rfl (by kernel_rfl) (by kernel_rfl) (by kernel_rfl) (fun _ _ _ h => h) (Or.inl ⟨by kernel_rfl, ?hy908⟩) hH ?rs908; (case hy908 => (intro wx hSw; (try dsimp only at hSw); go_simp; try with_reducible rfl)); try simp only [Act.put, List.setIfInBounds_toArray, List.set_cons_zero, List.set_cons_succ]; try simp only [List.getElem_toArray, List.getElem_cons_succ, List.getElem_cons_zero])
                (refine wpAnyH_take (i := 9) (oi := ⟨_, _, _, _, _, _⟩) (v := ?tv909) rfl (by kernel_rfl) (by kernel_rfl) (by kernel_rfl) (fun _ _ _ h => h) (Or.inl ⟨by kernel_rfl, ?hy909⟩) hH ?rs909; (case hy909 => (intro wx hSw; (try dsimp only at hSw); go_simp; try with_reducible rfl)); try simp only [Act.put, List.setIfInBounds_toArray, List.set_cons_zero, List.set_cons_succ]; try simp only [List.getElem_toArray, List.getElem_cons_succ, List.getElem_cons_zero])
                (refine wpAnyH_take (i := 10) (oi := ⟨_, _, _, _, _, _⟩) (v := ?tv910) rfl (by kernel_rfl) (by kernel_rfl) (by kernel_rfl) (fun _ _ _ h => h) (Or.inl ⟨by kernel_rfl, ?hy910⟩) hH ?rs910; (case hy910 => (intro wx hSw; (try dsimp only at hSw); go_simp; try with_reducible rfl)); try simp only [Act.put, List.setIfInBounds_toArray, List.set_cons_zero, List.set_cons_succ]; try simp only [List.getElem_toArray, List.getElem_cons_succ, List.getElem_cons_zero])
                have f8 := Blk.frozen BP 0
                have f9 := Blk.frozen BP 1
                have p8 : wz30.cell? ⟨p, 0, none⟩ = some (.int .i64 0) := BP.cell 0
                have p9 : wz30.cell? ⟨p, 1, none⟩ = some (.slice none 0 0) := BP.cell 1
                obtain ⟨v1, v2, v3⟩ := ver_put (nx := N) q29 hpp BP oV
                refine wpAnyH_ready (rs := [12]) (by kernel_rfl) (by simp) ?_
                refine AllReadyH.cons rfl (fun K hK => ?_) AllReadyH.nil
                go_simp
                (go_wp2_with fail; refine hK.out _ _ (hbk v3) (fun hH => ?_); clear hK K; try simp only [Act.put, List.setIfInBounds_toArray, List.set_cons_zero, List.set_cons_succ]; try simp only [List.getElem_toArray, List.getElem_cons_succ, List.getElem_cons_zero])
                (refine wpAnyH_take (i := 13) (oi := ⟨_, _, _, _, _, _⟩) (v := ?tv911) rfl (by kernel_rfl) (by kernel_rfl) (by kernel_rfl) (fun _ _ _ h => h) (Or.inl ⟨by kernel_rfl, ?hy911⟩) hH ?rs911; (case hy911 => (intro wx hSw; (try dsimp only at hSw); go_simp; try with_reducible rfl)); try simp only [Act.put, List.setIfInBounds_toArray, List.set_cons_zero, List.set_cons_succ]; try simp only [List.getElem_toArray, List.getElem_cons_succ, List.getElem_cons_zero])
                refine wpAnyH_done (by kernel_rfl) ?_ _
                go_wp2_with fail
                go_meet
                exact ⟨p, _, rfl, rfl, v1, v2, hpp, v3⟩
          case g16 =>
            replace oI := Own.alloc oI (.cells #[.int .i64 0, .slice none 0 0] 24)
            replace oF := OwnR.alloc oF (.cells #[.int .i64 0, .slice none 0 0] 24)
            replace bF := bF.mod ((Mod.refl (fun _ => False) wz14).alloc (.cells #[.int .i64 0, .slice none 0 0] 24)) (fun h => h)
            have BP : Blk (wz14.alloc (.cells #[.int .i64 0, .slice none 0 0] 24)) wz14.heap.size 24 #[.int .i64 0, .slice none 0 0] := Blk.new wz14 24 #[.int .i64 0, .slice none 0 0]
            have hpp : w2.heap.size ≤ wz14.heap.size := q13.size
            have q31 : Ext w2 (wz14.alloc (.cells #[.int .i64 0, .slice none 0 0] 24)) := q13.alloc _
            go_simp
            (go_wp2_with fail; refine hK.out _ _ (hbk q31) (fun hH => ?_); clear hK K; try simp only [Act.put, List.setIfInBounds_toArray, List.set_cons_zero, List.set_cons_succ]; try simp only [List.getElem_toArray, List.getElem_cons_succ, List.getElem_cons_zero])
            generalize (wz14.alloc (.cells #[.int .i64 0, .slice none 0 0] 24)) = wz32 at *
            generalize wz14.heap.size = p at *
            refine wpAnyH_ready (rs := [6]) (by kernel_rfl) (by simp) ?_
            refine AllReadyH.cons rfl (fun K hK => ?g33) AllReadyH.nil
            case g33 =>
              refine step_appRs 30 tyF oF (hb.ext (ext_trans y2 q31)) (fic_all _) hnF rfl rfl (.tmp 28) (.tmp 29) rfl rfl rfl ?_
              intro vF wz35 ka1 ka2 ka3
              rw [List.nil_append] at ka1
              have q34 := ext_app0 q31 fF ka2
              replace oI := Own.mod oI ka2 (fun k hk e => Own.ne_blk oI bF (by decide) (by rw [show hF = k from Option.some.inj e]; exact hk))
              replace BP := BP.mod ka2 (fun h => ownR_ne_blk oF BP (by decide) h rfl)
              clear oF bF ka2 ka3
              have oF := ka1
              clear ka1
              (refine hK.out _ _ (hbk q34) (fun hH => ?_); clear hK K; try simp only [Act.put, List.setIfInBounds_toArray, List.set_cons_zero, List.set_cons_succ]; try simp only [List.getElem_toArray, List.getElem_cons_succ, List.getElem_cons_zero])
              refine wpAnyH_ready (rs := [7]) (by kernel_rfl) (by simp) ?_
              refine AllReadyH.cons rfl (fun K hK => ?g36) AllReadyH.nil
              case g36 =>
                go_simp
                refine (change_any (nx := n) (h0.ext (ext_trans y2 q34)) hf.1 hfb.1 oI (OwnR.rc oF) hf.2 hfb.2 hgd hGl hsmm hLBl).mono ?_
                rintro e wz38 ⟨ha, xc⟩
                obtain ⟨v1, oV, rfl⟩ := hans e _ ha
                obtain ⟨A1, c1, rfl⟩ := OwnR.shape oV
                have q37 := ext_trans q34 xc
                replace BP := BP.mod xc (fun h => h)
                clear ha xc oI oF
                (go_wp2_with fail; refine hK.out _ _ (hbk q37) (fun hH => ?_); clear hK K; try simp only [Act.put, List.setIfInBounds_toArray, List.set_cons_zero, List.set_cons_succ]; try simp only [List.getElem_toArray, List.getElem_cons_succ, List.getElem_cons_zero])
                (refine wpAnyH_take (i := 8) (oi := ⟨_, _, _, _, _, _⟩) (v := ?tv912) rfl (by kernel_rfl) (by kernel_rfl) (by kernel_rfl) (fun _ _ _ h => h) (Or.inl ⟨by kernel_rfl, ?hy912⟩) hH ?rs912; (case hy912 => (intro wx hSw; (try dsimp only at hSw); go_simp; try with_reducible rfl)); try simp only [Act.put, List.setIfInBounds_toArray, List.set_cons_zero, List.set_cons_succ]; try simp only [List.getElem_toArray, List.getElem_cons_succ, List.getElem_cons_zero])
                (refine wpAnyH_take (i := 9) (oi := ⟨_, _, _, _, _, _⟩) (v := ?tv913) rfl (by kernel_rfl) (by kernel_rfl) (by kernel_rfl) (fun _ _ _ h => h) (Or.inl ⟨by kernel_rfl, ?hy913⟩) hH ?rs913; (case hy913 => (intro wx hSw; (try dsimp only at hSw); go_simp; try with_reducible rfl)); try simp only [Act.put, List.setIfInBounds_toArray, List.set_cons_zero, List.set_cons_succ]; try simp only [List.getElem_toArray, List.getElem_cons_succ, List.getElem_cons_zero])
                (refine wpAnyH_take (i := 10) (oi := ⟨_, _, _, _, _, _⟩) (v := ?tv914) rfl (by kernel_rfl) (by kernel_rfl) (by kernel_rfl) (fun _ _ _ h => h) (Or.inl ⟨by kernel_rfl, ?hy914⟩) hH ?rs914; (case hy914 => (intro wx hSw; (try dsimp only at hSw); go_simp; try with_reducible rfl)); try simp only [Act.put, List.setIfInBounds_toArray, List.set_cons_zero, List.set_cons_succ]; try simp only [List.getElem_toArray, List.getElem_cons_succ, List.getElem_cons_zero])
                have f8 := Blk.frozen BP 0
                have f9 := Blk.frozen BP 1
                have p8 : wz38.cell? ⟨p, 0, none⟩ = some (.int .i64 0) := BP.cell 0
                have p9 : wz38.cell? ⟨p, 1, none⟩ = some (.slice none 0 0) := BP.cell 1
                obtain ⟨v1, v2, v3⟩ := ver_put (nx := N) q37 hpp BP oV
                refine wpAnyH_ready (rs := [12]) (by kernel_rfl) (by simp) ?_
                refine AllReadyH.cons rfl (fun K hK => ?_) AllReadyH.nil
                go_simp
                (go_wp2_with fail; refine hK.out _ _ (hbk v3) (fun hH => ?_); clear hK K; try simp only [Act.put, List.setIfInBounds_toArray, List.set_cons_zero, List.set_cons_succ]; try simp only [List.getElem_toArray, List.getElem_cons_succ, List.getElem_cons_zero])
                (refine wpAnyH_take (i := 13) (oi := ⟨_, _, _, _, _, _⟩) (v := ?tv915) rfl (by kernel_rfl) (by kernel_rfl) (by kernel_rfl) (fun _ _ _ h => h) (Or.inl ⟨by kernel_rfl, ?hy915⟩) hH ?rs915; (case hy915 => (intro wx hSw; (try dsimp only at hSw); go_simp; try with_reducible rfl)); try simp only [Act.put, List.setIfInBounds_toArray, List.set_cons_zero, List.set_cons_succ]; try simp only [List.getElem_toArray, List.getElem_cons_succ, List.getElem_cons_zero])
                refine wpAnyH_done (by kernel_rfl) ?_ _
                go_wp2_with fail
                go_meet
                exact ⟨p, _, rfl, rfl, v1, v2, hpp, v3⟩
        case g12 =>
          replace oI := Own.alloc oI (.cells #[.int .i64 0, .slice none 0 0] 24)
          have BP : Blk (wz10.alloc (.cells #[.int .i64 0, .slice none 0 0] 24)) wz10.heap.size 24 #[.int .i64 0, .slice none 0 0] := Blk.new wz10 24 #[.int .i64 0, .slice none 0 0]
          have hpp : w2.heap.size ≤ wz10.heap.size := q9.size
          have q39 : Ext w2 (wz10.alloc (.cells #[.int .i64 0, .slice none 0 0] 24)) := q9.alloc _
          go_simp
          (go_wp2_with fail; refine hK.out _ _ (hbk q39) (fun hH => ?_); clear hK K; try simp only [Act.put, List.setIfInBounds_toArray, List.set_cons_zero, List.set_cons_succ]; try simp only [List.getElem_toArray, List.getElem_cons_succ, List.getElem_cons_zero])
          generalize (wz10.alloc (.cells #[.int .i64 0, .slice none 0 0] 24)) = wz40 at *
          generalize wz10.heap.size = p at *
          refine wpAnyH_ready (rs := [4]) (by kernel_rfl) (by simp) ?_
          refine AllReadyH.cons rfl (fun K hK => ?g41) AllReadyH.nil
          case g41 =>
            replace oI := Own.alloc oI (.cells #[] 48)
            replace BP := BP.mod ((Mod.refl (fun _ => False) wz40).alloc (.cells #[] 48)) (fun h => h)
            have oF : OwnF (wz40.alloc (.cells #[] 48)) (.slice (some ⟨wz40.heap.size, 0, none⟩) 0 0) [] := OwnR.empty fic 5 wz40 48
            have bF : Blk (wz40.alloc (.cells #[] 48)) wz40.heap.size 48 #[] := Blk.new wz40 48 #[]
            have fF : Fresh w2.heap.size (.slice (some ⟨wz40.heap.size, 0, none⟩) 0 0) := fun k hk => by (have h9 : wz40.heap.size = k := Option.some.inj hk); have h8 := q39.size; omega
            have q42 : Ext w2 (wz40.alloc (.cells #[] 48)) := q39.alloc _
            go_simp
            (go_wp2_with fail; refine hK.out _ _ (hbk q42) (fun hH => ?_); clear hK K; try simp only [Act.put, List.setIfInBounds_toArray, List.set_cons_zero, List.set_cons_succ]; try simp only [List.getElem_toArray, List.getElem_cons_succ, List.getElem_cons_zero])
            generalize (wz40.alloc (.cells #[] 48)) = wz43 at *
            generalize wz40.heap.size = hF at *
            refine wpAnyH_ready (rs := [6]) (by kernel_rfl) (by simp) ?_
            refine AllReadyH.cons rfl (fun K hK => ?g44) AllReadyH.nil
            case g44 =>
              refine step_appRs 30 tyF oF (hb.ext (ext_trans y2 q42)) (fic_all _) hnF rfl rfl (.tmp 28) (.tmp 29) rfl rfl rfl ?_
              intro vF wz46 ka1 ka2 ka3
              rw [List.nil_append] at ka1
              have q45 := ext_app0 q42 fF ka2
              replace oI := Own.mod oI ka2 (fun k hk e => Own.ne_blk oI bF (by decide) (by rw [show hF = k from Option.some.inj e]; exact hk))
              replace BP := BP.mod ka2 (fun h => ownR_ne_blk oF BP (by decide) h rfl)
              clear oF bF ka2 ka3
              have oF := ka1
              clear ka1
              (refine hK.out _ _ (hbk q45) (fun hH => ?_); clear hK K; try simp only [Act.put, List.setIfInBounds_toArray, List.set_cons_zero, List.set_cons_succ]; try simp only [List.getElem_toArray, List.getElem_cons_succ, List.getElem_cons_zero])
              refine wpAnyH_ready (rs := [7]) (by kernel_rfl) (by simp) ?_
              refine AllReadyH.cons rfl (fun K hK => ?g47) AllReadyH.nil
              case g47 =>
                go_simp
                refine (change_any (nx := n) (h0.ext (ext_trans y2 q45)) hf.1 hfb.1 oI (OwnR.rc oF) hf.2 hfb.2 hgd hGl hsmm hLBl).mono ?_
                rintro e wz49 ⟨ha, xc⟩
                obtain ⟨v1, oV, rfl⟩ := hans e _ ha
                obtain ⟨A1, c1, rfl⟩ := OwnR.shape oV
                have q48 := ext_trans q45 xc
                replace BP := BP.mod xc (fun h => h)
                clear ha xc oI oF
                (go_wp2_with fail; refine hK.out _ _ (hbk q48) (fun hH => ?_); clear hK K; try simp only [Act.put, List.setIfInBounds_toArray, List.set_cons_zero, List.set_cons_succ]; try simp only [List.getElem_toArray, List.getElem_cons_succ, List.getElem_cons_zero])
                (refine wpAnyH_take (i := 8) (oi := ⟨_, _, _, _, _, _⟩) (v := ?tv916) rfl (by kernel_rfl) (by kernel_rfl) (by kernel_rfl) (fun _ _ _ h => h) (Or.inl ⟨by kernel_rfl, ?hy916⟩) hH ?rs916; (case hy916 => (intro wx hSw; (try dsimp only at hSw); go_simp; try with_reducible rfl)); try simp only [Act.put, List.setIfInBounds_toArray, List.set_cons_zero, List.set_cons_succ]; try simp only [List.getElem_toArray, List.getElem_cons_succ, List.getElem_cons_zero])
                (refine wpAnyH_take (i := 9) (oi := ⟨_, _, _, _, _, _⟩) (v := ?tv917) rfl (by kernel_rfl) (by kernel_rfl) (by kernel_rfl) (fun _ _ _ h => h) (Or.inl ⟨by kernel_rfl, ?hy917⟩) hH ?rs917; (case hy917 => (intro wx hSw; (try dsimp only at hSw); go_simp; try with_reducible rfl)); try simp only [Act.put, List.setIfInBounds_toArray, List.set_cons_zero, List.set_cons_succ]; try simp only [List.getElem_toArray, List.getElem_cons_succ, List.getElem_cons_zero])
                (refine wpAnyH_take (i := 10) (oi := ⟨_, _, _, _, _, _⟩) (v := ?tv918) rfl (by kernel_rfl) (by kernel_rfl) (by kernel_rfl) (fun _ _ _ h => h) (Or.inl ⟨by kernel_rfl, ?hy918⟩) hH ?rs918; (case hy918 => (intro wx hSw; (try dsimp only at hSw); go_simp; try with_reducible rfl)); try simp only [Act.put, List.setIfInBounds_toArray, List.set_cons_zero, List.set_cons_succ]; try simp only [List.getElem_toArray, List.getElem_cons_succ, List.getElem_cons_zero])
                have f8 := Blk.frozen BP 0
                have f9 := Blk.frozen BP 1
                have p8 : wz49.cell? ⟨p, 0, none⟩ = some (.int .i64 0) := BP.cell 0
                have p9 : wz49.cell? ⟨p, 1, none⟩ = some (.slice none 0 0) := BP.cell 1
                obtain ⟨v1, v2, v3⟩ := ver_put (nx := N) q48 hpp BP oV
                refine wpAnyH_ready (rs := [12]) (by kernel_rfl) (by simp) ?_
                refine AllReadyH.cons rfl (fun K hK => ?_) AllReadyH.nil
                go_simp
                (go_wp2_with fail; refine hK.out _ _ (hbk v3) (fun hH => ?_); clear hK K; try simp only [Act.put, List.setIfInBounds_toArray, List.set_cons_zero, List.set_cons_succ]; try simp only [List.getElem_toArray, List.getElem_cons_succ, List.getElem_cons_zero])
                (refine wpAnyH_take (i := 13) (oi := ⟨_, _, _, _, _, _⟩) (v := ?tv919) rfl (by kernel_rfl) (by kernel_rfl) (by kernel_rfl) (fun _ _ _ h => h) (Or.inl ⟨by kernel_rfl, ?hy919⟩) hH ?rs919; (case hy919 => (intro wx hSw; (try dsimp only at hSw); go_simp; try with_reducible rfl)); try simp only [Act.put, List.setIfInBounds_toArray, List.set_cons_zero, List.set_cons_succ]; try simp only [List.getElem_toArray, List.getElem_cons_succ, List.getElem_cons_zero])
                refine wpAnyH_done (by kernel_rfl) ?_ _
                go_wp2_with fail
                go_meet
                exact ⟨p, _, rfl, rfl, v1, v2, hpp, v3⟩
      case g7 =>
        replace oI := Own.alloc oI (.cells #[] 48)
        replace bI := bI.mod ((Mod.refl (fun _ => False) wz5).alloc (.cells #[] 48)) (fun h => h)
        have oF : OwnF (wz5.alloc (.cells #[] 48)) (.slice (some ⟨wz5.heap.size, 0, none⟩) 0 0) [] := OwnR.empty fic 5 wz5 48
        have bF : Blk (wz5.alloc (.cells #[] 48)) wz5.heap.size 48 #[] := Blk.new wz5 48 #[]
        have fF : Fresh w2.heap.size (.slice (some ⟨wz5.heap.size, 0, none⟩) 0 0) := fun k hk => by (have h9 : wz5.heap.size = k := Option.some.inj hk); have h8 := q4.size; omega
        have q50 : Ext w2 (wz5.alloc (.cells #[] 48)) := q4.alloc _
        go_simp
        (go_wp2_with fail; refine hK.out _ _ (hbk q50) (fun hH => ?_); clear hK K; try simp only [Act.put, List.setIfInBounds_toArray, List.set_cons_zero, List.set_cons_succ]; try simp only [List.getElem_toArray, List.getElem_cons_succ, List.getElem_cons_zero])
        generalize (wz5.alloc (.cells #[] 48)) = wz51 at *
        generalize wz5.heap.size = hF at *
        refine wpAnyH_ready (rs := [3, 11]) (by kernel_rfl) (by simp) ?_
        refine AllReadyH.cons rfl (fun K hK => ?g52) (AllReadyH.cons rfl (fun K hK => ?g53) AllReadyH.nil)
        case g52 =>
          refine step_app 27 tyI oI (hg.ext (ext_trans y2 q50)) hone hnI rfl rfl (.tmp 25) (.tmp 26) rfl rfl rfl ?_
          intro vI wz55 ka1 ka2 ka3
          rw [List.nil_append] at ka1
          have q54 := ext_app0 q50 fI ka2
          replace oF := OwnR.mod oF ka2 (fun k hk e => ownR_ne_blk oF bI (by decide) hk (Option.some.inj e).symm)
          replace bF := bF.mod ka2 (fun h => Own.ne_blk oI bF (by decide) h)
          clear oI bI ka2 ka3
          have oI := ka1
          clear ka1
          (refine hK.out _ _ (hbk q54) (fun hH => ?_); clear hK K; try simp only [Act.put, List.setIfInBounds_toArray, List.set_cons_zero, List.set_cons_succ]; try simp only [List.getElem_toArray, List.getElem_cons_succ, List.getElem_cons_zero])
          refine wpAnyH_ready (rs := [6, 11]) (by kernel_rfl) (by simp) ?_
          refine AllReadyH.cons rfl (fun K hK => ?g56) (AllReadyH.cons rfl (fun K hK => ?g57) AllReadyH.nil)
          case g56 =>
            refine step_appRs 30 tyF oF (hb.ext (ext_trans y2 q54)) (fic_all _) hnF rfl rfl (.tmp 28) (.tmp 29) rfl rfl rfl ?_
            intro vF wz59 ka1 ka2 ka3
            rw [List.nil_append] at ka1
            have q58 := ext_app0 q54 fF ka2
            replace oI := Own.mod oI ka2 (fun k hk e => Own.ne_blk oI bF (by decide) (by rw [show hF = k from Option.some.inj e]; exact hk))
            clear oF bF ka2 ka3
            have oF := ka1
            clear ka1
            (refine hK.out _ _ (hbk q58) (fun hH => ?_); clear hK K; try simp only [Act.put, List.setIfInBounds_toArray, List.set_cons_zero, List.set_cons_succ]; try simp only [List.getElem_toArray, List.getElem_cons_succ, List.getElem_cons_zero])
            refine wpAnyH_ready (rs := [7, 11]) (by kernel_rfl) (by simp) ?_
            refine AllReadyH.cons rfl (fun K hK => ?g60) (AllReadyH.cons rfl (fun K hK => ?g61) AllReadyH.nil)
            case g60 =>
              go_simp
              refine (change_any (nx := n) (h0.ext (ext_trans y2 q58)) hf.1 hfb.1 oI (OwnR.rc oF) hf.2 hfb.2 hgd hGl hsmm hLBl).mono ?_
              rintro e wz63 ⟨ha, xc⟩
              obtain ⟨v1, oV, rfl⟩ := hans e _ ha
              obtain ⟨A1, c1, rfl⟩ := OwnR.shape oV
              have q62 := ext_trans q58 xc
              clear ha xc oI oF
              (go_wp2_with fail; refine hK.out _ _ (hbk q62) (fun hH => ?_); clear hK K; try simp only [Act.put, List.setIfInBounds_toArray, List.set_cons_zero, List.set_cons_succ]; try simp only [List.getElem_toArray, List.getElem_cons_succ, List.getElem_cons_zero])
              (refine wpAnyH_take (i := 8) (oi := ⟨_, _, _, _, _, _⟩) (v := ?tv920) rfl (by kernel_rfl) (by kernel_rfl) (by kernel_rfl) (fun _ _ _ h => h) (Or.inl ⟨by kernel_rfl, ?hy920⟩) hH ?rs920; (case hy920 => (intro wx hSw; (try dsimp only at hSw); go_simp; try with_reducible rfl)); try simp only [Act.put, List.setIfInBounds_toArray, List.set_cons_zero, List.set_cons_succ]; try simp only [List.getElem_toArray, List.getElem_cons_succ, List.getElem_cons_zero])
              (refine wpAnyH_take (i := 9) (oi := ⟨_, _, _, _, _, _⟩) (v := ?tv921) rfl (by kernel_rfl) (by kernel_rfl) (by kernel_rfl) (fun _ _ _ h => h) (Or.inl ⟨by kernel_rfl, ?hy921⟩) hH ?rs921; (case hy921 => (intro wx hSw; (try dsimp only at hSw); go_simp; try with_reducible rfl)); try simp only [Act.put, List.setIfInBounds_toArray, List.set_cons_zero, List.set_cons_succ]; try simp only [List.getElem_toArray, List.getElem_cons_succ, List.getElem_cons_zero])
              (refine wpAnyH_take (i := 10) (oi := ⟨_, _, _, _, _, _⟩) (v := ?tv922) rfl (by kernel_rfl) (by kernel_rfl) (by kernel_rfl) (fun _ _ _ h => h) (Or.inl ⟨by kernel_rfl, ?hy922⟩) hH ?rs922; (case hy922 => (intro wx hSw; (try dsimp only at hSw); go_simp; try with_reducible rfl)); try simp only [Act.put, List.setIfInBounds_toArray, List.set_cons_zero, List.set_cons_succ]; try simp only [List.getElem_toArray, List.getElem_cons_succ, List.getElem_cons_zero])
              refine wpAnyH_ready (rs := [11]) (by kernel_rfl) (by simp) ?_
              refine AllReadyH.cons rfl (fun K hK => ?g64) AllReadyH.nil
              case g64 =>
                replace oV := OwnR.alloc oV (.cells #[.int .i64 0, .slice none 0 0] 24)
                have BP : Blk (wz63.alloc (.cells #[.int .i64 0, .slice none 0 0] 24)) wz63.heap.size 24 #[.int .i64 0, .slice none 0 0] := Blk.new wz63 24 #[.int .i64 0, .slice none 0 0]
                have hpp : w2.heap.size ≤ wz63.heap.size := q62.size
                have q65 : Ext w2 (wz63.alloc (.cells #[.int .i64 0, .slice none 0 0] 24)) := q62.alloc _
                go_simp
                (go_wp2_with fail; refine hK.out _ _ (hbk q65) (fun hH => ?_); clear hK K; try simp only [Act.put, List.setIfInBounds_toArray, List.set_cons_zero, List.set_cons_succ]; try simp only [List.getElem_toArray, List.getElem_cons_succ, List.getElem_cons_zero])
                generalize (wz63.alloc (.cells #[.int .i64 0, .slice none 0 0] 24)) = wz66 at *
                generalize wz63.heap.size = p at *
                have f8 := Blk.frozen BP 0
                have f9 := Blk.frozen BP 1
                have p8 : wz66.cell? ⟨p, 0, none⟩ = some (.int .i64 0) := BP.cell 0
                have p9 : wz66.cell? ⟨p, 1, none⟩ = some (.slice none 0 0) := BP.cell 1
                obtain ⟨v1, v2, v3⟩ := ver_put (nx := N) q65 hpp BP oV
                refine wpAnyH_ready (rs := [12]) (by kernel_rfl) (by simp) ?_
                refine AllReadyH.cons rfl (fun K hK => ?_) AllReadyH.nil
                go_simp
                (go_wp2_with fail; refine hK.out _ _ (hbk v3) (fun hH => ?_); clear hK K; try simp only [Act.put, List.setIfInBounds_toArray, List.set_cons_zero, List.set_cons_succ]; try simp only [List.getElem_toArray, List.getElem_cons_succ, List.getElem_cons_zero])
                (refine wpAnyH_take (i := 13) (oi := ⟨_, _, _, _, _, _⟩) (v := ?tv923) rfl (by kernel_rfl) (by kernel_rfl) (by kernel_rfl) (fun _ _ _ h => h) (Or.inl ⟨by kernel_rfl, ?hy923⟩) hH ?rs923; (case hy923 => (intro wx hSw; (try dsimp only at hSw); go_simp; try with_reducible rfl)); try simp only [Act.put, List.setIfInBounds_toArray, List.set_cons_zero, List.set_cons_succ]; try simp only [List.getElem_toArray, List.getElem_cons_succ, List.getElem_cons_zero])
                refine wpAnyH_done (by kernel_rfl) ?_ _
                go_wp2_with fail
                go_meet
                exact ⟨p, _, rfl, rfl, v1, v2, hpp, v3⟩
            case g61 =>
              replace oI := Own.alloc oI (.cells #[.int .i64 0, .slice none 0 0] 24)
              replace oF := OwnR.alloc oF (.cells #[.int .i64 0, .slice none 0 0] 24)
              have BP : Blk (wz59.alloc (.cells #[.int .i64 0, .slice none 0 0] 24)) wz59.heap.size 24 #[.int .i64 0, .slice none 0 0] := Blk.new wz59 24 #[.int .i64 0, .slice none 0 0]
              have hpp : w2.heap.size ≤ wz59.heap.size := q58.size
              have q67 : Ext w2 (wz59.alloc (.cells #[.int .i64 0, .slice none 0 0] 24)) := q58.alloc _
              go_simp
              (go_wp2_with fail; refine hK.out _ _ (hbk q67) (fun hH => ?_); clear hK K; try simp only [Act.put, List.setIfInBounds_toArray, List.set_cons_zero, List.set_cons_succ]; try simp only [List.getElem_toArray, List.getElem_cons_succ, List.getElem_cons_zero])
              generalize (wz59.alloc (.cells #[.int .i64 0, .slice none 0 0] 24)) = wz68 at *
              generalize wz59.heap.size = p at *
              refine wpAnyH_ready (rs := [7]) (by kernel_rfl) (by simp) ?_
              refine AllReadyH.cons rfl (fun K hK => ?g69) AllReadyH.nil
              case g69 =>
                go_simp
                refine (change_any (nx := n) (h0.ext (ext_trans y2 q67)) hf.1 hfb.1 oI (OwnR.rc oF) hf.2 hfb.2 hgd hGl hsmm hLBl).mono ?_
                rintro e wz71 ⟨ha, xc⟩
                obtain ⟨v1, oV, rfl⟩ := hans e _ ha
                obtain ⟨A1, c1, rfl⟩ := OwnR.shape oV
                have q70 := ext_trans q67 xc
                replace BP := BP.mod xc (fun h => h)
                clear ha xc oI oF
                (go_wp2_with fail; refine hK.out _ _ (hbk q70) (fun hH => ?_); clear hK K; try simp only [Act.put, List.setIfInBounds_toArray, List.set_cons_zero, List.set_cons_succ]; try simp only [List.getElem_toArray, List.getElem_cons_succ, List.getElem_cons_zero])
                (refine wpAnyH_take (i := 8) (oi := ⟨_, _, _, _, _, _⟩) (v := ?tv924) rfl (by kernel_rfl) (by kernel_rfl) (by kernel_rfl) (fun _ _ _ h => h) (Or.inl ⟨by kernel_rfl, ?hy924⟩) hH ?rs924; (case hy924 => (intro wx hSw; (try dsimp only at hSw); go_simp; try with_reducible rfl)); try simp only [Act.put, List.setIfInBounds_toArray, List.set_cons_zero, List.set_cons_succ]; try simp only [List.getElem_toArray, List.getElem_cons_succ, List.getElem_cons_zero])
                (refine wpAnyH_take (i := 9) (oi := ⟨_, _, _, _, _, _⟩) (v := ?tv925) rfl (by kernel_rfl) (by kernel_rfl) (by kernel_rfl) (fun _ _ _ h => h) (Or.inl ⟨by kernel_rfl, ?hy925⟩) hH ?rs925; (case hy925 => (intro wx hSw; (try dsimp only at hSw); go_simp; try with_reducible rfl)); try simp only [Act.put, List.setIfInBounds_toArray, List.set_cons_zero, List.set_cons_succ]; try simp only [List.getElem_toArray, List.getElem_cons_succ, List.getElem_cons_zero])
                (refine wpAnyH_take (i := 10) (oi := ⟨_, _, _, _, _, _⟩) (v := ?tv926) rfl (by kernel_rfl) (by kernel_rfl) (by kernel_rfl) (fun _ _ _ h => h) (Or.inl ⟨by kernel_rfl, ?hy926⟩) hH ?rs926; (case hy926 => (intro wx hSw; (try dsimp only at hSw); go_simp; try with_reducible rfl)); try simp only [Act.put, List.setIfInBounds_toArray, List.set_cons_zero, List.set_cons_succ]; try simp only [List.getElem_toArray, List.getElem_cons_succ, List.getElem_cons_zero])
                have f8 := Blk.frozen BP 0
                have f9 := Blk.frozen BP 1
                have p8 : wz71.cell? ⟨p, 0, none⟩ = some (.int .i64 0) := BP.cell 0
                have p9 : wz71.cell? ⟨p, 1, none⟩ = some (.slice none 0 0) := BP.cell 1
                obtain ⟨v1, v2, v3⟩ := ver_put (nx := N) q70 hpp BP oV
                refine wpAnyH_ready (rs := [12]) (by kernel_rfl) (by simp) ?_
                refine AllReadyH.cons rfl (fun K hK => ?_) AllReadyH.nil
                go_simp
                (go_wp2_with fail; refine hK.out _ _ (hbk v3) (fun hH => ?_); clear hK K; try simp only [Act.put, List.setIfInBounds_toArray, List.set_cons_zero, List.set_cons_succ]; try simp only [List.getElem_toArray, List.getElem_cons_succ, List.getElem_cons_zero])
                (refine wpAnyH_take (i := 13) (oi := ⟨_, _, _, _, _, _⟩) (v := ?tv927) rfl (by kernel_rfl) (by kernel_rfl) (by kernel_rfl) (fun _ _ _ h => h) (Or.inl ⟨by kernel_rfl, ?hy927⟩) hH ?rs927; (case hy927 => (intro wx hSw; (try dsimp only at hSw); go_simp; try with_reducible rfl)); try simp only [Act.put, List.setIfInBounds_toArray, List.set_cons_zero, List.set_cons_succ]; try simp only [List.getElem_toArray, List.getElem_cons_succ, List.getElem_cons_zero])
                refine wpAnyH_done (by kernel_rfl) ?_ _
                go_wp2_with fail
                go_meet
                exact ⟨p, _, rfl, rfl, v1, v2, hpp, v3⟩
          case g57 =>
            replace oI := Own.alloc oI (.cells #[.int .i64 0, .slice none 0 0] 24)
            replace oF := OwnR.alloc oF (.cells #[.int .i64 0, .slice none 0 0] 24)
            replace bF := bF.mod ((Mod.refl (fun _ => False) wz55).alloc (.cells #[.int .i64 0, .slice none 0 0] 24)) (fun h => h)
            have BP : Blk (wz55.alloc (.cells #[.int .i64 0, .slice none 0 0] 24)) wz55.heap.size 24 #[.int .i64 0, .slice none 0 0] := Blk.new wz55 24 #[.int .i64 0, .slice none 0 0]
            have hpp : w2.heap.size ≤ wz55.heap.size := q54.size
            have q72 : Ext w2 (wz55.alloc (.cells #[.int .i64 0, .slice none 0 0] 24)) := q54.alloc _
            go_simp
            (go_wp2_with fail; refine hK.out _ _ (hbk q72) (fun hH => ?_); clear hK K; try simp only [Act.put, List.setIfInBounds_toArray, List.set_cons_zero, List.set_cons_succ]; try simp only [List.getElem_toArray, List.getElem_cons_succ, List.getElem_cons_zero])
            generalize (wz55.alloc (.cells #[.int .i64 0, .slice none 0 0] 24)) = wz73 at *
            generalize wz55.heap.size = p at *
            refine wpAnyH_ready (rs := [6]) (by kernel_rfl) (by simp) ?_
            refine AllReadyH.cons rfl (fun K hK => ?g74) AllReadyH.nil
            case g74 =>
              refine step_appRs 30 tyF oF (hb.ext (ext_trans y2 q72)) (fic_all _) hnF rfl rfl (.tmp 28) (.tmp 29) rfl rfl rfl ?_
              intro vF wz76 ka1 ka2 ka3
              rw [List.nil_append] at ka1
              have q75 := ext_app0 q72 fF ka2
              replace oI := Own.mod oI ka2 (fun k hk e => Own.ne_blk oI bF (by decide) (by rw [show hF = k from Option.some.inj e]; exact hk))
              replace BP := BP.mod ka2 (fun h => ownR_ne_blk oF BP (by decide) h rfl)
              clear oF bF ka2 ka3
              have oF := ka1
              clear ka1
              (refine hK.out _ _ (hbk q75) (fun hH => ?_); clear hK K; try simp only [Act.put, List.setIfInBounds_toArray, List.set_cons_zero, List.set_cons_succ]; try simp only [List.getElem_toArray, List.getElem_cons_succ, List.getElem_cons_zero])
              refine wpAnyH_ready (rs := [7]) (by kernel_rfl) (by simp) ?_
              refine AllReadyH.cons rfl (fun K hK => ?g77) AllReadyH.nil
              case g77 =>
                go_simp
                refine (change_any (nx := n) (h0.ext (ext_trans y2 q75)) hf.1 hfb.1 oI (OwnR.rc oF) hf.2 hfb.2 hgd hGl hsmm hLBl).mono ?_
                rintro e wz79 ⟨ha, xc⟩
                obtain ⟨v1, oV, rfl⟩ := hans e _ ha
                obtain ⟨A1, c1, rfl⟩ := OwnR.shape oV
                have q78 := ext_trans q75 xc
                replace BP := BP.mod xc (fun h => h)
                clear ha xc oI oF
                (go_wp2_with fail; refine hK.out _ _ (hbk q78) (fun hH => ?_); clear hK K; try simp only [Act.put, List.setIfInBounds_toArray, List.set_cons_zero, List.set_cons_succ]; try simp only [List.getElem_toArray, List.getElem_cons_succ, List.getElem_cons_zero])
                (refine wpAnyH_take (i := 8) (oi := ⟨_, _, _, _, _, _⟩) (v := ?tv928) rfl (by kernel_rfl) (by kernel_rfl) (by kernel_rfl) (fun _ _ _ h => h) (Or.inl ⟨by kernel_rfl, ?hy928⟩) hH ?rs928; (case hy928 => (intro wx hSw; (try dsimp only at hSw); go_simp; try with_reducible rfl)); try simp only [Act.put, List.setIfInBounds_toArray, List.set_cons_zero, List.set_cons_succ]; try simp only [List.getElem_toArray, List.getElem_cons_succ, List.getElem_cons_zero])
                (refine wpAnyH_take (i := 9) (oi := ⟨_, _, _, _, _, _⟩) (v := ?tv929) rfl (by kernel_rfl) (by kernel_rfl) (by kernel_rfl) (fun _ _ _ h => h) (Or.inl ⟨by kernel_rfl, ?hy929⟩) hH ?rs929; (case hy929 => (intro wx hSw; (try dsimp only at hSw); go_simp; try with_reducible rfl)); try simp only [Act.put, List.setIfInBounds_toArray, List.set_cons_zero, List.set_cons_succ]; try simp only [List.getElem_toArray, List.getElem_cons_succ, List.getElem_cons_zero])
                (refine wpAnyH_take (i := 10) (oi := ⟨_, _, _, _, _, _⟩) (v := ?tv930) rfl (by kernel_rfl) (by kernel_rfl) (by kernel_rfl) (fun _ _ _ h => h) (Or.inl ⟨by kernel_rfl, ?hy930⟩) hH ?rs930; (case hy930 => (intro wx hSw; (try dsimp only at hSw); go_simp; try with_reducible rfl)); try simp only [Act.put, List.setIfInBounds_toArray, List.set_cons_zero, List.set_cons_succ]; try simp only [List.getElem_toArray, List.getElem_cons_succ, List.getElem_cons_zero])
                have f8 := Blk.frozen BP 0
                have f9 := Blk.frozen BP 1
                have p8 : wz79.cell? ⟨p, 0, none⟩ = some (.int .i64 0) := BP.cell 0
                have p9 : wz79.cell? ⟨p, 1, none⟩ = some (.slice none 0 0) := BP.cell 1
                obtain ⟨v1, v2, v3⟩ := ver_put (nx := N) q78 hpp BP oV
                refine wpAnyH_ready (rs := [12]) (by kernel_rfl) (by simp) ?_
                refine AllReadyH.cons rfl (fun K hK => ?_) AllReadyH.nil
                go_simp
                (go_wp2_with fail; refine hK.out _ _ (hbk v3) (fun hH => ?_); clear hK K; try simp only [Act.put, List.setIfInBounds_toArray, List.set_cons_zero, List.set_cons_succ]; try simp only [List.getElem_toArray, List.getElem_cons_succ, List.getElem_cons_zero])
                (refine wpAnyH_take (i := 13) (oi := ⟨_, _, _, _, _, _⟩) (v := ?tv931) rfl (by kernel_rfl) (by kernel_rfl) (by kernel_rfl) (fun _ _ _ h => h) (Or.inl ⟨by kernel_rfl, ?hy931⟩) hH ?rs931; (case hy931 => (intro wx hSw; (try dsimp only at hSw); go_simp; try with_reducible rfl)); try simp only [Act.put, List.setIfInBounds_toArray, List.set_cons_zero, List.set_cons_succ]; try simp only [List.getElem_toArray, List.getElem_cons_succ, List.getElem_cons_zero])
                refine wpAnyH_done (by kernel_rfl) ?_ _
                go_wp2_with fail
                go_meet
                exact ⟨p, _, rfl, rfl, v1, v2, hpp, v3⟩
        case g53 =>
          replace oI := Own.alloc oI (.cells #[.int .i64 0, .slice none 0 0] 24)
          replace bI := bI.mod ((Mod.refl (fun _ => False) wz51).alloc (.cells #[.int .i64 0, .slice none 0 0] 24)) (fun h => h)
          replace oF := OwnR.alloc oF (.cells #[.int .i64 0, .slice none 0 0] 24)
          replace bF := bF.mod ((Mod.refl (fun _ => False) wz51).alloc (.cells #[.int .i64 0, .slice none 0 0] 24)) (fun h => h)
          have BP : Blk (wz51.alloc (.cells #[.int .i64 0, .slice none 0 0] 24)) wz51.heap.size 24 #[.int .i64 0, .slice none 0 0] := Blk.new wz51 24 #[.int .i64 0, .slice none 0 0]
          have hpp : w2.heap.size ≤ wz51.heap.size := q50.size
          have q80 : Ext w2 (wz51.alloc (.cells #[.int .i64 0, .slice none 0 0] 24)) := q50.alloc _
          go_simp
          (go_wp2_with fail; refine hK.out _ _ (hbk q80) (fun hH => ?_); clear hK K; try simp only [Act.put, List.setIfInBounds_toArray, List.set_cons_zero, List.set_cons_succ]; try simp only [List.getElem_toArray, List.getElem_cons_succ, List.getElem_cons_zero])
          generalize (wz51.alloc (.cells #[.int .i64 0, .slice none 0 0] 24)) = wz81 at *
          generalize wz51.heap.size = p at *
          refine wpAnyH_ready (rs := [3]) (by kernel_rfl) (by simp) ?_
          refine AllReadyH.cons rfl (fun K hK => ?g82) AllReadyH.nil
          case g82 =>
            refine step_app 27 tyI oI (hg.ext (ext_trans y2 q80)) hone hnI rfl rfl (.tmp 25) (.tmp 26) rfl rfl rfl ?_
            intro vI wz84 ka1 ka2 ka3
            rw [List.nil_append] at ka1
            have q83 := ext_app0 q80 fI ka2
            replace oF := OwnR.mod oF ka2 (fun k hk e => ownR_ne_blk oF bI (by decide) hk (Option.some.inj e).symm)
            replace bF := bF.mod ka2 (fun h => Own.ne_blk oI bF (by decide) h)
            replace BP := BP.mod ka2 (fun h => Own.ne_blk oI BP (by decide) h)
            clear oI bI ka2 ka3
            have oI := ka1
            clear ka1
            (refine hK.out _ _ (hbk q83) (fun hH => ?_); clear hK K; try simp only [Act.put, List.setIfInBounds_toArray, List.set_cons_zero, List.set_cons_succ]; try simp only [List.getElem_toArray, List.getElem_cons_succ, List.getElem_cons_zero])
            refine wpAnyH_ready (rs := [6]) (by kernel_rfl) (by simp) ?_
            refine AllReadyH.cons rfl (fun K hK => ?g85) AllReadyH.nil
            case g85 =>
              refine step_appRs 30 tyF oF (hb.ext (ext_trans y2 q83)) (fic_all _) hnF rfl rfl (.tmp 28) (.tmp 29) rfl rfl rfl ?_
              intro vF wz87 ka1 ka2 ka3
              rw [List.nil_append] at ka1
              have q86 := ext_app0 q83 fF ka2
              replace oI := Own.mod oI ka2 (fun k hk e => Own.ne_blk oI bF (by decide) (by rw [show hF = k from Option.some.inj e]; exact hk))
              replace BP := BP.mod ka2 (fun h => ownR_ne_blk oF BP (by decide) h rfl)
              clear oF bF ka2 ka3
              have oF := ka1
              clear ka1
              (refine hK.out _ _ (hbk q86) (fun hH => ?_); clear hK K; try simp only [Act.put, List.setIfInBounds_toArray, List.set_cons_zero, List.set_cons_succ]; try simp only [List.getElem_toArray, List.getElem_cons_succ, List.getElem_cons_zero])
              refine wpAnyH_ready (rs := [7]) (by kernel_rfl) (by simp) ?_
              refine AllReadyH.cons rfl (fun K hK => ?g88) AllReadyH.nil
              case g88 =>
                go_simp
                refine (change_any (nx := n) (h0.ext (ext_trans y2 q86)) hf.1 hfb.1 oI (OwnR.rc oF) hf.2 hfb.2 hgd hGl hsmm hLBl).mono ?_
                rintro e wz90 ⟨ha, xc⟩
                obtain ⟨v1, oV, rfl⟩ := hans e _ ha
                obtain ⟨A1, c1, rfl⟩ := OwnR.shape oV
                have q89 := ext_trans q86 xc
                replace BP := BP.mod xc (fun h => h)
                clear ha xc oI oF
                (go_wp2_with fail; refine hK.out _ _ (hbk q89) (fun hH => ?_); clear hK K; try simp only [Act.put, List.setIfInBounds_toArray, List.set_cons_zero, List.set_cons_succ]; try simp only [List.getElem_toArray, List.getElem_cons_succ, List.getElem_cons_zero])
                (refine wpAnyH_take (i := 8) (oi := ⟨_, _, _, _, _, _⟩) (v := ?tv932) rfl (by kernel_rfl) (by kernel_rfl) (by kernel_rfl) (fun _ _ _ h => h) (Or.inl ⟨by kernel_rfl, ?hy932⟩) hH ?rs932; (case hy932 => (intro wx hSw; (try dsimp only at hSw); go_simp; try with_reducible rfl)); try simp only [Act.put, List.setIfInBounds_toArray, List.set_cons_zero, List.set_cons_succ]; try simp only [List.getElem_toArray, List.getElem_cons_succ, List.getElem_cons_zero])
                (refine wpAnyH_take (i := 9) (oi := ⟨_, _, _, _, _, _⟩) (v := ?tv933) rfl (by kernel_rfl) (by kernel_rfl) (by kernel_rfl) (fun _ _ _ h => h) (Or.inl ⟨by kernel_rfl, ?hy933⟩) hH ?rs933; (case hy933 => (intro wx hSw; (try dsimp only at hSw); go_simp; try with_reducible rfl)); try simp only [Act.put, List.setIfInBounds_toArray, List.set_cons_zero, List.set_cons_succ]; try simp only [List.getElem_toArray, List.getElem_cons_succ, List.getElem_cons_zero])
                (refine wpAnyH_take (i := 10) (oi := ⟨_, _, _, _, _, _⟩) (v := ?tv934) rfl (by kernel_rfl) (by kernel_rfl) (by kernel_rfl) (fun _ _ _ h => h) (Or.inl ⟨by kernel_rfl, ?hy934⟩) hH ?rs934; (case hy934 => (intro wx hSw; (try dsimp only at hSw); go_simp; try with_reducible rfl)); try simp only [Act.put, List.setIfInBounds_toArray, List.set_cons_zero, List.set_cons_succ]; try simp only [List.getElem_toArray, List.getElem_cons_succ, List.getElem_cons_zero])
                have f8 := Blk.frozen BP 0
                have f9 := Blk.frozen BP 1
                have p8 : wz90.cell? ⟨p, 0, none⟩ = some (.int .i64 0) := BP.cell 0
                have p9 : wz90.cell? ⟨p, 1, none⟩ = some (.slice none 0 0) := BP.cell 1
                obtain ⟨v1, v2, v3⟩ := ver_put (nx := N) q89 hpp BP oV
                refine wpAnyH_ready (rs := [12]) (by kernel_rfl) (by simp) ?_
                refine AllReadyH.cons rfl (fun K hK => ?_) AllReadyH.nil
                go_simp
                (go_wp2_with fail; refine hK.out _ _ (hbk v3) (fun hH => ?_); clear hK K; try simp only [Act.put, List.setIfInBounds_toArray, List.set_cons_zero, List.set_cons_succ]; try simp only [List.getElem_toArray, List.getElem_cons_succ, List.getElem_cons_zero])
                (refine wpAnyH_take (i := 13) (oi := ⟨_, _, _, _, _, _⟩) (v := ?tv935) rfl (by kernel_rfl) (by kernel_rfl) (by kernel_rfl) (fun _ _ _ h => h) (Or.inl ⟨by kernel_rfl, ?hy935⟩) hH ?rs935; (case hy935 => (intro wx hSw; (try dsimp only at hSw); go_simp; try with_reducible rfl)); try simp only [Act.put, List.setIfInBounds_toArray, List.set_cons_zero, List.set_cons_succ]; try simp only [List.getElem_toArray, List.getElem_cons_succ, List.getElem_cons_zero])
                refine wpAnyH_done (by kernel_rfl) ?_ _
                go_wp2_with fail
                go_meet
                exact ⟨p, _, rfl, rfl, v1, v2, hpp, v3⟩
      case g8 =>
        replace oI := Own.alloc oI (.cells #[.int .i64 0, .slice none 0 0] 24)
        replace bI := bI.mod ((Mod.refl (fun _ => False) wz5).alloc (.cells #[.int .i64 0, .slice none 0 0] 24)) (fun h => h)
        have BP : Blk (wz5.alloc (.cells #[.int .i64 0, .slice none 0 0] 24)) wz5.heap.size 24 #[.int .i64 0, .slice none 0 0] := Blk.new wz5 24 #[.int .i64 0, .slice none 0 0]
        have hpp : w2.heap.size ≤ wz5.heap.size := q4.size
        have q91 : Ext w2 (wz5.alloc (.cells #[.int .i64 0, .slice none 0 0] 24)) := q4.alloc _
        go_simp
        (go_wp2_with fail; refine hK.out _ _ (hbk q91) (fun hH => ?_); clear hK K; try simp only [Act.put, List.setIfInBounds_toArray, List.set_cons_zero, List.set_cons_succ]; try simp only [List.getElem_toArray, List.getElem_cons_succ, List.getElem_cons_zero])
        generalize (wz5.alloc (.cells #[.int .i64 0, .slice none 0 0] 24)) = wz92 at *
        generalize wz5.heap.size = p at *
        refine wpAnyH_ready (rs := [3, 4]) (by kernel_rfl) (by simp) ?_
        refine AllReadyH.cons rfl (fun K hK => ?g93) (AllReadyH.cons rfl (fun K hK => ?g94) AllReadyH.nil)
        case g93 =>
          refine step_app 27 tyI oI (hg.ext (ext_trans y2 q91)) hone hnI rfl rfl (.tmp 25) (.tmp 26) rfl rfl rfl ?_
          intro vI wz96 ka1 ka2 ka3
          rw [List.nil_append] at ka1
          have q95 := ext_app0 q91 fI ka2
          replace BP := BP.mod ka2 (fun h => Own.ne_blk oI BP (by decide) h)
          clear oI bI ka2 ka3
          have oI := ka1
          clear ka1
          (refine hK.out _ _ (hbk q95) (fun hH => ?_); clear hK K; try simp only [Act.put, List.setIfInBounds_toArray, List.set_cons_zero, List.set_cons_succ]; try simp only [List.getElem_toArray, List.getElem_cons_succ, List.getElem_cons_zero])
          refine wpAnyH_ready (rs := [4]) (by kernel_rfl) (by simp) ?_
          refine AllReadyH.cons rfl (fun K hK => ?g97) AllReadyH.nil
          case g97 =>
            replace oI := Own.alloc oI (.cells #[] 48)
            replace BP := BP.mod ((Mod.refl (fun _ => False) wz96).alloc (.cells #[] 48)) (fun h => h)
            have oF : OwnF (wz96.alloc (.cells #[] 48)) (.slice (some ⟨wz96.heap.size, 0, none⟩) 0 0) [] := OwnR.empty fic 5 wz96 48
            have bF : Blk (wz96.alloc (.cells #[] 48)) wz96.heap.size 48 #[] := Blk.new wz96 48 #[]
            have fF : Fresh w2.heap.size (.slice (some ⟨wz96.heap.size, 0, none⟩) 0 0) := fun k hk => by (have h9 : wz96.heap.size = k := Option.some.inj hk); have h8 := q95.size; omega
            have q98 : Ext w2 (wz96.alloc (.cells #[] 48)) := q95.alloc _
            go_simp
            (go_wp2_with fail; refine hK.out _ _ (hbk q98) (fun hH => ?_); clear hK K; try simp only [Act.put, List.setIfInBounds_toArray, List.set_cons_zero, List.set_cons_succ]; try simp only [List.getElem_toArray, List.getElem_cons_succ, List.getElem_cons_zero])
            generalize (wz96.alloc (.cells #[] 48)) = wz99 at *
            generalize wz96.heap.size = hF at *
            refine wpAnyH_ready (rs := [6]) (by kernel_rfl) (by simp) ?_
            refine AllReadyH.cons rfl (fun K hK => ?g100) AllReadyH.nil
            case g100 =>
              refine step_appRs 30 tyF oF (hb.ext (ext_trans y2 q98)) (fic_all _) hnF rfl rfl (.tmp 28) (.tmp 29) rfl rfl rfl ?_
              intro vF wz102 ka1 ka2 ka3
              rw [List.nil_append] at ka1
              have q101 := ext_app0 q98 fF ka2
              replace oI := Own.mod oI ka2 (fun k hk e => Own.ne_blk oI bF (by decide) (by rw [show hF = k from Option.some.inj e]; exact hk))
              replace BP := BP.mod ka2 (fun h => ownR_ne_blk oF BP (by decide) h rfl)
              clear oF bF ka2 ka3
              have oF := ka1
              clear ka1
              (refine hK.out _ _ (hbk q101) (fun hH => ?_); clear hK K; try simp only [Act.put, List.setIfInBounds_toArray, List.set_cons_zero, List.set_cons_succ]; try simp only [List.getElem_toArray, List.getElem_cons_succ, List.getElem_cons_zero])
              refine wpAnyH_ready (rs := [7]) (by kernel_rfl) (by simp) ?_
              refine AllReadyH.cons rfl (fun K hK => ?g103) AllReadyH.nil
              case g103 =>
                go_simp
                refine (change_any (nx := n) (h0.ext (ext_trans y2 q101)) hf.1 hfb.1 oI (OwnR.rc oF) hf.2 hfb.2 hgd hGl hsmm hLBl).mono ?_
                rintro e wz105 ⟨ha, xc⟩
                obtain ⟨v1, oV, rfl⟩ := hans e _ ha
                obtain ⟨A1, c1, rfl⟩ := OwnR.shape oV
                have q104 := ext_trans q101 xc
                replace BP := BP.mod xc (fun h => h)
                clear ha xc oI oF
                (go_wp2_with fail; refine hK.out _ _ (hbk q104) (fun hH => ?_); clear hK K; try simp only [Act.put, List.setIfInBounds_toArray, List.set_cons_zero, List.set_cons_succ]; try simp only [List.getElem_toArray, List.getElem_cons_succ, List.getElem_cons_zero])
                (refine wpAnyH_take (i := 8) (oi := ⟨_, _, _, _, _, _⟩) (v := ?tv936) rfl (by kernel_rfl) (by kernel_rfl) (by kernel_rfl) (fun _ _ _ h => h) (Or.inl ⟨by kernel_rfl, ?hy936⟩) hH ?rs936; (case hy936 => (intro wx hSw; (try dsimp only at hSw); go_simp; try with_reducible rfl)); try simp only [Act.put, List.setIfInBounds_toArray, List.set_cons_zero, List.set_cons_succ]; try simp only [List.getElem_toArray, List.getElem_cons_succ, List.getElem_cons_zero])
                (refine wpAnyH_take (i := 9) (oi := ⟨_, _, _, _, _, _⟩) (v := ?tv937) rfl (by kernel_rfl) (by kernel_rfl) (by kernel_rfl) (fun _ _ _ h => h) (Or.inl ⟨by kernel_rfl, ?hy937⟩) hH ?rs937; (case hy937 => (intro wx hSw; (try dsimp only at hSw); go_simp; try with_reducible rfl)); try simp only [Act.put, List.setIfInBounds_toArray, List.set_cons_zero, List.set_cons_succ]; try simp only [List.getElem_toArray, List.getElem_cons_succ, List.getElem_cons_zero])
                (refine wpAnyH_take (i := 10) (oi := ⟨_, _, _, _, _, _⟩) (v := ?tv938) rfl (by kernel_rfl) (by kernel_rfl) (by kernel_rfl) (fun _ _ _ h => h) (Or.inl ⟨by kernel_rfl, ?hy938⟩) hH ?rs938; (case hy938 => (intro wx hSw; (try dsimp only at hSw); go_simp; try with_reducible rfl)); try simp only [Act.put, List.setIfInBounds_toArray, List.set_cons_zero, List.set_cons_succ]; try simp only [List.getElem_toArray, List.getElem_cons_succ, List.getElem_cons_zero])
                have f8 := Blk.frozen BP 0
                have f9 := Blk.frozen BP 1
                have p8 : wz105.cell? ⟨p, 0, none⟩ = some (.int .i64 0) := BP.cell 0
                have p9 : wz105.cell? ⟨p, 1, none⟩ = some (.slice none 0 0) := BP.cell 1
                obtain ⟨v1, v2, v3⟩ := ver_put (nx := N) q104 hpp BP oV
                refine wpAnyH_ready (rs := [12]) (by kernel_rfl) (by simp) ?_
                refine AllReadyH.cons rfl (fun K hK => ?_) AllReadyH.nil
                go_simp
                (go_wp2_with fail; refine hK.out _ _ (hbk v3) (fun hH => ?_); clear hK K; try simp only [Act.put, List.setIfInBounds_toArray, List.set_cons_zero, List.set_cons_succ]; try simp only [List.getElem_toArray, List.getElem_cons_succ, List.getElem_cons_zero])
                (refine wpAnyH_take (i := 13) (oi := ⟨_, _, _, _, _, _⟩) (v := ?tv939) rfl (by kernel_rfl) (by kernel_rfl) (by kernel_rfl) (fun _ _ _ h => h) (Or.inl ⟨by kernel_rfl, ?hy939⟩) hH ?rs939; (case hy939 => (intro wx hSw; (try dsimp only at hSw); go_simp; try with_reducible rfl)); try simp only [Act.put, List.setIfInBounds_toArray, List.set_cons_zero, List.set_cons_succ]; try simp only [List.getElem_toArray, List.getElem_cons_succ, List.getElem_cons_zero])
                refine wpAnyH_done (by kernel_rfl) ?_ _
                go_wp2_with fail
                go_meet
                exact ⟨p, _, rfl, rfl, v1, v2, hpp, v3⟩
        case g94 =>
          replace oI := Own.alloc oI (.cells #[] 48)
          replace bI := bI.mod ((Mod.refl (fun _ => False) wz92).alloc (.cells #[] 48)) (fun h => h)
          replace BP := BP.mod ((Mod.refl (fun _ => False) wz92).alloc (.cells #[] 48)) (fun h => h)
          have oF : OwnF (wz92.alloc (.cells #[] 48)) (.slice (some ⟨wz92.heap.size, 0, none⟩) 0 0) [] := OwnR.empty fic 5 wz92 48
          have bF : Blk (wz92.alloc (.cells #[] 48)) wz92.heap.size 48 #[] := Blk.new wz92 48 #[]
          have fF : Fresh w2.heap.size (.slice (some ⟨wz92.heap.size, 0, none⟩) 0 0) := fun k hk => by (have h9 : wz92.heap.size = k := Option.some.inj hk); have h8 := q91.size; omega
          have q106 : Ext w2 (wz92.alloc (.cells #[] 48)) := q91.alloc _
          go_simp
          (go_wp2_with fail; refine hK.out _ _ (hbk q106) (fun hH => ?_); clear hK K; try simp only [Act.put, List.setIfInBounds_toArray, List.set_cons_zero, List.set_cons_succ]; try simp only [List.getElem_toArray, List.getElem_cons_succ, List.getElem_cons_zero])
          generalize (wz92.alloc (.cells #[] 48)) = wz107 at *
          generalize wz92.heap.size = hF at *
          refine wpAnyH_ready (rs := [3]) (by kernel_rfl) (by simp) ?_
          refine AllReadyH.cons rfl (fun K hK => ?g108) AllReadyH.nil
          case g108 =>
            refine step_app 27 tyI oI (hg.ext (ext_trans y2 q106)) hone hnI rfl rfl (.tmp 25) (.tmp 26) rfl rfl rfl ?_
            intro vI wz110 ka1 ka2 ka3
            rw [List.nil_append] at ka1
            have q109 := ext_app0 q106 fI ka2
            replace oF := OwnR.mod oF ka2 (fun k hk e => ownR_ne_blk oF bI (by decide) hk (Option.some.inj e).symm)
            replace bF := bF.mod ka2 (fun h => Own.ne_blk oI bF (by decide) h)
            replace BP := BP.mod ka2 (fun h => Own.ne_blk oI BP (by decide) h)
            clear oI bI ka2 ka3
            have oI := ka1
            clear ka1
            (refine hK.out _ _ (hbk q109) (fun hH => ?_); clear hK K; try simp only [Act.put, List.setIfInBounds_toArray, List.set_cons_zero, List.set_cons_succ]; try simp only [List.getElem_toArray, List.getElem_cons_succ, List.getElem_cons_zero])
            refine wpAnyH_ready (rs := [6]) (by kernel_rfl) (by simp) ?_
            refine AllReadyH.cons rfl (fun K hK => ?g111) AllReadyH.nil
            case g111 =>
              refine step_appRs 30 tyF oF (hb.ext (ext_trans y2 q109)) (fic_all _) hnF rfl rfl (.tmp 28) (.tmp 29) rfl rfl rfl ?_
              intro vF wz113 ka1 ka2 ka3
              rw [List.nil_append] at ka1
              have q112 := ext_app0 q109 fF ka2
              replace oI := Own.mod oI ka2 (fun k hk e => Own.ne_blk oI bF (by decide) (by rw [show hF = k from Option.some.inj e]; exact hk))
              replace BP := BP.mod ka2 (fun h => ownR_ne_blk oF BP (by decide) h rfl)
              clear oF bF ka2 ka3
              have oF := ka1
              clear ka1
              (refine hK.out _ _ (hbk q112) (fun hH => ?_); clear hK K; try simp only [Act.put, List.setIfInBounds_toArray, List.set_cons_zero, List.set_cons_succ]; try simp only [List.getElem_toArray, List.getElem_cons_succ, List.getElem_cons_zero])
              refine wpAnyH_ready (rs := [7]) (by kernel_rfl) (by simp) ?_
              refine AllReadyH.cons rfl (fun K hK => ?g114) AllReadyH.nil
              case g114 =>
                go_simp
                refine (change_any (nx := n) (h0.ext (ext_trans y2 q112)) hf.1 hfb.1 oI (OwnR.rc oF) hf.2 hfb.2 hgd hGl hsmm hLBl).mono ?_
                rintro e wz116 ⟨ha, xc⟩
                obtain ⟨v1, oV, rfl⟩ := hans e _ ha
                obtain ⟨A1, c1, rfl⟩ := OwnR.shape oV
                have q115 := ext_trans q112 xc
                replace BP := BP.mod xc (fun h => h)
                clear ha xc oI oF
                (go_wp2_with fail; refine hK.out _ _ (hbk q115) (fun hH => ?_); clear hK K; try simp only [Act.put, List.setIfInBounds_toArray, List.set_cons_zero, List.set_cons_succ]; try simp only [List.getElem_toArray, List.getElem_cons_succ, List.getElem_cons_zero])
                (refine wpAnyH_take (i := 8) (oi := ⟨_, _, _, _, _, _⟩) (v := ?tv940) rfl (by kernel_rfl) (by kernel_rfl) (by kernel_rfl) (fun _ _ _ h => h) (Or.inl ⟨by kernel_rfl, ?hy940⟩) hH ?rs940; (case hy940 => (intro wx hSw; (try dsimp only at hSw); go_simp; try with_reducible rfl)); try simp only [Act.put, List.setIfInBounds_toArray, List.set_cons_zero, List.set_cons_succ]; try simp only [List.getElem_toArray, List.getElem_cons_succ, List.getElem_cons_zero])
                (refine wpAnyH_take (i := 9) (oi := ⟨_, _, _, _, _, _⟩) (v := ?tv941) rfl (by kernel_rfl) (by kernel_rfl) (by kernel_rfl) (fun _ _ _ h => h) (Or.inl ⟨by kernel_rfl, ?hy941⟩) hH ?rs941; (case hy941 => (intro wx hSw; (try dsimp only at hSw); go_simp; try with_reducible rfl)); try simp only [Act.put, List.setIfInBounds_toArray, List.set_cons_zero, List.set_cons_succ]; try simp only [List.getElem_toArray, List.getElem_cons_succ, List.getElem_cons_zero])
                (refine wpAnyH_take (i := 10) (oi := ⟨_, _, _, _, _, _⟩) (v := ?tv942) rfl (by kernel_rfl) (by kernel_rfl) (by kernel_rfl) (fun _ _ _ h => h) (Or.inl ⟨by kernel_rfl, ?hy942⟩) hH ?rs942; (case hy942 => (intro wx hSw; (try dsimp only at hSw); go_simp; try with_reducible rfl)); try simp only [Act.put, List.setIfInBounds_toArray, List.set_cons_zero, List.set_cons_succ]; try simp only [List.getElem_toArray, List.getElem_cons_succ, List.getElem_cons_zero])
                have f8 := Blk.frozen BP 0
                have f9 := Blk.frozen BP 1
                have p8 : wz116.cell? ⟨p, 0, none⟩ = some (.int .i64 0) := BP.cell 0
                have p9 : wz116.cell? ⟨p, 1, none⟩ = some (.slice none 0 0) := BP.cell 1
                obtain ⟨v1, v2, v3⟩ := ver_put (nx := N) q115 hpp BP oV
                refine wpAnyH_ready (rs := [12]) (by kernel_rfl) (by simp) ?_
                refine AllReadyH.cons rfl (fun K hK => ?_) AllReadyH.nil
                go_simp
                (go_wp2_with fail; refine hK.out _ _ (hbk v3) (fun hH => ?_); clear hK K; try simp only [Act.put, List.setIfInBounds_toArray, List.set_cons_zero, List.set_cons_succ]; try simp only [List.getElem_toArray, List.getElem_cons_succ, List.getElem_cons_zero])
                (refine wpAnyH_take (i := 13) (oi := ⟨_, _, _, _, _, _⟩) (v := ?tv943) rfl (by kernel_rfl) (by kernel_rfl) (by kernel_rfl) (fun _ _ _ h => h) (Or.inl ⟨by kernel_rfl, ?hy943⟩) hH ?rs943; (case hy943 => (intro wx hSw; (try dsimp only at hSw); go_simp; try with_reducible rfl)); try simp only [Act.put, List.setIfInBounds_toArray, List.set_cons_zero, List.set_cons_succ]; try simp only [List.getElem_toArray, List.getElem_cons_succ, List.getElem_cons_zero])
                refine wpAnyH_done (by kernel_rfl) ?_ _
                go_wp2_with fail
                go_meet
                exact ⟨p, _, rfl, rfl, v1, v2, hpp, v3⟩
    case g2 =>
      have oF : OwnF (wD.alloc (.cells #[] 48)) (.slice (some ⟨wD.heap.size, 0, none⟩) 0 0) [] := OwnR.empty fic 5 wD 48
      have bF : Blk (wD.alloc (.cells #[] 48)) wD.heap.size 48 #[] := Blk.new wD 48 #[]
      have fF : Fresh w2.heap.size (.slice (some ⟨wD.heap.size, 0, none⟩) 0 0) := fun k hk => by (have h9 : wD.heap.size = k := Option.some.inj hk); have h8 := r0.size; omega
      have q117 : Ext w2 (wD.alloc (.cells #[] 48)) := r0.alloc _
      go_simp
      (go_wp2_with fail; refine hK.out _ _ (hbk q117) (fun hH => ?_); clear hK K; try simp only [Act.put, List.setIfInBounds_toArray, List.set_cons_zero, List.set_cons_succ]; try simp only [List.getElem_toArray, List.getElem_cons_succ, List.getElem_cons_zero])
      generalize (wD.alloc (.cells #[] 48)) = wz118 at *
      generalize wD.heap.size = hF at *
      refine wpAnyH_ready (rs := [1, 11]) (by kernel_rfl) (by simp) ?_
      refine AllReadyH.cons rfl (fun K hK => ?g119) (AllReadyH.cons rfl (fun K hK => ?g120) AllReadyH.nil)
      case g119 =>
        replace oF := OwnR.alloc oF (.cells #[] 3)
        replace bF := bF.mod ((Mod.refl (fun _ => False) wz118).alloc (.cells #[] 3)) (fun h => h)
        have oI : Own (wz118.alloc (.cells #[] 3)) 3 (.slice (some ⟨wz118.heap.size, 0, none⟩) 0 0) [] := Own.empty wz118 _
        have bI : Blk (wz118.alloc (.cells #[] 3)) wz118.heap.size 3 #[] := Blk.new wz118 3 #[]
        have fI : Fresh w2.heap.size (.slice (some ⟨wz118.heap.size, 0, none⟩) 0 0) := fun k hk => by (have h9 : wz118.heap.size = k := Option.some.inj hk); have h8 := q117.size; omega
        have q121 : Ext w2 (wz118.alloc (.cells #[] 3)) := q117.alloc _
        go_simp
        (go_wp2_with fail; refine hK.out _ _ (hbk q121) (fun hH => ?_); clear hK K; try simp only [Act.put, List.setIfInBounds_toArray, List.set_cons_zero, List.set_cons_succ]; try simp only [List.getElem_toArray, List.getElem_cons_succ, List.getElem_cons_zero])
        generalize (wz118.alloc (.cells #[] 3)) = wz122 at *
        generalize wz118.heap.size = hI at *
        refine wpAnyH_ready (rs := [3, 11]) (by kernel_rfl) (by simp) ?_
        refine AllReadyH.cons rfl (fun K hK => ?g123) (AllReadyH.cons rfl (fun K hK => ?g124) AllReadyH.nil)
        case g123 =>
          refine step_app 27 tyI oI (hg.ext (ext_trans y2 q121)) hone hnI rfl rfl (.tmp 25) (.tmp 26) rfl rfl rfl ?_
          intro vI wz126 ka1 ka2 ka3
          rw [List.nil_append] at ka1
          have q125 := ext_app0 q121 fI ka2
          replace oF := OwnR.mod oF ka2 (fun k hk e => ownR_ne_blk oF bI (by decide) hk (Option.some.inj e).symm)
          replace bF := bF.mod ka2 (fun h => Own.ne_blk oI bF (by decide) h)
          clear oI bI ka2 ka3
          have oI := ka1
          clear ka1
          (refine hK.out _ _ (hbk q125) (fun hH => ?_); clear hK K; try simp only [Act.put, List.setIfInBounds_toArray, List.set_cons_zero, List.set_cons_succ]; try simp only [List.getElem_toArray, List.getElem_cons_succ, List.getElem_cons_zero])
          refine wpAnyH_ready (rs := [6, 11]) (by kernel_rfl) (by simp) ?_
          refine AllReadyH.cons rfl (fun K hK => ?g127) (AllReadyH.cons rfl (fun K hK => ?g128) AllReadyH.nil)
          case g127 =>
            refine step_appRs 30 tyF oF (hb.ext (ext_trans y2 q125)) (fic_all _) hnF rfl rfl (.tmp 28) (.tmp 29) rfl rfl rfl ?_
            intro vF wz130 ka1 ka2 ka3
            rw [List.nil_append] at ka1
            have q129 := ext_app0 q125 fF ka2
            replace oI := Own.mod oI ka2 (fun k hk e => Own.ne_blk oI bF (by decide) (by rw [show hF = k from Option.some.inj e]; exact hk))
            clear oF bF ka2 ka3
            have oF := ka1
            clear ka1
            (refine hK.out _ _ (hbk q129) (fun hH => ?_); clear hK K; try simp only [Act.put, List.setIfInBounds_toArray, List.set_cons_zero, List.set_cons_succ]; try simp only [List.getElem_toArray, List.getElem_cons_succ, List.getElem_cons_zero])
            refine wpAnyH_ready (rs := [7, 11]) (by kernel_rfl) (by simp) ?_
            refine AllReadyH.cons rfl (fun K hK => ?g131) (AllReadyH.cons rfl (fun K hK => ?g132) AllReadyH.nil)
            case g131 =>
              go_simp
              refine (change_any (nx := n) (h0.ext (ext_trans y2 q129)) hf.1 hfb.1 oI (OwnR.rc oF) hf.2 hfb.2 hgd hGl hsmm hLBl).mono ?_
              rintro e wz134 ⟨ha, xc⟩
              obtain ⟨v1, oV, rfl⟩ := hans e _ ha
              obtain ⟨A1, c1, rfl⟩ := OwnR.shape oV
              have q133 := ext_trans q129 xc
              clear ha xc oI oF
              (go_wp2_with fail; refine hK.out _ _ (hbk q133) (fun hH => ?_); clear hK K; try simp only [Act.put, List.setIfInBounds_toArray, List.set_cons_zero, List.set_cons_succ]; try simp only [List.getElem_toArray, List.getElem_cons_succ, List.getElem_cons_zero])
              (refine wpAnyH_take (i := 8) (oi := ⟨_, _, _, _, _, _⟩) (v := ?tv944) rfl (by kernel_rfl) (by kernel_rfl) (by kernel_rfl) (fun _ _ _ h => h) (Or.inl ⟨by kernel_rfl, ?hy944⟩) hH ?rs944; (case hy944 => (intro wx hSw; (try dsimp only at hSw); go_simp; try with_reducible rfl)); try simp only [Act.put, List.setIfInBounds_toArray, List.set_cons_zero, List.set_cons_succ]; try simp only [List.getElem_toArray, List.getElem_cons_succ, List.getElem_cons_zero])
              (refine wpAnyH_take (i := 9) (oi := ⟨_, _, _, _, _, _⟩) (v := ?tv945) rfl (by kernel_rfl) (by kernel_rfl) (by kernel_rfl) (fun _ _ _ h => h) (Or.inl ⟨by kernel_rfl, ?hy945⟩) hH ?rs945; (case hy945 => (intro wx hSw; (try dsimp only at hSw); go_simp; try with_reducible rfl)); try simp only [Act.put, List.setIfInBounds_toArray, List.set_cons_zero, List.set_cons_succ]; try simp only [List.getElem_toArray, List.getElem_cons_succ, List.getElem_cons_zero])
              (refine wpAnyH_take (i := 10) (oi := ⟨_, _, _, _, _, _⟩) (v := ?tv946) rfl (by kernel_rfl) (by kernel_rfl) (by kernel_rfl) (fun _ _ _ h => h) (Or.inl ⟨by kernel_rfl, ?hy946⟩) hH ?rs946; (case hy946 => (intro wx hSw; (try dsimp only at hSw); go_simp; try with_reducible rfl)); try simp only [Act.put, List.setIfInBounds_toArray, List.set_cons_zero, List.set_cons_succ]; try simp only [List.getElem_toArray, List.getElem_cons_succ, List.getElem_cons_zero])
              refine wpAnyH_ready (rs := [11]) (by kernel_rfl) (by simp) ?_
              refine AllReadyH.cons rfl (fun K hK => ?g135) AllReadyH.nil
              case g135 =>
                replace oV := OwnR.alloc oV (.cells #[.int .i64 0, .slice none 0 0] 24)
                have BP : Blk (wz134.alloc (.cells #[.int .i64 0, .slice none 0 0] 24)) wz134.heap.size 24 #[.int .i64 0, .slice none 0 0] := Blk.new wz134 24 #[.int .i64 0, .slice none 0 0]
                have hpp : w2.heap.size ≤ wz134.heap.size := q133.size
                have q136 : Ext w2 (wz134.alloc (.cells #[.int .i64 0, .slice none 0 0] 24)) := q133.alloc _
                go_simp
                (go_wp2_with fail; refine hK.out _ _ (hbk q136) (fun hH => ?_); clear hK K; try simp only [Act.put, List.setIfInBounds_toArray, List.set_cons_zero, List.set_cons_succ]; try simp only [List.getElem_toArray, List.getElem_cons_succ, List.getElem_cons_zero])
                generalize (wz134.alloc (.cells #[.int .i64 0, .slice none 0 0] 24)) = wz137 at *
                generalize wz134.heap.size = p at *
                have f8 := Blk.frozen BP 0
                have f9 := Blk.frozen BP 1
                have p8 : wz137.cell? ⟨p, 0, none⟩ = some (.int .i64 0) := BP.cell 0
                have p9 : wz137.cell? ⟨p, 1, none⟩ = some (.slice none 0 0) := BP.cell 1
                obtain ⟨v1, v2, v3⟩ := ver_put (nx := N) q136 hpp BP oV
                refine wpAnyH_ready (rs := [12]) (by kernel_rfl) (by simp) ?_
                refine AllReadyH.cons rfl (fun K hK => ?_) AllReadyH.nil
                go_simp
                (go_wp2_with fail; refine hK.out _ _ (hbk v3) (fun hH => ?_); clear hK K; try simp only [Act.put, List.setIfInBounds_toArray, List.set_cons_zero, List.set_cons_succ]; try simp only [List.getElem_toArray, List.getElem_cons_succ, List.getElem_cons_zero])
                (refine wpAnyH_take (i := 13) (oi := ⟨_, _, _, _, _, _⟩) (v := ?tv947) rfl (by kernel_rfl) (by kernel_rfl) (by kernel_rfl) (fun _ _ _ h => h) (Or.inl ⟨by kernel_rfl, ?hy947⟩) hH ?rs947; (case hy947 => (intro wx hSw; (try dsimp only at hSw); go_simp; try with_reducible rfl)); try simp only [Act.put, List.setIfInBounds_toArray, List.set_cons_zero, List.set_cons_succ]; try simp only [List.getElem_toArray, List.getElem_cons_succ, List.getElem_cons_zero])
                refine wpAnyH_done (by kernel_rfl) ?_ _
                go_wp2_with fail
                go_meet
                exact ⟨p, _, rfl, rfl, v1, v2, hpp, v3⟩
            case g132 =>
              replace oI := Own.alloc oI (.cells #[.int .i64 0, .slice none 0 0] 24)
              replace oF := OwnR.alloc oF (.cells #[.int .i64 0, .slice none 0 0] 24)
              have BP : Blk (wz130.alloc (.cells #[.int .i64 0, .slice none 0 0] 24)) wz130.heap.size 24 #[.int .i64 0, .slice none 0 0] := Blk.new wz130 24 #[.int .i64 0, .slice none 0 0]
              have hpp : w2.heap.size ≤ wz130.heap.size := q129.size
              have q138 : Ext w2 (wz130.alloc (.cells #[.int .i64 0, .slice none 0 0] 24)) := q129.alloc _
              go_simp
              (go_wp2_with fail; refine hK.out _ _ (hbk q138) (fun hH => ?_); clear hK K; try simp only [Act.put, List.setIfInBounds_toArray, List.set_cons_zero, List.set_cons_succ]; try simp only [List.getElem_toArray, List.getElem_cons_succ, List.getElem_cons_zero])
              generalize (wz130.alloc (.cells #[.int .i64 0, .slice none 0 0] 24)) = wz139 at *
              generalize wz130.heap.size = p at *
              refine wpAnyH_ready (rs := [7]) (by kernel_rfl) (by simp) ?_
              refine AllReadyH.cons rfl (fun K hK => ?g140) AllReadyH.nil
              case g140 =>
                go_simp
                refine (change_any (nx := n) (h0.ext (ext_trans y2 q138)) hf.1 hfb.1 oI (OwnR.rc oF) hf.2 hfb.2 hgd hGl hsmm hLBl).mono ?_
                rintro e wz142 ⟨ha, xc⟩
                obtain ⟨v1, oV, rfl⟩ := hans e _ ha
                obtain ⟨A1, c1, rfl⟩ := OwnR.shape oV
                have q141 := ext_trans q138 xc
                replace BP := BP.mod xc (fun h => h)
                clear ha xc oI oF
                (go_wp2_with fail; refine hK.out _ _ (hbk q141) (fun hH => ?_); clear hK K; try simp only [Act.put, List.setIfInBounds_toArray, List.set_cons_zero, List.set_cons_succ]; try simp only [List.getElem_toArray, List.getElem_cons_succ, List.getElem_cons_zero])
                (refine wpAnyH_take (i := 8) (oi := ⟨_, _, _, _, _, _⟩) (v := ?tv948) rfl (by kernel_rfl) (by kernel_rfl) (by kernel_rfl) (fun _ _ _ h => h) (Or.inl ⟨by kernel_rfl, ?hy948⟩) hH ?rs948; (case hy948 => (intro wx hSw; (try dsimp only at hSw); go_simp; try with_reducible rfl)); try simp only [Act.put, List.setIfInBounds_toArray, List.set_cons_zero, List.set_cons_succ]; try simp only [List.getElem_toArray, List.getElem_cons_succ, List.getElem_cons_zero])
                (refine wpAnyH_take (i := 9) (oi := ⟨_, _, _, _, _, _⟩) (v := ?tv949) rfl (by kernel_rfl) (by kernel_rfl) (by kernel_rfl) (fun _ _ _ h => h) (Or.inl ⟨by kernel_rfl, ?hy949⟩) hH ?rs949; (case hy949 => (intro wx hSw; (try dsimp only at hSw); go_simp; try with_reducible rfl)); try simp only [Act.put, List.setIfInBounds_toArray, List.set_cons_zero, List.set_cons_succ]; try simp only [List.getElem_toArray, List.getElem_cons_succ, List.getElem_cons_zero])
                (refine wpAnyH_take (i := 10) (oi := ⟨_, _, _, _, _, _⟩) (v := ?tv950) rfl (by kernel_rfl) (by kernel_rfl) (by kernel_rfl) (fun _ _ _ h => h) (Or.inl ⟨by kernel_rfl, ?hy950⟩) hH ?rs950; (case hy950 => (intro wx hSw; (try dsimp only at hSw); go_simp; try with_reducible rfl)); try simp only [Act.put, List.setIfInBounds_toArray, List.set_cons_zero, List.set_cons_succ]; try simp only [List.getElem_toArray, List.getElem_cons_succ, List.getElem_cons_zero])
                have f8 := Blk.frozen BP 0
                have f9 := Blk.frozen BP 1
                have p8 : wz142.cell? ⟨p, 0, none⟩ = some (.int .i64 0) := BP.cell 0
                have p9 : wz142.cell? ⟨p, 1, none⟩ = some (.slice none 0 0) := BP.cell 1
                obtain ⟨v1, v2, v3⟩ := ver_put (nx := N) q141 hpp BP oV
                refine wpAnyH_ready (rs := [12]) (by kernel_rfl) (by simp) ?_
                refine AllReadyH.cons rfl (fun K hK => ?_) AllReadyH.nil
                go_simp
                (go_wp2_with fail; refine hK.out _ _ (hbk v3) (fun hH => ?_); clear hK K; try simp only [Act.put, List.setIfInBounds_toArray, List.set_cons_zero, List.set_cons_succ]; try simp only [List.getElem_toArray, List.getElem_cons_succ, List.getElem_cons_zero])
                (refine wpAnyH_take (i := 13) (oi := ⟨_, _, _, _, _, _⟩) (v := ?tv951) rfl (by kernel_rfl) (by kernel_rfl) (by kernel_rfl) (fun _ _ _ h => h) (Or.inl ⟨by kernel_rfl, ?hy951⟩) hH ?rs951; (case hy951 => (intro wx hSw; (try dsimp only at hSw); go_simp; try with_reducible rfl)); try simp only [Act.put, List.setIfInBounds_toArray, List.set_cons_zero, List.set_cons_succ]; try simp only [List.getElem_toArray, List.getElem_cons_succ, List.getElem_cons_zero])
                refine wpAnyH_done (by kernel_rfl) ?_ _
                go_wp2_with fail
                go_meet
                exact ⟨p, _, rfl, rfl, v1, v2, hpp, v3⟩
          case g128 =>
            replace oI := Own.alloc oI (.cells #[.int .i64 0, .slice none 0 0] 24)
            replace oF := OwnR.alloc oF (.cells #[.int .i64 0, .slice none 0 0] 24)
            replace bF := bF.mod ((Mod.refl (fun _ => False) wz126).alloc (.cells #[.int .i64 0, .slice none 0 0] 24)) (fun h => h)
            have BP : Blk (wz126.alloc (.cells #[.int .i64 0, .slice none 0 0] 24)) wz126.heap.size 24 #[.int .i64 0, .slice none 0 0] := Blk.new wz126 24 #[.int .i64 0, .slice none 0 0]
            have hpp : w2.heap.size ≤ wz126.heap.size := q125.size
            have q143 : Ext w2 (wz126.alloc (.cells #[.int .i64 0, .slice none 0 0] 24)) := q125.alloc _
            go_simp
            (go_wp2_with fail; refine hK.out _ _ (hbk q143) (fun hH => ?_); clear hK K; try simp only [Act.put, List.setIfInBounds_toArray, List.set_cons_zero, List.set_cons_succ]; try simp only [List.getElem_toArray, List.getElem_cons_succ, List.getElem_cons_zero])
            generalize (wz126.alloc (.cells #[.int .i64 0, .slice none 0 0] 24)) = wz144 at *
            generalize wz126.heap.size = p at *
            refine wpAnyH_ready (rs := [6]) (by kernel_rfl) (by simp) ?_
            refine AllReadyH.cons rfl (fun K hK => ?g145) AllReadyH.nil
            case g145 =>
              refine step_appRs 30 tyF oF (hb.ext (ext_trans y2 q143)) (fic_all _) hnF rfl rfl (.tmp 28) (.tmp 29) rfl rfl rfl ?_
              intro vF wz147 ka1 ka2 ka3
              rw [List.nil_append] at ka1
              have q146 := ext_app0 q143 fF ka2
              replace oI := Own.mod oI ka2 (fun k hk e => Own.ne_blk oI bF (by decide) (by rw [show hF = k from Option.some.inj e]; exact hk))
              replace BP := BP.mod ka2 (fun h => ownR_ne_blk oF BP (by decide) h rfl)
              clear oF bF ka2 ka3
              have oF := ka1
              clear ka1
              (refine hK.out _ _ (hbk q146) (fun hH => ?_); clear hK K; try simp only [Act.put, List.setIfInBounds_toArray, List.set_cons_zero, List.set_cons_succ]; try simp only [List.getElem_toArray, List.getElem_cons_succ, List.getElem_cons_zero])
              refine wpAnyH_ready (rs := [7]) (by kernel_rfl) (by simp) ?_
              refine AllReadyH.cons rfl (fun K hK => ?g148) AllReadyH.nil
              case g148 =>
                go_simp
                refine (change_any (nx := n) (h0.ext (ext_trans y2 q146)) hf.1 hfb.1 oI (OwnR.rc oF) hf.2 hfb.2 hgd hGl hsmm hLBl).mono ?_
                rintro e wz150 ⟨ha, xc⟩
                obtain ⟨v1, oV, rfl⟩ := hans e _ ha
                obtain ⟨A1, c1, rfl⟩ := OwnR.shape oV
                have q149 := ext_trans q146 xc
                replace BP := BP.mod xc (fun h => h)
                clear ha xc oI oF
                (go_wp2_with fail; refine hK.out _ _ (hbk q149) (fun hH => ?_); clear hK K; try simp only [Act.put, List.setIfInBounds_toArray, List.set_cons_zero, List.set_cons_succ]; try simp only [List.getElem_toArray, List.getElem_cons_succ, List.getElem_cons_zero])
                (refine wpAnyH_take (i := 8) (oi := ⟨_, _, _, _, _, _⟩) (v := ?tv952) rfl (by kernel_rfl) (by kernel_rfl) (by kernel_rfl) (fun _ _ _ h => h) (Or.inl ⟨by kernel_rfl, ?hy952⟩) hH ?rs952; (case hy952 => (intro wx hSw; (try dsimp only at hSw); go_simp; try with_reducible rfl)); try simp only [Act.put, List.setIfInBounds_toArray, List.set_cons_zero, List.set_cons_succ]; try simp only [List.getElem_toArray, List.getElem_cons_succ, List.getElem_cons_zero])
                (refine wpAnyH_take (i := 9) (oi := ⟨_, _, _, _, _, _⟩) (v := ?tv953) rfl (by kernel_rfl) (by kernel_rfl) (by kernel_rfl) (fun _ _ _ h => h) (Or.inl ⟨by kernel_rfl, ?hy953⟩) hH ?rs953; (case hy953 => (intro wx hSw; (try dsimp only at hSw); go_simp; try with_reducible rfl)); try simp only [Act.put, List.setIfInBounds_toArray, List.set_cons_zero, List.set_cons_succ]; try simp only [List.getElem_toArray, List.getElem_cons_succ, List.getElem_cons_zero])
                (refine wpAnyH_take (i := 10) (oi := ⟨_, _, _, _, _, _⟩) (v := ?tv954) rfl (by kernel_rfl) (by kernel_rfl) (by kernel_rfl) (fun _ _ _ h => h) (Or.inl ⟨by kernel_rfl, ?hy954⟩) hH ?rs954; (case hy954 => (intro wx hSw; (try dsimp only at hSw); go_simp; try with_reducible rfl)); try simp only [Act.put, List.setIfInBounds_toArray, List.set_cons_zero, List.set_cons_succ]; try simp only [List.getElem_toArray, List.getElem_cons_succ, List.getElem_cons_zero])
                have f8 := Blk.frozen BP 0
                have f9 := Blk.frozen BP 1
                have p8 : wz150.cell? ⟨p, 0, none⟩ = some (.int .i64 0) := BP.cell 0
                have p9 : wz150.cell? ⟨p, 1, none⟩ = some (.slice none 0 0) := BP.cell 1
                obtain ⟨v1, v2, v3⟩ := ver_put (nx := N) q149 hpp BP oV
                refine wpAnyH_ready (rs := [12]) (by kernel_rfl) (by simp) ?_
                refine AllReadyH.cons rfl (fun K hK => ?_) AllReadyH.nil
                go_simp
                (go_wp2_with fail; refine hK.out _ _ (hbk v3) (fun hH => ?_); clear hK K; try simp only [Act.put, List.setIfInBounds_toArray, List.set_cons_zero, List.set_cons_succ]; try simp only [List.getElem_toArray, List.getElem_cons_succ, List.getElem_cons_zero])
                (refine wpAnyH_take (i := 13) (oi := ⟨_, _, _, _, _, _⟩) (v := ?tv955) rfl (by kernel_rfl) (by kernel_rfl) (by kernel_rfl) (fun _ _ _ h => h) (Or.inl ⟨by kernel_rfl, ?hy955⟩) hH ?rs955; (case hy955 => (intro wx hSw; (try dsimp only at hSw); go_simp; try with_reducible rfl)); try simp only [Act.put, List.setIfInBounds_toArray, List.set_cons_zero, List.set_cons_succ]; try simp only [List.getElem_toArray, List.getElem_cons_succ, List.getElem_cons_zero])
                refine wpAnyH_done (by kernel_rfl) ?_ _
                go_wp2_with fail
                go_meet
                exact ⟨p, _, rfl, rfl, v1, v2, hpp, v3⟩
        case g124 =>
          replace oI := Own.alloc oI (.cells #[.int .i64 0, .slice none 0 0] 24)
          replace bI := bI.mod ((Mod.refl (fun _ => False) wz122).alloc (.cells #[.int .i64 0, .slice none 0 0] 24)) (fun h => h)
          replace oF := OwnR.alloc oF (.cells #[.int .i64 0, .slice none 0 0] 24)
          replace bF := bF.mod ((Mod.refl (fun _ => False) wz122).alloc (.cells #[.int .i64 0, .slice none 0 0] 24)) (fun h => h)
          have BP : Blk (wz122.alloc (.cells #[.int .i64 0, .slice none 0 0] 24)) wz122.heap.size 24 #[.int .i64 0, .slice none 0 0] := Blk.new wz122 24 #[.int .i64 0, .slice none 0 0]
          have hpp : w2.heap.size ≤ wz122.heap.size := q121.size
          have q151 : Ext w2 (wz122.alloc (.cells #[.int .i64 0, .slice none 0 0] 24)) := q121.alloc _
          go_simp
          (go_wp2_with fail; refine hK.out _ _ (hbk q151) (fun hH => ?_); clear hK K; try simp only [Act.put, List.setIfInBounds_toArray, List.set_cons_zero, List.set_cons_succ]; try simp only [List.getElem_toArray, List.getElem_cons_succ, List.getElem_cons_zero])
          generalize (wz122.alloc (.cells #[.int .i64 0, .slice none 0 0] 24)) = wz152 at *
          generalize wz122.heap.size = p at *
          refine wpAnyH_ready (rs := [3]) (by kernel_rfl) (by simp) ?_
          refine AllReadyH.cons rfl (fun K hK => ?g153) AllReadyH.nil
          case g153 =>
            refine step_app 27 tyI oI (hg.ext (ext_trans y2 q151)) hone hnI rfl rfl (.tmp 25) (.tmp 26) rfl rfl rfl ?_
            intro vI wz155 ka1 ka2 ka3
            rw [List.nil_append] at ka1
            have q154 := ext_app0 q151 fI ka2
            replace oF := OwnR.mod oF ka2 (fun k hk e => ownR_ne_blk oF bI (by decide) hk (Option.some.inj e).symm)
            replace bF := bF.mod ka2 (fun h => Own.ne_blk oI bF (by decide) h)
            replace BP := BP.mod ka2 (fun h => Own.ne_blk oI BP (by decide) h)
            clear oI bI ka2 ka3
            have oI := ka1
            clear ka1
            (refine hK.out _ _ (hbk q154) (fun hH => ?_); clear hK K; try simp only [Act.put, List.setIfInBounds_toArray, List.set_cons_zero, List.set_cons_succ]; try simp only [List.getElem_toArray, List.getElem_cons_succ, List.getElem_cons_zero])
            refine wpAnyH_ready (rs := [6]) (by kernel_rfl) (by simp) ?_
            refine AllReadyH.cons rfl (fun K hK => ?g156) AllReadyH.nil
            case g156 =>
              refine step_appRs 30 tyF oF (hb.ext (ext_trans y2 q154)) (fic_all _) hnF rfl rfl (.tmp 28) (.tmp 29) rfl rfl rfl ?_
              intro vF wz158 ka1 ka2 ka3
              rw [List.nil_append] at ka1
              have q157 := ext_app0 q154 fF ka2
              replace oI := Own.mod oI ka2 (fun k hk e => Own.ne_blk oI bF (by decide) (by rw [show hF = k from Option.some.inj e]; exact hk))
              replace BP := BP.mod ka2 (fun h => ownR_ne_blk oF BP (by decide) h rfl)
              clear oF bF ka2 ka3
              have oF := ka1
              clear ka1
              (refine hK.out _ _ (hbk q157) (fun hH => ?_); clear hK K; try simp only [Act.put, List.setIfInBounds_toArray, List.set_cons_zero, List.set_cons_succ]; try simp only [List.getElem_toArray, List.getElem_cons_succ, List.getElem_cons_zero])
              refine wpAnyH_ready (rs := [7]) (by kernel_rfl) (by simp) ?_
              refine AllReadyH.cons rfl (fun K hK => ?g159) AllReadyH.nil
              case g159 =>
                go_simp
                refine (change_any (nx := n) (h0.ext (ext_trans y2 q157)) hf.1 hfb.1 oI (OwnR.rc oF) hf.2 hfb.2 hgd hGl hsmm hLBl).mono ?_
                rintro e wz161 ⟨ha, xc⟩
                obtain ⟨v1, oV, rfl⟩ := hans e _ ha
                obtain ⟨A1, c1, rfl⟩ := OwnR.shape oV
                have q160 := ext_trans q157 xc
                replace BP := BP.mod xc (fun h => h)
                clear ha xc oI oF
                (go_wp2_with fail; refine hK.out _ _ (hbk q160) (fun hH => ?_); clear hK K; try simp only [Act.put, List.setIfInBounds_toArray, List.set_cons_zero, List.set_cons_succ]; try simp only [List.getElem_toArray, List.getElem_cons_succ, List.getElem_cons_zero])
                (refine wpAnyH_take (i := 8) (oi := ⟨_, _, _, _, _, _⟩) (v := ?tv956) rfl (by kernel_rfl) (by kernel_rfl) (by kernel_rfl) (fun _ _ _ h => h) (Or.inl ⟨by kernel_rfl, ?hy956⟩) hH ?rs956; (case hy956 => (intro wx hSw; (try dsimp only at hSw); go_simp; try with_reducible rfl)); try simp only [Act.put, List.setIfInBounds_toArray, List.set_cons_zero, List.set_cons_succ]; try simp only [List.getElem_toArray, List.getElem_cons_succ, List.getElem_cons_zero])
                (refine wpAnyH_take (i := 9) (oi := ⟨_, _, _, _, _, _⟩) (v := ?tv957) rfl (by kernel_rfl) (by kernel_rfl) (by kernel_rfl) (fun _ _ _ h => h) (Or.inl ⟨by kernel_rfl, ?hy957⟩) hH ?rs957; (case hy957 => (intro wx hSw; (try dsimp only at hSw); go_simp; try with_reducible rfl)); try simp only [Act.put, List.setIfInBounds_toArray, List.set_cons_zero, List.set_cons_succ]; try simp only [List.getElem_toArray, List.getElem_cons_succ, List.getElem_cons_zero])
                (refine wpAnyH_take (i := 10) (oi := ⟨_, _, _, _, _, _⟩) (v := ?tv958) rfl (by kernel_rfl) (by kernel_rfl) (by kernel_rfl) (fun _ _ _ h => h) (Or.inl ⟨by kernel_rfl, ?hy958⟩) hH ?rs958; (case hy958 => (intro wx hSw; (try dsimp only at hSw); go_simp; try with_reducible rfl)); try simp only [Act.put, List.setIfInBounds_toArray, List.set_cons_zero, List.set_cons_succ]; try simp only [List.getElem_toArray, List.getElem_cons_succ, List.getElem_cons_zero])
                have f8 := Blk.frozen BP 0
                have f9 := Blk.frozen BP 1
                have p8 : wz161.cell? ⟨p, 0, none⟩ = some (.int .i64 0) := BP.cell 0
                have p9 : wz161.cell? ⟨p, 1, none⟩ = some (.slice none 0 0) := BP.cell 1
                obtain ⟨v1, v2, v3⟩ := ver_put (nx := N) q160 hpp BP oV
                refine wpAnyH_ready (rs := [12]) (by kernel_rfl) (by simp) ?_
                refine AllReadyH.cons rfl (fun K hK => ?_) AllReadyH.nil
                go_simp
                (go_wp2_with fail; refine hK.out _ _ (hbk v3) (fun hH => ?_); clear hK K; try simp only [Act.put, List.setIfInBounds_toArray, List.set_cons_zero, List.set_cons_succ]; try simp only [List.getElem_toArray, List.getElem_cons_succ, List.getElem_cons_zero])
                (refine wpAnyH_take (i := 13) (oi := ⟨_, _, _, _, _, _⟩) (v := ?tv959) rfl (by kernel_rfl) (by kernel_rfl) (by kernel_rfl) (fun _ _ _ h => h) (Or.inl ⟨by kernel_rfl, ?hy959⟩) hH ?rs959; (case hy959 => (intro wx hSw; (try dsimp only at hSw); go_simp; try with_reducible rfl)); try simp only [Act.put, List.setIfInBounds_toArray, List.set_cons_zero, List.set_cons_succ]; try simp only [List.getElem_toArray, List.getElem_cons_succ, List.getElem_cons_zero])
                refine wpAnyH_done (by kernel_rfl) ?_ _
                go_wp2_with fail
                go_meet
                exact ⟨p, _, rfl, rfl, v1, v2, hpp, v3⟩
      case g120 =>
        replace oF := OwnR.alloc oF (.cells #[.int .i64 0, .slice none 0 0] 24)
        replace bF := bF.mod ((Mod.refl (fun _ => False) wz118).alloc (.cells #[.int .i64 0, .slice none 0 0] 24)) (fun h => h)
        have BP : Blk (wz118.alloc (.cells #[.int .i64 0, .slice none 0 0] 24)) wz118.heap.size 24 #[.int .i64 0, .slice none 0 0] := Blk.new wz118 24 #[.int .i64 0, .slice none 0 0]
        have hpp : w2.heap.size ≤ wz118.heap.size := q117.size
        have q162 : Ext w2 (wz118.alloc (.cells #[.int .i64 0, .slice none 0 0] 24)) := q117.alloc _
        go_simp
        (go_wp2_with fail; refine hK.out _ _ (hbk q162) (fun hH => ?_); clear hK K; try simp only [Act.put, List.setIfInBounds_toArray, List.set_cons_zero, List.set_cons_succ]; try simp only [List.getElem_toArray, List.getElem_cons_succ, List.getElem_cons_zero])
        generalize (wz118.alloc (.cells #[.int .i64 0, .slice none 0 0] 24)) = wz163 at *
        generalize wz118.heap.size = p at *
        refine wpAnyH_ready (rs := [1]) (by kernel_rfl) (by simp) ?_
        refine AllReadyH.cons rfl (fun K hK => ?g164) AllReadyH.nil
        case g164 =>
          replace oF := OwnR.alloc oF (.cells #[] 3)
          replace bF := bF.mod ((Mod.refl (fun _ => False) wz163).alloc (.cells #[] 3)) (fun h => h)
          replace BP := BP.mod ((Mod.refl (fun _ => False) wz163).alloc (.cells #[] 3)) (fun h => h)
          have oI : Own (wz163.alloc (.cells #[] 3)) 3 (.slice (some ⟨wz163.heap.size, 0, none⟩) 0 0) [] := Own.empty wz163 _
          have bI : Blk (wz163.alloc (.cells #[] 3)) wz163.heap.size 3 #[] := Blk.new wz163 3 #[]
          have fI : Fresh w2.heap.size (.slice (some ⟨wz163.heap.size, 0, none⟩) 0 0) := fun k hk => by (have h9 : wz163.heap.size = k := Option.some.inj hk); have h8 := q162.size; omega
          have q165 : Ext w2 (wz163.alloc (.cells #[] 3)) := q162.alloc _
          go_simp
          (go_wp2_with fail; refine hK.out _ _ (hbk q165) (fun hH => ?_); clear hK K; try simp only [Act.put, List.setIfInBounds_toArray, List.set_cons_zero, List.set_cons_succ]; try simp only [List.getElem_toArray, List.getElem_cons_succ, List.getElem_cons_zero])
          generalize (wz163.alloc (.cells #[] 3)) = wz166 at *
          generalize wz163.heap.size = hI at *
          refine wpAnyH_ready (rs := [3]) (by kernel_rfl) (by simp) ?_
          refine AllReadyH.cons rfl (fun K hK => ?g167) AllReadyH.nil
          case g167 =>
            refine step_app 27 tyI oI (hg.ext (ext_trans y2 q165)) hone hnI rfl rfl (.tmp 25) (.tmp 26) rfl rfl rfl ?_
            intro vI wz169 ka1 ka2 ka3
            rw [List.nil_append] at ka1
            have q168 := ext_app0 q165 fI ka2
            replace oF := OwnR.mod oF ka2 (fun k hk e => ownR_ne_blk oF bI (by decide) hk (Option.some.inj e).symm)
            replace bF := bF.mod ka2 (fun h => Own.ne_blk oI bF (by decide) h)
            replace BP := BP.mod ka2 (fun h => Own.ne_blk oI BP (by decide) h)
            clear oI bI ka2 ka3
            have oI := ka1
            clear ka1
            (refine hK.out _ _ (hbk q168) (fun hH => ?_); clear hK K; try simp only [Act.put, List.setIfInBounds_toArray, List.set_cons_zero, List.set_cons_succ]; try simp only [List.getElem_toArray, List.getElem_cons_succ, List.getElem_cons_zero])
            refine wpAnyH_ready (rs := [6]) (by kernel_rfl) (by simp) ?_
            refine AllReadyH.cons rfl (fun K hK => ?g170) AllReadyH.nil
            case g170 =>
              refine step_appRs 30 tyF oF (hb.ext (ext_trans y2 q168)) (fic_all _) hnF rfl rfl (.tmp 28) (.tmp 29) rfl rfl rfl ?_
              intro vF wz172 ka1 ka2 ka3
              rw [List.nil_append] at ka1
              have q171 := ext_app0 q168 fF ka2
              replace oI := Own.mod oI ka2 (fun k hk e => Own.ne_blk oI bF (by decide) (by rw [show hF = k from Option.some.inj e]; exact hk))
              replace BP := BP.mod ka2 (fun h => ownR_ne_blk oF BP (by decide) h rfl)
              clear oF bF ka2 ka3
              have oF := ka1
              clear ka1
              (refine hK.out _ _ (hbk q171) (fun hH => ?_); clear hK K; try simp only [Act.put, List.setIfInBounds_toArray, List.set_cons_zero, List.set_cons_succ]; try simp only [List.getElem_toArray, List.getElem_cons_succ, List.getElem_cons_zero])
              refine wpAnyH_ready (rs := [7]) (by kernel_rfl) (by simp) ?_
              refine AllReadyH.cons rfl (fun K hK => ?g173) AllReadyH.nil
              case g173 =>
                go_simp
                refine (change_any (nx := n) (h0.ext (ext_trans y2 q171)) hf.1 hfb.1 oI (OwnR.rc oF) hf.2 hfb.2 hgd hGl hsmm hLBl).mono ?_
                rintro e wz175 ⟨ha, xc⟩
                obtain ⟨v1, oV, rfl⟩ := hans e _ ha
                obtain ⟨A1, c1, rfl⟩ := OwnR.shape oV
                have q174 := ext_trans q171 xc
                replace BP := BP.mod xc (fun h => h)
                clear ha xc oI oF
                (go_wp2_with fail; refine hK.out _ _ (hbk q174) (fun hH => ?_); clear hK K; try simp only [Act.put, List.setIfInBounds_toArray, List.set_cons_zero, List.set_cons_succ]; try simp only [List.getElem_toArray, List.getElem_cons_succ, List.getElem_cons_zero])
                (refine wpAnyH_take (i := 8) (oi := ⟨_, _, _, _, _, _⟩) (v := ?tv960) rfl (by kernel_rfl) (by kernel_rfl) (by kernel_rfl) (fun _ _ _ h => h) (Or.inl ⟨by kernel_rfl, ?hy960⟩) hH ?rs960; (case hy960 => (intro wx hSw; (try dsimp only at hSw); go_simp; try with_reducible rfl)); try simp only [Act.put, List.setIfInBounds_toArray, List.set_cons_zero, List.set_cons_succ]; try simp only [List.getElem_toArray, List.getElem_cons_succ, List.getElem_cons_zero])
                (refine wpAnyH_take (i := 9) (oi := ⟨_, _, _, _, _, _⟩) (v := ?tv961) rfl (by kernel_rfl) (by kernel_rfl) (by kernel_rfl) (fun _ _ _ h => h) (Or.inl ⟨by kernel_rfl, ?hy961⟩) hH ?rs961; (case hy961 => (intro wx hSw; (try dsimp only at hSw); go_simp; try with_reducible rfl)); try simp only [Act.put, List.setIfInBounds_toArray, List.set_cons_zero, List.set_cons_succ]; try simp only [List.getElem_toArray, List.getElem_cons_succ, List.getElem_cons_zero])
                (refine wpAnyH_take (i := 10) (oi := ⟨_, _, _, _, _, _⟩) (v := ?tv962) rfl (by kernel_rfl) (by kernel_rfl) (by kernel_rfl) (fun _ _ _ h => h) (Or.inl ⟨by kernel_rfl, ?hy962⟩) hH ?rs962; (case hy962 => (intro wx hSw; (try dsimp only at hSw); go_simp; try with_reducible rfl)); try simp only [Act.put, List.setIfInBounds_toArray, List.set_cons_zero, List.set_cons_succ]; try simp only [List.getElem_toArray, List.getElem_cons_succ, List.getElem_cons_zero])
                have f8 := Blk.frozen BP 0
                have f9 := Blk.frozen BP 1
                have p8 : wz175.cell? ⟨p, 0, none⟩ = some (.int .i64 0) := BP.cell 0
                have p9 : wz175.cell? ⟨p, 1, none⟩ = some (.slice none 0 0) := BP.cell 1
                obtain ⟨v1, v2, v3⟩ := ver_put (nx := N) q174 hpp BP oV
                refine wpAnyH_ready (rs := [12]) (by kernel_rfl) (by simp) ?_
                refine AllReadyH.cons rfl (fun K hK => ?_) AllReadyH.nil
                go_simp
                (go_wp2_with fail; refine hK.out _ _ (hbk v3) (fun hH => ?_); clear hK K; try simp only [Act.put, List.setIfInBounds_toArray, List.set_cons_zero, List.set_cons_succ]; try simp only [List.getElem_toArray, List.getElem_cons_succ, List.getElem_cons_zero])
                (refine wpAnyH_take (i := 13) (oi := ⟨_, _, _, _, _, _⟩) (v := ?tv963) rfl (by kernel_rfl) (by kernel_rfl) (by kernel_rfl) (fun _ _ _ h => h) (Or.inl ⟨by kernel_rfl, ?hy963⟩) hH ?rs963; (case hy963 => (intro wx hSw; (try dsimp only at hSw); go_simp; try with_reducible rfl)); try simp only [Act.put, List.setIfInBounds_toArray, List.set_cons_zero, List.set_cons_succ]; try simp only [List.getElem_toArray, List.getElem_cons_succ, List.getElem_cons_zero])
                refine wpAnyH_done (by kernel_rfl) ?_ _
                go_wp2_with fail
                go_meet
                exact ⟨p, _, rfl, rfl, v1, v2, hpp, v3⟩
    case g3 =>
      have BP : Blk (wD.alloc (.cells #[.int .i64 0, .slice none 0 0] 24)) wD.heap.size 24 #[.int .i64 0, .slice none 0 0] := Blk.new wD 24 #[.int .i64 0, .slice none 0 0]
      have hpp : w2.heap.size ≤ wD.heap.size := r0.size
      have q176 : Ext w2 (wD.alloc (.cells #[.int .i64 0, .slice none 0 0] 24)) := r0.alloc _
      go_simp
      (go_wp2_with fail; refine hK.out _ _ (hbk q176) (fun hH => ?_); clear hK K; try simp only [Act.put, List.setIfInBounds_toArray, List.set_cons_zero, List.set_cons_succ]; try simp only [List.getElem_toArray, List.getElem_cons_succ, List.getElem_cons_zero])
      generalize (wD.alloc (.cells #[.int .i64 0, .slice none 0 0] 24)) = wz177 at *
      generalize wD.heap.size = p at *
      refine wpAnyH_ready (rs := [1, 4]) (by kernel_rfl) (by simp) ?_
      refine AllReadyH.cons rfl (fun K hK => ?g178) (AllReadyH.cons rfl (fun K hK => ?g179) AllReadyH.nil)
      case g178 =>
        replace BP := BP.mod ((Mod.refl (fun _ => False) wz177).alloc (.cells #[] 3)) (fun h => h)
        have oI : Own (wz177.alloc (.cells #[] 3)) 3 (.slice (some ⟨wz177.heap.size, 0, none⟩) 0 0) [] := Own.empty wz177 _
        have bI : Blk (wz177.alloc (.cells #[] 3)) wz177.heap.size 3 #[] := Blk.new wz177 3 #[]
        have fI : Fresh w2.heap.size (.slice (some ⟨wz177.heap.size, 0, none⟩) 0 0) := fun k hk => by (have h9 : wz177.heap.size = k := Option.some.inj hk); have h8 := q176.size; omega
        have q180 : Ext w2 (wz177.alloc (.cells #[] 3)) := q176.alloc _
        go_simp
        (go_wp2_with fail; refine hK.out _ _ (hbk q180) (fun hH => ?_); clear hK K; try simp only [Act.put, List.setIfInBounds_toArray, List.set_cons_zero, List.set_cons_succ]; try simp only [List.getElem_toArray, List.getElem_cons_succ, List.getElem_cons_zero])
        generalize (wz177.alloc (.cells #[] 3)) = wz181 at *
        generalize wz177.heap.size = hI at *
        refine wpAnyH_ready (rs := [3, 4]) (by kernel_rfl) (by simp) ?_
        refine AllReadyH.cons rfl (fun K hK => ?g182) (AllReadyH.cons rfl (fun K hK => ?g183) AllReadyH.nil)
        case g182 =>
          refine step_app 27 tyI oI (hg.ext (ext_trans y2 q180)) hone hnI rfl rfl (.tmp 25) (.tmp 26) rfl rfl rfl ?_
          intro vI wz185 ka1 ka2 ka3
          rw [List.nil_append] at ka1
          have q184 := ext_app0 q180 fI ka2
          replace BP := BP.mod ka2 (fun h => Own.ne_blk oI BP (by decide) h)
          clear oI bI ka2 ka3
          have oI := ka1
          clear ka1
          (refine hK.out _ _ (hbk q184) (fun hH => ?_); clear hK K; try simp only [Act.put, List.setIfInBounds_toArray, List.set_cons_zero, List.set_cons_succ]; try simp only [List.getElem_toArray, List.getElem_cons_succ, List.getElem_cons_zero])
          refine wpAnyH_ready (rs := [4]) (by kernel_rfl) (by simp) ?_
          refine AllReadyH.cons rfl (fun K hK => ?g186) AllReadyH.nil
          case g186 =>
            replace oI := Own.alloc oI (.cells #[] 48)
            replace BP := BP.mod ((Mod.refl (fun _ => False) wz185).alloc (.cells #[] 48)) (fun h => h)
            have oF : OwnF (wz185.alloc (.cells #[] 48)) (.slice (some ⟨wz185.heap.size, 0, none⟩) 0 0) [] := OwnR.empty fic 5 wz185 48
            have bF : Blk (wz185.alloc (.cells #[] 48)) wz185.heap.size 48 #[] := Blk.new wz185 48 #[]
            have fF : Fresh w2.heap.size (.slice (some ⟨wz185.heap.size, 0, none⟩) 0 0) := fun k hk => by (have h9 : wz185.heap.size = k := Option.some.inj hk); have h8 := q184.size; omega
            have q187 : Ext w2 (wz185.alloc (.cells #[] 48)) := q184.alloc _
            go_simp
            (go_wp2_with fail; refine hK.out _ _ (hbk q187) (fun hH => ?_); clear hK K; try simp only [Act.put, List.setIfInBounds_toArray, List.set_cons_zero, List.set_cons_succ]; try simp only [List.getElem_toArray, List.getElem_cons_succ, List.getElem_cons_zero])
            generalize (wz185.alloc (.cells #[] 48)) = wz188 at *
            generalize wz185.heap.size = hF at *
            refine wpAnyH_ready (rs := [6]) (by kernel_rfl) (by simp) ?_
            refine AllReadyH.cons rfl (fun K hK => ?g189) AllReadyH.nil
            case g189 =>
              refine step_appRs 30 tyF oF (hb.ext (ext_trans y2 q187)) (fic_all _) hnF rfl rfl (.tmp 28) (.tmp 29) rfl rfl rfl ?_
              intro vF wz191 ka1 ka2 ka3
              rw [List.nil_append] at ka1
              have q190 := ext_app0 q187 fF ka2
              replace oI := Own.mod oI ka2 (fun k hk e => Own.ne_blk oI bF (by decide) (by rw [show hF = k from Option.some.inj e]; exact hk))
              replace BP := BP.mod ka2 (fun h => ownR_ne_blk oF BP (by decide) h rfl)
              clear oF bF ka2 ka3
              have oF := ka1
              clear ka1
              (refine hK.out _ _ (hbk q190) (fun hH => ?_); clear hK K; try simp only [Act.put, List.setIfInBounds_toArray, List.set_cons_zero, List.set_cons_succ]; try simp only [List.getElem_toArray, List.getElem_cons_succ, List.getElem_cons_zero])
              refine wpAnyH_ready (rs := [7]) (by kernel_rfl) (by simp) ?_
              refine AllReadyH.cons rfl (fun K hK => ?g192) AllReadyH.nil
              case g192 =>
                go_simp
                refine (change_any (nx := n) (h0.ext (ext_trans y2 q190)) hf.1 hfb.1 oI (OwnR.rc oF) hf.2 hfb.2 hgd hGl hsmm hLBl).mono ?_
                rintro e wz194 ⟨ha, xc⟩
                obtain ⟨v1, oV, rfl⟩ := hans e _ ha
                obtain ⟨A1, c1, rfl⟩ := OwnR.shape oV
                have q193 := ext_trans q190 xc
                replace BP := BP.mod xc (fun h => h)
                clear ha xc oI oF
                (go_wp2_with fail; refine hK.out _ _ (hbk q193) (fun hH => ?_); clear hK K; try simp only [Act.put, List.setIfInBounds_toArray, List.set_cons_zero, List.set_cons_succ]; try simp only [List.getElem_toArray, List.getElem_cons_succ, List.getElem_cons_zero])
                (refine wpAnyH_take (i := 8) (oi := ⟨_, _, _, _, _, _⟩) (v := ?tv964) rfl (by kernel_rfl) (by kernel_rfl) (by kernel_rfl) (fun _ _ _ h => h) (Or.inl ⟨by kernel_rfl, ?hy964⟩) hH ?rs964; (case hy964 => (intro wx hSw; (try dsimp only at hSw); go_simp; try with_reducible rfl)); try simp only [Act.put, List.setIfInBounds_toArray, List.set_cons_zero, List.set_cons_succ]; try simp only [List.getElem_toArray, List.getElem_cons_succ, List.getElem_cons_zero])
                (refine wpAnyH_take (i := 9) (oi := ⟨_, _, _, _, _, _⟩) (v := ?tv965) rfl (by kernel_rfl) (by kernel_rfl) (by kernel_rfl) (fun _ _ _ h => h) (Or.inl ⟨by kernel_rfl, ?hy965⟩) hH ?rs965; (case hy965 => (intro wx hSw; (try dsimp only at hSw); go_simp; try with_reducible rfl)); try simp only [Act.put, List.setIfInBounds_toArray, List.set_cons_zero, List.set_cons_succ]; try simp only [List.getElem_toArray, List.getElem_cons_succ, List.getElem_cons_zero])
                (refine wpAnyH_take (i := 10) (oi := ⟨_, _, _, _, _, _⟩) (v := ?tv966) rfl (by kernel_rfl) (by kernel_rfl) (by kernel_rfl) (fun _ _ _ h => h) (Or.inl ⟨by kernel_rfl, ?hy966⟩) hH ?rs966; (case hy966 => (intro wx hSw; (try dsimp only at hSw); go_simp; try with_reducible rfl)); try simp only [Act.put, List.setIfInBounds_toArray, List.set_cons_zero, List.set_cons_succ]; try simp only [List.getElem_toArray, List.getElem_cons_succ, List.getElem_cons_zero])
                have f8 := Blk.frozen BP 0
                have f9 := Blk.frozen BP 1
                have p8 : wz194.cell? ⟨p, 0, none⟩ = some (.int .i64 0) := BP.cell 0
                have p9 : wz194.cell? ⟨p, 1, none⟩ = some (.slice none 0 0) := BP.cell 1
                obtain ⟨v1, v2, v3⟩ := ver_put (nx := N) q193 hpp BP oV
                refine wpAnyH_ready (rs := [12]) (by kernel_rfl) (by simp) ?_
                refine AllReadyH.cons rfl (fun K hK => ?_) AllReadyH.nil
                go_simp
                (go_wp2_with fail; refine hK.out _ _ (hbk v3) (fun hH => ?_); clear hK K; try simp only [Act.put, List.setIfInBounds_toArray, List.set_cons_zero, List.set_cons_succ]; try simp only [List.getElem_toArray, List.getElem_cons_succ, List.getElem_cons_zero])
                (refine wpAnyH_take (i := 13) (oi := ⟨_, _, _, _, _, _⟩) (v := ?tv967) rfl (by kernel_rfl) (by kernel_rfl) (by kernel_rfl) (fun _ _ _ h => h) (Or.inl ⟨by kernel_rfl, ?hy967⟩) hH ?rs967; (case hy967 => (intro wx hSw; (try dsimp only at hSw); go_simp; try with_reducible rfl)); try simp only [Act.put, List.setIfInBounds_toArray, List.set_cons_zero, List.set_cons_succ]; try simp only [List.getElem_toArray, List.getElem_cons_succ, List.getElem_cons_zero])
                refine wpAnyH_done (by kernel_rfl) ?_ _
                go_wp2_with fail
                go_meet
                exact ⟨p, _, rfl, rfl, v1, v2, hpp, v3⟩
        case g183 =>
          replace oI := Own.alloc oI (.cells #[] 48)
          replace bI := bI.mod ((Mod.refl (fun _ => False) wz181).alloc (.cells #[] 48)) (fun h => h)
          replace BP := BP.mod ((Mod.refl (fun _ => False) wz181).alloc (.cells #[] 48)) (fun h => h)
          have oF : OwnF (wz181.alloc (.cells #[] 48)) (.slice (some ⟨wz181.heap.size, 0, none⟩) 0 0) [] := OwnR.empty fic 5 wz181 48
          have bF : Blk (wz181.alloc (.cells #[] 48)) wz181.heap.size 48 #[] := Blk.new wz181 48 #[]
          have fF : Fresh w2.heap.size (.slice (some ⟨wz181.heap.size, 0, none⟩) 0 0) := fun k hk => by (have h9 : wz181.heap.size = k := Option.some.inj hk); have h8 := q180.size; omega
          have q195 : Ext w2 (wz181.alloc (.cells #[] 48)) := q180.alloc _
          go_simp
          (go_wp2_with fail; refine hK.out _ _ (hbk q195) (fun hH => ?_); clear hK K; try simp only [Act.put, List.setIfInBounds_toArray, List.set_cons_zero, List.set_cons_succ]; try simp only [List.getElem_toArray, List.getElem_cons_succ, List.getElem_cons_zero])
          generalize (wz181.alloc (.cells #[] 48)) = wz196 at *
          generalize wz181.heap.size = hF at *
          refine wpAnyH_ready (rs := [3]) (by kernel_rfl) (by simp) ?_
          refine AllReadyH.cons rfl (fun K hK => ?g197) AllReadyH.nil
          case g197 =>
            refine step_app 27 tyI oI (hg.ext (ext_trans y2 q195)) hone hnI rfl rfl (.tmp 25) (.tmp 26) rfl rfl rfl ?_
            intro vI wz199 ka1 ka2 ka3
            rw [List.nil_append] at ka1
            have q198 := ext_app0 q195 fI ka2
            replace oF := OwnR.mod oF ka2 (fun k hk e => ownR_ne_blk oF bI (by decide) hk (Option.some.inj e).symm)
            replace bF := bF.mod ka2 (fun h => Own.ne_blk oI bF (by decide) h)
            replace BP := BP.mod ka2 (fun h => Own.ne_blk oI BP (by decide) h)
            clear oI bI ka2 ka3
            have oI := ka1
            clear ka1
            (refine hK.out _ _ (hbk q198) (fun hH => ?_); clear hK K; try simp only [Act.put, List.setIfInBounds_toArray, List.set_cons_zero, List.set_cons_succ]; try simp only [List.getElem_toArray, List.getElem_cons_succ, List.getElem_cons_zero])
            refine wpAnyH_ready (rs := [6]) (by kernel_rfl) (by simp) ?_
            refine AllReadyH.cons rfl (fun K hK => ?g200) AllReadyH.nil
            case g200 =>
              refine step_appRs 30 tyF oF (hb.ext (ext_trans y2 q198)) (fic_all _) hnF rfl rfl (.tmp 28) (.tmp 29) rfl rfl rfl ?_
              intro vF wz202 ka1 ka2 ka3
              rw [List.nil_append] at ka1
              have q201 := ext_app0 q198 fF ka2
              replace oI := Own.mod oI ka2 (fun k hk e => Own.ne_blk oI bF (by decide) (by rw [show hF = k from Option.some.inj e]; exact hk))
              replace BP := BP.mod ka2 (fun h => ownR_ne_blk oF BP (by decide) h rfl)
              clear oF bF ka2 ka3
              have oF := ka1
              clear ka1
              (refine hK.out _ _ (hbk q201) (fun hH => ?_); clear hK K; try simp only [Act.put, List.setIfInBounds_toArray, List.set_cons_zero, List.set_cons_succ]; try simp only [List.getElem_toArray, List.getElem_cons_succ, List.getElem_cons_zero])
              refine wpAnyH_ready (rs := [7]) (by kernel_rfl) (by simp) ?_
              refine AllReadyH.cons rfl (fun K hK => ?g203) AllReadyH.nil
              case g203 =>
                go_simp
                refine (change_any (nx := n) (h0.ext (ext_trans y2 q201)) hf.1 hfb.1 oI (OwnR.rc oF) hf.2 hfb.2 hgd hGl hsmm hLBl).mono ?_
                rintro e wz205 ⟨ha, xc⟩
                obtain ⟨v1, oV, rfl⟩ := hans e _ ha
                obtain ⟨A1, c1, rfl⟩ := OwnR.shape oV
                have q204 := ext_trans q201 xc
                replace BP := BP.mod xc (fun h => h)
                clear ha xc oI oF
                (go_wp2_with fail; refine hK.out _ _ (hbk q204) (fun hH => ?_); clear hK K; try simp only [Act.put, List.setIfInBounds_toArray, List.set_cons_zero, List.set_cons_succ]; try simp only [List.getElem_toArray, List.getElem_cons_succ, List.getElem_cons_zero])
                (refine wpAnyH_take (i := 8) (oi := ⟨_, _, _, _, _, _⟩) (v := ?tv968) rfl (by kernel_rfl) (by kernel_rfl) (by kernel_rfl) (fun _ _ _ h => h) (Or.inl ⟨by kernel_rfl, ?hy968⟩) hH ?rs968; (case hy968 => (intro wx hSw; (try dsimp only at hSw); go_simp; try with_reducible rfl)); try simp only [Act.put, List.setIfInBounds_toArray, List.set_cons_zero, List.set_cons_succ]; try simp only [List.getElem_toArray, List.getElem_cons_succ, List.getElem_cons_zero])
                (refine wpAnyH_take (i := 9) (oi := ⟨_, _, _, _, _, _⟩) (v := ?tv969) rfl (by kernel_rfl) (by kernel_rfl) (by kernel_rfl) (fun _ _ _ h => h) (Or.inl ⟨by kernel_rfl, ?hy969⟩) hH ?rs969; (case hy969 => (intro wx hSw; (try dsimp only at hSw); go_simp; try with_reducible rfl)); try simp only [Act.put, List.setIfInBounds_toArray, List.set_cons_zero, List.set_cons_succ]; try simp only [List.getElem_toArray, List.getElem_cons_succ, List.getElem_cons_zero])
                (refine wpAnyH_take (i := 10) (oi := ⟨_, _, _, _, _, _⟩) (v := ?tv970) rfl (by kernel_rfl) (by kernel_rfl) (by kernel_rfl) (fun _ _ _ h => h) (Or.inl ⟨by kernel_rfl, ?hy970⟩) hH ?rs970; (case hy970 => (intro wx hSw; (try dsimp only at hSw); go_simp; try with_reducible rfl)); try simp only [Act.put, List.setIfInBounds_toArray, List.set_cons_zero, List.set_cons_succ]; try simp only [List.getElem_toArray, List.getElem_cons_succ, List.getElem_cons_zero])
                have f8 := Blk.frozen BP 0
                have f9 := Blk.frozen BP 1
                have p8 : wz205.cell? ⟨p, 0, none⟩ = some (.int .i64 0) := BP.cell 0
                have p9 : wz205.cell? ⟨p, 1, none⟩ = some (.slice none 0 0) := BP.cell 1
                obtain ⟨v1, v2, v3⟩ := ver_put (nx := N) q204 hpp BP oV
                refine wpAnyH_ready (rs := [12]) (by kernel_rfl) (by simp) ?_
                refine AllReadyH.cons rfl (fun K hK => ?_) AllReadyH.nil
                go_simp
                (go_wp2_with fail; refine hK.out _ _ (hbk v3) (fun hH => ?_); clear hK K; try simp only [Act.put, List.setIfInBounds_toArray, List.set_cons_zero, List.set_cons_succ]; try simp only [List.getElem_toArray, List.getElem_cons_succ, List.getElem_cons_zero])
                (refine wpAnyH_take (i := 13) (oi := ⟨_, _, _, _, _, _⟩) (v := ?tv971) rfl (by kernel_rfl) (by kernel_rfl) (by kernel_rfl) (fun _ _ _ h => h) (Or.inl ⟨by kernel_rfl, ?hy971⟩) hH ?rs971; (case hy971 => (intro wx hSw; (try dsimp only at hSw); go_simp; try with_reducible rfl)); try simp only [Act.put, List.setIfInBounds_toArray, List.set_cons_zero, List.set_cons_succ]; try simp only [List.getElem_toArray, List.getElem_cons_succ, List.getElem_cons_zero])
                refine wpAnyH_done (by kernel_rfl) ?_ _
                go_wp2_with fail
                go_meet
                exact ⟨p, _, rfl, rfl, v1, v2, hpp, v3⟩
      case g179 =>
        replace BP := BP.mod ((Mod.refl (fun _ => False) wz177).alloc (.cells #[] 48)) (fun h => h)
        have oF : OwnF (wz177.alloc (.cells #[] 48)) (.slice (some ⟨wz177.heap.size, 0, none⟩) 0 0) [] := OwnR.empty fic 5 wz177 48
        have bF : Blk (wz177.alloc (.cells #[] 48)) wz177.heap.size 48 #[] := Blk.new wz177 48 #[]
        have fF : Fresh w2.heap.size (.slice (some ⟨wz177.heap.size, 0, none⟩) 0 0) := fun k hk => by (have h9 : wz177.heap.size = k := Option.some.inj hk); have h8 := q176.size; omega
        have q206 : Ext w2 (wz177.alloc (.cells #[] 48)) := q176.alloc _
        go_simp
        (go_wp2_with fail; refine hK.out _ _ (hbk q206) (fun hH => ?_); clear hK K; try simp only [Act.put, List.setIfInBounds_toArray, List.set_cons_zero, List.set_cons_succ]; try simp only [List.getElem_toArray, List.getElem_cons_succ, List.getElem_cons_zero])
        generalize (wz177.alloc (.cells #[] 48)) = wz207 at *
        generalize wz177.heap.size = hF at *
        refine wpAnyH_ready (rs := [1]) (by kernel_rfl) (by simp) ?_
        refine AllReadyH.cons rfl (fun K hK => ?g208) AllReadyH.nil
        case g208 =>
          replace oF := OwnR.alloc oF (.cells #[] 3)
          replace bF := bF.mod ((Mod.refl (fun _ => False) wz207).alloc (.cells #[] 3)) (fun h => h)
          replace BP := BP.mod ((Mod.refl (fun _ => False) wz207).alloc (.cells #[] 3)) (fun h => h)
          have oI : Own (wz207.alloc (.cells #[] 3)) 3 (.slice (some ⟨wz207.heap.size, 0, none⟩) 0 0) [] := Own.empty wz207 _
          have bI : Blk (wz207.alloc (.cells #[] 3)) wz207.heap.size 3 #[] := Blk.new wz207 3 #[]
          have fI : Fresh w2.heap.size (.slice (some ⟨wz207.heap.size, 0, none⟩) 0 0) := fun k hk => by (have h9 : wz207.heap.size = k := Option.some.inj hk); have h8 := q206.size; omega
          have q209 : Ext w2 (wz207.alloc (.cells #[] 3)) := q206.alloc _
          go_simp
          (go_wp2_with fail; refine hK.out _ _ (hbk q209) (fun hH => ?_); clear hK K; try simp only [Act.put, List.setIfInBounds_toArray, List.set_cons_zero, List.set_cons_succ]; try simp only [List.getElem_toArray, List.getElem_cons_succ, List.getElem_cons_zero])
          generalize (wz207.alloc (.cells #[] 3)) = wz210 at *
          generalize wz207.heap.size = hI at *
          refine wpAnyH_ready (rs := [3]) (by kernel_rfl) (by simp) ?_
          refine AllReadyH.cons rfl (fun K hK => ?g211) AllReadyH.nil
          case g211 =>
            refine step_app 27 tyI oI (hg.ext (ext_trans y2 q209)) hone hnI rfl rfl (.tmp 25) (.tmp 26) rfl rfl rfl ?_
            intro vI wz213 ka1 ka2 ka3
            rw [List.nil_append] at ka1
            have q212 := ext_app0 q209 fI ka2
            replace oF := OwnR.mod oF ka2 (fun k hk e => ownR_ne_blk oF bI (by decide) hk (Option.some.inj e).symm)
            replace bF := bF.mod ka2 (fun h => Own.ne_blk oI bF (by decide) h)
            replace BP := BP.mod ka2 (fun h => Own.ne_blk oI BP (by decide) h)
            clear oI bI ka2 ka3
            have oI := ka1
            clear ka1
            (refine hK.out _ _ (hbk q212) (fun hH => ?_); clear hK K; try simp only [Act.put, List.setIfInBounds_toArray, List.set_cons_zero, List.set_cons_succ]; try simp only [List.getElem_toArray, List.getElem_cons_succ, List.getElem_cons_zero])
            refine wpAnyH_ready (rs := [6]) (by kernel_rfl) (by simp) ?_
            refine AllReadyH.cons rfl (fun K hK => ?g214) AllReadyH.nil
            case g214 =>
              refine step_appRs 30 tyF oF (hb.ext (ext_trans y2 q212)) (fic_all _) hnF rfl rfl (.tmp 28) (.tmp 29) rfl rfl rfl ?_
              intro vF wz216 ka1 ka2 ka3
              rw [List.nil_append] at ka1
              have q215 := ext_app0 q212 fF ka2
              replace oI := Own.mod oI ka2 (fun k hk e => Own.ne_blk oI bF (by decide) (by rw [show hF = k from Option.some.inj e]; exact hk))
              replace BP := BP.mod ka2 (fun h => ownR_ne_blk oF BP (by decide) h rfl)
              clear oF bF ka2 ka3
              have oF := ka1
              clear ka1
              (refine hK.out _ _ (hbk q215) (fun hH => ?_); clear hK K; try simp only [Act.put, List.setIfInBounds_toArray, List.set_cons_zero, List.set_cons_succ]; try simp only [List.getElem_toArray, List.getElem_cons_succ, List.getElem_cons_zero])
              refine wpAnyH_ready (rs := [7]) (by kernel_rfl) (by simp) ?_
              refine AllReadyH.cons rfl (fun K hK => ?g217) AllReadyH.nil
              case g217 =>
                go_simp
                refine (change_any (nx := n) (h0.ext (ext_trans y2 q215)) hf.1 hfb.1 oI (OwnR.rc oF) hf.2 hfb.2 hgd hGl hsmm hLBl).mono ?_
                rintro e wz219 ⟨ha, xc⟩
                obtain ⟨v1, oV, rfl⟩ := hans e _ ha
                obtain ⟨A1, c1, rfl⟩ := OwnR.shape oV
                have q218 := ext_trans q215 xc
                replace BP := BP.mod xc (fun h => h)
                clear ha xc oI oF
                (go_wp2_with fail; refine hK.out _ _ (hbk q218) (fun hH => ?_); clear hK K; try simp only [Act.put, List.setIfInBounds_toArray, List.set_cons_zero, List.set_cons_succ]; try simp only [List.getElem_toArray, List.getElem_cons_succ, List.getElem_cons_zero])
                (refine wpAnyH_take (i := 8) (oi := ⟨_, _, _, _, _, _⟩) (v := ?tv972) rfl (by kernel_rfl) (by kernel_rfl) (by kernel_rfl) (fun _ _ _ h => h) (Or.inl ⟨by kernel_rfl, ?hy972⟩) hH ?rs972; (case hy972 => (intro wx hSw; (try dsimp only at hSw); go_simp; try with_reducible rfl)); try simp only [Act.put, List.setIfInBounds_toArray, List.set_cons_zero, List.set_cons_succ]; try simp only [List.getElem_toArray, List.getElem_cons_succ, List.getElem_cons_zero])
                (refine wpAnyH_take (i := 9) (oi := ⟨_, _, _, _, _, _⟩) (v := ?tv973) rfl (by kernel_rfl) (by kernel_rfl) (by kernel_rfl) (fun _ _ _ h => h) (Or.inl ⟨by kernel_rfl, ?hy973⟩) hH ?rs973; (case hy973 => (intro wx hSw; (try dsimp only at hSw); go_simp; try with_reducible rfl)); try simp only [Act.put, List.setIfInBounds_toArray, List.set_cons_zero, List.set_cons_succ]; try simp only [List.getElem_toArray, List.getElem_cons_succ, List.getElem_cons_zero])
                (refine wpAnyH_take (i := 10) (oi := ⟨_, _, _, _, _, _⟩) (v := ?tv974) rfl (by kernel_rfl) (by kernel_rfl) (by kernel_rfl) (fun _ _ _ h => h) (Or.inl ⟨by kernel_rfl, ?hy974⟩) hH ?rs974; (case hy974 => (intro wx hSw; (try dsimp only at hSw); go_simp; try with_reducible rfl)); try simp only [Act.put, List.setIfInBounds_toArray, List.set_cons_zero, List.set_cons_succ]; try simp only [List.getElem_toArray, List.getElem_cons_succ, List.getElem_cons_zero])
                have f8 := Blk.frozen BP 0
                have f9 := Blk.frozen BP 1
                have p8 : wz219.cell? ⟨p, 0, none⟩ = some (.int .i64 0) := BP.cell 0
                have p9 : wz219.cell? ⟨p, 1, none⟩ = some (.slice none 0 0) := BP.cell 1
                obtain ⟨v1, v2, v3⟩ := ver_put (nx := N) q218 hpp BP oV
                refine wpAnyH_ready (rs := [12]) (by kernel_rfl) (by simp) ?_
                refine AllReadyH.cons rfl (fun K hK => ?_) AllReadyH.nil
                go_simp
                (go_wp2_with fail; refine hK.out _ _ (hbk v3) (fun hH => ?_); clear hK K; try simp only [Act.put, List.setIfInBounds_toArray, List.set_cons_zero, List.set_cons_succ]; try simp only [List.getElem_toArray, List.getElem_cons_succ, List.getElem_cons_zero])
                (refine wpAnyH_take (i := 13) (oi := ⟨_, _, _, _, _, _⟩) (v := ?tv975) rfl (by kernel_rfl) (by kernel_rfl) (by kernel_rfl) (fun _ _ _ h => h) (Or.inl ⟨by kernel_rfl, ?hy975⟩) hH ?rs975; (case hy975 => (intro wx hSw; (try dsimp only at hSw); go_simp; try with_reducible rfl)); try simp only [Act.put, List.setIfInBounds_toArray, List.set_cons_zero, List.set_cons_succ]; try simp only [List.getElem_toArray, List.getElem_cons_succ, List.getElem_cons_zero])
                refine wpAnyH_done (by kernel_rfl) ?_ _
                go_wp2_with fail
                go_meet
                exact ⟨p, _, rfl, rfl, v1, v2, hpp, v3⟩
  case rest =>
    obtain ⟨p, v1, rfl, rfl, P1, o1, hpp, x3⟩ := hcut
    rename_i w3
    have y3 := ext_trans y2 x3
    obtain ⟨A1, c1, rfl⟩ := OwnR.shape o1
    obtain ⟨b0, b1⟩ := hbk x3
    have kr := rchange_front (nx := n) (h0.ext y3) hf.1 hfb.1 (hg.ext y3) (hb.ext y3) hf.2 hfb.2 hgd hGl hsmm hLBl
    go_wp2_with fail
    refine kr.mono ?_
    rintro e w5 ⟨ha, x5⟩
    obtain ⟨v2, o2, rfl⟩ := hans e _ ha
    obtain ⟨A2, c2, rfl⟩ := OwnR.shape o2
    have y5 := ext_trans y3 x5
    have B6 := Blk.new w5 24 #[.int .i64 N, .slice A2 T.length c2]
    have x6 : Ext w5 (w5.alloc (.cells #[.int .i64 N, .slice A2 T.length c2] 24)) := (Mod.refl _ w5).alloc _
    obtain ⟨w6, hw6⟩ : ∃ w6, w6 = w5.alloc (.cells #[.int .i64 N, .slice A2 T.length c2] 24) := ⟨_, rfl⟩
    rw [← hw6] at B6 x6
    obtain ⟨g6, hg6⟩ : ∃ g6, g6 = w5.heap.size := ⟨_, rfl⟩
    rw [← hg6] at B6
    replace hw6 := Lib.hid hw6
    replace hg6 := Lib.hid hg6
    have y6 := ext_trans y5 x6
    have x36 := ext_trans x5 x6
    have P6 := P1.mod x36 (fun h => h)
    have o16 := OwnR.ext o1 x36
    have o26 := OwnR.ext o2 x6
    have c0 : w6.cell? ⟨p, 0, none⟩ = some (.int .i64 N) := P6.cell 0
    have c1' : w6.cell? ⟨p, 1, none⟩ = some (.slice A1 T.length c1) := P6.cell 1
    have d0 : w6.cell? ⟨g6, 0, none⟩ = some (.int .i64 N) := B6.cell 0
    have d1 : w6.cell? ⟨g6, 1, none⟩ = some (.slice A2 T.length c2) := B6.cell 1
    clear b0 b1 kr ha P1 o1
    have ks := same_any (n := N) (OwnR.rc o16) (OwnR.rc o26)
    rcases hc9 with ⟨rfl, hv9⟩ | rfl
    case inl =>
      go_upto_region 5 with fail
      rw [← hw6.out, ← hg6.out]
      clear hw6 hg6
      go_wp2_with fail
      refine ks.mono ?_
      rintro e w7 ⟨rfl, x7⟩
      have P7 := P6.mod x7 (fun h => h)
      clear c0 c1' d0 d1
      have c0 : w7.cell? ⟨p, 0, none⟩ = some (.int .i64 N) := P7.cell 0
      have c1' : w7.cell? ⟨p, 1, none⟩ = some (.slice A1 T.length c1) := P7.cell 1
      have ki := is_any (n := N) ((OwnR.rc o16).ext x7) hfT
      rw [dtrue hv9] at ki
      go_wp2_with fail
      refine ki.mono ?_
      rintro e w8 ⟨rfl, x8⟩
      go_wp2_with fail
      refine (hkn w8).mono ?_
      rintro e w9 ⟨rfl, x9⟩
      go_wp2_with fail
      go_ret
      exact ⟨rfl, ext_trans hB (ext_trans y6 (ext_trans x7 (ext_trans x8 x9)))⟩
    go_upto_region 5 with fail
    rw [← hw6.out, ← hg6.out]
    clear hw6 hg6
    go_wp2_with fail
    refine ks.mono ?_
    rintro e w7 ⟨rfl, x7⟩
    go_wp2_with fail
    refine (hkn w7).mono ?_
    rintro e w9 ⟨rfl, x9⟩
    go_wp2_with fail
    go_ret
    exact ⟨rfl, ext_trans hB (ext_trans y6 (ext_trans x7 x9))⟩
end Go.Proofs.Ytmjkgibeljbloaa
