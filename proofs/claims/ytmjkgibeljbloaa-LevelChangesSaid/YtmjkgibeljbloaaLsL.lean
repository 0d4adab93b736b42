/- level: Change. -/
import Derived.Test.YtmjkgibeljbloaaLsK
import Derived.Test.YtmjkgibeljbloaaLvR
namespace Go.Proofs.Ytmjkgibeljbloaa
open Go.RowKit
set_option maxRecDepth 100000

/-- The next number, raised above those of the files that come. -/
def nextF (n : Int) (B : List Fl) : Int := B.foldl (fun m f => max m (f.id + 1)) n
theorem nextF_snoc (n : Int) (B : List Fl) {k : Nat} (hk : k < B.length) : nextF n (B.take (k + 1)) = max (nextF n (B.take k)) (B[k].id + 1) := by
  unfold nextF
  rw [List.take_succ_eq_append_getElem hk, List.foldl_append]
  rfl
theorem wo_sub (G : List Int) (L : List Fl) : ∀ c ∈ (wo G L).1, c ∈ L := by
  have h : ∀ (L : List Fl) (p : List Fl × List Int), ∀ c ∈ (L.foldl woS p).1, c ∈ p.1 ∨ c ∈ L := by
    intro L
    induction L with
    | nil => exact fun p c hc => .inl hc
    | cons a L ih =>
      intro p c hc
      rcases ih _ c hc with q | q
      · unfold woS at q
        split at q
        · exact .inl q
        · rcases List.mem_append.1 q with q | q
          · exact .inl q
          · rw [List.mem_singleton.1 q]; exact .inr (List.mem_cons_self ..)
      · exact .inr (List.mem_cons_of_mem _ q)
  intro c hc
  rcases h L ([], G) c hc with q | q
  · cases q
  · exact q
theorem ch_fits {G : List Int} {L B S : List Fl} (h : MFits (L ++ B)) (p : S.Perm ((wo G L).1 ++ B)) : MFits S := by
  have hl := wo_len G L
  have h2 := h.2
  refine ⟨fun c hc => h.1 c ?_, ?_⟩
  · rcases List.mem_append.1 (p.mem_iff.1 hc) with q | q
    · exact List.mem_append_left _ (wo_sub G L c q)
    · exact List.mem_append_right _ q
  · rw [p.length_eq, List.length_append]
    rw [List.length_append] at h2
    omega
/-- What Change demands ahead of the sort. -/
def chOk (nx : Int) (L : List Fl) (G : List Int) (B : List Fl) : Prop := isV nx L ∧ (G.Nodup ∧ (wo G L).2 = []) ∧ ∀ f ∈ B, f.id < 1099511627776
/-- What Change answers. -/
def chAns (nx : Int) (L : List Fl) (G : List Int) (B : List Fl) (e : Ending) (w' : World) : Prop :=
  (∃ S v', chOk nx L G B ∧ S.Perm ((wo G L).1 ++ B) ∧ Srt S ∧ isV (nextF nx B) S ∧ OwnF w' v' S ∧ e = .returned (.tuple #[.agg #[.int .i64 (nextF nx B), v'], .int .i64 0])) ∨
  ((¬ chOk nx L G B ∨ ∃ S : List Fl, S.Perm ((wo G L).1 ++ B) ∧ Srt S ∧ ¬ isV (nextF nx B) S) ∧ e = .returned (.tuple #[.agg #[.int .i64 0, .slice none 0 0], .int .i64 1]))
theorem ver_put {w2 wx : World} {p : Nat} {q0 q1 vm : Value} {nx : Int} {M : List Fl} (x : Ext w2 wx) (hp : w2.heap.size ≤ p) (B : Blk wx p 24 #[q0, q1]) (o : OwnF wx vm M) :
    Blk ((wx.setCell ⟨p, 0, none⟩ (.int .i64 nx)).setCell ⟨p, 1, none⟩ vm) p 24 #[.int .i64 nx, vm] ∧ OwnF ((wx.setCell ⟨p, 0, none⟩ (.int .i64 nx)).setCell ⟨p, 1, none⟩ vm) vm M ∧ Ext w2 ((wx.setCell ⟨p, 0, none⟩ (.int .i64 nx)).setCell ⟨p, 1, none⟩ vm) :=
  ⟨(B.set_ 0 (.int .i64 nx)).set_ 1 vm, OwnR.mod o (set2_mod wx p _ _) (fun k hk e => ownR_ne_blk o B (by decide) hk e), x.trans (set2_mod wx p _ _) (fun _ _ h => h) (fun k hk e => by omega)⟩
set_option maxHeartbeats 32000000 in
theorem change_any {w : World} {S S' : Nat → Prop} {nx : Int} {v u va : Value} {L B : List Fl} {G : List Int} (h : Fs w S v L) (hf : MFits L) (hfb : MFits B) (hg : Own w 3 u (G.map iv)) (hB : Fs w S' va B)
    (hid : ∀ c ∈ L, -9223372036854775808 ≤ c.id ∧ c.id ≤ 9223372036854775807) (hidb : ∀ c ∈ B, -9223372036854775808 ≤ c.id ∧ c.id ≤ 9223372036854775807) (hgd : ∀ x ∈ G, -9223372036854775808 ≤ x ∧ x ≤ 9223372036854775807) (hG : G.length ≤ 1000000) (hsm : MFits (L ++ B)) (hLB : L.length + B.length ≤ 1000000) :
    Calls Try.prog 22 #[.agg #[.int .i64 nx, v], u, va] w fun e w' => chAns nx L G B e w' ∧ Ext w w' := by
  obtain ⟨A, c, rfl⟩ := h.shape
  obtain ⟨Ab, cb, rfl, g1, g2, g3, g4⟩ := hB.open_ fic_len
  have B0 : Blk (w.alloc (.cells #[.int .i64 nx, .slice A L.length c] 24)) w.heap.size 24 #[.int .i64 nx, .slice A L.length c] := Blk.new w _ _
  have x0 : Ext w (w.alloc (.cells #[.int .i64 nx, .slice A L.length c] 24)) := (Mod.refl _ w).alloc _
  obtain ⟨w0, hw0⟩ : ∃ w0, w0 = w.alloc (.cells #[.int .i64 nx, .slice A L.length c] 24) := ⟨_, rfl⟩
  rw [← hw0] at B0 x0
  have B1 : Blk (w0.alloc (.cells #[.int .i64 0, .slice none 0 0] 24)) w0.heap.size 24 #[.int .i64 0, .slice none 0 0] := Blk.new w0 _ _
  have x1 : Ext w0 (w0.alloc (.cells #[.int .i64 0, .slice none 0 0] 24)) := (Mod.refl _ w0).alloc _
  obtain ⟨gv, hgv⟩ : ∃ g, g = w.heap.size := ⟨_, rfl⟩
  have hs0 : w0.heap.size = gv + 1 := by rw [hw0, hgv]; simp
  obtain ⟨gr, hgr⟩ : ∃ g, g = gv + 1 := ⟨_, rfl⟩
  rw [← hgv] at B0
  rw [hs0, ← hgr] at B1
  have hgw : w.heap.size ≤ gv := by omega
  have hgw2 : w.heap.size ≤ gr := by omega
  clear hs0
  obtain ⟨w1, hw1⟩ : ∃ w1, w1 = w0.alloc (.cells #[.int .i64 0, .slice none 0 0] 24) := ⟨_, rfl⟩
  rw [← hw1] at B1 x1
  replace B0 := B0.mod x1 (fun h => h)
  have y1 := ext_trans x0 x1
  have hLf := h.ext y1
  have b0 : w1.cell? ⟨gv, 0, none⟩ = some (.int .i64 nx) := B0.cell 0
  have b1 : w1.cell? ⟨gv, 1, none⟩ = some (.slice A L.length c) := B0.cell 1
  have ki := is_any (n := nx) hLf hf
  replace hw0 := Lib.hid hw0
  replace hw1 := Lib.hid hw1
  replace hgv := Lib.hid hgv
  replace hgr := Lib.hid hgr
  have fin : ∀ {wx : World} p q, Ext w wx → Ext w ((wx.setCell ⟨gr, 0, none⟩ p).setCell ⟨gr, 1, none⟩ q) := fun p q x => x.trans (set2_mod _ gr p q) (fun _ _ h => h) (fun k hk e => by omega)
  clear x0 x1 h
  go_enter Try.func22, Try.ntmps22
  go_upto_region 1 with fail
  rw [← hw0.out, ← hw1.out, ← hgv.out, ← hgr.out]
  have hgg : gv ≠ gr := by have := hgr.out; omega
  clear hw0 hw1 hgv hgr
  go_wp2_with fail
  refine ki.mono ?_
  rintro e w2 ⟨rfl, x2⟩
  have y2 := ext_trans y1 x2
  replace B0 := B0.mod x2 (fun h => h)
  replace B1 := B1.mod x2 (fun h => h)
  have b2 : w2.cell? ⟨gv, 0, none⟩ = some (.int .i64 nx) := B0.cell 0
  have b3 : w2.cell? ⟨gv, 1, none⟩ = some (.slice A L.length c) := B0.cell 1
  have f0 := Blk.frozen B1 0
  have f1 := Blk.frozen B1 1
  have p0 : w2.cell? ⟨gr, 0, none⟩ = some (.int .i64 0) := B1.cell 0
  have p1 : w2.cell? ⟨gr, 1, none⟩ = some (.slice none 0 0) := B1.cell 1
  by_cases hv : isV nx L
  case neg =>
    have R5 := fun p q => (B1.set_ 0 p).set_ 1 q
    have hbad : Hid (¬ chOk nx L G B) := Lib.hid fun q => hv q.1
    rw [dfalse hv]
    clear hv ki
    go_wp2_with fail
    refine bodyPost_ret (results_cell_row2 Try.results22 _ _ _ _ _ _ _ rfl (R5 (.int .i64 0) (.slice none 0 0)) Try.underlying24 rfl (by kernel_rfl)) rfl ?_
    exact ⟨Or.inr ⟨Or.inl hbad.out, rfl⟩, fin _ _ y2⟩
  rw [dtrue hv]
  have BR := B1
  have kw := without_any (hLf.ext x2) (hg.mod y2 (fun _ _ h => h)) hf.2 hid hgd hG
  clear ki b0 b1
  go_wp2_with fail
  refine kw.mono ?_
  rintro e w3 ⟨vo, rfl, ho, hfr, x3⟩
  have y3 := ext_trans y2 x3
  have hs3 := y2.size
  replace B0 := B0.mod x3 (fun h => h)
  replace B1 := B1.mod x3 (fun h => h)
  have b4 : w3.cell? ⟨gv, 0, none⟩ = some (.int .i64 nx) := B0.cell 0
  have b5 : w3.cell? ⟨gv, 1, none⟩ = some (.slice A L.length c) := B0.cell 1
  replace f0 := Blk.frozen B1 0
  replace f1 := Blk.frozen B1 1
  replace p0 : w3.cell? ⟨gr, 0, none⟩ = some (.int .i64 0) := B1.cell 0
  replace p1 : w3.cell? ⟨gr, 1, none⟩ = some (.slice none 0 0) := B1.cell 1
  have hbk : ∀ {wx : World}, Ext w2 wx → wx.cell? ⟨gv, 0, none⟩ = some (.int .i64 nx) := fun x => ext_cell x b2
  have hrk : ∀ {wx : World}, Ext w2 wx → Blk wx gr 24 #[.int .i64 0, .slice none 0 0] := fun x => BR.mod x (fun h => h)
  have hgr2 : gr < w2.heap.size := BR.lt
  clear kw b2 b3
  by_cases hw : G.Nodup ∧ (wo G L).2 = []
  case neg =>
    have R5 := fun p q => (B1.set_ 0 p).set_ 1 q
    have hbad : Hid (¬ chOk nx L G B) := Lib.hid fun q => hw q.2.1
    rw [dfalse hw]
    clear hw hv ho
    go_wp2_with fail
    refine bodyPost_ret (results_cell_row2 Try.results22 _ _ _ _ _ _ _ rfl (R5 (.int .i64 0) (.slice none 0 0)) Try.underlying24 rfl (by kernel_rfl)) rfl ?_
    exact ⟨Or.inr ⟨Or.inl hbad.out, rfl⟩, fin _ _ y3⟩
  rw [dtrue hw]
  have o3 := ho hw.1
  have hwl := wo_len G L
  obtain ⟨M0, hM0⟩ : ∃ M0, M0 = (wo G L).1 := ⟨_, rfl⟩
  rw [← hM0] at o3 hwl
  replace hM0 := Lib.hid hM0
  replace hw := Lib.hid hw
  replace hv := Lib.hid hv
  clear ho
  have hn56 : (M0.length + B.length) * 56 ≤ 140737488355328 := by omega
  go_upto_region 6 with fail
  obtain ⟨M, hMM⟩ : ∃ M, M = M0 ++ B := ⟨_, rfl⟩
  replace hMM := Lib.hid hMM
  go_cut [10] (fun s10 wx => ∃ (p : Nat) (vm : Value), s10 = .pointer (some ⟨p, 0, none⟩) ∧ Blk wx p 24 #[.int .i64 nx, vm] ∧ OwnF wx vm M ∧ w2.heap.size ≤ p ∧ Fresh w2.heap.size vm ∧ Ext w2 wx)
  case first =>
    have q3 : Ext w2 w3.drew := x3.drew
    have hs23 := x3.size
    refine wp_region_held_drew (S := fun wx => wx.cell? ⟨gv, 0, none⟩ = some (.int .i64 nx)) (by kernel_rfl) (hbk q3) (fun hH => ?_)
    (refine wpAnyH_take (i := 0) (oi := ⟨_, _, _, _, _, _⟩) (v := ?tv1) rfl (by kernel_rfl) (by kernel_rfl) (by kernel_rfl) (fun _ _ _ h => h) (Or.inl ⟨by kernel_rfl, ?hy1⟩) hH ?rs1; (case hy1 => (intro wx hSw; (try dsimp only at hSw); go_simp; try with_reducible rfl)); try simp only [Act.put, List.setIfInBounds_toArray, List.set_cons_zero, List.set_cons_succ]; try simp only [List.getElem_toArray, List.getElem_cons_succ, List.getElem_cons_zero])
    (refine wpAnyH_take (i := 1) (oi := ⟨_, _, _, _, _, _⟩) (v := ?tv2) rfl (by kernel_rfl) (by kernel_rfl) (by kernel_rfl) (fun _ _ _ h => h) (Or.inl ⟨by kernel_rfl, ?hy2⟩) hH ?rs2; (case hy2 => (intro wx hSw; (try dsimp only at hSw); go_simp; try with_reducible rfl)); try simp only [Act.put, List.setIfInBounds_toArray, List.set_cons_zero, List.set_cons_succ]; try simp only [List.getElem_toArray, List.getElem_cons_succ, List.getElem_cons_zero])
    (refine wpAnyH_take (i := 2) (oi := ⟨_, _, _, _, _, _⟩) (v := ?tv3) rfl (by kernel_rfl) (by kernel_rfl) (by kernel_rfl) (fun _ _ _ h => h) (Or.inl ⟨by kernel_rfl, ?hy3⟩) hH ?rs3; (case hy3 => (intro wx hSw; (try dsimp only at hSw); go_simp; try with_reducible rfl)); try simp only [Act.put, List.setIfInBounds_toArray, List.set_cons_zero, List.set_cons_succ]; try simp only [List.getElem_toArray, List.getElem_cons_succ, List.getElem_cons_zero])
    (refine wpAnyH_take (i := 3) (oi := ⟨_, _, _, _, _, _⟩) (v := ?tv4) rfl (by kernel_rfl) (by kernel_rfl) (by kernel_rfl) (fun _ _ _ h => h) (Or.inl ⟨by kernel_rfl, ?hy4⟩) hH ?rs4; (case hy4 => (intro wx hSw; (try dsimp only at hSw); go_simp; try with_reducible rfl)); try simp only [Act.put, List.setIfInBounds_toArray, List.set_cons_zero, List.set_cons_succ]; try simp only [List.getElem_toArray, List.getElem_cons_succ, List.getElem_cons_zero])
    refine wpAnyH_ready (rs := [4, 6]) (by kernel_rfl) (by simp) ?_
    refine AllReadyH.cons rfl (fun K hK => ?_) (AllReadyH.cons rfl (fun K hK => ?_) AllReadyH.nil)
    case' refine_1 =>
      refine step_appRs 31 tyF (o3.ext (Mod.refl _ w3).drew) (hB.ext (ext_trans y2 q3)) (fic_all _) hn56 rfl rfl (.tmp 29) (.tmp 30) rfl rfl rfl ?_
      intro vm wa ka1 ka2 ka3
      rw [← hMM.out] at ka1
      have qA := ext_app0 q3 hfr ka2
      have fA := ka3.fresh hfr q3.size
      (refine hK.out _ _ (hbk qA) (fun hH => ?_); clear hK K; try simp only [Act.put, List.setIfInBounds_toArray, List.set_cons_zero, List.set_cons_succ]; try simp only [List.getElem_toArray, List.getElem_cons_succ, List.getElem_cons_zero])
      obtain ⟨Am, cm, rfl⟩ := OwnR.shape ka1
      (refine wpAnyH_take (i := 5) (oi := ⟨_, _, _, _, _, _⟩) (v := ?tv5) rfl (by kernel_rfl) (by kernel_rfl) (by kernel_rfl) (fun _ _ _ h => h) (Or.inl ⟨by kernel_rfl, ?hy5⟩) hH ?rs5; (case hy5 => (intro wx hSw; (try dsimp only at hSw); go_simp; try with_reducible rfl)); try simp only [Act.put, List.setIfInBounds_toArray, List.set_cons_zero, List.set_cons_succ]; try simp only [List.getElem_toArray, List.getElem_cons_succ, List.getElem_cons_zero])
      refine wpAnyH_ready (rs := [6]) (by kernel_rfl) (by simp) ?_
      refine AllReadyH.cons rfl (fun K hK => ?_) AllReadyH.nil
      go_simp
      (go_wp2_with fail; refine hK.out _ _ (hbk (qA.alloc _)) (fun hH => ?_); clear hK K; try simp only [Act.put, List.setIfInBounds_toArray, List.set_cons_zero, List.set_cons_succ]; try simp only [List.getElem_toArray, List.getElem_cons_succ, List.getElem_cons_zero])
      have BP := Blk.new wa 24 #[.int .i64 0, .slice none 0 0]
      have qP : Ext w2 (wa.alloc (.cells #[.int .i64 0, .slice none 0 0] 24)) := qA.alloc _
      have oP := OwnR.alloc ka1 (.cells #[.int .i64 0, .slice none 0 0] 24)
      have hpp := qA.size
      generalize wa.alloc (.cells #[.int .i64 0, .slice none 0 0] 24) = wP at *
      generalize wa.heap.size = p at *
      have f8 := Blk.frozen BP 0
      have f9 := Blk.frozen BP 1
      have p8 : wP.cell? ⟨p, 0, none⟩ = some (.int .i64 0) := BP.cell 0
      have p9 : wP.cell? ⟨p, 1, none⟩ = some (.slice none 0 0) := BP.cell 1
      obtain ⟨v1, v2, v3⟩ := ver_put (nx := nx) qP hpp BP oP
      refine wpAnyH_ready (rs := [7]) (by kernel_rfl) (by simp) ?_
      refine AllReadyH.cons rfl (fun K hK => ?_) AllReadyH.nil
      go_simp
      (go_wp2_with fail; refine hK.out _ _ (hbk v3) (fun hH => ?_); clear hK K; try simp only [Act.put, List.setIfInBounds_toArray, List.set_cons_zero, List.set_cons_succ]; try simp only [List.getElem_toArray, List.getElem_cons_succ, List.getElem_cons_zero])
      refine wpAnyH_done (by kernel_rfl) ?_ _
    case' refine_2 =>
      have BP : Blk (w3.alloc (.cells #[.int .i64 0, .slice none 0 0] 24)).drew w3.heap.size 24 #[.int .i64 0, .slice none 0 0] := Blk.new w3 24 #[.int .i64 0, .slice none 0 0]
      have qP : Ext w2 (w3.alloc (.cells #[.int .i64 0, .slice none 0 0] 24)).drew := (x3.alloc _).drew
      have oP : OwnF (w3.alloc (.cells #[.int .i64 0, .slice none 0 0] 24)).drew vo M0 := OwnR.alloc o3 (.cells #[.int .i64 0, .slice none 0 0] 24)
      have hpp := x3.size
      have hnp : ∀ k, own vo k → k ≠ w3.heap.size := fun k hk e => by (have := OwnR.lt o3 hk; omega)
      go_simp
      (go_wp2_with fail; refine hK.out _ _ (hbk qP) (fun hH => ?_); clear hK K; try simp only [Act.put, List.setIfInBounds_toArray, List.set_cons_zero, List.set_cons_succ]; try simp only [List.getElem_toArray, List.getElem_cons_succ, List.getElem_cons_zero])
      generalize (w3.alloc (.cells #[.int .i64 0, .slice none 0 0] 24)).drew = wP at *
      generalize w3.heap.size = p at *
      refine wpAnyH_ready (rs := [4]) (by kernel_rfl) (by simp) ?_
      refine AllReadyH.cons rfl (fun K hK => ?_) AllReadyH.nil
      refine step_appRs 31 tyF oP (hB.ext (ext_trans y2 qP)) (fic_all _) hn56 rfl rfl (.tmp 29) (.tmp 30) rfl rfl rfl ?_
      intro vm wa ka1 ka2 ka3
      rw [← hMM.out] at ka1
      have qA := ext_app0 qP hfr ka2
      have fA := ka3.fresh hfr qP.size
      (refine hK.out _ _ (hbk qA) (fun hH => ?_); clear hK K; try simp only [Act.put, List.setIfInBounds_toArray, List.set_cons_zero, List.set_cons_succ]; try simp only [List.getElem_toArray, List.getElem_cons_succ, List.getElem_cons_zero])
      obtain ⟨Am, cm, rfl⟩ := OwnR.shape ka1
      (refine wpAnyH_take (i := 5) (oi := ⟨_, _, _, _, _, _⟩) (v := ?tv6) rfl (by kernel_rfl) (by kernel_rfl) (by kernel_rfl) (fun _ _ _ h => h) (Or.inl ⟨by kernel_rfl, ?hy6⟩) hH ?rs6; (case hy6 => (intro wx hSw; (try dsimp only at hSw); go_simp; try with_reducible rfl)); try simp only [Act.put, List.setIfInBounds_toArray, List.set_cons_zero, List.set_cons_succ]; try simp only [List.getElem_toArray, List.getElem_cons_succ, List.getElem_cons_zero])
      replace BP := BP.mod ka2 (fun h => hnp p h rfl)
      have f8 := Blk.frozen BP 0
      have f9 := Blk.frozen BP 1
      have p8 : wa.cell? ⟨p, 0, none⟩ = some (.int .i64 0) := BP.cell 0
      have p9 : wa.cell? ⟨p, 1, none⟩ = some (.slice none 0 0) := BP.cell 1
      obtain ⟨v1, v2, v3⟩ := ver_put (nx := nx) qA hpp BP ka1
      refine wpAnyH_ready (rs := [7]) (by kernel_rfl) (by simp) ?_
      refine AllReadyH.cons rfl (fun K hK => ?_) AllReadyH.nil
      go_simp
      (go_wp2_with fail; refine hK.out _ _ (hbk v3) (fun hH => ?_); clear hK K; try simp only [Act.put, List.setIfInBounds_toArray, List.set_cons_zero, List.set_cons_succ]; try simp only [List.getElem_toArray, List.getElem_cons_succ, List.getElem_cons_zero])
      refine wpAnyH_done (by kernel_rfl) ?_ _
    all_goals go_wp2_with fail
    all_goals go_meet
    all_goals exact ⟨p, _, rfl, v1, v2, hpp, fA, v3⟩
  case rest =>
    obtain ⟨p, vm, rfl, v1, v2, hpp, fA, v3⟩ := hcut
    obtain ⟨Am, cm, rfl⟩ := OwnR.shape v2
    have hMl : M.length ≤ 1000000 := by rw [hMM.out, List.length_append]; omega
    have hgp : gr ≠ p := by omega
    clear x3 b4 b5 B0 B1 f0 f1 p0 p1 hfr o3 hwl hn56 hs3 hgg
    go_wp2_with fail
    go_loopw [35] (fun i wr => ∃ k, k ≤ B.length ∧ i = .int .i64 k ∧ Hid (∀ f ∈ B.take k, f.id < 1099511627776) ∧ Blk wr p 24 #[.int .i64 (nextF nx (B.take k)), .slice Am M.length cm] ∧ OwnF wr (.slice Am M.length cm) M ∧ Ext w2 wr) (fun i _ => B.length - (intOf i).toNat)
    case atStart => exact ⟨0, Nat.zero_le _, rfl, Lib.hid (fun f hf => by cases hf), v1, v2, v3⟩
    case round =>
      clear v1 v2 v3
      obtain ⟨k, hk, rfl, hal, hP, ho, hx⟩ := hrel
      by_cases hlt : k < B.length
      case pos =>
        have hbl : decide ((k : Int) < (B.length : Int)) = true := dtrue (by omega)
        have hbl' : decide (k < B.length) = true := dtrue hlt
        obtain ⟨ad, hA, _, c0, c1, c2, c3, c4⟩ := Fs.at_ (g4.ext (ext_trans y2 hx)) hlt
        subst hA
        have hi0 : (0 : Int) ≤ (k : Int) := by omega
        have hi1 : (k : Int) < (B.length : Int) := by omega
        have hst := nextF_snoc nx B hlt
        have hxid := hidb _ (List.getElem_mem hlt)
        have hxm : B[k] ∈ B := List.getElem_mem hlt
        have hal2 : ∀ f ∈ B.take (k + 1), f ∈ B.take k ∨ f = B[k] := by
          rw [List.take_succ_eq_append_getElem hlt]
          intro f hf
          rcases List.mem_append.1 hf with q | q
          · exact .inl q
          · exact .inr (List.mem_singleton.1 q)
        obtain ⟨N2, hN2⟩ : ∃ N2, N2 = nextF nx (B.take (k + 1)) := ⟨_, rfl⟩
        rw [← hN2] at hst
        replace hN2 := Lib.hid hN2
        generalize B[k] = x at *
        generalize nextF nx (B.take k) = N at *
        have hbx : Ext wr (wr.alloc (.cells (fia x) 48)) := (Mod.refl _ wr).alloc _
        obtain ⟨z0, z1, z2, z3, z4⟩ := boxedF wr x
        obtain ⟨w5, hw5⟩ : ∃ w5, w5 = wr.alloc (.cells (fia x) 48) := ⟨_, rfl⟩
        rw [← hw5] at hbx z0 z1 z2 z3 z4
        have x5 := ext_trans hx hbx
        have P5 := hP.mod hbx (fun h => h)
        have o5 := ho.ext hbx
        obtain ⟨pb, hpb⟩ : ∃ pb, pb = wr.heap.size := ⟨_, rfl⟩
        rw [← hpb] at z0 z1 z2 z3 z4
        have hlp := hP.lt
        have hpne : pb ≠ p := by omega
        replace hpb := Lib.hid hpb
        replace hw5 := Lib.hid hw5
        have BR5 := hrk x5
        have f0 := Blk.frozen BR5 0
        have f1 := Blk.frozen BR5 1
        have p0 : w5.cell? ⟨gr, 0, none⟩ = some (.int .i64 0) := BR5.cell 0
        have p1 : w5.cell? ⟨gr, 1, none⟩ = some (.slice none 0 0) := BR5.cell 1
        have r0 : w5.cell? ⟨p, 0, none⟩ = some (.int .i64 N) := P5.cell 0
        have r1 := Blk.frozen P5 0
        clear hx hbx hP ho
        by_cases hbig : 1099511627776 ≤ x.id
        case pos =>
          have q1 : decide ((1099511627776 : Int) ≤ x.id) = true := dtrue hbig
          have R5 := fun p q => (BR5.set_ 0 p).set_ 1 q
          have hbad : Hid (¬ chOk nx L G B) := Lib.hid fun q => by have := q.2.2 x hxm; omega
          clear hst hxid
          go_upto_region 10 with fail
          rw [← hw5.out, ← hpb.out]
          clear hw5 hpb c0 c1 c2 c3 c4
          go_wp2_with fail
          refine bodyPost_ret (results_cell_row2 Try.results22 _ _ _ _ _ _ _ rfl (R5 (.int .i64 0) (.slice none 0 0)) Try.underlying24 rfl (by kernel_rfl)) rfl ?_
          exact ⟨Or.inr ⟨Or.inl hbad.out, rfl⟩, fin _ _ (ext_trans y2 x5)⟩
        have q1 : decide ((1099511627776 : Int) ≤ x.id) = false := dfalse hbig
        have hal3 : Hid (∀ f ∈ B.take (k + 1), f.id < 1099511627776) := Lib.hid fun f hf => by
          rcases hal2 f hf with q | q
          · exact hal.out f q
          · subst q; omega
        have u1 : IntKind.i64.wrap (x.id + 1) = x.id + 1 := by rw [IntKind.wrap_i64]; omega
        have P6 := P5.set_ 0 (.int .i64 (max N (x.id + 1)))
        have m6 := setc_mod w5 p 0 (.int .i64 (max N (x.id + 1)))
        have o6 := OwnR.mod o5 m6 (fun k hk e => ownR_ne_blk o5 P5 (by decide) hk e)
        have x6 : Ext w2 (w5.setCell ⟨p, 0, none⟩ (.int .i64 (max N (x.id + 1)))) := x5.trans m6 (fun _ _ h => h) (fun k hk e => by omega)
        clear hal hal2 hxm
        replace hst := Lib.hid hst
        go_upto_region 10 with fail
        rw [← hw5.out, ← hpb.out]
        clear hw5 hpb c0 c1 c2 c3 c4
        go_wp2_with fail
        exact ⟨⟨k + 1, by omega, by go_num, hal3, by rw [← hN2.out, hst.out]; exact P6, o6, x6⟩, by simp [intOf] <;> omega⟩
      have hbl : decide ((k : Int) < (B.length : Int)) = false := dfalse (by omega)
      have hbl' : decide (k < B.length) = false := dfalse hlt
      obtain rfl : k = B.length := by omega
      have hall := hal.out
      rw [List.take_length] at hall hP
      have hch : Hid (chOk nx L G B) := Lib.hid ⟨hv.out, hw.out, hall⟩
      obtain ⟨N, hN⟩ : ∃ N, N = nextF nx B := ⟨_, rfl⟩
      rw [← hN] at hP
      replace hN := Lib.hid hN
      have r0 : wr.cell? ⟨p, 0, none⟩ = some (.int .i64 N) := hP.cell 0
      have r1 : wr.cell? ⟨p, 1, none⟩ = some (.slice Am M.length cm) := hP.cell 1
      have ks := sort_any ho hMl
      clear hall hal hlt hbl hbl'
      go_wp2_with fail
      refine ks.mono ?_
      rintro e w6 ⟨rfl, S6, p6, s6, o6, m6⟩
      have x6 := ext_app0 hx fA m6
      have P6 := hP.mod m6 (fun h => ownR_ne_blk ho hP (by decide) h rfl)
      have hfit : MFits S6 := ch_fits (G := G) hsm (by rw [← hM0.out, ← hMM.out]; exact p6)
      have k6 := is_any (n := N) o6.rc hfit
      have t0 : w6.cell? ⟨p, 0, none⟩ = some (.int .i64 N) := P6.cell 0
      have t1 : w6.cell? ⟨p, 1, none⟩ = some (.slice Am M.length cm) := P6.cell 1
      clear r0 r1 ks hP ho hx
      go_wp2_with fail
      refine k6.mono ?_
      rintro e w7 ⟨rfl, x7⟩
      have x27 := ext_trans x6 x7
      have o7 : OwnF w7 (.slice Am M.length cm) S6 := o6.ext x7
      have P7 := P6.mod x7 (fun h => h)
      have BR7 := hrk x27
      have f0 := Blk.frozen BR7 0
      have f1 := Blk.frozen BR7 1
      have p0 : w7.cell? ⟨gr, 0, none⟩ = some (.int .i64 0) := BR7.cell 0
      have p1 : w7.cell? ⟨gr, 1, none⟩ = some (.slice none 0 0) := BR7.cell 1
      have R5 := fun p q => (BR7.set_ 0 p).set_ 1 q
      replace t0 : w7.cell? ⟨p, 0, none⟩ = some (.int .i64 N) := P7.cell 0
      replace t1 : w7.cell? ⟨p, 1, none⟩ = some (.slice Am M.length cm) := P7.cell 1
      have hpm : Hid (S6.Perm ((wo G L).1 ++ B)) := Lib.hid (by rw [← hM0.out, ← hMM.out]; exact p6)
      clear p6 k6
      by_cases hvS : isV N S6
      case neg =>
        rw [dfalse hvS]
        have hbad : Hid (¬ isV (nextF nx B) S6) := Lib.hid (by rw [← hN.out]; exact hvS)
        clear hvS
        go_wp2_with fail
        refine bodyPost_ret (results_cell_row2 Try.results22 _ _ _ _ _ _ _ rfl (R5 (.int .i64 0) (.slice none 0 0)) Try.underlying24 rfl (by kernel_rfl)) rfl ?_
        exact ⟨Or.inr ⟨Or.inr ⟨S6, hpm.out, s6, hbad.out⟩, rfl⟩, fin _ _ (ext_trans y2 x27)⟩
      rw [dtrue hvS]
      have hgood : Hid (isV (nextF nx B) S6) := Lib.hid (by rw [← hN.out]; exact hvS)
      have of := fun p q => OwnR.mod o7 (set2_mod w7 gr p q) (fun k hk e => ownR_ne_blk o7 BR7 (by decide) hk e)
      clear hvS
      go_wp2_with fail
      refine bodyPost_ret (results_cell_row2 Try.results22 _ _ _ _ _ _ _ rfl (R5 (.int .i64 N) (.slice Am M.length cm)) Try.underlying24 rfl (by kernel_rfl)) rfl ?_
      exact ⟨Or.inl ⟨S6, _, hch.out, hpm.out, s6, hgood.out, of _ _, by rw [hN.out]; rfl⟩, fin _ _ (ext_trans y2 x27)⟩
end Go.Proofs.Ytmjkgibeljbloaa
