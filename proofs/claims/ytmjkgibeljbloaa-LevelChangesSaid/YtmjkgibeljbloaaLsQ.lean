/- level: the document's Change. -/
import Derived.Test.YtmjkgibeljbloaaLsP
namespace Go.Proofs.Ytmjkgibeljbloaa
open Go.RowKit
set_option maxRecDepth 100000

theorem is_at {w : World} {S : Nat → Prop} {A : Option Addr} {n c : Nat} {l : List Int} (h : Is w S (.slice A n c) l) {k : Nat} (hk : k < l.length) : ∃ ad, A = some ad ∧ w.cell? (ad.add k) = some (.int .i64 l[k]) := by
  obtain ⟨A', c', e, _, _, _, h5⟩ := h
  injection e with e1
  subst e1
  obtain ⟨ad, ha, _, hc⟩ := Cells.at_ h5 hk
  exact ⟨ad, ha, hc⟩
/-- Where a file goes in. -/
theorem insD_cut : ∀ (M : List Fl) (y : Fl), ∃ T, T ≤ M.length ∧ (∀ j, j < T → ∀ h : j < M.length, aheadF M[j] y) ∧ (∀ h : T < M.length, ¬ aheadF M[T] y) ∧ insD M y = M.take T ++ y :: M.drop T
  | [], y => ⟨0, Nat.le_refl _, fun j hj => absurd hj (Nat.not_lt_zero _), fun h => absurd h (Nat.not_lt_zero _), rfl⟩
  | a :: M, y => by
    by_cases ha : aheadF a y
    · obtain ⟨T, h1, h2, h3, h4⟩ := insD_cut M y
      refine ⟨T + 1, Nat.succ_le_succ h1, fun j hj h => ?_, fun h => h3 (Nat.lt_of_succ_lt_succ h), ?_⟩
      · cases j with
        | zero => exact ha
        | succ j => exact h2 j (Nat.lt_of_succ_lt_succ hj) (Nat.lt_of_succ_lt_succ h)
      · unfold insD at h4 ⊢
        rw [List.takeWhile_cons_of_pos (by simpa using ha), List.dropWhile_cons_of_pos (by simpa using ha), List.cons_append, h4]
        rfl
    · refine ⟨0, Nat.zero_le _, fun j hj => absurd hj (Nat.not_lt_zero _), fun _ => ha, ?_⟩
      unfold insD
      rw [List.takeWhile_cons_of_neg (by simpa using ha), List.dropWhile_cons_of_neg (by simpa using ha)]
      rfl
theorem OwnR.empty {α : Type} (f : α → List Value) (k : Nat) (w : World) (e : TypeId) : OwnR f k (w.alloc (.cells #[] e)) e (.slice (some ⟨w.heap.size, 0, none⟩) 0 0) [] :=
  ⟨by simp, .inr ⟨w.heap.size, 0, #[], rfl, Nat.zero_le _, heap_alloc_new w _, Nat.le_refl _, Nat.zero_le _, by simp, by simp⟩⟩
set_option maxHeartbeats 200000000 in
theorem rchange_front {w : World} {S S' : Nat → Prop} {nx : Int} {v u va : Value} {L B : List Fl} {G : List Int} (h : Fs w S v L) (hf : MFits L) (hfb : MFits B) {S2 : Nat → Prop} (hg : Is w S2 u G) (hB : Fs w S' va B)
    (hid : ∀ c ∈ L, -9223372036854775808 ≤ c.id ∧ c.id ≤ 9223372036854775807) (hidb : ∀ c ∈ B, -9223372036854775808 ≤ c.id ∧ c.id ≤ 9223372036854775807) (hgd : ∀ x ∈ G, -9223372036854775808 ≤ x ∧ x ≤ 9223372036854775807) (hG : G.length ≤ 1000000) (hsm : MFits (L ++ B)) (hLB : L.length + B.length ≤ 1000000) :
    Calls Try.prog 23 #[.agg #[.int .i64 nx, v], u, va] w fun e w' => chAns nx L G B e w' ∧ Ext w w' := by
  obtain ⟨A, c, rfl⟩ := h.shape
  obtain ⟨Ab, cb, rfl, g1, g2, g3, g4⟩ := hB.open_ fic_len
  have B0 : Blk (w.alloc (.cells #[.int .i64 nx, .slice A L.length c] 24)) w.heap.size 24 #[.int .i64 nx, .slice A L.length c] := Blk.new w _ _
  have x0 : Ext w (w.alloc (.cells #[.int .i64 nx, .slice A L.length c] 24)) := (Mod.refl _ w).alloc _
  obtain ⟨w0, hw0⟩ : ∃ w0, w0 = w.alloc (.cells #[.int .i64 nx, .slice A L.length c] 24) := ⟨_, rfl⟩
  rw [← hw0] at B0 x0
  have B1 : Blk (w0.alloc (.cells #[.int .i64 0, .slice none 0 0] 24)) w0.heap.size 24 #[.int .i64 0, .slice none 0 0] := Blk.new w0 _ _
  have x1 : Ext w0 (w0.alloc (.cells #[.int .i64 0, .slice none 0 0] 24)) := (Mod.refl _ w0).alloc _
  obtain ⟨gv, hgv⟩ : ∃ g, g = w.heap.size := ⟨_, rfl⟩
  have hs0 : w0.heap.size = gv + 1 := by rw [hw0, hgv]; simp
  obtain ⟨gr, hgr⟩ : ∃ g, g = gv + 1 := ⟨_, rfl⟩
  rw [← hgv] at B0
  rw [hs0, ← hgr] at B1
  have hgw : w.heap.size ≤ gv := by omega
  have hgw2 : w.heap.size ≤ gr := by omega
  clear hs0
  obtain ⟨w1, hw1⟩ : ∃ w1, w1 = w0.alloc (.cells #[.int .i64 0, .slice none 0 0] 24) := ⟨_, rfl⟩
  rw [← hw1] at B1 x1
  replace B0 := B0.mod x1 (fun h => h)
  have y1 := ext_trans x0 x1
  have hLf := h.ext y1
  have b0 : w1.cell? ⟨gv, 0, none⟩ = some (.int .i64 nx) := B0.cell 0
  have b1 : w1.cell? ⟨gv, 1, none⟩ = some (.slice A L.length c) := B0.cell 1
  have ki := ris_any (n := nx) hLf hf
  replace hw0 := Lib.hid hw0
  replace hw1 := Lib.hid hw1
  replace hgv := Lib.hid hgv
  replace hgr := Lib.hid hgr
  have fin : ∀ {wx : World} p q, Ext w wx → Ext w ((wx.setCell ⟨gr, 0, none⟩ p).setCell ⟨gr, 1, none⟩ q) := fun p q x => x.trans (set2_mod _ gr p q) (fun _ _ h => h) (fun k hk e => by omega)
  clear x0 x1 h
  go_enter Try.func23, Try.ntmps23
  go_upto_region 1 with fail
  rw [← hw0.out, ← hw1.out, ← hgv.out, ← hgr.out]
  have hgg : gv ≠ gr := by have := hgr.out; omega
  clear hw0 hw1 hgv hgr
  go_wp2_with fail
  refine ki.mono ?_
  rintro e w2 ⟨rfl, x2⟩
  have y2 := ext_trans y1 x2
  replace B0 := B0.mod x2 (fun h => h)
  replace B1 := B1.mod x2 (fun h => h)
  have b2 : w2.cell? ⟨gv, 0, none⟩ = some (.int .i64 nx) := B0.cell 0
  have b3 : w2.cell? ⟨gv, 1, none⟩ = some (.slice A L.length c) := B0.cell 1
  have f0 := Blk.frozen B1 0
  have f1 := Blk.frozen B1 1
  have p0 : w2.cell? ⟨gr, 0, none⟩ = some (.int .i64 0) := B1.cell 0
  have p1 : w2.cell? ⟨gr, 1, none⟩ = some (.slice none 0 0) := B1.cell 1
  by_cases hv : isV nx L
  case neg =>
    have R5 := fun p q => (B1.set_ 0 p).set_ 1 q
    have hbad : Hid (¬ chOk nx L G B) := Lib.hid fun q => hv q.1
    rw [dfalse hv]
    clear hv ki
    go_wp2_with fail
    refine bodyPost_ret (results_cell_row2 Try.results23 _ _ _ _ _ _ _ rfl (R5 (.int .i64 0) (.slice none 0 0)) Try.underlying24 rfl (by kernel_rfl)) rfl ?_
    exact ⟨Or.inr ⟨Or.inl hbad.out, rfl⟩, fin _ _ y2⟩
  rw [dtrue hv]
  have hn56 : (([] : List Fl).length + L.length) * 56 ≤ 140737488355328 := by (have := hf.2; simp only [List.length_nil]; omega)
  have h0 : Fs w2 S (.slice A L.length c) L := hLf.ext x2
  have BR := B1
  have hbk : ∀ {wx : World}, Ext w2 wx → wx.cell? ⟨gv, 0, none⟩ = some (.int .i64 nx) ∧ wx.cell? ⟨gv, 1, none⟩ = some (.slice A L.length c) := fun x => ⟨ext_cell x b2, ext_cell x b3⟩
  have r0 : Ext w2 w2.drew := (Mod.refl _ w2).drew
  clear ki f0 f1 p0 p1 B1
  go_upto_region 3 with fail
  go_cut [8] (fun s8 wx => ∃ (p : Nat) (vm : Value), s8 = .pointer (some ⟨p, 0, none⟩) ∧ Blk wx p 24 #[.int .i64 nx, vm] ∧ OwnF wx vm L ∧ w2.heap.size ≤ p ∧ Fresh w2.heap.size vm ∧ Ext w2 wx)
  case first =>
    refine wp_region_held_drew (S := fun wx => wx.cell? ⟨gv, 0, none⟩ = some (.int .i64 nx) ∧ wx.cell? ⟨gv, 1, none⟩ = some (.slice A L.length c)) (by kernel_rfl) (hbk r0) (fun hH => ?_)
    (refine wpAnyH_take (i := 0) (oi := ⟨_, _, _, _, _, _⟩) (v := ?tv601) rfl (by kernel_rfl) (by kernel_rfl) (by kernel_rfl) (fun _ _ _ h => h) (Or.inl ⟨by kernel_rfl, ?hy601⟩) hH ?rs601; (case hy601 => (intro wx hSw; (try dsimp only at hSw); go_simp; try with_reducible rfl)); try simp only [Act.put, List.setIfInBounds_toArray, List.set_cons_zero, List.set_cons_succ]; try simp only [List.getElem_toArray, List.getElem_cons_succ, List.getElem_cons_zero])
    (refine wpAnyH_take (i := 1) (oi := ⟨_, _, _, _, _, _⟩) (v := ?tv602) rfl (by kernel_rfl) (by kernel_rfl) (by kernel_rfl) (fun _ _ _ h => h) (Or.inl ⟨by kernel_rfl, ?hy602⟩) hH ?rs602; (case hy602 => (intro wx hSw; (try dsimp only at hSw); go_simp; try with_reducible rfl)); try simp only [Act.put, List.setIfInBounds_toArray, List.set_cons_zero, List.set_cons_succ]; try simp only [List.getElem_toArray, List.getElem_cons_succ, List.getElem_cons_zero])
    (refine wpAnyH_take (i := 3) (oi := ⟨_, _, _, _, _, _⟩) (v := ?tv603) rfl (by kernel_rfl) (by kernel_rfl) (by kernel_rfl) (fun _ _ _ h => h) (Or.inl ⟨by kernel_rfl, ?hy603⟩) hH ?rs603; (case hy603 => (intro wx hSw; (try dsimp only at hSw); go_simp; try with_reducible rfl)); try simp only [Act.put, List.setIfInBounds_toArray, List.set_cons_zero, List.set_cons_succ]; try simp only [List.getElem_toArray, List.getElem_cons_succ, List.getElem_cons_zero])
    (refine wpAnyH_take (i := 4) (oi := ⟨_, _, _, _, _, _⟩) (v := ?tv604) rfl (by kernel_rfl) (by kernel_rfl) (by kernel_rfl) (fun _ _ _ h => h) (Or.inl ⟨by kernel_rfl, ?hy604⟩) hH ?rs604; (case hy604 => (intro wx hSw; (try dsimp only at hSw); go_simp; try with_reducible rfl)); try simp only [Act.put, List.setIfInBounds_toArray, List.set_cons_zero, List.set_cons_succ]; try simp only [List.getElem_toArray, List.getElem_cons_succ, List.getElem_cons_zero])
    refine wpAnyH_ready (rs := [2, 7]) (by kernel_rfl) (by simp) ?_
    refine AllReadyH.cons rfl (fun K hK => ?_) (AllReadyH.cons rfl (fun K hK => ?_) AllReadyH.nil)
    case' refine_2 =>
      have BP : Blk (w2.alloc (.cells #[.int .i64 0, .slice none 0 0] 24)).drew w2.heap.size 24 #[.int .i64 0, .slice none 0 0] := Blk.new w2 24 #[.int .i64 0, .slice none 0 0]
      have qP : Ext w2 (w2.alloc (.cells #[.int .i64 0, .slice none 0 0] 24)).drew := ((Mod.refl _ w2).alloc _).drew
      have hpp : w2.heap.size ≤ w2.heap.size := Nat.le_refl _
      go_simp
      (go_wp2_with fail; refine hK.out _ _ (hbk qP) (fun hH => ?_); clear hK K; try simp only [Act.put, List.setIfInBounds_toArray, List.set_cons_zero, List.set_cons_succ]; try simp only [List.getElem_toArray, List.getElem_cons_succ, List.getElem_cons_zero])
      obtain ⟨p, hp⟩ : ∃ p, p = w2.heap.size := ⟨_, rfl⟩
      rw [← hp] at BP ⊢
      replace hpp : w2.heap.size ≤ p := by omega
      replace hp := Lib.hid hp
      generalize (w2.alloc (.cells #[.int .i64 0, .slice none 0 0] 24)).drew = wP at *
      refine wpAnyH_ready (rs := [2]) (by kernel_rfl) (by simp) ?_
      refine AllReadyH.cons rfl (fun K hK => ?_) AllReadyH.nil
      have oE : OwnF (wP.alloc (.cells #[] 48)) (.slice (some ⟨wP.heap.size, 0, none⟩) 0 0) [] := OwnR.empty fic 5 wP 48
      have qE : Ext w2 (wP.alloc (.cells #[] 48)) := qP.alloc _
      have fE : Fresh w2.heap.size (.slice (some ⟨wP.heap.size, 0, none⟩) 0 0) := fun k hk => by (have h9 : wP.heap.size = k := Option.some.inj hk); have h8 := qP.size; omega
      replace BP := BP.mod ((Mod.refl (fun _ => False) wP).alloc (.cells #[] 48)) (fun h => h)
      go_simp
      (go_wp2_with fail; refine hK.out _ _ (hbk qE) (fun hH => ?_); clear hK K; try simp only [Act.put, List.setIfInBounds_toArray, List.set_cons_zero, List.set_cons_succ]; try simp only [List.getElem_toArray, List.getElem_cons_succ, List.getElem_cons_zero])
      generalize (wP.alloc (.cells #[] 48)) = wE at *
      generalize wP.heap.size = hE at *
      have hnp : ∀ k, own (Value.slice (some ⟨hE, 0, none⟩) 0 0) k → k ≠ p := fun k hk e => ownR_ne_blk oE BP (by decide) hk e
      refine wpAnyH_ready (rs := [5]) (by kernel_rfl) (by simp) ?_
      refine AllReadyH.cons rfl (fun K hK => ?_) AllReadyH.nil
      refine step_appRs 24 tyF oE (h0.ext qE) (fic_all _) hn56 rfl rfl (.tmp 21) (.tmp 23) rfl rfl rfl ?_
      intro vm wa ka1 ka2 ka3
      rw [List.nil_append] at ka1
      have qA := ext_app0 qE fE ka2
      have fA := ka3.fresh fE qE.size
      (refine hK.out _ _ (hbk qA) (fun hH => ?_); clear hK K; try simp only [Act.put, List.setIfInBounds_toArray, List.set_cons_zero, List.set_cons_succ]; try simp only [List.getElem_toArray, List.getElem_cons_succ, List.getElem_cons_zero])
      obtain ⟨Am, cm, rfl⟩ := OwnR.shape ka1
      (refine wpAnyH_take (i := 6) (oi := ⟨_, _, _, _, _, _⟩) (v := ?tv605) rfl (by kernel_rfl) (by kernel_rfl) (by kernel_rfl) (fun _ _ _ h => h) (Or.inl ⟨by kernel_rfl, ?hy605⟩) hH ?rs605; (case hy605 => (intro wx hSw; (try dsimp only at hSw); go_simp; try with_reducible rfl)); try simp only [Act.put, List.setIfInBounds_toArray, List.set_cons_zero, List.set_cons_succ]; try simp only [List.getElem_toArray, List.getElem_cons_succ, List.getElem_cons_zero])
      replace BP := BP.mod ka2 (fun h => hnp p h rfl)
      have f8 := Blk.frozen BP 0
      have f9 := Blk.frozen BP 1
      have p8 : wa.cell? ⟨p, 0, none⟩ = some (.int .i64 0) := BP.cell 0
      have p9 : wa.cell? ⟨p, 1, none⟩ = some (.slice none 0 0) := BP.cell 1
      obtain ⟨v1, v2, v3⟩ := ver_put (nx := nx) qA hpp BP ka1
      refine wpAnyH_ready (rs := [8]) (by kernel_rfl) (by simp) ?_
      refine AllReadyH.cons rfl (fun K hK => ?_) AllReadyH.nil
      go_simp
      (go_wp2_with fail; refine hK.out _ _ (hbk v3) (fun hH => ?_); clear hK K; try simp only [Act.put, List.setIfInBounds_toArray, List.set_cons_zero, List.set_cons_succ]; try simp only [List.getElem_toArray, List.getElem_cons_succ, List.getElem_cons_zero])
      refine wpAnyH_done (by kernel_rfl) ?_ _
    case' refine_1 =>
      have oE : OwnF (w2.alloc (.cells #[] 48)).drew (.slice (some ⟨w2.heap.size, 0, none⟩) 0 0) [] := OwnR.empty fic 5 w2 48
      have qE : Ext w2 (w2.alloc (.cells #[] 48)).drew := ((Mod.refl _ w2).alloc _).drew
      have fE : Fresh w2.heap.size (.slice (some ⟨w2.heap.size, 0, none⟩) 0 0) := fun k hk => by (have h9 : w2.heap.size = k := Option.some.inj hk); omega
      go_simp
      (go_wp2_with fail; refine hK.out _ _ (hbk qE) (fun hH => ?_); clear hK K; try simp only [Act.put, List.setIfInBounds_toArray, List.set_cons_zero, List.set_cons_succ]; try simp only [List.getElem_toArray, List.getElem_cons_succ, List.getElem_cons_zero])
      obtain ⟨hE, hhE⟩ : ∃ hE, hE = w2.heap.size := ⟨_, rfl⟩
      rw [← hhE] at oE ⊢
      replace fE : Fresh w2.heap.size (.slice (some ⟨hE, 0, none⟩) 0 0) := by (rw [hhE]; exact fE)
      replace hhE := Lib.hid hhE
      generalize (w2.alloc (.cells #[] 48)).drew = wE at *
      refine wpAnyH_ready (rs := [5, 7]) (by kernel_rfl) (by simp) ?_
      refine AllReadyH.cons rfl (fun K hK => ?_) (AllReadyH.cons rfl (fun K hK => ?_) AllReadyH.nil)
      case' refine_1 =>
        refine step_appRs 24 tyF oE (h0.ext qE) (fic_all _) hn56 rfl rfl (.tmp 21) (.tmp 23) rfl rfl rfl ?_
        intro vm wa ka1 ka2 ka3
        rw [List.nil_append] at ka1
        have qA := ext_app0 qE fE ka2
        have fA := ka3.fresh fE qE.size
        (refine hK.out _ _ (hbk qA) (fun hH => ?_); clear hK K; try simp only [Act.put, List.setIfInBounds_toArray, List.set_cons_zero, List.set_cons_succ]; try simp only [List.getElem_toArray, List.getElem_cons_succ, List.getElem_cons_zero])
        obtain ⟨Am, cm, rfl⟩ := OwnR.shape ka1
        (refine wpAnyH_take (i := 6) (oi := ⟨_, _, _, _, _, _⟩) (v := ?tv606) rfl (by kernel_rfl) (by kernel_rfl) (by kernel_rfl) (fun _ _ _ h => h) (Or.inl ⟨by kernel_rfl, ?hy606⟩) hH ?rs606; (case hy606 => (intro wx hSw; (try dsimp only at hSw); go_simp; try with_reducible rfl)); try simp only [Act.put, List.setIfInBounds_toArray, List.set_cons_zero, List.set_cons_succ]; try simp only [List.getElem_toArray, List.getElem_cons_succ, List.getElem_cons_zero])
        refine wpAnyH_ready (rs := [7]) (by kernel_rfl) (by simp) ?_
        refine AllReadyH.cons rfl (fun K hK => ?_) AllReadyH.nil
        have BP : Blk (wa.alloc (.cells #[.int .i64 0, .slice none 0 0] 24)) wa.heap.size 24 #[.int .i64 0, .slice none 0 0] := Blk.new wa 24 #[.int .i64 0, .slice none 0 0]
        have qP : Ext w2 (wa.alloc (.cells #[.int .i64 0, .slice none 0 0] 24)) := qA.alloc _
        have hpp : w2.heap.size ≤ wa.heap.size := qA.size
        have hnp : ∀ k, own (Value.slice Am L.length cm) k → k ≠ wa.heap.size := fun k hk e => by (have := OwnR.lt ka1 hk; omega)
        have oP := OwnR.alloc ka1 (.cells #[.int .i64 0, .slice none 0 0] 24)
        go_simp
        (go_wp2_with fail; refine hK.out _ _ (hbk qP) (fun hH => ?_); clear hK K; try simp only [Act.put, List.setIfInBounds_toArray, List.set_cons_zero, List.set_cons_succ]; try simp only [List.getElem_toArray, List.getElem_cons_succ, List.getElem_cons_zero])
        generalize (wa.alloc (.cells #[.int .i64 0, .slice none 0 0] 24)) = wP at *
        generalize wa.heap.size = p at *
        have f8 := Blk.frozen BP 0
        have f9 := Blk.frozen BP 1
        have p8 : wP.cell? ⟨p, 0, none⟩ = some (.int .i64 0) := BP.cell 0
        have p9 : wP.cell? ⟨p, 1, none⟩ = some (.slice none 0 0) := BP.cell 1
        obtain ⟨v1, v2, v3⟩ := ver_put (nx := nx) qP hpp BP oP
        refine wpAnyH_ready (rs := [8]) (by kernel_rfl) (by simp) ?_
        refine AllReadyH.cons rfl (fun K hK => ?_) AllReadyH.nil
        go_simp
        (go_wp2_with fail; refine hK.out _ _ (hbk v3) (fun hH => ?_); clear hK K; try simp only [Act.put, List.setIfInBounds_toArray, List.set_cons_zero, List.set_cons_succ]; try simp only [List.getElem_toArray, List.getElem_cons_succ, List.getElem_cons_zero])
        refine wpAnyH_done (by kernel_rfl) ?_ _
      case' refine_2 =>
        have BP : Blk (wE.alloc (.cells #[.int .i64 0, .slice none 0 0] 24)) wE.heap.size 24 #[.int .i64 0, .slice none 0 0] := Blk.new wE 24 #[.int .i64 0, .slice none 0 0]
        have qP : Ext w2 (wE.alloc (.cells #[.int .i64 0, .slice none 0 0] 24)) := qE.alloc _
        have hpp : w2.heap.size ≤ wE.heap.size := qE.size
        have hnp : ∀ k, own (Value.slice (some ⟨hE, 0, none⟩) 0 0) k → k ≠ wE.heap.size := fun k hk e => by (have := OwnR.lt oE hk; omega)
        have oP := OwnR.alloc oE (.cells #[.int .i64 0, .slice none 0 0] 24)
        go_simp
        (go_wp2_with fail; refine hK.out _ _ (hbk qP) (fun hH => ?_); clear hK K; try simp only [Act.put, List.setIfInBounds_toArray, List.set_cons_zero, List.set_cons_succ]; try simp only [List.getElem_toArray, List.getElem_cons_succ, List.getElem_cons_zero])
        generalize (wE.alloc (.cells #[.int .i64 0, .slice none 0 0] 24)) = wP at *
        generalize wE.heap.size = p at *
        refine wpAnyH_ready (rs := [5]) (by kernel_rfl) (by simp) ?_
        refine AllReadyH.cons rfl (fun K hK => ?_) AllReadyH.nil
        refine step_appRs 24 tyF oP (h0.ext qP) (fic_all _) hn56 rfl rfl (.tmp 21) (.tmp 23) rfl rfl rfl ?_
        intro vm wa ka1 ka2 ka3
        rw [List.nil_append] at ka1
        have qA := ext_app0 qP fE ka2
        have fA := ka3.fresh fE qP.size
        (refine hK.out _ _ (hbk qA) (fun hH => ?_); clear hK K; try simp only [Act.put, List.setIfInBounds_toArray, List.set_cons_zero, List.set_cons_succ]; try simp only [List.getElem_toArray, List.getElem_cons_succ, List.getElem_cons_zero])
        obtain ⟨Am, cm, rfl⟩ := OwnR.shape ka1
        (refine wpAnyH_take (i := 6) (oi := ⟨_, _, _, _, _, _⟩) (v := ?tv607) rfl (by kernel_rfl) (by kernel_rfl) (by kernel_rfl) (fun _ _ _ h => h) (Or.inl ⟨by kernel_rfl, ?hy607⟩) hH ?rs607; (case hy607 => (intro wx hSw; (try dsimp only at hSw); go_simp; try with_reducible rfl)); try simp only [Act.put, List.setIfInBounds_toArray, List.set_cons_zero, List.set_cons_succ]; try simp only [List.getElem_toArray, List.getElem_cons_succ, List.getElem_cons_zero])
        replace BP := BP.mod ka2 (fun h => hnp p h rfl)
        have f8 := Blk.frozen BP 0
        have f9 := Blk.frozen BP 1
        have p8 : wa.cell? ⟨p, 0, none⟩ = some (.int .i64 0) := BP.cell 0
        have p9 : wa.cell? ⟨p, 1, none⟩ = some (.slice none 0 0) := BP.cell 1
        obtain ⟨v1, v2, v3⟩ := ver_put (nx := nx) qA hpp BP ka1
        refine wpAnyH_ready (rs := [8]) (by kernel_rfl) (by simp) ?_
        refine AllReadyH.cons rfl (fun K hK => ?_) AllReadyH.nil
        go_simp
        (go_wp2_with fail; refine hK.out _ _ (hbk v3) (fun hH => ?_); clear hK K; try simp only [Act.put, List.setIfInBounds_toArray, List.set_cons_zero, List.set_cons_succ]; try simp only [List.getElem_toArray, List.getElem_cons_succ, List.getElem_cons_zero])
        refine wpAnyH_done (by kernel_rfl) ?_ _
    all_goals go_wp2_with fail
    all_goals go_meet
    all_goals exact ⟨p, _, rfl, v1, v2, hpp, fA, v3⟩
  case rest =>
    obtain ⟨p, vm0, rfl, v1, v2, hpp, fA, v3⟩ := hcut
    have hgp : gr ≠ p := by have := BR.lt; omega
    have hrk : ∀ {wx : World}, Ext w2 wx → Blk wx gr 24 #[.int .i64 0, .slice none 0 0] := fun x => BR.mod x (fun h => h)
    obtain ⟨Ag, cg, rfl⟩ : ∃ A c, u = .slice A G.length c := by
      obtain ⟨A, c, e, -⟩ := Sl.open_ hg
      exact ⟨A, c, e⟩
    have hL56 := hf.2
    clear hn56 hbk r0 b2 b3
    go_wp2_with fail
    go_loopw [9] (fun i wr => ∃ (k : Nat) (M : List Fl) (vm : Value), k ≤ G.length ∧ i = .int .i64 k ∧ Hid (dels (G.drop k) M = dels G L) ∧ M.length ≤ L.length ∧ Blk wr p 24 #[.int .i64 nx, vm] ∧ OwnF wr vm M ∧ Fresh w2.heap.size vm ∧ Ext w2 wr) (fun i _ => G.length - (intOf i).toNat)
    case atStart => exact ⟨0, L, vm0, Nat.zero_le _, rfl, Lib.hid rfl, Nat.le_refl _, v1, v2, fA, v3⟩
    case round =>
      clear v1 v2 fA v3
      obtain ⟨k, M, vm, hk, rfl, hd, hML, hP, ho, hfr, hx⟩ := hrel
      by_cases hlt : k < G.length
      case neg =>
        have hbl : decide ((k : Int) < (G.length : Int)) = false := dfalse (by omega)
        have hbl' : decide (k < G.length) = false := dfalse hlt
        obtain rfl : k = G.length := by omega
        have hdM : dels G L = some M := by rw [← hd.out, List.drop_length]; rfl
        have hw : G.Nodup ∧ (wo G L).2 = [] := Decidable.byContradiction fun q => by
          have := (dels_wo hv.ids).2 q
          rw [hdM] at this
          cases this
        have hMw : M = (wo G L).1 := by
          have := (dels_wo hv.ids).1 hw
          rw [hdM] at this
          exact Option.some.inj this
        have sM : Srt M := by
          rw [hMw, wo_eq hv.ids hw.1]
          exact hv.srt.sublist List.filter_sublist
        have hn40 := hv.2.1
        obtain ⟨M0, hM0⟩ : ∃ M0, M0 = M := ⟨_, rfl⟩
        rw [← hM0] at hMw sM
        have hst0 : Hid (M = (B.take 0).foldl insD M0) := Lib.hid (by rw [hM0]; rfl)
        have hlen0 : M.length ≤ L.length + 0 := by omega
        replace hM0 := Lib.hid hM0
        replace hMw := Lib.hid hMw
        replace hw := Lib.hid hw
        replace sM := Lib.hid sM
        clear hd hdM hlt hbl hbl' hk hML
        go_wp2_with fail
        go_loopw [12] (fun i wr => ∃ (k : Nat) (M : List Fl) (vm : Value), k ≤ B.length ∧ i = .int .i64 k ∧ Hid (M = (B.take k).foldl insD M0) ∧ M.length ≤ L.length + k ∧ Hid (∀ f ∈ B.take k, f.id < 1099511627776) ∧ Hid (nextF nx (B.take k) ≤ 1099511627776) ∧ Blk wr p 24 #[.int .i64 (nextF nx (B.take k)), vm] ∧ OwnF wr vm M ∧ Fresh w2.heap.size vm ∧ Ext w2 wr) (fun i _ => B.length - (intOf i).toNat)
        case atStart => exact ⟨0, M, vm, Nat.zero_le _, rfl, hst0, hlen0, Lib.hid (fun f hf => by cases hf), Lib.hid hn40, hP, ho, hfr, hx⟩
        case round =>
          clear hP ho hfr hx hst0 hlen0 hM0 vm M
          obtain ⟨k, M, vm, hk, rfl, hst, hML, hal, hN4, hP, ho, hfr, hx⟩ := hrel
          by_cases hlt : k < B.length
          case neg =>
            have hbl : decide ((k : Int) < (B.length : Int)) = false := dfalse (by omega)
            have hbl' : decide (k < B.length) = false := dfalse hlt
            obtain rfl : k = B.length := by omega
            have hall := hal.out
            have hst2 := hst.out
            rw [List.take_length] at hall hP hst2
            obtain ⟨pf, ps⟩ := insD_all B M0 sM.out
            rw [← hst2] at pf ps
            rw [hMw.out] at pf
            have hch : Hid (chOk nx L G B) := Lib.hid ⟨hv, hw.out, hall⟩
            obtain ⟨N, hN⟩ : ∃ N, N = nextF nx B := ⟨_, rfl⟩
            rw [← hN] at hP
            replace hN := Lib.hid hN
            obtain ⟨Am, cm, rfl⟩ := OwnR.shape ho
            have hfit : MFits M := ch_fits (G := G) hsm pf
            have r0 : wr.cell? ⟨p, 0, none⟩ = some (.int .i64 N) := hP.cell 0
            have r1 : wr.cell? ⟨p, 1, none⟩ = some (.slice Am M.length cm) := hP.cell 1
            have k6 := ris_any (n := N) ho.rc hfit
            replace pf := Lib.hid pf
            replace ps := Lib.hid ps
            clear hall hal hlt hbl hbl' hst hst2 hML hN4 hk
            go_wp2_with fail
            refine k6.mono ?_
            rintro e w7 ⟨rfl, x7⟩
            have x27 := ext_trans hx x7
            have o7 : OwnF w7 (.slice Am M.length cm) M := OwnR.ext ho x7
            have P7 := hP.mod x7 (fun h => h)
            have BR7 := hrk x27
            have f0 := Blk.frozen BR7 0
            have f1 := Blk.frozen BR7 1
            have p0 : w7.cell? ⟨gr, 0, none⟩ = some (.int .i64 0) := BR7.cell 0
            have p1 : w7.cell? ⟨gr, 1, none⟩ = some (.slice none 0 0) := BR7.cell 1
            have R5 := fun p q => (BR7.set_ 0 p).set_ 1 q
            have t0 : w7.cell? ⟨p, 0, none⟩ = some (.int .i64 N) := P7.cell 0
            have t1 : w7.cell? ⟨p, 1, none⟩ = some (.slice Am M.length cm) := P7.cell 1
            clear k6 r0 r1
            by_cases hvS : isV N M
            case neg =>
              rw [dfalse hvS]
              have hbad : Hid (¬ isV (nextF nx B) M) := Lib.hid (by rw [← hN.out]; exact hvS)
              clear hvS
              go_wp2_with fail
              refine bodyPost_ret (results_cell_row2 Try.results23 _ _ _ _ _ _ _ rfl (R5 (.int .i64 0) (.slice none 0 0)) Try.underlying24 rfl (by kernel_rfl)) rfl ?_
              exact ⟨Or.inr ⟨Or.inr ⟨M, pf.out, ps.out, hbad.out⟩, rfl⟩, fin _ _ (ext_trans y2 x27)⟩
            rw [dtrue hvS]
            have hgood : Hid (isV (nextF nx B) M) := Lib.hid (by rw [← hN.out]; exact hvS)
            have of := fun p q => OwnR.mod o7 (set2_mod w7 gr p q) (fun k hk e => ownR_ne_blk o7 BR7 (by decide) hk e)
            clear hvS
            go_wp2_with fail
            refine bodyPost_ret (results_cell_row2 Try.results23 _ _ _ _ _ _ _ rfl (R5 (.int .i64 N) (.slice Am M.length cm)) Try.underlying24 rfl (by kernel_rfl)) rfl ?_
            exact ⟨Or.inl ⟨M, _, hch.out, pf.out, ps.out, hgood.out, of _ _, by rw [hN.out]; rfl⟩, fin _ _ (ext_trans y2 x27)⟩
          have hbl : decide ((k : Int) < (B.length : Int)) = true := dtrue (by omega)
          have hbl' : decide (k < B.length) = true := dtrue hlt
          obtain ⟨ad, hA, -⟩ := Fs.at_ g4 hlt
          subst hA
          obtain ⟨y, hy⟩ : ∃ y, y = B[k] := ⟨_, rfl⟩
          obtain ⟨N, hN⟩ : ∃ N, N = nextF nx (B.take k) := ⟨_, rfl⟩
          rw [← hN] at hP
          obtain ⟨Am, cm, hvm⟩ := OwnR.shape ho
          have hd0 : wr.cell? ⟨p, 0, none⟩ = some (.int .i64 N) := hP.cell 0
          have hd1 : wr.cell? ⟨p, 1, none⟩ = some vm := hP.cell 1
          have hbk : ∀ {wx : World}, Ext wr wx → wx.cell? ⟨p, 0, none⟩ = some (.int .i64 N) ∧ wx.cell? ⟨p, 1, none⟩ = some vm ∧ wx.cell? (ad.add (k * 5)) = some (.int .i64 y.id) ∧ wx.cell? ⟨(ad.add (k * 5)).block, (ad.add (k * 5)).off + 1, none⟩ = some (.int .i64 y.lev) ∧ wx.cell? ⟨(ad.add (k * 5)).block, (ad.add (k * 5)).off + 2, none⟩ = some (.int .i64 y.size) ∧ wx.cell? ⟨(ad.add (k * 5)).block, (ad.add (k * 5)).off + 3, none⟩ = some (sv y.first) ∧ wx.cell? ⟨(ad.add (k * 5)).block, (ad.add (k * 5)).off + 4, none⟩ = some (sv y.last) := by
            intro wx xx
            obtain ⟨ad2, h2, _, e0, e1, e2, e3, e4⟩ := Fs.at_ (g4.ext (ext_trans y2 (ext_trans hx xx))) hlt
            cases h2
            rw [← hy] at e0 e1 e2 e3 e4
            exact ⟨ext_cell xx hd0, ext_cell xx hd1, e0, e1, e2, e3, e4⟩
          have hyid := hidb B[k] (List.getElem_mem hlt)
          have hyB : B[k] ∈ B := List.getElem_mem hlt
          rw [← hy] at hyid hyB
          have t0 : (0 : Int) ≤ (k : Int) := by omega
          have t1 : (k : Int) < (B.length : Int) := by omega
          have r9 : Ext wr wr.drew := (Mod.refl _ wr).drew
          have x9 := ext_trans hx r9
          have hal2 : ∀ f ∈ B.take (k + 1), f ∈ B.take k ∨ f = B[k] := by
            rw [List.take_succ_eq_append_getElem hlt]
            intro f hf
            rcases List.mem_append.1 hf with q | q
            · exact .inl q
            · exact .inr (List.mem_singleton.1 q)
          replace hy := Lib.hid hy
          replace hN := Lib.hid hN
          replace hvm := Lib.hid hvm
          by_cases hge : N ≤ y.id
          case pos =>
            have q1 : decide (N ≤ y.id) = true := dtrue hge
            by_cases hbig : 1099511627776 ≤ y.id
            case pos =>
              have q2 : decide ((1099511627776 : Int) ≤ y.id) = true := dtrue hbig
              have hbad : Hid (¬ chOk nx L G B) := Lib.hid fun q => by have := q.2.2 y hyB; omega
              have BR5 := hrk x9
              have f0 := Blk.frozen BR5 0
              have f1 := Blk.frozen BR5 1
              have p0 : wr.drew.cell? ⟨gr, 0, none⟩ = some (.int .i64 0) := BR5.cell 0
              have p1 : wr.drew.cell? ⟨gr, 1, none⟩ = some (.slice none 0 0) := BR5.cell 1
              have R5 := fun p q => (BR5.set_ 0 p).set_ 1 q
              have BR6 := hrk hx
              have f2 := Blk.frozen BR6 0
              have f3 := Blk.frozen BR6 1
              have p2 : wr.cell? ⟨gr, 0, none⟩ = some (.int .i64 0) := BR6.cell 0
              have p3 : wr.cell? ⟨gr, 1, none⟩ = some (.slice none 0 0) := BR6.cell 1
              obtain ⟨n0, n1, n2, n3, n4, n5, n6⟩ := hbk r9
              go_wp2_with fail
              refine wp_region_held_drew (S := fun wx => wx.cell? ⟨p, 0, none⟩ = some (.int .i64 N) ∧ wx.cell? ⟨p, 1, none⟩ = some vm ∧ wx.cell? (ad.add (k * 5)) = some (.int .i64 y.id) ∧ wx.cell? ⟨(ad.add (k * 5)).block, (ad.add (k * 5)).off + 1, none⟩ = some (.int .i64 y.lev) ∧ wx.cell? ⟨(ad.add (k * 5)).block, (ad.add (k * 5)).off + 2, none⟩ = some (.int .i64 y.size) ∧ wx.cell? ⟨(ad.add (k * 5)).block, (ad.add (k * 5)).off + 3, none⟩ = some (sv y.first) ∧ wx.cell? ⟨(ad.add (k * 5)).block, (ad.add (k * 5)).off + 4, none⟩ = some (sv y.last)) (by kernel_rfl) (hbk r9) (fun hH => ?_)
              (refine wpAnyH_take (i := 0) (oi := ⟨_, _, _, _, _, _⟩) (v := ?tv501) rfl (by kernel_rfl) (by kernel_rfl) (by kernel_rfl) (fun _ _ _ h => h) (Or.inl ⟨by kernel_rfl, ?hy501⟩) hH ?rs501; (case hy501 => (intro wx hSw; (try dsimp only at hSw); go_simp; try with_reducible rfl)); try simp only [Act.put, List.setIfInBounds_toArray, List.set_cons_zero, List.set_cons_succ]; try simp only [List.getElem_toArray, List.getElem_cons_succ, List.getElem_cons_zero])
              (refine wpAnyH_take (i := 1) (oi := ⟨_, _, _, _, _, _⟩) (v := ?tv502) rfl (by kernel_rfl) (by kernel_rfl) (by kernel_rfl) (fun _ _ _ h => h) (Or.inl ⟨by kernel_rfl, ?hy502⟩) hH ?rs502; (case hy502 => (intro wx hSw; (try dsimp only at hSw); go_simp; try with_reducible rfl)); try simp only [Act.put, List.setIfInBounds_toArray, List.set_cons_zero, List.set_cons_succ]; try simp only [List.getElem_toArray, List.getElem_cons_succ, List.getElem_cons_zero])
              (refine wpAnyH_take (i := 2) (oi := ⟨_, _, _, _, _, _⟩) (v := ?tv503) rfl (by kernel_rfl) (by kernel_rfl) (by kernel_rfl) (fun _ _ _ h => h) (Or.inl ⟨by kernel_rfl, ?hy503⟩) hH ?rs503; (case hy503 => (intro wx hSw; (try dsimp only at hSw); go_simp; try with_reducible rfl)); try simp only [Act.put, List.setIfInBounds_toArray, List.set_cons_zero, List.set_cons_succ]; try simp only [List.getElem_toArray, List.getElem_cons_succ, List.getElem_cons_zero])
              (refine wpAnyH_take (i := 3) (oi := ⟨_, _, _, _, _, _⟩) (v := ?tv504) rfl (by kernel_rfl) (by kernel_rfl) (by kernel_rfl) (fun _ _ _ h => h) (Or.inl ⟨by kernel_rfl, ?hy504⟩) hH ?rs504; (case hy504 => (intro wx hSw; (try dsimp only at hSw); go_simp; try with_reducible rfl)); try simp only [Act.put, List.setIfInBounds_toArray, List.set_cons_zero, List.set_cons_succ]; try simp only [List.getElem_toArray, List.getElem_cons_succ, List.getElem_cons_zero])
              (refine wpAnyH_take (i := 4) (oi := ⟨_, _, _, _, _, _⟩) (v := ?tv505) rfl (by kernel_rfl) (by kernel_rfl) (by kernel_rfl) (fun _ _ _ h => h) (Or.inl ⟨by kernel_rfl, ?hy505⟩) hH ?rs505; (case hy505 => (intro wx hSw; (try dsimp only at hSw); go_simp; try with_reducible rfl)); try simp only [Act.put, List.setIfInBounds_toArray, List.set_cons_zero, List.set_cons_succ]; try simp only [List.getElem_toArray, List.getElem_cons_succ, List.getElem_cons_zero])
              (refine wpAnyH_take (i := 5) (oi := ⟨_, _, _, _, _, _⟩) (v := ?tv506) rfl (by kernel_rfl) (by kernel_rfl) (by kernel_rfl) (fun _ _ _ h => h) (Or.inl ⟨by kernel_rfl, ?hy506⟩) hH ?rs506; (case hy506 => (intro wx hSw; (try dsimp only at hSw); go_simp; try with_reducible rfl)); try simp only [Act.put, List.setIfInBounds_toArray, List.set_cons_zero, List.set_cons_succ]; try simp only [List.getElem_toArray, List.getElem_cons_succ, List.getElem_cons_zero])
              (refine wpAnyH_take (i := 6) (oi := ⟨_, _, _, _, _, _⟩) (v := ?tv507) rfl (by kernel_rfl) (by kernel_rfl) (by kernel_rfl) (fun _ _ _ h => h) (Or.inl ⟨by kernel_rfl, ?hy507⟩) hH ?rs507; (case hy507 => (intro wx hSw; (try dsimp only at hSw); go_simp; try with_reducible rfl)); try simp only [Act.put, List.setIfInBounds_toArray, List.set_cons_zero, List.set_cons_succ]; try simp only [List.getElem_toArray, List.getElem_cons_succ, List.getElem_cons_zero])
              (refine wpAnyH_take (i := 7) (oi := ⟨_, _, _, _, _, _⟩) (v := ?tv508) rfl (by kernel_rfl) (by kernel_rfl) (by kernel_rfl) (fun _ _ _ h => h) (Or.inl ⟨by kernel_rfl, ?hy508⟩) hH ?rs508; (case hy508 => (intro wx hSw; (try dsimp only at hSw); go_simp; try with_reducible rfl)); try simp only [Act.put, List.setIfInBounds_toArray, List.set_cons_zero, List.set_cons_succ]; try simp only [List.getElem_toArray, List.getElem_cons_succ, List.getElem_cons_zero])
              refine wpAnyH_done (by kernel_rfl) ?_ _
              go_wp2_with fail
              refine bodyPost_ret (results_cell_row2 Try.results23 _ _ _ _ _ _ _ rfl (R5 (.int .i64 0) (.slice none 0 0)) Try.underlying24 rfl (by kernel_rfl)) rfl ?_
              exact ⟨Or.inr ⟨Or.inl hbad.out, rfl⟩, fin _ _ (ext_trans y2 x9)⟩
            have q2 : decide ((1099511627776 : Int) ≤ y.id) = false := dfalse hbig
            have u1 : IntKind.i64.wrap (y.id + 1) = y.id + 1 := by rw [IntKind.wrap_i64]; omega
            have hN2 : Hid (nextF nx (B.take (k + 1)) = y.id + 1) := Lib.hid (by rw [nextF_snoc nx B hlt, ← hN.out, ← hy.out]; omega)
            have hal3 : Hid (∀ f ∈ B.take (k + 1), f.id < 1099511627776) := Lib.hid (fun f hf => by
              rcases hal2 f hf with q | q
              · exact hal.out f q
              · rw [q, ← hy.out]; omega)
            have hP9 := hP.mod r9 (fun h => h)
            have f0 := Blk.frozen hP9 0
            have f2 := Blk.frozen hP 0
            have P5 : Blk (wr.setCell ⟨p, 0, none⟩ (.int .i64 (y.id + 1))).drew p 24 #[.int .i64 (y.id + 1), vm] := hP.set_ 0 (.int .i64 (y.id + 1))
            have m5 := (setc_mod wr p 0 (.int .i64 (y.id + 1))).drew
            have o5 : OwnF (wr.setCell ⟨p, 0, none⟩ (.int .i64 (y.id + 1))).drew vm M := OwnR.mod ho m5 (fun k hk e => ownR_ne_blk ho hP (by decide) hk e)
            have x5 : Ext w2 (wr.setCell ⟨p, 0, none⟩ (.int .i64 (y.id + 1))).drew := hx.trans m5 (fun _ _ h => h) (fun k hk e => by omega)
            obtain ⟨n0, n1, n2, n3, n4, n5, n6⟩ := hbk r9
            clear hal hal2
            go_wp2_with fail
            refine wp_region_held_drew (S := fun wx => wx.cell? ⟨p, 0, none⟩ = some (.int .i64 N) ∧ wx.cell? ⟨p, 1, none⟩ = some vm ∧ wx.cell? (ad.add (k * 5)) = some (.int .i64 y.id) ∧ wx.cell? ⟨(ad.add (k * 5)).block, (ad.add (k * 5)).off + 1, none⟩ = some (.int .i64 y.lev) ∧ wx.cell? ⟨(ad.add (k * 5)).block, (ad.add (k * 5)).off + 2, none⟩ = some (.int .i64 y.size) ∧ wx.cell? ⟨(ad.add (k * 5)).block, (ad.add (k * 5)).off + 3, none⟩ = some (sv y.first) ∧ wx.cell? ⟨(ad.add (k * 5)).block, (ad.add (k * 5)).off + 4, none⟩ = some (sv y.last)) (by kernel_rfl) (hbk r9) (fun hH => ?_)
            (refine wpAnyH_take (i := 0) (oi := ⟨_, _, _, _, _, _⟩) (v := ?tv608) rfl (by kernel_rfl) (by kernel_rfl) (by kernel_rfl) (fun _ _ _ h => h) (Or.inl ⟨by kernel_rfl, ?hy608⟩) hH ?rs608; (case hy608 => (intro wx hSw; (try dsimp only at hSw); go_simp; try with_reducible rfl)); try simp only [Act.put, List.setIfInBounds_toArray, List.set_cons_zero, List.set_cons_succ]; try simp only [List.getElem_toArray, List.getElem_cons_succ, List.getElem_cons_zero])
            (refine wpAnyH_take (i := 1) (oi := ⟨_, _, _, _, _, _⟩) (v := ?tv609) rfl (by kernel_rfl) (by kernel_rfl) (by kernel_rfl) (fun _ _ _ h => h) (Or.inl ⟨by kernel_rfl, ?hy609⟩) hH ?rs609; (case hy609 => (intro wx hSw; (try dsimp only at hSw); go_simp; try with_reducible rfl)); try simp only [Act.put, List.setIfInBounds_toArray, List.set_cons_zero, List.set_cons_succ]; try simp only [List.getElem_toArray, List.getElem_cons_succ, List.getElem_cons_zero])
            (refine wpAnyH_take (i := 2) (oi := ⟨_, _, _, _, _, _⟩) (v := ?tv610) rfl (by kernel_rfl) (by kernel_rfl) (by kernel_rfl) (fun _ _ _ h => h) (Or.inl ⟨by kernel_rfl, ?hy610⟩) hH ?rs610; (case hy610 => (intro wx hSw; (try dsimp only at hSw); go_simp; try with_reducible rfl)); try simp only [Act.put, List.setIfInBounds_toArray, List.set_cons_zero, List.set_cons_succ]; try simp only [List.getElem_toArray, List.getElem_cons_succ, List.getElem_cons_zero])
            (refine wpAnyH_take (i := 3) (oi := ⟨_, _, _, _, _, _⟩) (v := ?tv611) rfl (by kernel_rfl) (by kernel_rfl) (by kernel_rfl) (fun _ _ _ h => h) (Or.inl ⟨by kernel_rfl, ?hy611⟩) hH ?rs611; (case hy611 => (intro wx hSw; (try dsimp only at hSw); go_simp; try with_reducible rfl)); try simp only [Act.put, List.setIfInBounds_toArray, List.set_cons_zero, List.set_cons_succ]; try simp only [List.getElem_toArray, List.getElem_cons_succ, List.getElem_cons_zero])
            (refine wpAnyH_take (i := 4) (oi := ⟨_, _, _, _, _, _⟩) (v := ?tv612) rfl (by kernel_rfl) (by kernel_rfl) (by kernel_rfl) (fun _ _ _ h => h) (Or.inl ⟨by kernel_rfl, ?hy612⟩) hH ?rs612; (case hy612 => (intro wx hSw; (try dsimp only at hSw); go_simp; try with_reducible rfl)); try simp only [Act.put, List.setIfInBounds_toArray, List.set_cons_zero, List.set_cons_succ]; try simp only [List.getElem_toArray, List.getElem_cons_succ, List.getElem_cons_zero])
            (refine wpAnyH_take (i := 5) (oi := ⟨_, _, _, _, _, _⟩) (v := ?tv613) rfl (by kernel_rfl) (by kernel_rfl) (by kernel_rfl) (fun _ _ _ h => h) (Or.inl ⟨by kernel_rfl, ?hy613⟩) hH ?rs613; (case hy613 => (intro wx hSw; (try dsimp only at hSw); go_simp; try with_reducible rfl)); try simp only [Act.put, List.setIfInBounds_toArray, List.set_cons_zero, List.set_cons_succ]; try simp only [List.getElem_toArray, List.getElem_cons_succ, List.getElem_cons_zero])
            (refine wpAnyH_take (i := 6) (oi := ⟨_, _, _, _, _, _⟩) (v := ?tv614) rfl (by kernel_rfl) (by kernel_rfl) (by kernel_rfl) (fun _ _ _ h => h) (Or.inl ⟨by kernel_rfl, ?hy614⟩) hH ?rs614; (case hy614 => (intro wx hSw; (try dsimp only at hSw); go_simp; try with_reducible rfl)); try simp only [Act.put, List.setIfInBounds_toArray, List.set_cons_zero, List.set_cons_succ]; try simp only [List.getElem_toArray, List.getElem_cons_succ, List.getElem_cons_zero])
            (refine wpAnyH_take (i := 7) (oi := ⟨_, _, _, _, _, _⟩) (v := ?tv615) rfl (by kernel_rfl) (by kernel_rfl) (by kernel_rfl) (fun _ _ _ h => h) (Or.inl ⟨by kernel_rfl, ?hy615⟩) hH ?rs615; (case hy615 => (intro wx hSw; (try dsimp only at hSw); go_simp; try with_reducible rfl)); try simp only [Act.put, List.setIfInBounds_toArray, List.set_cons_zero, List.set_cons_succ]; try simp only [List.getElem_toArray, List.getElem_cons_succ, List.getElem_cons_zero])
            refine wpAnyH_done (by kernel_rfl) ?_ _
            go_upto_block 6 with fail
            generalize (wr.setCell ⟨p, 0, none⟩ (.int .i64 (y.id + 1))).drew = w5 at *
            obtain ⟨N2, hN3⟩ : ∃ N2, N2 = y.id + 1 := ⟨_, rfl⟩
            rw [← hN3] at P5 hN2
            have hN5 : N2 ≤ 1099511627776 := by omega
            clear hN3 f0 f2 n0 n1 n2 n3 n4 n5 n6 u1 q1 q2 hP9 m5
            clear hbk hP ho hx hge hd0 hd1 x9
            have hq := hvm.out
            clear hvm
            subst hq
            obtain ⟨T, hTle, htw1, htw2, hins⟩ := insD_cut M y
            obtain ⟨_, _, he, m1, m2, m3, m4⟩ := (OwnR.rc o5).open_ fic_len
            injection he with he1 _ he3
            subst he1; subst he3
            have hd0 : w5.cell? ⟨p, 1, none⟩ = some (.slice Am M.length cm) := P5.cell 1
            have hd1 : ∀ {wx : World}, Ext w5 wx → wx.cell? ⟨p, 1, none⟩ = some (.slice Am M.length cm) := fun x => ext_cell x hd0
            have hby : ∀ {wx : World}, Ext w5 wx → wx.cell? (ad.add (k * 5)) = some (.int .i64 y.id) ∧ wx.cell? ⟨(ad.add (k * 5)).block, (ad.add (k * 5)).off + 1, none⟩ = some (.int .i64 y.lev) ∧ wx.cell? ⟨(ad.add (k * 5)).block, (ad.add (k * 5)).off + 2, none⟩ = some (.int .i64 y.size) ∧ wx.cell? ⟨(ad.add (k * 5)).block, (ad.add (k * 5)).off + 3, none⟩ = some (sv y.first) ∧ wx.cell? ⟨(ad.add (k * 5)).block, (ad.add (k * 5)).off + 4, none⟩ = some (sv y.last) := by
              intro wx xx
              obtain ⟨ad2, h2, _, e0, e1, e2, e3, e4⟩ := Fs.at_ (g4.ext (ext_trans y2 (ext_trans x5 xx))) hlt
              cases h2
              rw [← hy.out] at e0 e1 e2 e3 e4
              exact ⟨e0, e1, e2, e3, e4⟩
            replace hins := Lib.hid hins
            clear hd0
            go_cut [13] (fun s13 wx => s13 = .int .i64 (T : Nat) ∧ Ext w5 wx)
            case first =>
              go_wp2_with fail
              go_loopw [13] (fun i wx => ∃ j, j ≤ T ∧ i = .int .i64 j ∧ Ext w5 wx) (fun i _ => M.length - (intOf i).toNat)
              case atStart => exact ⟨0, Nat.zero_le _, rfl, Mod.refl _ _⟩
              case round =>
                rename_i wl
                obtain ⟨j, hj, rfl, xw⟩ := hrel
                have q9 := xw.drew
                have j0 : (0 : Int) ≤ (j : Int) := by omega
                by_cases hjm : j < M.length
                case neg =>
                  have hbt : decide ((j : Int) < (M.length : Int)) = false := dfalse (by omega)
                  have hbt' : decide (j < M.length) = false := dfalse hjm
                  obtain rfl : j = T := by omega
                  clear htw1 htw2
                  go_wp2_with fail
                  refine wp_region_held_drew (S := fun wx => wx.cell? ⟨p, 1, none⟩ = some (.slice Am M.length cm)) (by kernel_rfl) (hd1 q9) (fun hH => ?_)
                  (refine wpAnyH_take (i := 0) (oi := ⟨_, _, _, _, _, _⟩) (v := ?tv616) rfl (by kernel_rfl) (by kernel_rfl) (by kernel_rfl) (fun _ _ _ h => h) (Or.inl ⟨by kernel_rfl, ?hy616⟩) hH ?rs616; (case hy616 => (intro wx hSw; (try dsimp only at hSw); go_simp; try with_reducible rfl)); try simp only [Act.put, List.setIfInBounds_toArray, List.set_cons_zero, List.set_cons_succ]; try simp only [List.getElem_toArray, List.getElem_cons_succ, List.getElem_cons_zero])
                  (refine wpAnyH_take (i := 1) (oi := ⟨_, _, _, _, _, _⟩) (v := ?tv617) rfl (by kernel_rfl) (by kernel_rfl) (by kernel_rfl) (fun _ _ _ h => h) (Or.inl ⟨by kernel_rfl, ?hy617⟩) hH ?rs617; (case hy617 => (intro wx hSw; (try dsimp only at hSw); go_simp; try with_reducible rfl)); try simp only [Act.put, List.setIfInBounds_toArray, List.set_cons_zero, List.set_cons_succ]; try simp only [List.getElem_toArray, List.getElem_cons_succ, List.getElem_cons_zero])
                  (refine wpAnyH_take (i := 2) (oi := ⟨_, _, _, _, _, _⟩) (v := ?tv618) rfl (by kernel_rfl) (by kernel_rfl) (by kernel_rfl) (fun _ _ _ h => h) (Or.inl ⟨by kernel_rfl, ?hy618⟩) hH ?rs618; (case hy618 => (intro wx hSw; (try dsimp only at hSw); go_simp; try with_reducible rfl)); try simp only [Act.put, List.setIfInBounds_toArray, List.set_cons_zero, List.set_cons_succ]; try simp only [List.getElem_toArray, List.getElem_cons_succ, List.getElem_cons_zero])
                  (refine wpAnyH_take (i := 3) (oi := ⟨_, _, _, _, _, _⟩) (v := ?tv619) rfl (by kernel_rfl) (by kernel_rfl) (by kernel_rfl) (fun _ _ _ h => h) (Or.inl ⟨by kernel_rfl, ?hy619⟩) hH ?rs619; (case hy619 => (intro wx hSw; (try dsimp only at hSw); go_simp; try with_reducible rfl)); try simp only [Act.put, List.setIfInBounds_toArray, List.set_cons_zero, List.set_cons_succ]; try simp only [List.getElem_toArray, List.getElem_cons_succ, List.getElem_cons_zero])
                  (refine wpAnyH_take (i := 4) (oi := ⟨_, _, _, _, _, _⟩) (v := ?tv620) rfl (by kernel_rfl) (by kernel_rfl) (by kernel_rfl) (fun _ _ _ h => h) (Or.inl ⟨by kernel_rfl, ?hy620⟩) hH ?rs620; (case hy620 => (intro wx hSw; (try dsimp only at hSw); go_simp; try with_reducible rfl)); try simp only [Act.put, List.setIfInBounds_toArray, List.set_cons_zero, List.set_cons_succ]; try simp only [List.getElem_toArray, List.getElem_cons_succ, List.getElem_cons_zero])
                  (refine wpAnyH_take (i := 5) (oi := ⟨_, _, _, _, _, _⟩) (v := ?tv621) rfl (by kernel_rfl) (by kernel_rfl) (by kernel_rfl) (fun _ _ _ h => h) (Or.inl ⟨by kernel_rfl, ?hy621⟩) hH ?rs621; (case hy621 => (intro wx hSw; (try dsimp only at hSw); go_simp; try with_reducible rfl)); try simp only [Act.put, List.setIfInBounds_toArray, List.set_cons_zero, List.set_cons_succ]; try simp only [List.getElem_toArray, List.getElem_cons_succ, List.getElem_cons_zero])
                  (refine wpAnyH_take (i := 6) (v := undef) rfl (by kernel_rfl) (by kernel_rfl) (by kernel_rfl) (fun _ _ _ h => h) (Or.inr ⟨by kernel_rfl, rfl⟩) hH ?rs622; try simp only [Act.put, List.setIfInBounds_toArray, List.set_cons_zero, List.set_cons_succ]; try simp only [List.getElem_toArray, List.getElem_cons_succ, List.getElem_cons_zero])
                  (refine wpAnyH_take (i := 7) (v := undef) rfl (by kernel_rfl) (by kernel_rfl) (by kernel_rfl) (fun _ _ _ h => h) (Or.inr ⟨by kernel_rfl, rfl⟩) hH ?rs623; try simp only [Act.put, List.setIfInBounds_toArray, List.set_cons_zero, List.set_cons_succ]; try simp only [List.getElem_toArray, List.getElem_cons_succ, List.getElem_cons_zero])
                  (refine wpAnyH_take (i := 8) (v := undef) rfl (by kernel_rfl) (by kernel_rfl) (by kernel_rfl) (fun _ _ _ h => h) (Or.inr ⟨by kernel_rfl, rfl⟩) hH ?rs624; try simp only [Act.put, List.setIfInBounds_toArray, List.set_cons_zero, List.set_cons_succ]; try simp only [List.getElem_toArray, List.getElem_cons_succ, List.getElem_cons_zero])
                  (refine wpAnyH_take (i := 9) (v := undef) rfl (by kernel_rfl) (by kernel_rfl) (by kernel_rfl) (fun _ _ _ h => h) (Or.inr ⟨by kernel_rfl, rfl⟩) hH ?rs625; try simp only [Act.put, List.setIfInBounds_toArray, List.set_cons_zero, List.set_cons_succ]; try simp only [List.getElem_toArray, List.getElem_cons_succ, List.getElem_cons_zero])
                  (refine wpAnyH_take (i := 10) (v := undef) rfl (by kernel_rfl) (by kernel_rfl) (by kernel_rfl) (fun _ _ _ h => h) (Or.inr ⟨by kernel_rfl, rfl⟩) hH ?rs626; try simp only [Act.put, List.setIfInBounds_toArray, List.set_cons_zero, List.set_cons_succ]; try simp only [List.getElem_toArray, List.getElem_cons_succ, List.getElem_cons_zero])
                  (refine wpAnyH_take (i := 11) (v := undef) rfl (by kernel_rfl) (by kernel_rfl) (by kernel_rfl) (fun _ _ _ h => h) (Or.inr ⟨by kernel_rfl, rfl⟩) hH ?rs627; try simp only [Act.put, List.setIfInBounds_toArray, List.set_cons_zero, List.set_cons_succ]; try simp only [List.getElem_toArray, List.getElem_cons_succ, List.getElem_cons_zero])
                  (refine wpAnyH_take (i := 12) (v := undef) rfl (by kernel_rfl) (by kernel_rfl) (by kernel_rfl) (fun _ _ _ h => h) (Or.inr ⟨by kernel_rfl, rfl⟩) hH ?rs628; try simp only [Act.put, List.setIfInBounds_toArray, List.set_cons_zero, List.set_cons_succ]; try simp only [List.getElem_toArray, List.getElem_cons_succ, List.getElem_cons_zero])
                  (refine wpAnyH_take (i := 13) (v := undef) rfl (by kernel_rfl) (by kernel_rfl) (by kernel_rfl) (fun _ _ _ h => h) (Or.inr ⟨by kernel_rfl, rfl⟩) hH ?rs629; try simp only [Act.put, List.setIfInBounds_toArray, List.set_cons_zero, List.set_cons_succ]; try simp only [List.getElem_toArray, List.getElem_cons_succ, List.getElem_cons_zero])
                  (refine wpAnyH_take (i := 14) (v := undef) rfl (by kernel_rfl) (by kernel_rfl) (by kernel_rfl) (fun _ _ _ h => h) (Or.inr ⟨by kernel_rfl, rfl⟩) hH ?rs630; try simp only [Act.put, List.setIfInBounds_toArray, List.set_cons_zero, List.set_cons_succ]; try simp only [List.getElem_toArray, List.getElem_cons_succ, List.getElem_cons_zero])
                  (refine wpAnyH_take (i := 15) (v := undef) rfl (by kernel_rfl) (by kernel_rfl) (by kernel_rfl) (fun _ _ _ h => h) (Or.inr ⟨by kernel_rfl, rfl⟩) hH ?rs631; try simp only [Act.put, List.setIfInBounds_toArray, List.set_cons_zero, List.set_cons_succ]; try simp only [List.getElem_toArray, List.getElem_cons_succ, List.getElem_cons_zero])
                  (refine wpAnyH_take (i := 16) (oi := ⟨_, _, _, _, _, _⟩) (v := ?tv632) rfl (by kernel_rfl) (by kernel_rfl) (by kernel_rfl) (fun _ _ _ h => h) (Or.inl ⟨by kernel_rfl, ?hy632⟩) hH ?rs632; (case hy632 => (intro wx hSw; (try dsimp only at hSw); go_simp; try with_reducible rfl)); try simp only [Act.put, List.setIfInBounds_toArray, List.set_cons_zero, List.set_cons_succ]; try simp only [List.getElem_toArray, List.getElem_cons_succ, List.getElem_cons_zero])
                  refine wpAnyH_done (by kernel_rfl) ?_ _
                  go_wp2_with fail
                  go_meet
                  exact ⟨rfl, q9⟩
                have hbt : decide ((j : Int) < (M.length : Int)) = true := dtrue (by omega)
                have hbt' : decide (j < M.length) = true := dtrue hjm
                have j1 : (j : Int) < (M.length : Int) := by omega
                obtain ⟨am, hA, -⟩ := Fs.at_ m4 hjm
                subst hA
                obtain ⟨z, hz⟩ : ∃ z, z = M[j] := ⟨_, rfl⟩
                have hbk4 : ∀ {wx : World}, Ext w5 wx → wx.cell? ⟨p, 1, none⟩ = some (.slice (some am) M.length cm) ∧ wx.cell? (am.add (j * 5)) = some (.int .i64 z.id) ∧ wx.cell? ⟨(am.add (j * 5)).block, (am.add (j * 5)).off + 1, none⟩ = some (.int .i64 z.lev) ∧ wx.cell? ⟨(am.add (j * 5)).block, (am.add (j * 5)).off + 2, none⟩ = some (.int .i64 z.size) ∧ wx.cell? ⟨(am.add (j * 5)).block, (am.add (j * 5)).off + 3, none⟩ = some (sv z.first) ∧ wx.cell? ⟨(am.add (j * 5)).block, (am.add (j * 5)).off + 4, none⟩ = some (sv z.last) ∧ wx.cell? (ad.add (k * 5)) = some (.int .i64 y.id) ∧ wx.cell? ⟨(ad.add (k * 5)).block, (ad.add (k * 5)).off + 1, none⟩ = some (.int .i64 y.lev) ∧ wx.cell? ⟨(ad.add (k * 5)).block, (ad.add (k * 5)).off + 2, none⟩ = some (.int .i64 y.size) ∧ wx.cell? ⟨(ad.add (k * 5)).block, (ad.add (k * 5)).off + 3, none⟩ = some (sv y.first) ∧ wx.cell? ⟨(ad.add (k * 5)).block, (ad.add (k * 5)).off + 4, none⟩ = some (sv y.last) := by
                  intro wx xx
                  obtain ⟨ad2, h2, _, e0, e1, e2, e3, e4⟩ := Fs.at_ (m4.ext xx) hjm
                  cases h2
                  rw [← hz] at e0 e1 e2 e3 e4
                  exact ⟨hd1 xx, e0, e1, e2, e3, e4, hby xx⟩
                have hah := fun wx => ahead11_any (w := wx) z y
                by_cases hjT : j < T
                case pos =>
                  have ha : aheadF z y := by rw [hz]; exact htw1 j hjT hjm
                  simp only [dtrue ha] at hah
                  replace hz := Lib.hid hz
                  clear htw1 htw2 ha
                  go_wp2_with fail
                  refine wp_region_held_drew (S := fun wx => wx.cell? ⟨p, 1, none⟩ = some (.slice (some am) M.length cm) ∧ wx.cell? (am.add (j * 5)) = some (.int .i64 z.id) ∧ wx.cell? ⟨(am.add (j * 5)).block, (am.add (j * 5)).off + 1, none⟩ = some (.int .i64 z.lev) ∧ wx.cell? ⟨(am.add (j * 5)).block, (am.add (j * 5)).off + 2, none⟩ = some (.int .i64 z.size) ∧ wx.cell? ⟨(am.add (j * 5)).block, (am.add (j * 5)).off + 3, none⟩ = some (sv z.first) ∧ wx.cell? ⟨(am.add (j * 5)).block, (am.add (j * 5)).off + 4, none⟩ = some (sv z.last) ∧ wx.cell? (ad.add (k * 5)) = some (.int .i64 y.id) ∧ wx.cell? ⟨(ad.add (k * 5)).block, (ad.add (k * 5)).off + 1, none⟩ = some (.int .i64 y.lev) ∧ wx.cell? ⟨(ad.add (k * 5)).block, (ad.add (k * 5)).off + 2, none⟩ = some (.int .i64 y.size) ∧ wx.cell? ⟨(ad.add (k * 5)).block, (ad.add (k * 5)).off + 3, none⟩ = some (sv y.first) ∧ wx.cell? ⟨(ad.add (k * 5)).block, (ad.add (k * 5)).off + 4, none⟩ = some (sv y.last)) (by kernel_rfl) (hbk4 q9) (fun hH => ?_)
                  (refine wpAnyH_take (i := 0) (oi := ⟨_, _, _, _, _, _⟩) (v := ?tv633) rfl (by kernel_rfl) (by kernel_rfl) (by kernel_rfl) (fun _ _ _ h => h) (Or.inl ⟨by kernel_rfl, ?hy633⟩) hH ?rs633; (case hy633 => (intro wx hSw; (try dsimp only at hSw); go_simp; try with_reducible rfl)); try simp only [Act.put, List.setIfInBounds_toArray, List.set_cons_zero, List.set_cons_succ]; try simp only [List.getElem_toArray, List.getElem_cons_succ, List.getElem_cons_zero])
                  (refine wpAnyH_take (i := 1) (oi := ⟨_, _, _, _, _, _⟩) (v := ?tv634) rfl (by kernel_rfl) (by kernel_rfl) (by kernel_rfl) (fun _ _ _ h => h) (Or.inl ⟨by kernel_rfl, ?hy634⟩) hH ?rs634; (case hy634 => (intro wx hSw; (try dsimp only at hSw); go_simp; try with_reducible rfl)); try simp only [Act.put, List.setIfInBounds_toArray, List.set_cons_zero, List.set_cons_succ]; try simp only [List.getElem_toArray, List.getElem_cons_succ, List.getElem_cons_zero])
                  (refine wpAnyH_take (i := 2) (oi := ⟨_, _, _, _, _, _⟩) (v := ?tv635) rfl (by kernel_rfl) (by kernel_rfl) (by kernel_rfl) (fun _ _ _ h => h) (Or.inl ⟨by kernel_rfl, ?hy635⟩) hH ?rs635; (case hy635 => (intro wx hSw; (try dsimp only at hSw); go_simp; try with_reducible rfl)); try simp only [Act.put, List.setIfInBounds_toArray, List.set_cons_zero, List.set_cons_succ]; try simp only [List.getElem_toArray, List.getElem_cons_succ, List.getElem_cons_zero])
                  (refine wpAnyH_take (i := 3) (oi := ⟨_, _, _, _, _, _⟩) (v := ?tv636) rfl (by kernel_rfl) (by kernel_rfl) (by kernel_rfl) (fun _ _ _ h => h) (Or.inl ⟨by kernel_rfl, ?hy636⟩) hH ?rs636; (case hy636 => (intro wx hSw; (try dsimp only at hSw); go_simp; try with_reducible rfl)); try simp only [Act.put, List.setIfInBounds_toArray, List.set_cons_zero, List.set_cons_succ]; try simp only [List.getElem_toArray, List.getElem_cons_succ, List.getElem_cons_zero])
                  (refine wpAnyH_take (i := 4) (oi := ⟨_, _, _, _, _, _⟩) (v := ?tv637) rfl (by kernel_rfl) (by kernel_rfl) (by kernel_rfl) (fun _ _ _ h => h) (Or.inl ⟨by kernel_rfl, ?hy637⟩) hH ?rs637; (case hy637 => (intro wx hSw; (try dsimp only at hSw); go_simp; try with_reducible rfl)); try simp only [Act.put, List.setIfInBounds_toArray, List.set_cons_zero, List.set_cons_succ]; try simp only [List.getElem_toArray, List.getElem_cons_succ, List.getElem_cons_zero])
                  (refine wpAnyH_take (i := 5) (oi := ⟨_, _, _, _, _, _⟩) (v := ?tv638) rfl (by kernel_rfl) (by kernel_rfl) (by kernel_rfl) (fun _ _ _ h => h) (Or.inl ⟨by kernel_rfl, ?hy638⟩) hH ?rs638; (case hy638 => (intro wx hSw; (try dsimp only at hSw); go_simp; try with_reducible rfl)); try simp only [Act.put, List.setIfInBounds_toArray, List.set_cons_zero, List.set_cons_succ]; try simp only [List.getElem_toArray, List.getElem_cons_succ, List.getElem_cons_zero])
                  (refine wpAnyH_take (i := 6) (oi := ⟨_, _, _, _, _, _⟩) (v := ?tv639) rfl (by kernel_rfl) (by kernel_rfl) (by kernel_rfl) (fun _ _ _ h => h) (Or.inl ⟨by kernel_rfl, ?hy639⟩) hH ?rs639; (case hy639 => (intro wx hSw; (try dsimp only at hSw); go_simp; try with_reducible rfl)); try simp only [Act.put, List.setIfInBounds_toArray, List.set_cons_zero, List.set_cons_succ]; try simp only [List.getElem_toArray, List.getElem_cons_succ, List.getElem_cons_zero])
                  (refine wpAnyH_take (i := 7) (oi := ⟨_, _, _, _, _, _⟩) (v := ?tv640) rfl (by kernel_rfl) (by kernel_rfl) (by kernel_rfl) (fun _ _ _ h => h) (Or.inl ⟨by kernel_rfl, ?hy640⟩) hH ?rs640; (case hy640 => (intro wx hSw; (try dsimp only at hSw); go_simp; try with_reducible rfl)); try simp only [Act.put, List.setIfInBounds_toArray, List.set_cons_zero, List.set_cons_succ]; try simp only [List.getElem_toArray, List.getElem_cons_succ, List.getElem_cons_zero])
                  (refine wpAnyH_take (i := 8) (oi := ⟨_, _, _, _, _, _⟩) (v := ?tv641) rfl (by kernel_rfl) (by kernel_rfl) (by kernel_rfl) (fun _ _ _ h => h) (Or.inl ⟨by kernel_rfl, ?hy641⟩) hH ?rs641; (case hy641 => (intro wx hSw; (try dsimp only at hSw); go_simp; try with_reducible rfl)); try simp only [Act.put, List.setIfInBounds_toArray, List.set_cons_zero, List.set_cons_succ]; try simp only [List.getElem_toArray, List.getElem_cons_succ, List.getElem_cons_zero])
                  (refine wpAnyH_take (i := 9) (oi := ⟨_, _, _, _, _, _⟩) (v := ?tv642) rfl (by kernel_rfl) (by kernel_rfl) (by kernel_rfl) (fun _ _ _ h => h) (Or.inl ⟨by kernel_rfl, ?hy642⟩) hH ?rs642; (case hy642 => (intro wx hSw; (try dsimp only at hSw); go_simp; try with_reducible rfl)); try simp only [Act.put, List.setIfInBounds_toArray, List.set_cons_zero, List.set_cons_succ]; try simp only [List.getElem_toArray, List.getElem_cons_succ, List.getElem_cons_zero])
                  (refine wpAnyH_take (i := 10) (oi := ⟨_, _, _, _, _, _⟩) (v := ?tv643) rfl (by kernel_rfl) (by kernel_rfl) (by kernel_rfl) (fun _ _ _ h => h) (Or.inl ⟨by kernel_rfl, ?hy643⟩) hH ?rs643; (case hy643 => (intro wx hSw; (try dsimp only at hSw); go_simp; try with_reducible rfl)); try simp only [Act.put, List.setIfInBounds_toArray, List.set_cons_zero, List.set_cons_succ]; try simp only [List.getElem_toArray, List.getElem_cons_succ, List.getElem_cons_zero])
                  (refine wpAnyH_take (i := 11) (oi := ⟨_, _, _, _, _, _⟩) (v := ?tv644) rfl (by kernel_rfl) (by kernel_rfl) (by kernel_rfl) (fun _ _ _ h => h) (Or.inl ⟨by kernel_rfl, ?hy644⟩) hH ?rs644; (case hy644 => (intro wx hSw; (try dsimp only at hSw); go_simp; try with_reducible rfl)); try simp only [Act.put, List.setIfInBounds_toArray, List.set_cons_zero, List.set_cons_succ]; try simp only [List.getElem_toArray, List.getElem_cons_succ, List.getElem_cons_zero])
                  (refine wpAnyH_take (i := 12) (oi := ⟨_, _, _, _, _, _⟩) (v := ?tv645) rfl (by kernel_rfl) (by kernel_rfl) (by kernel_rfl) (fun _ _ _ h => h) (Or.inl ⟨by kernel_rfl, ?hy645⟩) hH ?rs645; (case hy645 => (intro wx hSw; (try dsimp only at hSw); go_simp; try with_reducible rfl)); try simp only [Act.put, List.setIfInBounds_toArray, List.set_cons_zero, List.set_cons_succ]; try simp only [List.getElem_toArray, List.getElem_cons_succ, List.getElem_cons_zero])
                  (refine wpAnyH_take (i := 13) (oi := ⟨_, _, _, _, _, _⟩) (v := ?tv646) rfl (by kernel_rfl) (by kernel_rfl) (by kernel_rfl) (fun _ _ _ h => h) (Or.inl ⟨by kernel_rfl, ?hy646⟩) hH ?rs646; (case hy646 => (intro wx hSw; (try dsimp only at hSw); go_simp; try with_reducible rfl)); try simp only [Act.put, List.setIfInBounds_toArray, List.set_cons_zero, List.set_cons_succ]; try simp only [List.getElem_toArray, List.getElem_cons_succ, List.getElem_cons_zero])
                  (refine wpAnyH_take (i := 14) (oi := ⟨_, _, _, _, _, _⟩) (v := ?tv647) rfl (by kernel_rfl) (by kernel_rfl) (by kernel_rfl) (fun _ _ _ h => h) (Or.inl ⟨by kernel_rfl, ?hy647⟩) hH ?rs647; (case hy647 => (intro wx hSw; (try dsimp only at hSw); go_simp; try with_reducible rfl)); try simp only [Act.put, List.setIfInBounds_toArray, List.set_cons_zero, List.set_cons_succ]; try simp only [List.getElem_toArray, List.getElem_cons_succ, List.getElem_cons_zero])
                  (refine wpAnyH_ready (rs := [15]) (by kernel_rfl) (by simp) ?_; refine AllReadyH.cons rfl (fun K hK => ?_) AllReadyH.nil; go_simp)
                  refine (hah _).mono ?_
                  rintro e wa ⟨rfl, xa⟩
                  have q8 := ext_trans q9 xa
                  (go_wp2_with fail; refine hK.out _ _ (hbk4 q8) (fun hH => ?_); clear hK K; try simp only [Act.put, List.setIfInBounds_toArray, List.set_cons_zero, List.set_cons_succ]; try simp only [List.getElem_toArray, List.getElem_cons_succ, List.getElem_cons_zero])
                  (refine wpAnyH_take (i := 16) (oi := ⟨_, _, _, _, _, _⟩) (v := ?tv648) rfl (by kernel_rfl) (by kernel_rfl) (by kernel_rfl) (fun _ _ _ h => h) (Or.inl ⟨by kernel_rfl, ?hy648⟩) hH ?rs648; (case hy648 => (intro wx hSw; (try dsimp only at hSw); go_simp; try with_reducible rfl)); try simp only [Act.put, List.setIfInBounds_toArray, List.set_cons_zero, List.set_cons_succ]; try simp only [List.getElem_toArray, List.getElem_cons_succ, List.getElem_cons_zero])
                  refine wpAnyH_done (by kernel_rfl) ?_ _
                  go_wp2_with fail
                  exact ⟨⟨j + 1, by omega, by go_num, q8⟩, by simp [intOf] <;> omega⟩
                obtain rfl : j = T := by omega
                have ha : ¬ aheadF z y := by rw [hz]; exact htw2 hjm
                simp only [dfalse ha] at hah
                replace hz := Lib.hid hz
                clear htw1 htw2 ha
                go_wp2_with fail
                refine wp_region_held_drew (S := fun wx => wx.cell? ⟨p, 1, none⟩ = some (.slice (some am) M.length cm) ∧ wx.cell? (am.add (j * 5)) = some (.int .i64 z.id) ∧ wx.cell? ⟨(am.add (j * 5)).block, (am.add (j * 5)).off + 1, none⟩ = some (.int .i64 z.lev) ∧ wx.cell? ⟨(am.add (j * 5)).block, (am.add (j * 5)).off + 2, none⟩ = some (.int .i64 z.size) ∧ wx.cell? ⟨(am.add (j * 5)).block, (am.add (j * 5)).off + 3, none⟩ = some (sv z.first) ∧ wx.cell? ⟨(am.add (j * 5)).block, (am.add (j * 5)).off + 4, none⟩ = some (sv z.last) ∧ wx.cell? (ad.add (k * 5)) = some (.int .i64 y.id) ∧ wx.cell? ⟨(ad.add (k * 5)).block, (ad.add (k * 5)).off + 1, none⟩ = some (.int .i64 y.lev) ∧ wx.cell? ⟨(ad.add (k * 5)).block, (ad.add (k * 5)).off + 2, none⟩ = some (.int .i64 y.size) ∧ wx.cell? ⟨(ad.add (k * 5)).block, (ad.add (k * 5)).off + 3, none⟩ = some (sv y.first) ∧ wx.cell? ⟨(ad.add (k * 5)).block, (ad.add (k * 5)).off + 4, none⟩ = some (sv y.last)) (by kernel_rfl) (hbk4 q9) (fun hH => ?_)
                (refine wpAnyH_take (i := 0) (oi := ⟨_, _, _, _, _, _⟩) (v := ?tv649) rfl (by kernel_rfl) (by kernel_rfl) (by kernel_rfl) (fun _ _ _ h => h) (Or.inl ⟨by kernel_rfl, ?hy649⟩) hH ?rs649; (case hy649 => (intro wx hSw; (try dsimp only at hSw); go_simp; try with_reducible rfl)); try simp only [Act.put, List.setIfInBounds_toArray, List.set_cons_zero, List.set_cons_succ]; try simp only [List.getElem_toArray, List.getElem_cons_succ, List.getElem_cons_zero])
                (refine wpAnyH_take (i := 1) (oi := ⟨_, _, _, _, _, _⟩) (v := ?tv650) rfl (by kernel_rfl) (by kernel_rfl) (by kernel_rfl) (fun _ _ _ h => h) (Or.inl ⟨by kernel_rfl, ?hy650⟩) hH ?rs650; (case hy650 => (intro wx hSw; (try dsimp only at hSw); go_simp; try with_reducible rfl)); try simp only [Act.put, List.setIfInBounds_toArray, List.set_cons_zero, List.set_cons_succ]; try simp only [List.getElem_toArray, List.getElem_cons_succ, List.getElem_cons_zero])
                (refine wpAnyH_take (i := 2) (oi := ⟨_, _, _, _, _, _⟩) (v := ?tv651) rfl (by kernel_rfl) (by kernel_rfl) (by kernel_rfl) (fun _ _ _ h => h) (Or.inl ⟨by kernel_rfl, ?hy651⟩) hH ?rs651; (case hy651 => (intro wx hSw; (try dsimp only at hSw); go_simp; try with_reducible rfl)); try simp only [Act.put, List.setIfInBounds_toArray, List.set_cons_zero, List.set_cons_succ]; try simp only [List.getElem_toArray, List.getElem_cons_succ, List.getElem_cons_zero])
                (refine wpAnyH_take (i := 3) (oi := ⟨_, _, _, _, _, _⟩) (v := ?tv652) rfl (by kernel_rfl) (by kernel_rfl) (by kernel_rfl) (fun _ _ _ h => h) (Or.inl ⟨by kernel_rfl, ?hy652⟩) hH ?rs652; (case hy652 => (intro wx hSw; (try dsimp only at hSw); go_simp; try with_reducible rfl)); try simp only [Act.put, List.setIfInBounds_toArray, List.set_cons_zero, List.set_cons_succ]; try simp only [List.getElem_toArray, List.getElem_cons_succ, List.getElem_cons_zero])
                (refine wpAnyH_take (i := 4) (oi := ⟨_, _, _, _, _, _⟩) (v := ?tv653) rfl (by kernel_rfl) (by kernel_rfl) (by kernel_rfl) (fun _ _ _ h => h) (Or.inl ⟨by kernel_rfl, ?hy653⟩) hH ?rs653; (case hy653 => (intro wx hSw; (try dsimp only at hSw); go_simp; try with_reducible rfl)); try simp only [Act.put, List.setIfInBounds_toArray, List.set_cons_zero, List.set_cons_succ]; try simp only [List.getElem_toArray, List.getElem_cons_succ, List.getElem_cons_zero])
                (refine wpAnyH_take (i := 5) (oi := ⟨_, _, _, _, _, _⟩) (v := ?tv654) rfl (by kernel_rfl) (by kernel_rfl) (by kernel_rfl) (fun _ _ _ h => h) (Or.inl ⟨by kernel_rfl, ?hy654⟩) hH ?rs654; (case hy654 => (intro wx hSw; (try dsimp only at hSw); go_simp; try with_reducible rfl)); try simp only [Act.put, List.setIfInBounds_toArray, List.set_cons_zero, List.set_cons_succ]; try simp only [List.getElem_toArray, List.getElem_cons_succ, List.getElem_cons_zero])
                (refine wpAnyH_take (i := 6) (oi := ⟨_, _, _, _, _, _⟩) (v := ?tv655) rfl (by kernel_rfl) (by kernel_rfl) (by kernel_rfl) (fun _ _ _ h => h) (Or.inl ⟨by kernel_rfl, ?hy655⟩) hH ?rs655; (case hy655 => (intro wx hSw; (try dsimp only at hSw); go_simp; try with_reducible rfl)); try simp only [Act.put, List.setIfInBounds_toArray, List.set_cons_zero, List.set_cons_succ]; try simp only [List.getElem_toArray, List.getElem_cons_succ, List.getElem_cons_zero])
                (refine wpAnyH_take (i := 7) (oi := ⟨_, _, _, _, _, _⟩) (v := ?tv656) rfl (by kernel_rfl) (by kernel_rfl) (by kernel_rfl) (fun _ _ _ h => h) (Or.inl ⟨by kernel_rfl, ?hy656⟩) hH ?rs656; (case hy656 => (intro wx hSw; (try dsimp only at hSw); go_simp; try with_reducible rfl)); try simp only [Act.put, List.setIfInBounds_toArray, List.set_cons_zero, List.set_cons_succ]; try simp only [List.getElem_toArray, List.getElem_cons_succ, List.getElem_cons_zero])
                (refine wpAnyH_take (i := 8) (oi := ⟨_, _, _, _, _, _⟩) (v := ?tv657) rfl (by kernel_rfl) (by kernel_rfl) (by kernel_rfl) (fun _ _ _ h => h) (Or.inl ⟨by kernel_rfl, ?hy657⟩) hH ?rs657; (case hy657 => (intro wx hSw; (try dsimp only at hSw); go_simp; try with_reducible rfl)); try simp only [Act.put, List.setIfInBounds_toArray, List.set_cons_zero, List.set_cons_succ]; try simp only [List.getElem_toArray, List.getElem_cons_succ, List.getElem_cons_zero])
                (refine wpAnyH_take (i := 9) (oi := ⟨_, _, _, _, _, _⟩) (v := ?tv658) rfl (by kernel_rfl) (by kernel_rfl) (by kernel_rfl) (fun _ _ _ h => h) (Or.inl ⟨by kernel_rfl, ?hy658⟩) hH ?rs658; (case hy658 => (intro wx hSw; (try dsimp only at hSw); go_simp; try with_reducible rfl)); try simp only [Act.put, List.setIfInBounds_toArray, List.set_cons_zero, List.set_cons_succ]; try simp only [List.getElem_toArray, List.getElem_cons_succ, List.getElem_cons_zero])
                (refine wpAnyH_take (i := 10) (oi := ⟨_, _, _, _, _, _⟩) (v := ?tv659) rfl (by kernel_rfl) (by kernel_rfl) (by kernel_rfl) (fun _ _ _ h => h) (Or.inl ⟨by kernel_rfl, ?hy659⟩) hH ?rs659; (case hy659 => (intro wx hSw; (try dsimp only at hSw); go_simp; try with_reducible rfl)); try simp only [Act.put, List.setIfInBounds_toArray, List.set_cons_zero, List.set_cons_succ]; try simp only [List.getElem_toArray, List.getElem_cons_succ, List.getElem_cons_zero])
                (refine wpAnyH_take (i := 11) (oi := ⟨_, _, _, _, _, _⟩) (v := ?tv660) rfl (by kernel_rfl) (by kernel_rfl) (by kernel_rfl) (fun _ _ _ h => h) (Or.inl ⟨by kernel_rfl, ?hy660⟩) hH ?rs660; (case hy660 => (intro wx hSw; (try dsimp only at hSw); go_simp; try with_reducible rfl)); try simp only [Act.put, List.setIfInBounds_toArray, List.set_cons_zero, List.set_cons_succ]; try simp only [List.getElem_toArray, List.getElem_cons_succ, List.getElem_cons_zero])
                (refine wpAnyH_take (i := 12) (oi := ⟨_, _, _, _, _, _⟩) (v := ?tv661) rfl (by kernel_rfl) (by kernel_rfl) (by kernel_rfl) (fun _ _ _ h => h) (Or.inl ⟨by kernel_rfl, ?hy661⟩) hH ?rs661; (case hy661 => (intro wx hSw; (try dsimp only at hSw); go_simp; try with_reducible rfl)); try simp only [Act.put, List.setIfInBounds_toArray, List.set_cons_zero, List.set_cons_succ]; try simp only [List.getElem_toArray, List.getElem_cons_succ, List.getElem_cons_zero])
                (refine wpAnyH_take (i := 13) (oi := ⟨_, _, _, _, _, _⟩) (v := ?tv662) rfl (by kernel_rfl) (by kernel_rfl) (by kernel_rfl) (fun _ _ _ h => h) (Or.inl ⟨by kernel_rfl, ?hy662⟩) hH ?rs662; (case hy662 => (intro wx hSw; (try dsimp only at hSw); go_simp; try with_reducible rfl)); try simp only [Act.put, List.setIfInBounds_toArray, List.set_cons_zero, List.set_cons_succ]; try simp only [List.getElem_toArray, List.getElem_cons_succ, List.getElem_cons_zero])
                (refine wpAnyH_take (i := 14) (oi := ⟨_, _, _, _, _, _⟩) (v := ?tv663) rfl (by kernel_rfl) (by kernel_rfl) (by kernel_rfl) (fun _ _ _ h => h) (Or.inl ⟨by kernel_rfl, ?hy663⟩) hH ?rs663; (case hy663 => (intro wx hSw; (try dsimp only at hSw); go_simp; try with_reducible rfl)); try simp only [Act.put, List.setIfInBounds_toArray, List.set_cons_zero, List.set_cons_succ]; try simp only [List.getElem_toArray, List.getElem_cons_succ, List.getElem_cons_zero])
                (refine wpAnyH_ready (rs := [15]) (by kernel_rfl) (by simp) ?_; refine AllReadyH.cons rfl (fun K hK => ?_) AllReadyH.nil; go_simp)
                refine (hah _).mono ?_
                rintro e wa ⟨rfl, xa⟩
                have q8 := ext_trans q9 xa
                (go_wp2_with fail; refine hK.out _ _ (hbk4 q8) (fun hH => ?_); clear hK K; try simp only [Act.put, List.setIfInBounds_toArray, List.set_cons_zero, List.set_cons_succ]; try simp only [List.getElem_toArray, List.getElem_cons_succ, List.getElem_cons_zero])
                (refine wpAnyH_take (i := 16) (oi := ⟨_, _, _, _, _, _⟩) (v := ?tv664) rfl (by kernel_rfl) (by kernel_rfl) (by kernel_rfl) (fun _ _ _ h => h) (Or.inl ⟨by kernel_rfl, ?hy664⟩) hH ?rs664; (case hy664 => (intro wx hSw; (try dsimp only at hSw); go_simp; try with_reducible rfl)); try simp only [Act.put, List.setIfInBounds_toArray, List.set_cons_zero, List.set_cons_succ]; try simp only [List.getElem_toArray, List.getElem_cons_succ, List.getElem_cons_zero])
                refine wpAnyH_done (by kernel_rfl) ?_ _
                go_wp2_with fail
                go_meet
                exact ⟨rfl, q8⟩
            case rest =>
              obtain ⟨rfl, xc⟩ := hcut
              obtain ⟨w8, hw8⟩ : ∃ x, x = wc := ⟨_, rfl⟩
              subst hw8
              have hMt := (OwnR.rc o5).begin fic_len hTle
              have hlk : M.length * 56 ≤ 140737488351232 := by omega
              have hn26 : (([] : List Fl).length + (M.take T).length) * 56 ≤ 140737488355328 := by simp only [List.length_nil, List.length_take]; omega
              have hn27 : ((M.take T).length + [y].length) * 56 ≤ 140737488355328 := by simp only [List.length_take, List.length_cons, List.length_nil]; omega
              have hn28 : ((M.take T ++ [y]).length + (M.drop T).length) * 56 ≤ 140737488355328 := by simp only [List.length_append, List.length_take, List.length_drop, List.length_cons, List.length_nil]; omega
              have hbk6 : ∀ {wx : World}, Ext w8 wx → wx.cell? ⟨p, 1, none⟩ = some (.slice Am M.length cm) ∧ wx.cell? (ad.add (k * 5)) = some (.int .i64 y.id) ∧ wx.cell? ⟨(ad.add (k * 5)).block, (ad.add (k * 5)).off + 1, none⟩ = some (.int .i64 y.lev) ∧ wx.cell? ⟨(ad.add (k * 5)).block, (ad.add (k * 5)).off + 2, none⟩ = some (.int .i64 y.size) ∧ wx.cell? ⟨(ad.add (k * 5)).block, (ad.add (k * 5)).off + 3, none⟩ = some (sv y.first) ∧ wx.cell? ⟨(ad.add (k * 5)).block, (ad.add (k * 5)).off + 4, none⟩ = some (sv y.last) := fun x => ⟨hd1 (ext_trans xc x), hby (ext_trans xc x)⟩
              have hT0 : (0 : Int) ≤ (T : Int) := by omega
              have hT1 : (T : Int) ≤ (M.length : Int) := by omega
              have hT2 : (T : Int) ≤ (cm : Int) := by omega
              have r6 : Ext w8 w8.drew := (Mod.refl _ w8).drew
              have hlt1 : (k : Int) < (B.length : Int) := t1
              clear htw1 htw2
              go_upto_region 26 with fail
              go_cut [14] (fun s14 wx => ∃ vz : Value, vz = s14 ∧ OwnF wx vz (M.take T ++ [y]) ∧ Fresh w8.heap.size vz ∧ Ext w8 wx)
              case first =>
                refine wp_region_held_drew (S := fun wx => wx.cell? ⟨p, 1, none⟩ = some (.slice Am M.length cm) ∧ wx.cell? (ad.add (k * 5)) = some (.int .i64 y.id) ∧ wx.cell? ⟨(ad.add (k * 5)).block, (ad.add (k * 5)).off + 1, none⟩ = some (.int .i64 y.lev) ∧ wx.cell? ⟨(ad.add (k * 5)).block, (ad.add (k * 5)).off + 2, none⟩ = some (.int .i64 y.size) ∧ wx.cell? ⟨(ad.add (k * 5)).block, (ad.add (k * 5)).off + 3, none⟩ = some (sv y.first) ∧ wx.cell? ⟨(ad.add (k * 5)).block, (ad.add (k * 5)).off + 4, none⟩ = some (sv y.last)) (by kernel_rfl) (hbk6 r6) (fun hH => ?_)
                generalize w8.drew = wD at *
                (refine wpAnyH_take (i := 1) (oi := ⟨_, _, _, _, _, _⟩) (v := ?tv665) rfl (by kernel_rfl) (by kernel_rfl) (by kernel_rfl) (fun _ _ _ h => h) (Or.inl ⟨by kernel_rfl, ?hy665⟩) hH ?rs665; (case hy665 => (intro wx hSw; (try dsimp only at hSw); go_simp; try with_reducible rfl)); try simp only [Act.put, List.setIfInBounds_toArray, List.set_cons_zero, List.set_cons_succ]; try simp only [List.getElem_toArray, List.getElem_cons_succ, List.getElem_cons_zero])
                (refine wpAnyH_take (i := 2) (oi := ⟨_, _, _, _, _, _⟩) (v := ?tv666) rfl (by kernel_rfl) (by kernel_rfl) (by kernel_rfl) (fun _ _ _ h => h) (Or.inl ⟨by kernel_rfl, ?hy666⟩) hH ?rs666; (case hy666 => (intro wx hSw; (try dsimp only at hSw); go_simp; try with_reducible rfl)); try simp only [Act.put, List.setIfInBounds_toArray, List.set_cons_zero, List.set_cons_succ]; try simp only [List.getElem_toArray, List.getElem_cons_succ, List.getElem_cons_zero])
                (refine wpAnyH_take (i := 3) (oi := ⟨_, _, _, _, _, _⟩) (v := ?tv667) rfl (by kernel_rfl) (by kernel_rfl) (by kernel_rfl) (fun _ _ _ h => h) (Or.inl ⟨by kernel_rfl, ?hy667⟩) hH ?rs667; (case hy667 => (intro wx hSw; (try dsimp only at hSw); go_simp; try with_reducible rfl)); try simp only [Act.put, List.setIfInBounds_toArray, List.set_cons_zero, List.set_cons_succ]; try simp only [List.getElem_toArray, List.getElem_cons_succ, List.getElem_cons_zero])
                (refine wpAnyH_take (i := 4) (oi := ⟨_, _, _, _, _, _⟩) (v := ?tv668) rfl (by kernel_rfl) (by kernel_rfl) (by kernel_rfl) (fun _ _ _ h => h) (Or.inl ⟨by kernel_rfl, ?hy668⟩) hH ?rs668; (case hy668 => (intro wx hSw; (try dsimp only at hSw); go_simp; try with_reducible rfl)); try simp only [Act.put, List.setIfInBounds_toArray, List.set_cons_zero, List.set_cons_succ]; try simp only [List.getElem_toArray, List.getElem_cons_succ, List.getElem_cons_zero])
                (refine wpAnyH_take (i := 6) (oi := ⟨_, _, _, _, _, _⟩) (v := ?tv669) rfl (by kernel_rfl) (by kernel_rfl) (by kernel_rfl) (fun _ _ _ h => h) (Or.inl ⟨by kernel_rfl, ?hy669⟩) hH ?rs669; (case hy669 => (intro wx hSw; (try dsimp only at hSw); go_simp; try with_reducible rfl)); try simp only [Act.put, List.setIfInBounds_toArray, List.set_cons_zero, List.set_cons_succ]; try simp only [List.getElem_toArray, List.getElem_cons_succ, List.getElem_cons_zero])
                (refine wpAnyH_take (i := 7) (oi := ⟨_, _, _, _, _, _⟩) (v := ?tv670) rfl (by kernel_rfl) (by kernel_rfl) (by kernel_rfl) (fun _ _ _ h => h) (Or.inl ⟨by kernel_rfl, ?hy670⟩) hH ?rs670; (case hy670 => (intro wx hSw; (try dsimp only at hSw); go_simp; try with_reducible rfl)); try simp only [Act.put, List.setIfInBounds_toArray, List.set_cons_zero, List.set_cons_succ]; try simp only [List.getElem_toArray, List.getElem_cons_succ, List.getElem_cons_zero])
                (refine wpAnyH_take (i := 8) (oi := ⟨_, _, _, _, _, _⟩) (v := ?tv671) rfl (by kernel_rfl) (by kernel_rfl) (by kernel_rfl) (fun _ _ _ h => h) (Or.inl ⟨by kernel_rfl, ?hy671⟩) hH ?rs671; (case hy671 => (intro wx hSw; (try dsimp only at hSw); go_simp; try with_reducible rfl)); try simp only [Act.put, List.setIfInBounds_toArray, List.set_cons_zero, List.set_cons_succ]; try simp only [List.getElem_toArray, List.getElem_cons_succ, List.getElem_cons_zero])
                (refine wpAnyH_take (i := 9) (oi := ⟨_, _, _, _, _, _⟩) (v := ?tv672) rfl (by kernel_rfl) (by kernel_rfl) (by kernel_rfl) (fun _ _ _ h => h) (Or.inl ⟨by kernel_rfl, ?hy672⟩) hH ?rs672; (case hy672 => (intro wx hSw; (try dsimp only at hSw); go_simp; try with_reducible rfl)); try simp only [Act.put, List.setIfInBounds_toArray, List.set_cons_zero, List.set_cons_succ]; try simp only [List.getElem_toArray, List.getElem_cons_succ, List.getElem_cons_zero])
                refine wpAnyH_ready (rs := [0, 10]) (by kernel_rfl) (by simp) ?_
                refine AllReadyH.cons rfl (fun K hK => ?g1) (AllReadyH.cons rfl (fun K hK => ?g2) AllReadyH.nil)
                case g1 =>
                  have oE : OwnF (wD.alloc (.cells #[] 48)) (.slice (some ⟨wD.heap.size, 0, none⟩) 0 0) [] := OwnR.empty fic 5 wD 48
                  have fE : Fresh w8.heap.size (.slice (some ⟨wD.heap.size, 0, none⟩) 0 0) := fun k hk => by (have h9 : wD.heap.size = k := Option.some.inj hk); have h8 := r6.size; omega
                  have q3 : Ext w8 (wD.alloc (.cells #[] 48)) := r6.alloc _
                  go_simp
                  (go_wp2_with fail; refine hK.out _ _ (hbk6 q3) (fun hH => ?_); clear hK K; try simp only [Act.put, List.setIfInBounds_toArray, List.set_cons_zero, List.set_cons_succ]; try simp only [List.getElem_toArray, List.getElem_cons_succ, List.getElem_cons_zero])
                  generalize (wD.alloc (.cells #[] 48)) = wz4 at *
                  generalize wD.heap.size = hE at *
                  refine wpAnyH_ready (rs := [5, 10]) (by kernel_rfl) (by simp) ?_
                  refine AllReadyH.cons rfl (fun K hK => ?g5) (AllReadyH.cons rfl (fun K hK => ?g6) AllReadyH.nil)
                  case g5 =>
                    refine step_appRs 119 tyF oE (hMt.ext (ext_trans xc q3)) (fic_all _) hn26 rfl rfl (.tmp 114) (.tmp 118) rfl rfl rfl ?_
                    intro vA wz8 ka1 ka2 ka3
                    rw [List.nil_append] at ka1
                    have q7 := ext_app0 q3 fE ka2
                    have fA := ka3.fresh fE q3.size
                    clear oE ka2 ka3
                    have oE := ka1
                    clear ka1
                    (refine hK.out _ _ (hbk6 q7) (fun hH => ?_); clear hK K; try simp only [Act.put, List.setIfInBounds_toArray, List.set_cons_zero, List.set_cons_succ]; try simp only [List.getElem_toArray, List.getElem_cons_succ, List.getElem_cons_zero])
                    refine wpAnyH_ready (rs := [10]) (by kernel_rfl) (by simp) ?_
                    refine AllReadyH.cons rfl (fun K hK => ?g9) AllReadyH.nil
                    case g9 =>
                      replace oE := OwnR.alloc oE (.cells #[.int .i64 y.id, .int .i64 y.lev, .int .i64 y.size, sv y.first, sv y.last] 48)
                      have oL : OwnF (wz8.alloc (.cells #[.int .i64 y.id, .int .i64 y.lev, .int .i64 y.size, sv y.first, sv y.last] 48)) (.slice (some ⟨wz8.heap.size, 0, none⟩) 1 1) [y] := OwnF.lit wz8 y
                      have q10 : Ext w8 (wz8.alloc (.cells #[.int .i64 y.id, .int .i64 y.lev, .int .i64 y.size, sv y.first, sv y.last] 48)) := q7.alloc _
                      go_simp
                      (go_wp2_with fail; refine hK.out _ _ (hbk6 q10) (fun hH => ?_); clear hK K; try simp only [Act.put, List.setIfInBounds_toArray, List.set_cons_zero, List.set_cons_succ]; try simp only [List.getElem_toArray, List.getElem_cons_succ, List.getElem_cons_zero])
                      generalize (wz8.alloc (.cells #[.int .i64 y.id, .int .i64 y.lev, .int .i64 y.size, sv y.first, sv y.last] 48)) = wz11 at *
                      generalize wz8.heap.size = hL at *
                      refine wpAnyH_ready (rs := [11]) (by kernel_rfl) (by simp) ?_
                      refine AllReadyH.cons rfl (fun K hK => ?g12) AllReadyH.nil
                      case g12 =>
                        refine step_appRs 125 tyF oE (OwnR.rc oL) (fic_all _) hn27 rfl rfl (.tmp 119) (.tmp 124) rfl rfl rfl ?_
                        intro vB wz14 kb1 kb2 kb3
                        have q13 := ext_app0 q10 fA kb2
                        have fB := kb3.fresh fA q10.size
                        (refine hK.out _ _ (hbk6 q13) (fun hH => ?_); clear hK K; try simp only [Act.put, List.setIfInBounds_toArray, List.set_cons_zero, List.set_cons_succ]; try simp only [List.getElem_toArray, List.getElem_cons_succ, List.getElem_cons_zero])
                        (refine wpAnyH_take (i := 12) (oi := ⟨_, _, _, _, _, _⟩) (v := ?tv673) rfl (by kernel_rfl) (by kernel_rfl) (by kernel_rfl) (fun _ _ _ h => h) (Or.inl ⟨by kernel_rfl, ?hy673⟩) hH ?rs673; (case hy673 => (intro wx hSw; (try dsimp only at hSw); go_simp; try with_reducible rfl)); try simp only [Act.put, List.setIfInBounds_toArray, List.set_cons_zero, List.set_cons_succ]; try simp only [List.getElem_toArray, List.getElem_cons_succ, List.getElem_cons_zero])
                        refine wpAnyH_done (by kernel_rfl) ?_ _
                        go_wp2_with fail
                        go_meet
                        exact ⟨_, rfl, kb1, fB, q13⟩
                  case g6 =>
                    have nEL : hE < wz4.heap.size := OwnR.lt oE (b := hE) rfl
                    replace oE := OwnR.alloc oE (.cells #[.int .i64 y.id, .int .i64 y.lev, .int .i64 y.size, sv y.first, sv y.last] 48)
                    have oL : OwnF (wz4.alloc (.cells #[.int .i64 y.id, .int .i64 y.lev, .int .i64 y.size, sv y.first, sv y.last] 48)) (.slice (some ⟨wz4.heap.size, 0, none⟩) 1 1) [y] := OwnF.lit wz4 y
                    have q15 : Ext w8 (wz4.alloc (.cells #[.int .i64 y.id, .int .i64 y.lev, .int .i64 y.size, sv y.first, sv y.last] 48)) := q3.alloc _
                    go_simp
                    (go_wp2_with fail; refine hK.out _ _ (hbk6 q15) (fun hH => ?_); clear hK K; try simp only [Act.put, List.setIfInBounds_toArray, List.set_cons_zero, List.set_cons_succ]; try simp only [List.getElem_toArray, List.getElem_cons_succ, List.getElem_cons_zero])
                    generalize (wz4.alloc (.cells #[.int .i64 y.id, .int .i64 y.lev, .int .i64 y.size, sv y.first, sv y.last] 48)) = wz16 at *
                    generalize wz4.heap.size = hL at *
                    refine wpAnyH_ready (rs := [5]) (by kernel_rfl) (by simp) ?_
                    refine AllReadyH.cons rfl (fun K hK => ?g17) AllReadyH.nil
                    case g17 =>
                      refine step_appRs 119 tyF oE (hMt.ext (ext_trans xc q15)) (fic_all _) hn26 rfl rfl (.tmp 114) (.tmp 118) rfl rfl rfl ?_
                      intro vA wz19 ka1 ka2 ka3
                      rw [List.nil_append] at ka1
                      have q18 := ext_app0 q15 fE ka2
                      have fA := ka3.fresh fE q15.size
                      replace oL := OwnR.mod oL ka2 (fun k hk e => by (have h9 : hL = k := Option.some.inj hk); (have h8 : hE = k := Option.some.inj e); omega)
                      clear oE ka2 ka3
                      have oE := ka1
                      clear ka1
                      (refine hK.out _ _ (hbk6 q18) (fun hH => ?_); clear hK K; try simp only [Act.put, List.setIfInBounds_toArray, List.set_cons_zero, List.set_cons_succ]; try simp only [List.getElem_toArray, List.getElem_cons_succ, List.getElem_cons_zero])
                      refine wpAnyH_ready (rs := [11]) (by kernel_rfl) (by simp) ?_
                      refine AllReadyH.cons rfl (fun K hK => ?g20) AllReadyH.nil
                      case g20 =>
                        refine step_appRs 125 tyF oE (OwnR.rc oL) (fic_all _) hn27 rfl rfl (.tmp 119) (.tmp 124) rfl rfl rfl ?_
                        intro vB wz22 kb1 kb2 kb3
                        have q21 := ext_app0 q18 fA kb2
                        have fB := kb3.fresh fA q18.size
                        (refine hK.out _ _ (hbk6 q21) (fun hH => ?_); clear hK K; try simp only [Act.put, List.setIfInBounds_toArray, List.set_cons_zero, List.set_cons_succ]; try simp only [List.getElem_toArray, List.getElem_cons_succ, List.getElem_cons_zero])
                        (refine wpAnyH_take (i := 12) (oi := ⟨_, _, _, _, _, _⟩) (v := ?tv674) rfl (by kernel_rfl) (by kernel_rfl) (by kernel_rfl) (fun _ _ _ h => h) (Or.inl ⟨by kernel_rfl, ?hy674⟩) hH ?rs674; (case hy674 => (intro wx hSw; (try dsimp only at hSw); go_simp; try with_reducible rfl)); try simp only [Act.put, List.setIfInBounds_toArray, List.set_cons_zero, List.set_cons_succ]; try simp only [List.getElem_toArray, List.getElem_cons_succ, List.getElem_cons_zero])
                        refine wpAnyH_done (by kernel_rfl) ?_ _
                        go_wp2_with fail
                        go_meet
                        exact ⟨_, rfl, kb1, fB, q21⟩
                case g2 =>
                  have oL : OwnF (wD.alloc (.cells #[.int .i64 y.id, .int .i64 y.lev, .int .i64 y.size, sv y.first, sv y.last] 48)) (.slice (some ⟨wD.heap.size, 0, none⟩) 1 1) [y] := OwnF.lit wD y
                  have q23 : Ext w8 (wD.alloc (.cells #[.int .i64 y.id, .int .i64 y.lev, .int .i64 y.size, sv y.first, sv y.last] 48)) := r6.alloc _
                  go_simp
                  (go_wp2_with fail; refine hK.out _ _ (hbk6 q23) (fun hH => ?_); clear hK K; try simp only [Act.put, List.setIfInBounds_toArray, List.set_cons_zero, List.set_cons_succ]; try simp only [List.getElem_toArray, List.getElem_cons_succ, List.getElem_cons_zero])
                  generalize (wD.alloc (.cells #[.int .i64 y.id, .int .i64 y.lev, .int .i64 y.size, sv y.first, sv y.last] 48)) = wz24 at *
                  generalize wD.heap.size = hL at *
                  refine wpAnyH_ready (rs := [0]) (by kernel_rfl) (by simp) ?_
                  refine AllReadyH.cons rfl (fun K hK => ?g25) AllReadyH.nil
                  case g25 =>
                    have nEL : hL < wz24.heap.size := OwnR.lt oL (b := hL) rfl
                    replace oL := OwnR.alloc oL (.cells #[] 48)
                    have oE : OwnF (wz24.alloc (.cells #[] 48)) (.slice (some ⟨wz24.heap.size, 0, none⟩) 0 0) [] := OwnR.empty fic 5 wz24 48
                    have fE : Fresh w8.heap.size (.slice (some ⟨wz24.heap.size, 0, none⟩) 0 0) := fun k hk => by (have h9 : wz24.heap.size = k := Option.some.inj hk); have h8 := q23.size; omega
                    have q26 : Ext w8 (wz24.alloc (.cells #[] 48)) := q23.alloc _
                    go_simp
                    (go_wp2_with fail; refine hK.out _ _ (hbk6 q26) (fun hH => ?_); clear hK K; try simp only [Act.put, List.setIfInBounds_toArray, List.set_cons_zero, List.set_cons_succ]; try simp only [List.getElem_toArray, List.getElem_cons_succ, List.getElem_cons_zero])
                    generalize (wz24.alloc (.cells #[] 48)) = wz27 at *
                    generalize wz24.heap.size = hE at *
                    refine wpAnyH_ready (rs := [5]) (by kernel_rfl) (by simp) ?_
                    refine AllReadyH.cons rfl (fun K hK => ?g28) AllReadyH.nil
                    case g28 =>
                      refine step_appRs 119 tyF oE (hMt.ext (ext_trans xc q26)) (fic_all _) hn26 rfl rfl (.tmp 114) (.tmp 118) rfl rfl rfl ?_
                      intro vA wz30 ka1 ka2 ka3
                      rw [List.nil_append] at ka1
                      have q29 := ext_app0 q26 fE ka2
                      have fA := ka3.fresh fE q26.size
                      replace oL := OwnR.mod oL ka2 (fun k hk e => by (have h9 : hL = k := Option.some.inj hk); (have h8 : hE = k := Option.some.inj e); omega)
                      clear oE ka2 ka3
                      have oE := ka1
                      clear ka1
                      (refine hK.out _ _ (hbk6 q29) (fun hH => ?_); clear hK K; try simp only [Act.put, List.setIfInBounds_toArray, List.set_cons_zero, List.set_cons_succ]; try simp only [List.getElem_toArray, List.getElem_cons_succ, List.getElem_cons_zero])
                      refine wpAnyH_ready (rs := [11]) (by kernel_rfl) (by simp) ?_
                      refine AllReadyH.cons rfl (fun K hK => ?g31) AllReadyH.nil
                      case g31 =>
                        refine step_appRs 125 tyF oE (OwnR.rc oL) (fic_all _) hn27 rfl rfl (.tmp 119) (.tmp 124) rfl rfl rfl ?_
                        intro vB wz33 kb1 kb2 kb3
                        have q32 := ext_app0 q29 fA kb2
                        have fB := kb3.fresh fA q29.size
                        (refine hK.out _ _ (hbk6 q32) (fun hH => ?_); clear hK K; try simp only [Act.put, List.setIfInBounds_toArray, List.set_cons_zero, List.set_cons_succ]; try simp only [List.getElem_toArray, List.getElem_cons_succ, List.getElem_cons_zero])
                        (refine wpAnyH_take (i := 12) (oi := ⟨_, _, _, _, _, _⟩) (v := ?tv675) rfl (by kernel_rfl) (by kernel_rfl) (by kernel_rfl) (fun _ _ _ h => h) (Or.inl ⟨by kernel_rfl, ?hy675⟩) hH ?rs675; (case hy675 => (intro wx hSw; (try dsimp only at hSw); go_simp; try with_reducible rfl)); try simp only [Act.put, List.setIfInBounds_toArray, List.set_cons_zero, List.set_cons_succ]; try simp only [List.getElem_toArray, List.getElem_cons_succ, List.getElem_cons_zero])
                        refine wpAnyH_done (by kernel_rfl) ?_ _
                        go_wp2_with fail
                        go_meet
                        exact ⟨_, rfl, kb1, fB, q32⟩
              case rest =>
                obtain ⟨vz, rfl, o6, f6, x6⟩ := hcut
                have x56 := ext_trans xc x6
                have P6 := P5.mod x56 (fun h => h)
                have hp6 : p < w8.heap.size := (P5.mod xc (fun h => h)).lt
                have hdw := hd1 x56
                have hs2c : w2.heap.size ≤ w8.heap.size := (ext_trans x5 xc).size
                have hln : (insD M y).length = M.length + 1 := by rw [(insD_perm M y).length_eq, List.length_append]; rfl
                have hst2 : Hid (insD M y = (B.take (k + 1)).foldl insD M0) := Lib.hid (by rw [List.take_succ_eq_append_getElem hlt, List.foldl_append, ← hst.out, ← hy.out]; rfl)
                have hfin : ∀ {va : Value} {wa : World}, OwnF wa va ((M.take T ++ [y]) ++ M.drop T) → Mod (own vz) wc wa → Next wc.heap.size vz va → Blk wa p 24 #[.int .i64 N2, .slice Am M.length cm] →
                    Blk (wa.setCell ⟨p, 1, none⟩ va) p 24 #[.int .i64 (nextF nx (B.take (k + 1))), va] ∧ OwnF (wa.setCell ⟨p, 1, none⟩ va) va (insD M y) ∧ Fresh w2.heap.size va ∧ Ext w2 (wa.setCell ⟨p, 1, none⟩ va) := by
                  intro va wa k1 k2 k3 P7
                  have m8 := setc_mod wa p 1 va
                  have e8 : (M.take T ++ [y]) ++ M.drop T = insD M y := by rw [hins.out, List.append_assoc]; rfl
                  rw [e8] at k1
                  refine ⟨by rw [hN2.out]; exact P7.set_ 1 va, OwnR.mod k1 m8 (fun k hk e => ownR_ne_blk k1 P7 (by decide) hk e), k3.fresh (f6.mono hs2c) (ext_trans (ext_trans x5 xc) x6).size, ?_⟩
                  exact (ext_app0 (ext_trans (ext_trans x5 xc) x6) (f6.mono hs2c) k2).trans m8 (fun _ _ h => h) (fun k hk e => by omega)
                have hcp : ∀ {wa : World}, Mod (own vz) wc wa → Blk wa p 24 #[.int .i64 N2, .slice Am M.length cm] := fun k2 => P6.mod k2 (fun h => by have := f6 p h; omega)
                have hN6 : Hid (nextF nx (B.take (k + 1)) ≤ 1099511627776) := Lib.hid (by rw [hN2.out]; exact hN5)
                have hML2 : (insD M y).length ≤ L.length + (k + 1) := by omega
                replace hln := Lib.hid hln
                by_cases hcz : cm = T
                case pos =>
                  have hR := ((OwnR.rc o5).ext x56).rest0 hTle hcz
                  go_wp2_with ((with_reducible show wpList _ _ _ (⟨some 131, _, _, _, _, _⟩ :: _) _ _); refine wp_appRm tyF o6 hR (fic_all _) hn28 rfl (.tmp 126) (.tmp 130) rfl rfl rfl ?_; intro va wa ka1 ka2 ka3; obtain ⟨Av, nv, cv, rfl⟩ : ∃ Av nv cv, va = .slice Av nv cv := (OwnR.shape ka1).elim fun A h => h.elim fun c e => ⟨A, _, c, e⟩; have P7 := hcp ka2; have f7 := Blk.frozen P7 1; have c7 : wa.cell? ⟨p, 1, none⟩ = some (.slice Am M.length cm) := P7.cell 1)
                  obtain ⟨e1, e2, e3, e4⟩ := hfin ka1 ka2 ka3 P7
                  exact ⟨⟨k + 1, insD M y, _, by omega, by go_num, hst2, hML2, hal3, hN6, e1, e2, e3, e4⟩, by simp [intOf] <;> omega⟩
                have hR := ((OwnR.rc o5).ext x56).rest fic_len hTle
                go_wp2_with ((with_reducible show wpList _ _ _ (⟨some 131, _, _, _, _, _⟩ :: _) _ _); refine wp_appRm tyF o6 hR (fic_all _) hn28 rfl (.tmp 126) (.tmp 130) rfl rfl rfl ?_; intro va wa ka1 ka2 ka3; obtain ⟨Av, nv, cv, rfl⟩ : ∃ Av nv cv, va = .slice Av nv cv := (OwnR.shape ka1).elim fun A h => h.elim fun c e => ⟨A, _, c, e⟩; have P7 := hcp ka2; have f7 := Blk.frozen P7 1; have c7 : wa.cell? ⟨p, 1, none⟩ = some (.slice Am M.length cm) := P7.cell 1)
                obtain ⟨e1, e2, e3, e4⟩ := hfin ka1 ka2 ka3 P7
                exact ⟨⟨k + 1, insD M y, _, by omega, by go_num, hst2, hML2, hal3, hN6, e1, e2, e3, e4⟩, by simp [intOf] <;> omega⟩
          have q1 : decide (N ≤ y.id) = false := dfalse hge
          have hN2 : Hid (nextF nx (B.take (k + 1)) = N) := Lib.hid (by rw [nextF_snoc nx B hlt, ← hN.out, ← hy.out]; omega)
          have hN40 : N ≤ 1099511627776 := by rw [hN.out]; exact hN4.out
          have hal3 : Hid (∀ f ∈ B.take (k + 1), f.id < 1099511627776) := Lib.hid (fun f hf => by
            rcases hal2 f hf with q | q
            · exact hal.out f q
            · rw [q, ← hy.out]; omega)
          have P5 := hP.mod r9 (fun h => h)
          have o5 : OwnF wr.drew vm M := OwnR.ext ho r9
          have x5 := x9
          clear hal hal2
          go_wp2_with fail
          refine wp_region_held_drew (S := fun wx => wx.cell? ⟨p, 0, none⟩ = some (.int .i64 N) ∧ wx.cell? ⟨p, 1, none⟩ = some vm ∧ wx.cell? (ad.add (k * 5)) = some (.int .i64 y.id) ∧ wx.cell? ⟨(ad.add (k * 5)).block, (ad.add (k * 5)).off + 1, none⟩ = some (.int .i64 y.lev) ∧ wx.cell? ⟨(ad.add (k * 5)).block, (ad.add (k * 5)).off + 2, none⟩ = some (.int .i64 y.size) ∧ wx.cell? ⟨(ad.add (k * 5)).block, (ad.add (k * 5)).off + 3, none⟩ = some (sv y.first) ∧ wx.cell? ⟨(ad.add (k * 5)).block, (ad.add (k * 5)).off + 4, none⟩ = some (sv y.last)) (by kernel_rfl) (hbk r9) (fun hH => ?_)
          (refine wpAnyH_take (i := 0) (oi := ⟨_, _, _, _, _, _⟩) (v := ?tv676) rfl (by kernel_rfl) (by kernel_rfl) (by kernel_rfl) (fun _ _ _ h => h) (Or.inl ⟨by kernel_rfl, ?hy676⟩) hH ?rs676; (case hy676 => (intro wx hSw; (try dsimp only at hSw); go_simp; try with_reducible rfl)); try simp only [Act.put, List.setIfInBounds_toArray, List.set_cons_zero, List.set_cons_succ]; try simp only [List.getElem_toArray, List.getElem_cons_succ, List.getElem_cons_zero])
          (refine wpAnyH_take (i := 1) (oi := ⟨_, _, _, _, _, _⟩) (v := ?tv677) rfl (by kernel_rfl) (by kernel_rfl) (by kernel_rfl) (fun _ _ _ h => h) (Or.inl ⟨by kernel_rfl, ?hy677⟩) hH ?rs677; (case hy677 => (intro wx hSw; (try dsimp only at hSw); go_simp; try with_reducible rfl)); try simp only [Act.put, List.setIfInBounds_toArray, List.set_cons_zero, List.set_cons_succ]; try simp only [List.getElem_toArray, List.getElem_cons_succ, List.getElem_cons_zero])
          (refine wpAnyH_take (i := 2) (oi := ⟨_, _, _, _, _, _⟩) (v := ?tv678) rfl (by kernel_rfl) (by kernel_rfl) (by kernel_rfl) (fun _ _ _ h => h) (Or.inl ⟨by kernel_rfl, ?hy678⟩) hH ?rs678; (case hy678 => (intro wx hSw; (try dsimp only at hSw); go_simp; try with_reducible rfl)); try simp only [Act.put, List.setIfInBounds_toArray, List.set_cons_zero, List.set_cons_succ]; try simp only [List.getElem_toArray, List.getElem_cons_succ, List.getElem_cons_zero])
          (refine wpAnyH_take (i := 3) (oi := ⟨_, _, _, _, _, _⟩) (v := ?tv679) rfl (by kernel_rfl) (by kernel_rfl) (by kernel_rfl) (fun _ _ _ h => h) (Or.inl ⟨by kernel_rfl, ?hy679⟩) hH ?rs679; (case hy679 => (intro wx hSw; (try dsimp only at hSw); go_simp; try with_reducible rfl)); try simp only [Act.put, List.setIfInBounds_toArray, List.set_cons_zero, List.set_cons_succ]; try simp only [List.getElem_toArray, List.getElem_cons_succ, List.getElem_cons_zero])
          (refine wpAnyH_take (i := 4) (oi := ⟨_, _, _, _, _, _⟩) (v := ?tv680) rfl (by kernel_rfl) (by kernel_rfl) (by kernel_rfl) (fun _ _ _ h => h) (Or.inl ⟨by kernel_rfl, ?hy680⟩) hH ?rs680; (case hy680 => (intro wx hSw; (try dsimp only at hSw); go_simp; try with_reducible rfl)); try simp only [Act.put, List.setIfInBounds_toArray, List.set_cons_zero, List.set_cons_succ]; try simp only [List.getElem_toArray, List.getElem_cons_succ, List.getElem_cons_zero])
          (refine wpAnyH_take (i := 5) (oi := ⟨_, _, _, _, _, _⟩) (v := ?tv681) rfl (by kernel_rfl) (by kernel_rfl) (by kernel_rfl) (fun _ _ _ h => h) (Or.inl ⟨by kernel_rfl, ?hy681⟩) hH ?rs681; (case hy681 => (intro wx hSw; (try dsimp only at hSw); go_simp; try with_reducible rfl)); try simp only [Act.put, List.setIfInBounds_toArray, List.set_cons_zero, List.set_cons_succ]; try simp only [List.getElem_toArray, List.getElem_cons_succ, List.getElem_cons_zero])
          (refine wpAnyH_take (i := 6) (oi := ⟨_, _, _, _, _, _⟩) (v := ?tv682) rfl (by kernel_rfl) (by kernel_rfl) (by kernel_rfl) (fun _ _ _ h => h) (Or.inl ⟨by kernel_rfl, ?hy682⟩) hH ?rs682; (case hy682 => (intro wx hSw; (try dsimp only at hSw); go_simp; try with_reducible rfl)); try simp only [Act.put, List.setIfInBounds_toArray, List.set_cons_zero, List.set_cons_succ]; try simp only [List.getElem_toArray, List.getElem_cons_succ, List.getElem_cons_zero])
          (refine wpAnyH_take (i := 7) (oi := ⟨_, _, _, _, _, _⟩) (v := ?tv683) rfl (by kernel_rfl) (by kernel_rfl) (by kernel_rfl) (fun _ _ _ h => h) (Or.inl ⟨by kernel_rfl, ?hy683⟩) hH ?rs683; (case hy683 => (intro wx hSw; (try dsimp only at hSw); go_simp; try with_reducible rfl)); try simp only [Act.put, List.setIfInBounds_toArray, List.set_cons_zero, List.set_cons_succ]; try simp only [List.getElem_toArray, List.getElem_cons_succ, List.getElem_cons_zero])
          refine wpAnyH_done (by kernel_rfl) ?_ _
          go_upto_block 6 with fail
          generalize wr.drew = w5 at *
          obtain ⟨N2, hN3⟩ : ∃ N2, N2 = N := ⟨_, rfl⟩
          rw [← hN3] at P5 hN2
          have hN5 : N2 ≤ 1099511627776 := by omega
          clear hN3 q1
          clear hbk hP ho hx hge hd0 hd1 x9
          have hq := hvm.out
          clear hvm
          subst hq
          obtain ⟨T, hTle, htw1, htw2, hins⟩ := insD_cut M y
          obtain ⟨_, _, he, m1, m2, m3, m4⟩ := (OwnR.rc o5).open_ fic_len
          injection he with he1 _ he3
          subst he1; subst he3
          have hd0 : w5.cell? ⟨p, 1, none⟩ = some (.slice Am M.length cm) := P5.cell 1
          have hd1 : ∀ {wx : World}, Ext w5 wx → wx.cell? ⟨p, 1, none⟩ = some (.slice Am M.length cm) := fun x => ext_cell x hd0
          have hby : ∀ {wx : World}, Ext w5 wx → wx.cell? (ad.add (k * 5)) = some (.int .i64 y.id) ∧ wx.cell? ⟨(ad.add (k * 5)).block, (ad.add (k * 5)).off + 1, none⟩ = some (.int .i64 y.lev) ∧ wx.cell? ⟨(ad.add (k * 5)).block, (ad.add (k * 5)).off + 2, none⟩ = some (.int .i64 y.size) ∧ wx.cell? ⟨(ad.add (k * 5)).block, (ad.add (k * 5)).off + 3, none⟩ = some (sv y.first) ∧ wx.cell? ⟨(ad.add (k * 5)).block, (ad.add (k * 5)).off + 4, none⟩ = some (sv y.last) := by
            intro wx xx
            obtain ⟨ad2, h2, _, e0, e1, e2, e3, e4⟩ := Fs.at_ (g4.ext (ext_trans y2 (ext_trans x5 xx))) hlt
            cases h2
            rw [← hy.out] at e0 e1 e2 e3 e4
            exact ⟨e0, e1, e2, e3, e4⟩
          replace hins := Lib.hid hins
          clear hd0
          go_cut [13] (fun s13 wx => s13 = .int .i64 (T : Nat) ∧ Ext w5 wx)
          case first =>
            go_wp2_with fail
            go_loopw [13] (fun i wx => ∃ j, j ≤ T ∧ i = .int .i64 j ∧ Ext w5 wx) (fun i _ => M.length - (intOf i).toNat)
            case atStart => exact ⟨0, Nat.zero_le _, rfl, Mod.refl _ _⟩
            case round =>
              rename_i wl
              obtain ⟨j, hj, rfl, xw⟩ := hrel
              have q9 := xw.drew
              have j0 : (0 : Int) ≤ (j : Int) := by omega
              by_cases hjm : j < M.length
              case neg =>
                have hbt : decide ((j : Int) < (M.length : Int)) = false := dfalse (by omega)
                have hbt' : decide (j < M.length) = false := dfalse hjm
                obtain rfl : j = T := by omega
                clear htw1 htw2
                go_wp2_with fail
                refine wp_region_held_drew (S := fun wx => wx.cell? ⟨p, 1, none⟩ = some (.slice Am M.length cm)) (by kernel_rfl) (hd1 q9) (fun hH => ?_)
                (refine wpAnyH_take (i := 0) (oi := ⟨_, _, _, _, _, _⟩) (v := ?tv684) rfl (by kernel_rfl) (by kernel_rfl) (by kernel_rfl) (fun _ _ _ h => h) (Or.inl ⟨by kernel_rfl, ?hy684⟩) hH ?rs684; (case hy684 => (intro wx hSw; (try dsimp only at hSw); go_simp; try with_reducible rfl)); try simp only [Act.put, List.setIfInBounds_toArray, List.set_cons_zero, List.set_cons_succ]; try simp only [List.getElem_toArray, List.getElem_cons_succ, List.getElem_cons_zero])
                (refine wpAnyH_take (i := 1) (oi := ⟨_, _, _, _, _, _⟩) (v := ?tv685) rfl (by kernel_rfl) (by kernel_rfl) (by kernel_rfl) (fun _ _ _ h => h) (Or.inl ⟨by kernel_rfl, ?hy685⟩) hH ?rs685; (case hy685 => (intro wx hSw; (try dsimp only at hSw); go_simp; try with_reducible rfl)); try simp only [Act.put, List.setIfInBounds_toArray, List.set_cons_zero, List.set_cons_succ]; try simp only [List.getElem_toArray, List.getElem_cons_succ, List.getElem_cons_zero])
                (refine wpAnyH_take (i := 2) (oi := ⟨_, _, _, _, _, _⟩) (v := ?tv686) rfl (by kernel_rfl) (by kernel_rfl) (by kernel_rfl) (fun _ _ _ h => h) (Or.inl ⟨by kernel_rfl, ?hy686⟩) hH ?rs686; (case hy686 => (intro wx hSw; (try dsimp only at hSw); go_simp; try with_reducible rfl)); try simp only [Act.put, List.setIfInBounds_toArray, List.set_cons_zero, List.set_cons_succ]; try simp only [List.getElem_toArray, List.getElem_cons_succ, List.getElem_cons_zero])
                (refine wpAnyH_take (i := 3) (oi := ⟨_, _, _, _, _, _⟩) (v := ?tv687) rfl (by kernel_rfl) (by kernel_rfl) (by kernel_rfl) (fun _ _ _ h => h) (Or.inl ⟨by kernel_rfl, ?hy687⟩) hH ?rs687; (case hy687 => (intro wx hSw; (try dsimp only at hSw); go_simp; try with_reducible rfl)); try simp only [Act.put, List.setIfInBounds_toArray, List.set_cons_zero, List.set_cons_succ]; try simp only [List.getElem_toArray, List.getElem_cons_succ, List.getElem_cons_zero])
                (refine wpAnyH_take (i := 4) (oi := ⟨_, _, _, _, _, _⟩) (v := ?tv688) rfl (by kernel_rfl) (by kernel_rfl) (by kernel_rfl) (fun _ _ _ h => h) (Or.inl ⟨by kernel_rfl, ?hy688⟩) hH ?rs688; (case hy688 => (intro wx hSw; (try dsimp only at hSw); go_simp; try with_reducible rfl)); try simp only [Act.put, List.setIfInBounds_toArray, List.set_cons_zero, List.set_cons_succ]; try simp only [List.getElem_toArray, List.getElem_cons_succ, List.getElem_cons_zero])
                (refine wpAnyH_take (i := 5) (oi := ⟨_, _, _, _, _, _⟩) (v := ?tv689) rfl (by kernel_rfl) (by kernel_rfl) (by kernel_rfl) (fun _ _ _ h => h) (Or.inl ⟨by kernel_rfl, ?hy689⟩) hH ?rs689; (case hy689 => (intro wx hSw; (try dsimp only at hSw); go_simp; try with_reducible rfl)); try simp only [Act.put, List.setIfInBounds_toArray, List.set_cons_zero, List.set_cons_succ]; try simp only [List.getElem_toArray, List.getElem_cons_succ, List.getElem_cons_zero])
                (refine wpAnyH_take (i := 6) (v := undef) rfl (by kernel_rfl) (by kernel_rfl) (by kernel_rfl) (fun _ _ _ h => h) (Or.inr ⟨by kernel_rfl, rfl⟩) hH ?rs690; try simp only [Act.put, List.setIfInBounds_toArray, List.set_cons_zero, List.set_cons_succ]; try simp only [List.getElem_toArray, List.getElem_cons_succ, List.getElem_cons_zero])
                (refine wpAnyH_take (i := 7) (v := undef) rfl (by kernel_rfl) (by kernel_rfl) (by kernel_rfl) (fun _ _ _ h => h) (Or.inr ⟨by kernel_rfl, rfl⟩) hH ?rs691; try simp only [Act.put, List.setIfInBounds_toArray, List.set_cons_zero, List.set_cons_succ]; try simp only [List.getElem_toArray, List.getElem_cons_succ, List.getElem_cons_zero])
                (refine wpAnyH_take (i := 8) (v := undef) rfl (by kernel_rfl) (by kernel_rfl) (by kernel_rfl) (fun _ _ _ h => h) (Or.inr ⟨by kernel_rfl, rfl⟩) hH ?rs692; try simp only [Act.put, List.setIfInBounds_toArray, List.set_cons_zero, List.set_cons_succ]; try simp only [List.getElem_toArray, List.getElem_cons_succ, List.getElem_cons_zero])
                (refine wpAnyH_take (i := 9) (v := undef) rfl (by kernel_rfl) (by kernel_rfl) (by kernel_rfl) (fun _ _ _ h => h) (Or.inr ⟨by kernel_rfl, rfl⟩) hH ?rs693; try simp only [Act.put, List.setIfInBounds_toArray, List.set_cons_zero, List.set_cons_succ]; try simp only [List.getElem_toArray, List.getElem_cons_succ, List.getElem_cons_zero])
                (refine wpAnyH_take (i := 10) (v := undef) rfl (by kernel_rfl) (by kernel_rfl) (by kernel_rfl) (fun _ _ _ h => h) (Or.inr ⟨by kernel_rfl, rfl⟩) hH ?rs694; try simp only [Act.put, List.setIfInBounds_toArray, List.set_cons_zero, List.set_cons_succ]; try simp only [List.getElem_toArray, List.getElem_cons_succ, List.getElem_cons_zero])
                (refine wpAnyH_take (i := 11) (v := undef) rfl (by kernel_rfl) (by kernel_rfl) (by kernel_rfl) (fun _ _ _ h => h) (Or.inr ⟨by kernel_rfl, rfl⟩) hH ?rs695; try simp only [Act.put, List.setIfInBounds_toArray, List.set_cons_zero, List.set_cons_succ]; try simp only [List.getElem_toArray, List.getElem_cons_succ, List.getElem_cons_zero])
                (refine wpAnyH_take (i := 12) (v := undef) rfl (by kernel_rfl) (by kernel_rfl) (by kernel_rfl) (fun _ _ _ h => h) (Or.inr ⟨by kernel_rfl, rfl⟩) hH ?rs696; try simp only [Act.put, List.setIfInBounds_toArray, List.set_cons_zero, List.set_cons_succ]; try simp only [List.getElem_toArray, List.getElem_cons_succ, List.getElem_cons_zero])
                (refine wpAnyH_take (i := 13) (v := undef) rfl (by kernel_rfl) (by kernel_rfl) (by kernel_rfl) (fun _ _ _ h => h) (Or.inr ⟨by kernel_rfl, rfl⟩) hH ?rs697; try simp only [Act.put, List.setIfInBounds_toArray, List.set_cons_zero, List.set_cons_succ]; try simp only [List.getElem_toArray, List.getElem_cons_succ, List.getElem_cons_zero])
                (refine wpAnyH_take (i := 14) (v := undef) rfl (by kernel_rfl) (by kernel_rfl) (by kernel_rfl) (fun _ _ _ h => h) (Or.inr ⟨by kernel_rfl, rfl⟩) hH ?rs698; try simp only [Act.put, List.setIfInBounds_toArray, List.set_cons_zero, List.set_cons_succ]; try simp only [List.getElem_toArray, List.getElem_cons_succ, List.getElem_cons_zero])
                (refine wpAnyH_take (i := 15) (v := undef) rfl (by kernel_rfl) (by kernel_rfl) (by kernel_rfl) (fun _ _ _ h => h) (Or.inr ⟨by kernel_rfl, rfl⟩) hH ?rs699; try simp only [Act.put, List.setIfInBounds_toArray, List.set_cons_zero, List.set_cons_succ]; try simp only [List.getElem_toArray, List.getElem_cons_succ, List.getElem_cons_zero])
                (refine wpAnyH_take (i := 16) (oi := ⟨_, _, _, _, _, _⟩) (v := ?tv700) rfl (by kernel_rfl) (by kernel_rfl) (by kernel_rfl) (fun _ _ _ h => h) (Or.inl ⟨by kernel_rfl, ?hy700⟩) hH ?rs700; (case hy700 => (intro wx hSw; (try dsimp only at hSw); go_simp; try with_reducible rfl)); try simp only [Act.put, List.setIfInBounds_toArray, List.set_cons_zero, List.set_cons_succ]; try simp only [List.getElem_toArray, List.getElem_cons_succ, List.getElem_cons_zero])
                refine wpAnyH_done (by kernel_rfl) ?_ _
                go_wp2_with fail
                go_meet
                exact ⟨rfl, q9⟩
              have hbt : decide ((j : Int) < (M.length : Int)) = true := dtrue (by omega)
              have hbt' : decide (j < M.length) = true := dtrue hjm
              have j1 : (j : Int) < (M.length : Int) := by omega
              obtain ⟨am, hA, -⟩ := Fs.at_ m4 hjm
              subst hA
              obtain ⟨z, hz⟩ : ∃ z, z = M[j] := ⟨_, rfl⟩
              have hbk4 : ∀ {wx : World}, Ext w5 wx → wx.cell? ⟨p, 1, none⟩ = some (.slice (some am) M.length cm) ∧ wx.cell? (am.add (j * 5)) = some (.int .i64 z.id) ∧ wx.cell? ⟨(am.add (j * 5)).block, (am.add (j * 5)).off + 1, none⟩ = some (.int .i64 z.lev) ∧ wx.cell? ⟨(am.add (j * 5)).block, (am.add (j * 5)).off + 2, none⟩ = some (.int .i64 z.size) ∧ wx.cell? ⟨(am.add (j * 5)).block, (am.add (j * 5)).off + 3, none⟩ = some (sv z.first) ∧ wx.cell? ⟨(am.add (j * 5)).block, (am.add (j * 5)).off + 4, none⟩ = some (sv z.last) ∧ wx.cell? (ad.add (k * 5)) = some (.int .i64 y.id) ∧ wx.cell? ⟨(ad.add (k * 5)).block, (ad.add (k * 5)).off + 1, none⟩ = some (.int .i64 y.lev) ∧ wx.cell? ⟨(ad.add (k * 5)).block, (ad.add (k * 5)).off + 2, none⟩ = some (.int .i64 y.size) ∧ wx.cell? ⟨(ad.add (k * 5)).block, (ad.add (k * 5)).off + 3, none⟩ = some (sv y.first) ∧ wx.cell? ⟨(ad.add (k * 5)).block, (ad.add (k * 5)).off + 4, none⟩ = some (sv y.last) := by
                intro wx xx
                obtain ⟨ad2, h2, _, e0, e1, e2, e3, e4⟩ := Fs.at_ (m4.ext xx) hjm
                cases h2
                rw [← hz] at e0 e1 e2 e3 e4
                exact ⟨hd1 xx, e0, e1, e2, e3, e4, hby xx⟩
              have hah := fun wx => ahead11_any (w := wx) z y
              by_cases hjT : j < T
              case pos =>
                have ha : aheadF z y := by rw [hz]; exact htw1 j hjT hjm
                simp only [dtrue ha] at hah
                replace hz := Lib.hid hz
                clear htw1 htw2 ha
                go_wp2_with fail
                refine wp_region_held_drew (S := fun wx => wx.cell? ⟨p, 1, none⟩ = some (.slice (some am) M.length cm) ∧ wx.cell? (am.add (j * 5)) = some (.int .i64 z.id) ∧ wx.cell? ⟨(am.add (j * 5)).block, (am.add (j * 5)).off + 1, none⟩ = some (.int .i64 z.lev) ∧ wx.cell? ⟨(am.add (j * 5)).block, (am.add (j * 5)).off + 2, none⟩ = some (.int .i64 z.size) ∧ wx.cell? ⟨(am.add (j * 5)).block, (am.add (j * 5)).off + 3, none⟩ = some (sv z.first) ∧ wx.cell? ⟨(am.add (j * 5)).block, (am.add (j * 5)).off + 4, none⟩ = some (sv z.last) ∧ wx.cell? (ad.add (k * 5)) = some (.int .i64 y.id) ∧ wx.cell? ⟨(ad.add (k * 5)).block, (ad.add (k * 5)).off + 1, none⟩ = some (.int .i64 y.lev) ∧ wx.cell? ⟨(ad.add (k * 5)).block, (ad.add (k * 5)).off + 2, none⟩ = some (.int .i64 y.size) ∧ wx.cell? ⟨(ad.add (k * 5)).block, (ad.add (k * 5)).off + 3, none⟩ = some (sv y.first) ∧ wx.cell? ⟨(ad.add (k * 5)).block, (ad.add (k * 5)).off + 4, none⟩ = some (sv y.last)) (by kernel_rfl) (hbk4 q9) (fun hH => ?_)
                (refine wpAnyH_take (i := 0) (oi := ⟨_, _, _, _, _, _⟩) (v := ?tv701) rfl (by kernel_rfl) (by kernel_rfl) (by kernel_rfl) (fun _ _ _ h => h) (Or.inl ⟨by kernel_rfl, ?hy701⟩) hH ?rs701; (case hy701 => (intro wx hSw; (try dsimp only at hSw); go_simp; try with_reducible rfl)); try simp only [Act.put, List.setIfInBounds_toArray, List.set_cons_zero, List.set_cons_succ]; try simp only [List.getElem_toArray, List.getElem_cons_succ, List.getElem_cons_zero])
                (refine wpAnyH_take (i := 1) (oi := ⟨_, _, _, _, _, _⟩) (v := ?tv702) rfl (by kernel_rfl) (by kernel_rfl) (by kernel_rfl) (fun _ _ _ h => h) (Or.inl ⟨by kernel_rfl, ?hy702⟩) hH ?rs702; (case hy702 => (intro wx hSw; (try dsimp only at hSw); go_simp; try with_reducible rfl)); try simp only [Act.put, List.setIfInBounds_toArray, List.set_cons_zero, List.set_cons_succ]; try simp only [List.getElem_toArray, List.getElem_cons_succ, List.getElem_cons_zero])
                (refine wpAnyH_take (i := 2) (oi := ⟨_, _, _, _, _, _⟩) (v := ?tv703) rfl (by kernel_rfl) (by kernel_rfl) (by kernel_rfl) (fun _ _ _ h => h) (Or.inl ⟨by kernel_rfl, ?hy703⟩) hH ?rs703; (case hy703 => (intro wx hSw; (try dsimp only at hSw); go_simp; try with_reducible rfl)); try simp only [Act.put, List.setIfInBounds_toArray, List.set_cons_zero, List.set_cons_succ]; try simp only [List.getElem_toArray, List.getElem_cons_succ, List.getElem_cons_zero])
                (refine wpAnyH_take (i := 3) (oi := ⟨_, _, _, _, _, _⟩) (v := ?tv704) rfl (by kernel_rfl) (by kernel_rfl) (by kernel_rfl) (fun _ _ _ h => h) (Or.inl ⟨by kernel_rfl, ?hy704⟩) hH ?rs704; (case hy704 => (intro wx hSw; (try dsimp only at hSw); go_simp; try with_reducible rfl)); try simp only [Act.put, List.setIfInBounds_toArray, List.set_cons_zero, List.set_cons_succ]; try simp only [List.getElem_toArray, List.getElem_cons_succ, List.getElem_cons_zero])
                (refine wpAnyH_take (i := 4) (oi := ⟨_, _, _, _, _, _⟩) (v := ?tv705) rfl (by kernel_rfl) (by kernel_rfl) (by kernel_rfl) (fun _ _ _ h => h) (Or.inl ⟨by kernel_rfl, ?hy705⟩) hH ?rs705; (case hy705 => (intro wx hSw; (try dsimp only at hSw); go_simp; try with_reducible rfl)); try simp only [Act.put, List.setIfInBounds_toArray, List.set_cons_zero, List.set_cons_succ]; try simp only [List.getElem_toArray, List.getElem_cons_succ, List.getElem_cons_zero])
                (refine wpAnyH_take (i := 5) (oi := ⟨_, _, _, _, _, _⟩) (v := ?tv706) rfl (by kernel_rfl) (by kernel_rfl) (by kernel_rfl) (fun _ _ _ h => h) (Or.inl ⟨by kernel_rfl, ?hy706⟩) hH ?rs706; (case hy706 => (intro wx hSw; (try dsimp only at hSw); go_simp; try with_reducible rfl)); try simp only [Act.put, List.setIfInBounds_toArray, List.set_cons_zero, List.set_cons_succ]; try simp only [List.getElem_toArray, List.getElem_cons_succ, List.getElem_cons_zero])
                (refine wpAnyH_take (i := 6) (oi := ⟨_, _, _, _, _, _⟩) (v := ?tv707) rfl (by kernel_rfl) (by kernel_rfl) (by kernel_rfl) (fun _ _ _ h => h) (Or.inl ⟨by kernel_rfl, ?hy707⟩) hH ?rs707; (case hy707 => (intro wx hSw; (try dsimp only at hSw); go_simp; try with_reducible rfl)); try simp only [Act.put, List.setIfInBounds_toArray, List.set_cons_zero, List.set_cons_succ]; try simp only [List.getElem_toArray, List.getElem_cons_succ, List.getElem_cons_zero])
                (refine wpAnyH_take (i := 7) (oi := ⟨_, _, _, _, _, _⟩) (v := ?tv708) rfl (by kernel_rfl) (by kernel_rfl) (by kernel_rfl) (fun _ _ _ h => h) (Or.inl ⟨by kernel_rfl, ?hy708⟩) hH ?rs708; (case hy708 => (intro wx hSw; (try dsimp only at hSw); go_simp; try with_reducible rfl)); try simp only [Act.put, List.setIfInBounds_toArray, List.set_cons_zero, List.set_cons_succ]; try simp only [List.getElem_toArray, List.getElem_cons_succ, List.getElem_cons_zero])
                (refine wpAnyH_take (i := 8) (oi := ⟨_, _, _, _, _, _⟩) (v := ?tv709) rfl (by kernel_rfl) (by kernel_rfl) (by kernel_rfl) (fun _ _ _ h => h) (Or.inl ⟨by kernel_rfl, ?hy709⟩) hH ?rs709; (case hy709 => (intro wx hSw; (try dsimp only at hSw); go_simp; try with_reducible rfl)); try simp only [Act.put, List.setIfInBounds_toArray, List.set_cons_zero, List.set_cons_succ]; try simp only [List.getElem_toArray, List.getElem_cons_succ, List.getElem_cons_zero])
                (refine wpAnyH_take (i := 9) (oi := ⟨_, _, _, _, _, _⟩) (v := ?tv710) rfl (by kernel_rfl) (by kernel_rfl) (by kernel_rfl) (fun _ _ _ h => h) (Or.inl ⟨by kernel_rfl, ?hy710⟩) hH ?rs710; (case hy710 => (intro wx hSw; (try dsimp only at hSw); go_simp; try with_reducible rfl)); try simp only [Act.put, List.setIfInBounds_toArray, List.set_cons_zero, List.set_cons_succ]; try simp only [List.getElem_toArray, List.getElem_cons_succ, List.getElem_cons_zero])
                (refine wpAnyH_take (i := 10) (oi := ⟨_, _, _, _, _, _⟩) (v := ?tv711) rfl (by kernel_rfl) (by kernel_rfl) (by kernel_rfl) (fun _ _ _ h => h) (Or.inl ⟨by kernel_rfl, ?hy711⟩) hH ?rs711; (case hy711 => (intro wx hSw; (try dsimp only at hSw); go_simp; try with_reducible rfl)); try simp only [Act.put, List.setIfInBounds_toArray, List.set_cons_zero, List.set_cons_succ]; try simp only [List.getElem_toArray, List.getElem_cons_succ, List.getElem_cons_zero])
                (refine wpAnyH_take (i := 11) (oi := ⟨_, _, _, _, _, _⟩) (v := ?tv712) rfl (by kernel_rfl) (by kernel_rfl) (by kernel_rfl) (fun _ _ _ h => h) (Or.inl ⟨by kernel_rfl, ?hy712⟩) hH ?rs712; (case hy712 => (intro wx hSw; (try dsimp only at hSw); go_simp; try with_reducible rfl)); try simp only [Act.put, List.setIfInBounds_toArray, List.set_cons_zero, List.set_cons_succ]; try simp only [List.getElem_toArray, List.getElem_cons_succ, List.getElem_cons_zero])
                (refine wpAnyH_take (i := 12) (oi := ⟨_, _, _, _, _, _⟩) (v := ?tv713) rfl (by kernel_rfl) (by kernel_rfl) (by kernel_rfl) (fun _ _ _ h => h) (Or.inl ⟨by kernel_rfl, ?hy713⟩) hH ?rs713; (case hy713 => (intro wx hSw; (try dsimp only at hSw); go_simp; try with_reducible rfl)); try simp only [Act.put, List.setIfInBounds_toArray, List.set_cons_zero, List.set_cons_succ]; try simp only [List.getElem_toArray, List.getElem_cons_succ, List.getElem_cons_zero])
                (refine wpAnyH_take (i := 13) (oi := ⟨_, _, _, _, _, _⟩) (v := ?tv714) rfl (by kernel_rfl) (by kernel_rfl) (by kernel_rfl) (fun _ _ _ h => h) (Or.inl ⟨by kernel_rfl, ?hy714⟩) hH ?rs714; (case hy714 => (intro wx hSw; (try dsimp only at hSw); go_simp; try with_reducible rfl)); try simp only [Act.put, List.setIfInBounds_toArray, List.set_cons_zero, List.set_cons_succ]; try simp only [List.getElem_toArray, List.getElem_cons_succ, List.getElem_cons_zero])
                (refine wpAnyH_take (i := 14) (oi := ⟨_, _, _, _, _, _⟩) (v := ?tv715) rfl (by kernel_rfl) (by kernel_rfl) (by kernel_rfl) (fun _ _ _ h => h) (Or.inl ⟨by kernel_rfl, ?hy715⟩) hH ?rs715; (case hy715 => (intro wx hSw; (try dsimp only at hSw); go_simp; try with_reducible rfl)); try simp only [Act.put, List.setIfInBounds_toArray, List.set_cons_zero, List.set_cons_succ]; try simp only [List.getElem_toArray, List.getElem_cons_succ, List.getElem_cons_zero])
                (refine wpAnyH_ready (rs := [15]) (by kernel_rfl) (by simp) ?_; refine AllReadyH.cons rfl (fun K hK => ?_) AllReadyH.nil; go_simp)
                refine (hah _).mono ?_
                rintro e wa ⟨rfl, xa⟩
                have q8 := ext_trans q9 xa
                (go_wp2_with fail; refine hK.out _ _ (hbk4 q8) (fun hH => ?_); clear hK K; try simp only [Act.put, List.setIfInBounds_toArray, List.set_cons_zero, List.set_cons_succ]; try simp only [List.getElem_toArray, List.getElem_cons_succ, List.getElem_cons_zero])
                (refine wpAnyH_take (i := 16) (oi := ⟨_, _, _, _, _, _⟩) (v := ?tv716) rfl (by kernel_rfl) (by kernel_rfl) (by kernel_rfl) (fun _ _ _ h => h) (Or.inl ⟨by kernel_rfl, ?hy716⟩) hH ?rs716; (case hy716 => (intro wx hSw; (try dsimp only at hSw); go_simp; try with_reducible rfl)); try simp only [Act.put, List.setIfInBounds_toArray, List.set_cons_zero, List.set_cons_succ]; try simp only [List.getElem_toArray, List.getElem_cons_succ, List.getElem_cons_zero])
                refine wpAnyH_done (by kernel_rfl) ?_ _
                go_wp2_with fail
                exact ⟨⟨j + 1, by omega, by go_num, q8⟩, by simp [intOf] <;> omega⟩
              obtain rfl : j = T := by omega
              have ha : ¬ aheadF z y := by rw [hz]; exact htw2 hjm
              simp only [dfalse ha] at hah
              replace hz := Lib.hid hz
              clear htw1 htw2 ha
              go_wp2_with fail
              refine wp_region_held_drew (S := fun wx => wx.cell? ⟨p, 1, none⟩ = some (.slice (some am) M.length cm) ∧ wx.cell? (am.add (j * 5)) = some (.int .i64 z.id) ∧ wx.cell? ⟨(am.add (j * 5)).block, (am.add (j * 5)).off + 1, none⟩ = some (.int .i64 z.lev) ∧ wx.cell? ⟨(am.add (j * 5)).block, (am.add (j * 5)).off + 2, none⟩ = some (.int .i64 z.size) ∧ wx.cell? ⟨(am.add (j * 5)).block, (am.add (j * 5)).off + 3, none⟩ = some (sv z.first) ∧ wx.cell? ⟨(am.add (j * 5)).block, (am.add (j * 5)).off + 4, none⟩ = some (sv z.last) ∧ wx.cell? (ad.add (k * 5)) = some (.int .i64 y.id) ∧ wx.cell? ⟨(ad.add (k * 5)).block, (ad.add (k * 5)).off + 1, none⟩ = some (.int .i64 y.lev) ∧ wx.cell? ⟨(ad.add (k * 5)).block, (ad.add (k * 5)).off + 2, none⟩ = some (.int .i64 y.size) ∧ wx.cell? ⟨(ad.add (k * 5)).block, (ad.add (k * 5)).off + 3, none⟩ = some (sv y.first) ∧ wx.cell? ⟨(ad.add (k * 5)).block, (ad.add (k * 5)).off + 4, none⟩ = some (sv y.last)) (by kernel_rfl) (hbk4 q9) (fun hH => ?_)
              (refine wpAnyH_take (i := 0) (oi := ⟨_, _, _, _, _, _⟩) (v := ?tv717) rfl (by kernel_rfl) (by kernel_rfl) (by kernel_rfl) (fun _ _ _ h => h) (Or.inl ⟨by kernel_rfl, ?hy717⟩) hH ?rs717; (case hy717 => (intro wx hSw; (try dsimp only at hSw); go_simp; try with_reducible rfl)); try simp only [Act.put, List.setIfInBounds_toArray, List.set_cons_zero, List.set_cons_succ]; try simp only [List.getElem_toArray, List.getElem_cons_succ, List.getElem_cons_zero])
              (refine wpAnyH_take (i := 1) (oi := ⟨_, _, _, _, _, _⟩) (v := ?tv718) rfl (by kernel_rfl) (by kernel_rfl) (by kernel_rfl) (fun _ _ _ h => h) (Or.inl ⟨by kernel_rfl, ?hy718⟩) hH ?rs718; (case hy718 => (intro wx hSw; (try dsimp only at hSw); go_simp; try with_reducible rfl)); try simp only [Act.put, List.setIfInBounds_toArray, List.set_cons_zero, List.set_cons_succ]; try simp only [List.getElem_toArray, List.getElem_cons_succ, List.getElem_cons_zero])
              (refine wpAnyH_take (i := 2) (oi := ⟨_, _, _, _, _, _⟩) (v := ?tv719) rfl (by kernel_rfl) (by kernel_rfl) (by kernel_rfl) (fun _ _ _ h => h) (Or.inl ⟨by kernel_rfl, ?hy719⟩) hH ?rs719; (case hy719 => (intro wx hSw; (try dsimp only at hSw); go_simp; try with_reducible rfl)); try simp only [Act.put, List.setIfInBounds_toArray, List.set_cons_zero, List.set_cons_succ]; try simp only [List.getElem_toArray, List.getElem_cons_succ, List.getElem_cons_zero])
              (refine wpAnyH_take (i := 3) (oi := ⟨_, _, _, _, _, _⟩) (v := ?tv720) rfl (by kernel_rfl) (by kernel_rfl) (by kernel_rfl) (fun _ _ _ h => h) (Or.inl ⟨by kernel_rfl, ?hy720⟩) hH ?rs720; (case hy720 => (intro wx hSw; (try dsimp only at hSw); go_simp; try with_reducible rfl)); try simp only [Act.put, List.setIfInBounds_toArray, List.set_cons_zero, List.set_cons_succ]; try simp only [List.getElem_toArray, List.getElem_cons_succ, List.getElem_cons_zero])
              (refine wpAnyH_take (i := 4) (oi := ⟨_, _, _, _, _, _⟩) (v := ?tv721) rfl (by kernel_rfl) (by kernel_rfl) (by kernel_rfl) (fun _ _ _ h => h) (Or.inl ⟨by kernel_rfl, ?hy721⟩) hH ?rs721; (case hy721 => (intro wx hSw; (try dsimp only at hSw); go_simp; try with_reducible rfl)); try simp only [Act.put, List.setIfInBounds_toArray, List.set_cons_zero, List.set_cons_succ]; try simp only [List.getElem_toArray, List.getElem_cons_succ, List.getElem_cons_zero])
              (refine wpAnyH_take (i := 5) (oi := ⟨_, _, _, _, _, _⟩) (v := ?tv722) rfl (by kernel_rfl) (by kernel_rfl) (by kernel_rfl) (fun _ _ _ h => h) (Or.inl ⟨by kernel_rfl, ?hy722⟩) hH ?rs722; (case hy722 => (intro wx hSw; (try dsimp only at hSw); go_simp; try with_reducible rfl)); try simp only [Act.put, List.setIfInBounds_toArray, List.set_cons_zero, List.set_cons_succ]; try simp only [List.getElem_toArray, List.getElem_cons_succ, List.getElem_cons_zero])
              (refine wpAnyH_take (i := 6) (oi := ⟨_, _, _, _, _, _⟩) (v := ?tv723) rfl (by kernel_rfl) (by kernel_rfl) (by kernel_rfl) (fun _ _ _ h => h) (Or.inl ⟨by kernel_rfl, ?hy723⟩) hH ?rs723; (case hy723 => (intro wx hSw; (try dsimp only at hSw); go_simp; try with_reducible rfl)); try simp only [Act.put, List.setIfInBounds_toArray, List.set_cons_zero, List.set_cons_succ]; try simp only [List.getElem_toArray, List.getElem_cons_succ, List.getElem_cons_zero])
              (refine wpAnyH_take (i := 7) (oi := ⟨_, _, _, _, _, _⟩) (v := ?tv724) rfl (by kernel_rfl) (by kernel_rfl) (by kernel_rfl) (fun _ _ _ h => h) (Or.inl ⟨by kernel_rfl, ?hy724⟩) hH ?rs724; (case hy724 => (intro wx hSw; (try dsimp only at hSw); go_simp; try with_reducible rfl)); try simp only [Act.put, List.setIfInBounds_toArray, List.set_cons_zero, List.set_cons_succ]; try simp only [List.getElem_toArray, List.getElem_cons_succ, List.getElem_cons_zero])
              (refine wpAnyH_take (i := 8) (oi := ⟨_, _, _, _, _, _⟩) (v := ?tv725) rfl (by kernel_rfl) (by kernel_rfl) (by kernel_rfl) (fun _ _ _ h => h) (Or.inl ⟨by kernel_rfl, ?hy725⟩) hH ?rs725; (case hy725 => (intro wx hSw; (try dsimp only at hSw); go_simp; try with_reducible rfl)); try simp only [Act.put, List.setIfInBounds_toArray, List.set_cons_zero, List.set_cons_succ]; try simp only [List.getElem_toArray, List.getElem_cons_succ, List.getElem_cons_zero])
              (refine wpAnyH_take (i := 9) (oi := ⟨_, _, _, _, _, _⟩) (v := ?tv726) rfl (by kernel_rfl) (by kernel_rfl) (by kernel_rfl) (fun _ _ _ h => h) (Or.inl ⟨by kernel_rfl, ?hy726⟩) hH ?rs726; (case hy726 => (intro wx hSw; (try dsimp only at hSw); go_simp; try with_reducible rfl)); try simp only [Act.put, List.setIfInBounds_toArray, List.set_cons_zero, List.set_cons_succ]; try simp only [List.getElem_toArray, List.getElem_cons_succ, List.getElem_cons_zero])
              (refine wpAnyH_take (i := 10) (oi := ⟨_, _, _, _, _, _⟩) (v := ?tv727) rfl (by kernel_rfl) (by kernel_rfl) (by kernel_rfl) (fun _ _ _ h => h) (Or.inl ⟨by kernel_rfl, ?hy727⟩) hH ?rs727; (case hy727 => (intro wx hSw; (try dsimp only at hSw); go_simp; try with_reducible rfl)); try simp only [Act.put, List.setIfInBounds_toArray, List.set_cons_zero, List.set_cons_succ]; try simp only [List.getElem_toArray, List.getElem_cons_succ, List.getElem_cons_zero])
              (refine wpAnyH_take (i := 11) (oi := ⟨_, _, _, _, _, _⟩) (v := ?tv728) rfl (by kernel_rfl) (by kernel_rfl) (by kernel_rfl) (fun _ _ _ h => h) (Or.inl ⟨by kernel_rfl, ?hy728⟩) hH ?rs728; (case hy728 => (intro wx hSw; (try dsimp only at hSw); go_simp; try with_reducible rfl)); try simp only [Act.put, List.setIfInBounds_toArray, List.set_cons_zero, List.set_cons_succ]; try simp only [List.getElem_toArray, List.getElem_cons_succ, List.getElem_cons_zero])
              (refine wpAnyH_take (i := 12) (oi := ⟨_, _, _, _, _, _⟩) (v := ?tv729) rfl (by kernel_rfl) (by kernel_rfl) (by kernel_rfl) (fun _ _ _ h => h) (Or.inl ⟨by kernel_rfl, ?hy729⟩) hH ?rs729; (case hy729 => (intro wx hSw; (try dsimp only at hSw); go_simp; try with_reducible rfl)); try simp only [Act.put, List.setIfInBounds_toArray, List.set_cons_zero, List.set_cons_succ]; try simp only [List.getElem_toArray, List.getElem_cons_succ, List.getElem_cons_zero])
              (refine wpAnyH_take (i := 13) (oi := ⟨_, _, _, _, _, _⟩) (v := ?tv730) rfl (by kernel_rfl) (by kernel_rfl) (by kernel_rfl) (fun _ _ _ h => h) (Or.inl ⟨by kernel_rfl, ?hy730⟩) hH ?rs730; (case hy730 => (intro wx hSw; (try dsimp only at hSw); go_simp; try with_reducible rfl)); try simp only [Act.put, List.setIfInBounds_toArray, List.set_cons_zero, List.set_cons_succ]; try simp only [List.getElem_toArray, List.getElem_cons_succ, List.getElem_cons_zero])
              (refine wpAnyH_take (i := 14) (oi := ⟨_, _, _, _, _, _⟩) (v := ?tv731) rfl (by kernel_rfl) (by kernel_rfl) (by kernel_rfl) (fun _ _ _ h => h) (Or.inl ⟨by kernel_rfl, ?hy731⟩) hH ?rs731; (case hy731 => (intro wx hSw; (try dsimp only at hSw); go_simp; try with_reducible rfl)); try simp only [Act.put, List.setIfInBounds_toArray, List.set_cons_zero, List.set_cons_succ]; try simp only [List.getElem_toArray, List.getElem_cons_succ, List.getElem_cons_zero])
              (refine wpAnyH_ready (rs := [15]) (by kernel_rfl) (by simp) ?_; refine AllReadyH.cons rfl (fun K hK => ?_) AllReadyH.nil; go_simp)
              refine (hah _).mono ?_
              rintro e wa ⟨rfl, xa⟩
              have q8 := ext_trans q9 xa
              (go_wp2_with fail; refine hK.out _ _ (hbk4 q8) (fun hH => ?_); clear hK K; try simp only [Act.put, List.setIfInBounds_toArray, List.set_cons_zero, List.set_cons_succ]; try simp only [List.getElem_toArray, List.getElem_cons_succ, List.getElem_cons_zero])
              (refine wpAnyH_take (i := 16) (oi := ⟨_, _, _, _, _, _⟩) (v := ?tv732) rfl (by kernel_rfl) (by kernel_rfl) (by kernel_rfl) (fun _ _ _ h => h) (Or.inl ⟨by kernel_rfl, ?hy732⟩) hH ?rs732; (case hy732 => (intro wx hSw; (try dsimp only at hSw); go_simp; try with_reducible rfl)); try simp only [Act.put, List.setIfInBounds_toArray, List.set_cons_zero, List.set_cons_succ]; try simp only [List.getElem_toArray, List.getElem_cons_succ, List.getElem_cons_zero])
              refine wpAnyH_done (by kernel_rfl) ?_ _
              go_wp2_with fail
              go_meet
              exact ⟨rfl, q8⟩
          case rest =>
            obtain ⟨rfl, xc⟩ := hcut
            obtain ⟨w8, hw8⟩ : ∃ x, x = wc := ⟨_, rfl⟩
            subst hw8
            have hMt := (OwnR.rc o5).begin fic_len hTle
            have hlk : M.length * 56 ≤ 140737488351232 := by omega
            have hn26 : (([] : List Fl).length + (M.take T).length) * 56 ≤ 140737488355328 := by simp only [List.length_nil, List.length_take]; omega
            have hn27 : ((M.take T).length + [y].length) * 56 ≤ 140737488355328 := by simp only [List.length_take, List.length_cons, List.length_nil]; omega
            have hn28 : ((M.take T ++ [y]).length + (M.drop T).length) * 56 ≤ 140737488355328 := by simp only [List.length_append, List.length_take, List.length_drop, List.length_cons, List.length_nil]; omega
            have hbk6 : ∀ {wx : World}, Ext w8 wx → wx.cell? ⟨p, 1, none⟩ = some (.slice Am M.length cm) ∧ wx.cell? (ad.add (k * 5)) = some (.int .i64 y.id) ∧ wx.cell? ⟨(ad.add (k * 5)).block, (ad.add (k * 5)).off + 1, none⟩ = some (.int .i64 y.lev) ∧ wx.cell? ⟨(ad.add (k * 5)).block, (ad.add (k * 5)).off + 2, none⟩ = some (.int .i64 y.size) ∧ wx.cell? ⟨(ad.add (k * 5)).block, (ad.add (k * 5)).off + 3, none⟩ = some (sv y.first) ∧ wx.cell? ⟨(ad.add (k * 5)).block, (ad.add (k * 5)).off + 4, none⟩ = some (sv y.last) := fun x => ⟨hd1 (ext_trans xc x), hby (ext_trans xc x)⟩
            have hT0 : (0 : Int) ≤ (T : Int) := by omega
            have hT1 : (T : Int) ≤ (M.length : Int) := by omega
            have hT2 : (T : Int) ≤ (cm : Int) := by omega
            have r6 : Ext w8 w8.drew := (Mod.refl _ w8).drew
            have hlt1 : (k : Int) < (B.length : Int) := t1
            clear htw1 htw2
            go_upto_region 26 with fail
            go_cut [14] (fun s14 wx => ∃ vz : Value, vz = s14 ∧ OwnF wx vz (M.take T ++ [y]) ∧ Fresh w8.heap.size vz ∧ Ext w8 wx)
            case first =>
              refine wp_region_held_drew (S := fun wx => wx.cell? ⟨p, 1, none⟩ = some (.slice Am M.length cm) ∧ wx.cell? (ad.add (k * 5)) = some (.int .i64 y.id) ∧ wx.cell? ⟨(ad.add (k * 5)).block, (ad.add (k * 5)).off + 1, none⟩ = some (.int .i64 y.lev) ∧ wx.cell? ⟨(ad.add (k * 5)).block, (ad.add (k * 5)).off + 2, none⟩ = some (.int .i64 y.size) ∧ wx.cell? ⟨(ad.add (k * 5)).block, (ad.add (k * 5)).off + 3, none⟩ = some (sv y.first) ∧ wx.cell? ⟨(ad.add (k * 5)).block, (ad.add (k * 5)).off + 4, none⟩ = some (sv y.last)) (by kernel_rfl) (hbk6 r6) (fun hH => ?_)
              generalize w8.drew = wD at *
              (refine wpAnyH_take (i := 1) (oi := ⟨_, _, _, _, _, _⟩) (v := ?tv733) rfl (by kernel_rfl) (by kernel_rfl) (by kernel_rfl) (fun _ _ _ h => h) (Or.inl ⟨by kernel_rfl, ?hy733⟩) hH ?rs733; (case hy733 => (intro wx hSw; (try dsimp only at hSw); go_simp; try with_reducible rfl)); try simp only [Act.put, List.setIfInBounds_toArray, List.set_cons_zero, List.set_cons_succ]; try simp only [List.getElem_toArray, List.getElem_cons_succ, List.getElem_cons_zero])
              (refine wpAnyH_take (i := 2) (oi := ⟨_, _, _, _, _, _⟩) (v := ?tv734) rfl (by kernel_rfl) (by kernel_rfl) (by kernel_rfl) (fun _ _ _ h => h) (Or.inl ⟨by kernel_rfl, ?hy734⟩) hH ?rs734; (case hy734 => (intro wx hSw; (try dsimp only at hSw); go_simp; try with_reducible rfl)); try simp only [Act.put, List.setIfInBounds_toArray, List.set_cons_zero, List.set_cons_succ]; try simp only [List.getElem_toArray, List.getElem_cons_succ, List.getElem_cons_zero])
              (refine wpAnyH_take (i := 3) (oi := ⟨_, _, _, _, _, _⟩) (v := ?tv735) rfl (by kernel_rfl) (by kernel_rfl) (by kernel_rfl) (fun _ _ _ h => h) (Or.inl ⟨by kernel_rfl, ?hy735⟩) hH ?rs735; (case hy735 => (intro wx hSw; (try dsimp only at hSw); go_simp; try with_reducible rfl)); try simp only [Act.put, List.setIfInBounds_toArray, List.set_cons_zero, List.set_cons_succ]; try simp only [List.getElem_toArray, List.getElem_cons_succ, List.getElem_cons_zero])
              (refine wpAnyH_take (i := 4) (oi := ⟨_, _, _, _, _, _⟩) (v := ?tv736) rfl (by kernel_rfl) (by kernel_rfl) (by kernel_rfl) (fun _ _ _ h => h) (Or.inl ⟨by kernel_rfl, ?hy736⟩) hH ?rs736; (case hy736 => (intro wx hSw; (try dsimp only at hSw); go_simp; try with_reducible rfl)); try simp only [Act.put, List.setIfInBounds_toArray, List.set_cons_zero, List.set_cons_succ]; try simp only [List.getElem_toArray, List.getElem_cons_succ, List.getElem_cons_zero])
              (refine wpAnyH_take (i := 6) (oi := ⟨_, _, _, _, _, _⟩) (v := ?tv737) rfl (by kernel_rfl) (by kernel_rfl) (by kernel_rfl) (fun _ _ _ h => h) (Or.inl ⟨by kernel_rfl, ?hy737⟩) hH ?rs737; (case hy737 => (intro wx hSw; (try dsimp only at hSw); go_simp; try with_reducible rfl)); try simp only [Act.put, List.setIfInBounds_toArray, List.set_cons_zero, List.set_cons_succ]; try simp only [List.getElem_toArray, List.getElem_cons_succ, List.getElem_cons_zero])
              (refine wpAnyH_take (i := 7) (oi := ⟨_, _, _, _, _, _⟩) (v := ?tv738) rfl (by kernel_rfl) (by kernel_rfl) (by kernel_rfl) (fun _ _ _ h => h) (Or.inl ⟨by kernel_rfl, ?hy738⟩) hH ?rs738; (case hy738 => (intro wx hSw; (try dsimp only at hSw); go_simp; try with_reducible rfl)); try simp only [Act.put, List.setIfInBounds_toArray, List.set_cons_zero, List.set_cons_succ]; try simp only [List.getElem_toArray, List.getElem_cons_succ, List.getElem_cons_zero])
              (refine wpAnyH_take (i := 8) (oi := ⟨_, _, _, _, _, _⟩) (v := ?tv739) rfl (by kernel_rfl) (by kernel_rfl) (by kernel_rfl) (fun _ _ _ h => h) (Or.inl ⟨by kernel_rfl, ?hy739⟩) hH ?rs739; (case hy739 => (intro wx hSw; (try dsimp only at hSw); go_simp; try with_reducible rfl)); try simp only [Act.put, List.setIfInBounds_toArray, List.set_cons_zero, List.set_cons_succ]; try simp only [List.getElem_toArray, List.getElem_cons_succ, List.getElem_cons_zero])
              (refine wpAnyH_take (i := 9) (oi := ⟨_, _, _, _, _, _⟩) (v := ?tv740) rfl (by kernel_rfl) (by kernel_rfl) (by kernel_rfl) (fun _ _ _ h => h) (Or.inl ⟨by kernel_rfl, ?hy740⟩) hH ?rs740; (case hy740 => (intro wx hSw; (try dsimp only at hSw); go_simp; try with_reducible rfl)); try simp only [Act.put, List.setIfInBounds_toArray, List.set_cons_zero, List.set_cons_succ]; try simp only [List.getElem_toArray, List.getElem_cons_succ, List.getElem_cons_zero])
              refine wpAnyH_ready (rs := [0, 10]) (by kernel_rfl) (by simp) ?_
              refine AllReadyH.cons rfl (fun K hK => ?g34) (AllReadyH.cons rfl (fun K hK => ?g35) AllReadyH.nil)
              case g34 =>
                have oE : OwnF (wD.alloc (.cells #[] 48)) (.slice (some ⟨wD.heap.size, 0, none⟩) 0 0) [] := OwnR.empty fic 5 wD 48
                have fE : Fresh w8.heap.size (.slice (some ⟨wD.heap.size, 0, none⟩) 0 0) := fun k hk => by (have h9 : wD.heap.size = k := Option.some.inj hk); have h8 := r6.size; omega
                have q36 : Ext w8 (wD.alloc (.cells #[] 48)) := r6.alloc _
                go_simp
                (go_wp2_with fail; refine hK.out _ _ (hbk6 q36) (fun hH => ?_); clear hK K; try simp only [Act.put, List.setIfInBounds_toArray, List.set_cons_zero, List.set_cons_succ]; try simp only [List.getElem_toArray, List.getElem_cons_succ, List.getElem_cons_zero])
                generalize (wD.alloc (.cells #[] 48)) = wz37 at *
                generalize wD.heap.size = hE at *
                refine wpAnyH_ready (rs := [5, 10]) (by kernel_rfl) (by simp) ?_
                refine AllReadyH.cons rfl (fun K hK => ?g38) (AllReadyH.cons rfl (fun K hK => ?g39) AllReadyH.nil)
                case g38 =>
                  refine step_appRs 119 tyF oE (hMt.ext (ext_trans xc q36)) (fic_all _) hn26 rfl rfl (.tmp 114) (.tmp 118) rfl rfl rfl ?_
                  intro vA wz41 ka1 ka2 ka3
                  rw [List.nil_append] at ka1
                  have q40 := ext_app0 q36 fE ka2
                  have fA := ka3.fresh fE q36.size
                  clear oE ka2 ka3
                  have oE := ka1
                  clear ka1
                  (refine hK.out _ _ (hbk6 q40) (fun hH => ?_); clear hK K; try simp only [Act.put, List.setIfInBounds_toArray, List.set_cons_zero, List.set_cons_succ]; try simp only [List.getElem_toArray, List.getElem_cons_succ, List.getElem_cons_zero])
                  refine wpAnyH_ready (rs := [10]) (by kernel_rfl) (by simp) ?_
                  refine AllReadyH.cons rfl (fun K hK => ?g42) AllReadyH.nil
                  case g42 =>
                    replace oE := OwnR.alloc oE (.cells #[.int .i64 y.id, .int .i64 y.lev, .int .i64 y.size, sv y.first, sv y.last] 48)
                    have oL : OwnF (wz41.alloc (.cells #[.int .i64 y.id, .int .i64 y.lev, .int .i64 y.size, sv y.first, sv y.last] 48)) (.slice (some ⟨wz41.heap.size, 0, none⟩) 1 1) [y] := OwnF.lit wz41 y
                    have q43 : Ext w8 (wz41.alloc (.cells #[.int .i64 y.id, .int .i64 y.lev, .int .i64 y.size, sv y.first, sv y.last] 48)) := q40.alloc _
                    go_simp
                    (go_wp2_with fail; refine hK.out _ _ (hbk6 q43) (fun hH => ?_); clear hK K; try simp only [Act.put, List.setIfInBounds_toArray, List.set_cons_zero, List.set_cons_succ]; try simp only [List.getElem_toArray, List.getElem_cons_succ, List.getElem_cons_zero])
                    generalize (wz41.alloc (.cells #[.int .i64 y.id, .int .i64 y.lev, .int .i64 y.size, sv y.first, sv y.last] 48)) = wz44 at *
                    generalize wz41.heap.size = hL at *
                    refine wpAnyH_ready (rs := [11]) (by kernel_rfl) (by simp) ?_
                    refine AllReadyH.cons rfl (fun K hK => ?g45) AllReadyH.nil
                    case g45 =>
                      refine step_appRs 125 tyF oE (OwnR.rc oL) (fic_all _) hn27 rfl rfl (.tmp 119) (.tmp 124) rfl rfl rfl ?_
                      intro vB wz47 kb1 kb2 kb3
                      have q46 := ext_app0 q43 fA kb2
                      have fB := kb3.fresh fA q43.size
                      (refine hK.out _ _ (hbk6 q46) (fun hH => ?_); clear hK K; try simp only [Act.put, List.setIfInBounds_toArray, List.set_cons_zero, List.set_cons_succ]; try simp only [List.getElem_toArray, List.getElem_cons_succ, List.getElem_cons_zero])
                      (refine wpAnyH_take (i := 12) (oi := ⟨_, _, _, _, _, _⟩) (v := ?tv741) rfl (by kernel_rfl) (by kernel_rfl) (by kernel_rfl) (fun _ _ _ h => h) (Or.inl ⟨by kernel_rfl, ?hy741⟩) hH ?rs741; (case hy741 => (intro wx hSw; (try dsimp only at hSw); go_simp; try with_reducible rfl)); try simp only [Act.put, List.setIfInBounds_toArray, List.set_cons_zero, List.set_cons_succ]; try simp only [List.getElem_toArray, List.getElem_cons_succ, List.getElem_cons_zero])
                      refine wpAnyH_done (by kernel_rfl) ?_ _
                      go_wp2_with fail
                      go_meet
                      exact ⟨_, rfl, kb1, fB, q46⟩
                case g39 =>
                  have nEL : hE < wz37.heap.size := OwnR.lt oE (b := hE) rfl
                  replace oE := OwnR.alloc oE (.cells #[.int .i64 y.id, .int .i64 y.lev, .int .i64 y.size, sv y.first, sv y.last] 48)
                  have oL : OwnF (wz37.alloc (.cells #[.int .i64 y.id, .int .i64 y.lev, .int .i64 y.size, sv y.first, sv y.last] 48)) (.slice (some ⟨wz37.heap.size, 0, none⟩) 1 1) [y] := OwnF.lit wz37 y
                  have q48 : Ext w8 (wz37.alloc (.cells #[.int .i64 y.id, .int .i64 y.lev, .int .i64 y.size, sv y.first, sv y.last] 48)) := q36.alloc _
                  go_simp
                  (go_wp2_with fail; refine hK.out _ _ (hbk6 q48) (fun hH => ?_); clear hK K; try simp only [Act.put, List.setIfInBounds_toArray, List.set_cons_zero, List.set_cons_succ]; try simp only [List.getElem_toArray, List.getElem_cons_succ, List.getElem_cons_zero])
                  generalize (wz37.alloc (.cells #[.int .i64 y.id, .int .i64 y.lev, .int .i64 y.size, sv y.first, sv y.last] 48)) = wz49 at *
                  generalize wz37.heap.size = hL at *
                  refine wpAnyH_ready (rs := [5]) (by kernel_rfl) (by simp) ?_
                  refine AllReadyH.cons rfl (fun K hK => ?g50) AllReadyH.nil
                  case g50 =>
                    refine step_appRs 119 tyF oE (hMt.ext (ext_trans xc q48)) (fic_all _) hn26 rfl rfl (.tmp 114) (.tmp 118) rfl rfl rfl ?_
                    intro vA wz52 ka1 ka2 ka3
                    rw [List.nil_append] at ka1
                    have q51 := ext_app0 q48 fE ka2
                    have fA := ka3.fresh fE q48.size
                    replace oL := OwnR.mod oL ka2 (fun k hk e => by (have h9 : hL = k := Option.some.inj hk); (have h8 : hE = k := Option.some.inj e); omega)
                    clear oE ka2 ka3
                    have oE := ka1
                    clear ka1
                    (refine hK.out _ _ (hbk6 q51) (fun hH => ?_); clear hK K; try simp only [Act.put, List.setIfInBounds_toArray, List.set_cons_zero, List.set_cons_succ]; try simp only [List.getElem_toArray, List.getElem_cons_succ, List.getElem_cons_zero])
                    refine wpAnyH_ready (rs := [11]) (by kernel_rfl) (by simp) ?_
                    refine AllReadyH.cons rfl (fun K hK => ?g53) AllReadyH.nil
                    case g53 =>
                      refine step_appRs 125 tyF oE (OwnR.rc oL) (fic_all _) hn27 rfl rfl (.tmp 119) (.tmp 124) rfl rfl rfl ?_
                      intro vB wz55 kb1 kb2 kb3
                      have q54 := ext_app0 q51 fA kb2
                      have fB := kb3.fresh fA q51.size
                      (refine hK.out _ _ (hbk6 q54) (fun hH => ?_); clear hK K; try simp only [Act.put, List.setIfInBounds_toArray, List.set_cons_zero, List.set_cons_succ]; try simp only [List.getElem_toArray, List.getElem_cons_succ, List.getElem_cons_zero])
                      (refine wpAnyH_take (i := 12) (oi := ⟨_, _, _, _, _, _⟩) (v := ?tv742) rfl (by kernel_rfl) (by kernel_rfl) (by kernel_rfl) (fun _ _ _ h => h) (Or.inl ⟨by kernel_rfl, ?hy742⟩) hH ?rs742; (case hy742 => (intro wx hSw; (try dsimp only at hSw); go_simp; try with_reducible rfl)); try simp only [Act.put, List.setIfInBounds_toArray, List.set_cons_zero, List.set_cons_succ]; try simp only [List.getElem_toArray, List.getElem_cons_succ, List.getElem_cons_zero])
                      refine wpAnyH_done (by kernel_rfl) ?_ _
                      go_wp2_with fail
                      go_meet
                      exact ⟨_, rfl, kb1, fB, q54⟩
              case g35 =>
                have oL : OwnF (wD.alloc (.cells #[.int .i64 y.id, .int .i64 y.lev, .int .i64 y.size, sv y.first, sv y.last] 48)) (.slice (some ⟨wD.heap.size, 0, none⟩) 1 1) [y] := OwnF.lit wD y
                have q56 : Ext w8 (wD.alloc (.cells #[.int .i64 y.id, .int .i64 y.lev, .int .i64 y.size, sv y.first, sv y.last] 48)) := r6.alloc _
                go_simp
                (go_wp2_with fail; refine hK.out _ _ (hbk6 q56) (fun hH => ?_); clear hK K; try simp only [Act.put, List.setIfInBounds_toArray, List.set_cons_zero, List.set_cons_succ]; try simp only [List.getElem_toArray, List.getElem_cons_succ, List.getElem_cons_zero])
                generalize (wD.alloc (.cells #[.int .i64 y.id, .int .i64 y.lev, .int .i64 y.size, sv y.first, sv y.last] 48)) = wz57 at *
                generalize wD.heap.size = hL at *
                refine wpAnyH_ready (rs := [0]) (by kernel_rfl) (by simp) ?_
                refine AllReadyH.cons rfl (fun K hK => ?g58) AllReadyH.nil
                case g58 =>
                  have nEL : hL < wz57.heap.size := OwnR.lt oL (b := hL) rfl
                  replace oL := OwnR.alloc oL (.cells #[] 48)
                  have oE : OwnF (wz57.alloc (.cells #[] 48)) (.slice (some ⟨wz57.heap.size, 0, none⟩) 0 0) [] := OwnR.empty fic 5 wz57 48
                  have fE : Fresh w8.heap.size (.slice (some ⟨wz57.heap.size, 0, none⟩) 0 0) := fun k hk => by (have h9 : wz57.heap.size = k := Option.some.inj hk); have h8 := q56.size; omega
                  have q59 : Ext w8 (wz57.alloc (.cells #[] 48)) := q56.alloc _
                  go_simp
                  (go_wp2_with fail; refine hK.out _ _ (hbk6 q59) (fun hH => ?_); clear hK K; try simp only [Act.put, List.setIfInBounds_toArray, List.set_cons_zero, List.set_cons_succ]; try simp only [List.getElem_toArray, List.getElem_cons_succ, List.getElem_cons_zero])
                  generalize (wz57.alloc (.cells #[] 48)) = wz60 at *
                  generalize wz57.heap.size = hE at *
                  refine wpAnyH_ready (rs := [5]) (by kernel_rfl) (by simp) ?_
                  refine AllReadyH.cons rfl (fun K hK => ?g61) AllReadyH.nil
                  case g61 =>
                    refine step_appRs 119 tyF oE (hMt.ext (ext_trans xc q59)) (fic_all _) hn26 rfl rfl (.tmp 114) (.tmp 118) rfl rfl rfl ?_
                    intro vA wz63 ka1 ka2 ka3
                    rw [List.nil_append] at ka1
                    have q62 := ext_app0 q59 fE ka2
                    have fA := ka3.fresh fE q59.size
                    replace oL := OwnR.mod oL ka2 (fun k hk e => by (have h9 : hL = k := Option.some.inj hk); (have h8 : hE = k := Option.some.inj e); omega)
                    clear oE ka2 ka3
                    have oE := ka1
                    clear ka1
                    (refine hK.out _ _ (hbk6 q62) (fun hH => ?_); clear hK K; try simp only [Act.put, List.setIfInBounds_toArray, List.set_cons_zero, List.set_cons_succ]; try simp only [List.getElem_toArray, List.getElem_cons_succ, List.getElem_cons_zero])
                    refine wpAnyH_ready (rs := [11]) (by kernel_rfl) (by simp) ?_
                    refine AllReadyH.cons rfl (fun K hK => ?g64) AllReadyH.nil
                    case g64 =>
                      refine step_appRs 125 tyF oE (OwnR.rc oL) (fic_all _) hn27 rfl rfl (.tmp 119) (.tmp 124) rfl rfl rfl ?_
                      intro vB wz66 kb1 kb2 kb3
                      have q65 := ext_app0 q62 fA kb2
                      have fB := kb3.fresh fA q62.size
                      (refine hK.out _ _ (hbk6 q65) (fun hH => ?_); clear hK K; try simp only [Act.put, List.setIfInBounds_toArray, List.set_cons_zero, List.set_cons_succ]; try simp only [List.getElem_toArray, List.getElem_cons_succ, List.getElem_cons_zero])
                      (refine wpAnyH_take (i := 12) (oi := ⟨_, _, _, _, _, _⟩) (v := ?tv743) rfl (by kernel_rfl) (by kernel_rfl) (by kernel_rfl) (fun _ _ _ h => h) (Or.inl ⟨by kernel_rfl, ?hy743⟩) hH ?rs743; (case hy743 => (intro wx hSw; (try dsimp only at hSw); go_simp; try with_reducible rfl)); try simp only [Act.put, List.setIfInBounds_toArray, List.set_cons_zero, List.set_cons_succ]; try simp only [List.getElem_toArray, List.getElem_cons_succ, List.getElem_cons_zero])
                      refine wpAnyH_done (by kernel_rfl) ?_ _
                      go_wp2_with fail
                      go_meet
                      exact ⟨_, rfl, kb1, fB, q65⟩
            case rest =>
              obtain ⟨vz, rfl, o6, f6, x6⟩ := hcut
              have x56 := ext_trans xc x6
              have P6 := P5.mod x56 (fun h => h)
              have hp6 : p < w8.heap.size := (P5.mod xc (fun h => h)).lt
              have hdw := hd1 x56
              have hs2c : w2.heap.size ≤ w8.heap.size := (ext_trans x5 xc).size
              have hln : (insD M y).length = M.length + 1 := by rw [(insD_perm M y).length_eq, List.length_append]; rfl
              have hst2 : Hid (insD M y = (B.take (k + 1)).foldl insD M0) := Lib.hid (by rw [List.take_succ_eq_append_getElem hlt, List.foldl_append, ← hst.out, ← hy.out]; rfl)
              have hfin : ∀ {va : Value} {wa : World}, OwnF wa va ((M.take T ++ [y]) ++ M.drop T) → Mod (own vz) wc wa → Next wc.heap.size vz va → Blk wa p 24 #[.int .i64 N2, .slice Am M.length cm] →
                  Blk (wa.setCell ⟨p, 1, none⟩ va) p 24 #[.int .i64 (nextF nx (B.take (k + 1))), va] ∧ OwnF (wa.setCell ⟨p, 1, none⟩ va) va (insD M y) ∧ Fresh w2.heap.size va ∧ Ext w2 (wa.setCell ⟨p, 1, none⟩ va) := by
                intro va wa k1 k2 k3 P7
                have m8 := setc_mod wa p 1 va
                have e8 : (M.take T ++ [y]) ++ M.drop T = insD M y := by rw [hins.out, List.append_assoc]; rfl
                rw [e8] at k1
                refine ⟨by rw [hN2.out]; exact P7.set_ 1 va, OwnR.mod k1 m8 (fun k hk e => ownR_ne_blk k1 P7 (by decide) hk e), k3.fresh (f6.mono hs2c) (ext_trans (ext_trans x5 xc) x6).size, ?_⟩
                exact (ext_app0 (ext_trans (ext_trans x5 xc) x6) (f6.mono hs2c) k2).trans m8 (fun _ _ h => h) (fun k hk e => by omega)
              have hcp : ∀ {wa : World}, Mod (own vz) wc wa → Blk wa p 24 #[.int .i64 N2, .slice Am M.length cm] := fun k2 => P6.mod k2 (fun h => by have := f6 p h; omega)
              have hN6 : Hid (nextF nx (B.take (k + 1)) ≤ 1099511627776) := Lib.hid (by rw [hN2.out]; exact hN5)
              have hML2 : (insD M y).length ≤ L.length + (k + 1) := by omega
              replace hln := Lib.hid hln
              by_cases hcz : cm = T
              case pos =>
                have hR := ((OwnR.rc o5).ext x56).rest0 hTle hcz
                go_wp2_with ((with_reducible show wpList _ _ _ (⟨some 131, _, _, _, _, _⟩ :: _) _ _); refine wp_appRm tyF o6 hR (fic_all _) hn28 rfl (.tmp 126) (.tmp 130) rfl rfl rfl ?_; intro va wa ka1 ka2 ka3; obtain ⟨Av, nv, cv, rfl⟩ : ∃ Av nv cv, va = .slice Av nv cv := (OwnR.shape ka1).elim fun A h => h.elim fun c e => ⟨A, _, c, e⟩; have P7 := hcp ka2; have f7 := Blk.frozen P7 1; have c7 : wa.cell? ⟨p, 1, none⟩ = some (.slice Am M.length cm) := P7.cell 1)
                obtain ⟨e1, e2, e3, e4⟩ := hfin ka1 ka2 ka3 P7
                exact ⟨⟨k + 1, insD M y, _, by omega, by go_num, hst2, hML2, hal3, hN6, e1, e2, e3, e4⟩, by simp [intOf] <;> omega⟩
              have hR := ((OwnR.rc o5).ext x56).rest fic_len hTle
              go_wp2_with ((with_reducible show wpList _ _ _ (⟨some 131, _, _, _, _, _⟩ :: _) _ _); refine wp_appRm tyF o6 hR (fic_all _) hn28 rfl (.tmp 126) (.tmp 130) rfl rfl rfl ?_; intro va wa ka1 ka2 ka3; obtain ⟨Av, nv, cv, rfl⟩ : ∃ Av nv cv, va = .slice Av nv cv := (OwnR.shape ka1).elim fun A h => h.elim fun c e => ⟨A, _, c, e⟩; have P7 := hcp ka2; have f7 := Blk.frozen P7 1; have c7 : wa.cell? ⟨p, 1, none⟩ = some (.slice Am M.length cm) := P7.cell 1)
              obtain ⟨e1, e2, e3, e4⟩ := hfin ka1 ka2 ka3 P7
              exact ⟨⟨k + 1, insD M y, _, by omega, by go_num, hst2, hML2, hal3, hN6, e1, e2, e3, e4⟩, by simp [intOf] <;> omega⟩
      have hbl : decide ((k : Int) < (G.length : Int)) = true := dtrue (by omega)
      have hbl' : decide (k < G.length) = true := dtrue hlt
      obtain ⟨adg, hAg, -⟩ := is_at (hg.ext (ext_trans y2 hx)) hlt
      subst hAg
      have hcg : ∀ {wx : World}, Ext w2 wx → wx.cell? (adg.add k) = some (.int .i64 G[k]) := by
        intro wx x
        obtain ⟨ad2, h2, c0⟩ := is_at (hg.ext (ext_trans y2 x)) hlt
        cases h2
        exact c0
      have hdk : dels (G.drop k) M = dels (G[k] :: G.drop (k + 1)) M := by rw [← List.drop_eq_getElem_cons hlt]
      rw [hd.out] at hdk
      replace hd := Lib.hid hdk
      have ki0 : (0 : Int) ≤ (k : Int) := by omega
      have ki1 : (k : Int) < (G.length : Int) := by omega
      generalize G[k] = x at *
      obtain ⟨Am, cm, rfl⟩ := OwnR.shape ho
      have hrc := ho.rc
      obtain ⟨_, _, he, m1, m2, m3, m4⟩ := hrc.open_ fic_len
      injection he with he1 _ he3
      subst he1; subst he3
      obtain ⟨w4, hw4⟩ : ∃ w4, w4 = wr := ⟨_, rfl⟩
      have hbase : Ext w4 wr := by rw [hw4]; exact Mod.refl _ _
      rw [← hw4] at hP ho m4 hx
      have hd0 : w4.cell? ⟨p, 1, none⟩ = some (.slice Am M.length cm) := hP.cell 1
      have hd1 : ∀ {wx : World}, Ext w4 wx → wx.cell? ⟨p, 1, none⟩ = some (.slice Am M.length cm) := fun x => ext_cell x hd0
      have hdw := hd1 hbase
      go_wp2_with fail
      go_loopw [10, 11] (fun s i wr => ∃ t, t ≤ M.length ∧ i = .int .i64 t ∧ OwnF wr s (strike x (M.take t)) ∧ Fresh w4.heap.size s ∧ Ext w4 wr) (fun _ i _ => M.length - (intOf i).toNat)
      case atStart => exact ⟨0, Nat.zero_le _, rfl, OwnF.nil _, fresh_nil _ _ _, hbase⟩
      case round =>
        clear hbase hdw
        obtain ⟨t, ht, rfl, hs, hfs, hxw⟩ := hrel
        have hdw := hd1 hxw
        by_cases htl : t < M.length
        case neg =>
          have hbt : decide ((t : Int) < (M.length : Int)) = false := dfalse (by omega)
          have hbt' : decide (t < M.length) = false := dfalse htl
          have hE : M.take t = M := List.take_of_length_le (by omega)
          rw [hE] at hs
          obtain ⟨M', hM'⟩ : ∃ M', M' = strike x M := ⟨_, rfl⟩
          rw [← hM'] at hs
          have hle : M'.length ≤ M.length := by rw [hM']; exact List.length_filter_le _ _
          obtain ⟨As, cs, rfl⟩ := OwnR.shape hs
          have hP' := hP.mod hxw (fun h => h)
          have x24 := ext_trans hx hxw
          clear hE htl
          by_cases heq : M'.length = M.length
          case pos =>
            have q1 : ((M'.length : Int) == (M.length : Int)) = true := by rw [beq_iff_eq]; omega
            have q1' : (M'.length == M.length) = true := by rw [beq_iff_eq]; omega
            have hnone : dels G L = none := by rw [hd.out]; unfold dels; rw [if_pos (by rw [← hM']; exact heq)]
            have hbad : Hid (¬ chOk nx L G B) := Lib.hid fun q => by
              have := (dels_wo hv.ids).1 q.2.1
              rw [hnone] at this
              cases this
            have BR5 := hrk x24
            have f0 := Blk.frozen BR5 0
            have f1 := Blk.frozen BR5 1
            have p0 : wr.cell? ⟨gr, 0, none⟩ = some (.int .i64 0) := BR5.cell 0
            have p1 : wr.cell? ⟨gr, 1, none⟩ = some (.slice none 0 0) := BR5.cell 1
            have R5 := fun p q => (BR5.set_ 0 p).set_ 1 q
            replace heq := Lib.hid heq
            replace hM' := Lib.hid hM'
            go_wp2_with fail
            refine bodyPost_ret (results_cell_row2 Try.results23 _ _ _ _ _ _ _ rfl (R5 (.int .i64 0) (.slice none 0 0)) Try.underlying24 rfl (by kernel_rfl)) rfl ?_
            exact ⟨Or.inr ⟨Or.inl hbad.out, rfl⟩, fin _ _ (ext_trans y2 x24)⟩
          have q1 : ((M'.length : Int) == (M.length : Int)) = false := by rw [beq_eq_false_iff_ne]; omega
          have q1' : (M'.length == M.length) = false := by rw [beq_eq_false_iff_ne]; omega
          have hd' : Hid (dels (G.drop (k + 1)) M' = dels G L) := Lib.hid (by rw [hd.out, hM']; conv => rhs; unfold dels; rw [if_neg (by rw [← hM']; exact heq)])
          have f5 := Blk.frozen hP' 1
          have P6 := hP'.set_ 1 (.slice As M'.length cs)
          have m6 := setc_mod wr p 1 (.slice As M'.length cs)
          have o6 := OwnR.mod hs m6 (fun k hk e => ownR_ne_blk hs hP' (by decide) hk e)
          have x6 : Ext w2 (wr.setCell ⟨p, 1, none⟩ (.slice As M'.length cs)) := x24.trans m6 (fun _ _ h => h) (fun k hk e => by omega)
          have hfr2 := hfs.mono hx.size
          have hMl2 : M'.length ≤ L.length := by omega
          replace heq := Lib.hid heq
          replace hM' := Lib.hid hM'
          go_wp2_with fail
          exact ⟨⟨k + 1, M', _, by omega, by go_num, hd', hMl2, P6, o6, hfr2, x6⟩, by simp [intOf] <;> omega⟩
        have hbt : decide ((t : Int) < (M.length : Int)) = true := dtrue (by omega)
        have hbt' : decide (t < M.length) = true := dtrue htl
        obtain ⟨ad, hA, -⟩ := Fs.at_ m4 htl
        subst hA
        have hst : strike x (M.take (t + 1)) = strike x (M.take t) ++ (if (!decide (M[t].id = x)) = true then [M[t]] else []) := filt_step (fun c => !decide (c.id = x)) M htl
        have hfl : (strike x (M.take t)).length ≤ t := filt_len (fun c => !decide (c.id = x)) M t
        obtain ⟨y, hy⟩ : ∃ y, y = M[t] := ⟨_, rfl⟩
        have hbk : ∀ {wx : World}, Ext w4 wx → wx.cell? ⟨p, 1, none⟩ = some (.slice (some ad) M.length cm) ∧ wx.cell? (adg.add k) = some (.int .i64 x) ∧ wx.cell? (ad.add (t * 5)) = some (.int .i64 y.id) ∧ wx.cell? ⟨(ad.add (t * 5)).block, (ad.add (t * 5)).off + 1, none⟩ = some (.int .i64 y.lev) ∧ wx.cell? ⟨(ad.add (t * 5)).block, (ad.add (t * 5)).off + 2, none⟩ = some (.int .i64 y.size) ∧ wx.cell? ⟨(ad.add (t * 5)).block, (ad.add (t * 5)).off + 3, none⟩ = some (sv y.first) ∧ wx.cell? ⟨(ad.add (t * 5)).block, (ad.add (t * 5)).off + 4, none⟩ = some (sv y.last) := by
          intro wx xx
          obtain ⟨ad2, h2, _, e0, e1, e2, e3, e4⟩ := Fs.at_ (m4.ext xx) htl
          cases h2
          rw [← hy] at e0 e1 e2 e3 e4
          exact ⟨hd1 xx, hcg (ext_trans hx xx), e0, e1, e2, e3, e4⟩
        rw [← hy] at hst
        replace hy := Lib.hid hy
        have t0 : (0 : Int) ≤ (t : Int) := by omega
        have t1 : (t : Int) < (M.length : Int) := by omega
        have r9 : Ext w4 wr.drew := hxw.drew
        have hs9 : OwnF wr.drew _ _ := hs
        obtain ⟨M2, hM2⟩ : ∃ M2, M2 = strike x (M.take (t + 1)) := ⟨_, rfl⟩
        rw [← hM2] at hst
        generalize strike x (M.take t) = Mt at *
        have hnn : (Mt.length + 1) * 56 ≤ 140737488355328 := by omega
        replace hM2 := Lib.hid hM2
        replace hfl := Lib.hid hfl
        by_cases hyx : y.id = x
        case pos =>
          have q1 : (y.id != x) = false := by rw [bne_eq_false_iff_eq]; exact hyx
          have q1' : (y.id == x) = true := by rw [beq_iff_eq]; exact hyx
          have hs2 : Hid (M2 = Mt) := Lib.hid (by rw [hst]; simp [hyx])
          clear hst hyx
          go_wp2_with fail
          refine wp_region_held_drew (S := fun wx => wx.cell? ⟨p, 1, none⟩ = some (.slice (some ad) M.length cm) ∧ wx.cell? (adg.add k) = some (.int .i64 x) ∧ wx.cell? (ad.add (t * 5)) = some (.int .i64 y.id) ∧ wx.cell? ⟨(ad.add (t * 5)).block, (ad.add (t * 5)).off + 1, none⟩ = some (.int .i64 y.lev) ∧ wx.cell? ⟨(ad.add (t * 5)).block, (ad.add (t * 5)).off + 2, none⟩ = some (.int .i64 y.size) ∧ wx.cell? ⟨(ad.add (t * 5)).block, (ad.add (t * 5)).off + 3, none⟩ = some (sv y.first) ∧ wx.cell? ⟨(ad.add (t * 5)).block, (ad.add (t * 5)).off + 4, none⟩ = some (sv y.last)) (by kernel_rfl) (hbk r9) (fun hH => ?_)
          (refine wpAnyH_take (i := 0) (oi := ⟨_, _, _, _, _, _⟩) (v := ?tv301) rfl (by kernel_rfl) (by kernel_rfl) (by kernel_rfl) (fun _ _ _ h => h) (Or.inl ⟨by kernel_rfl, ?hy301⟩) hH ?rs301; (case hy301 => (intro wx hSw; (try dsimp only at hSw); go_simp; try with_reducible rfl)); try simp only [Act.put, List.setIfInBounds_toArray, List.set_cons_zero, List.set_cons_succ]; try simp only [List.getElem_toArray, List.getElem_cons_succ, List.getElem_cons_zero])
          (refine wpAnyH_take (i := 1) (oi := ⟨_, _, _, _, _, _⟩) (v := ?tv302) rfl (by kernel_rfl) (by kernel_rfl) (by kernel_rfl) (fun _ _ _ h => h) (Or.inl ⟨by kernel_rfl, ?hy302⟩) hH ?rs302; (case hy302 => (intro wx hSw; (try dsimp only at hSw); go_simp; try with_reducible rfl)); try simp only [Act.put, List.setIfInBounds_toArray, List.set_cons_zero, List.set_cons_succ]; try simp only [List.getElem_toArray, List.getElem_cons_succ, List.getElem_cons_zero])
          (refine wpAnyH_take (i := 2) (oi := ⟨_, _, _, _, _, _⟩) (v := ?tv303) rfl (by kernel_rfl) (by kernel_rfl) (by kernel_rfl) (fun _ _ _ h => h) (Or.inl ⟨by kernel_rfl, ?hy303⟩) hH ?rs303; (case hy303 => (intro wx hSw; (try dsimp only at hSw); go_simp; try with_reducible rfl)); try simp only [Act.put, List.setIfInBounds_toArray, List.set_cons_zero, List.set_cons_succ]; try simp only [List.getElem_toArray, List.getElem_cons_succ, List.getElem_cons_zero])
          (refine wpAnyH_take (i := 3) (oi := ⟨_, _, _, _, _, _⟩) (v := ?tv304) rfl (by kernel_rfl) (by kernel_rfl) (by kernel_rfl) (fun _ _ _ h => h) (Or.inl ⟨by kernel_rfl, ?hy304⟩) hH ?rs304; (case hy304 => (intro wx hSw; (try dsimp only at hSw); go_simp; try with_reducible rfl)); try simp only [Act.put, List.setIfInBounds_toArray, List.set_cons_zero, List.set_cons_succ]; try simp only [List.getElem_toArray, List.getElem_cons_succ, List.getElem_cons_zero])
          (refine wpAnyH_take (i := 4) (oi := ⟨_, _, _, _, _, _⟩) (v := ?tv305) rfl (by kernel_rfl) (by kernel_rfl) (by kernel_rfl) (fun _ _ _ h => h) (Or.inl ⟨by kernel_rfl, ?hy305⟩) hH ?rs305; (case hy305 => (intro wx hSw; (try dsimp only at hSw); go_simp; try with_reducible rfl)); try simp only [Act.put, List.setIfInBounds_toArray, List.set_cons_zero, List.set_cons_succ]; try simp only [List.getElem_toArray, List.getElem_cons_succ, List.getElem_cons_zero])
          (refine wpAnyH_take (i := 5) (oi := ⟨_, _, _, _, _, _⟩) (v := ?tv306) rfl (by kernel_rfl) (by kernel_rfl) (by kernel_rfl) (fun _ _ _ h => h) (Or.inl ⟨by kernel_rfl, ?hy306⟩) hH ?rs306; (case hy306 => (intro wx hSw; (try dsimp only at hSw); go_simp; try with_reducible rfl)); try simp only [Act.put, List.setIfInBounds_toArray, List.set_cons_zero, List.set_cons_succ]; try simp only [List.getElem_toArray, List.getElem_cons_succ, List.getElem_cons_zero])
          (refine wpAnyH_take (i := 6) (oi := ⟨_, _, _, _, _, _⟩) (v := ?tv307) rfl (by kernel_rfl) (by kernel_rfl) (by kernel_rfl) (fun _ _ _ h => h) (Or.inl ⟨by kernel_rfl, ?hy307⟩) hH ?rs307; (case hy307 => (intro wx hSw; (try dsimp only at hSw); go_simp; try with_reducible rfl)); try simp only [Act.put, List.setIfInBounds_toArray, List.set_cons_zero, List.set_cons_succ]; try simp only [List.getElem_toArray, List.getElem_cons_succ, List.getElem_cons_zero])
          (refine wpAnyH_take (i := 7) (oi := ⟨_, _, _, _, _, _⟩) (v := ?tv308) rfl (by kernel_rfl) (by kernel_rfl) (by kernel_rfl) (fun _ _ _ h => h) (Or.inl ⟨by kernel_rfl, ?hy308⟩) hH ?rs308; (case hy308 => (intro wx hSw; (try dsimp only at hSw); go_simp; try with_reducible rfl)); try simp only [Act.put, List.setIfInBounds_toArray, List.set_cons_zero, List.set_cons_succ]; try simp only [List.getElem_toArray, List.getElem_cons_succ, List.getElem_cons_zero])
          (refine wpAnyH_take (i := 8) (oi := ⟨_, _, _, _, _, _⟩) (v := ?tv309) rfl (by kernel_rfl) (by kernel_rfl) (by kernel_rfl) (fun _ _ _ h => h) (Or.inl ⟨by kernel_rfl, ?hy309⟩) hH ?rs309; (case hy309 => (intro wx hSw; (try dsimp only at hSw); go_simp; try with_reducible rfl)); try simp only [Act.put, List.setIfInBounds_toArray, List.set_cons_zero, List.set_cons_succ]; try simp only [List.getElem_toArray, List.getElem_cons_succ, List.getElem_cons_zero])
          (refine wpAnyH_take (i := 9) (oi := ⟨_, _, _, _, _, _⟩) (v := ?tv310) rfl (by kernel_rfl) (by kernel_rfl) (by kernel_rfl) (fun _ _ _ h => h) (Or.inl ⟨by kernel_rfl, ?hy310⟩) hH ?rs310; (case hy310 => (intro wx hSw; (try dsimp only at hSw); go_simp; try with_reducible rfl)); try simp only [Act.put, List.setIfInBounds_toArray, List.set_cons_zero, List.set_cons_succ]; try simp only [List.getElem_toArray, List.getElem_cons_succ, List.getElem_cons_zero])
          (refine wpAnyH_take (i := 10) (oi := ⟨_, _, _, _, _, _⟩) (v := ?tv311) rfl (by kernel_rfl) (by kernel_rfl) (by kernel_rfl) (fun _ _ _ h => h) (Or.inl ⟨by kernel_rfl, ?hy311⟩) hH ?rs311; (case hy311 => (intro wx hSw; (try dsimp only at hSw); go_simp; try with_reducible rfl)); try simp only [Act.put, List.setIfInBounds_toArray, List.set_cons_zero, List.set_cons_succ]; try simp only [List.getElem_toArray, List.getElem_cons_succ, List.getElem_cons_zero])
          refine wpAnyH_done (by kernel_rfl) ?_ _
          go_wp2_with fail
          exact ⟨⟨t + 1, by omega, by go_num, by rw [← hM2.out, hs2.out]; exact hs9, hfs, r9⟩, by simp [intOf] <;> omega⟩
        have q1 : (y.id != x) = true := by rw [bne_iff_ne]; exact hyx
        have q1' : (y.id == x) = false := by rw [beq_eq_false_iff_ne]; exact hyx
        have hs2 : Hid (M2 = Mt ++ [y]) := Lib.hid (by rw [hst]; simp [hyx])
        clear hst hyx
        obtain ⟨n0, n1, n2, n3, n4, n5, n6⟩ := hbk r9
        go_wp2_with fail
        refine wp_region_held_drew (S := fun wx => wx.cell? ⟨p, 1, none⟩ = some (.slice (some ad) M.length cm) ∧ wx.cell? (adg.add k) = some (.int .i64 x) ∧ wx.cell? (ad.add (t * 5)) = some (.int .i64 y.id) ∧ wx.cell? ⟨(ad.add (t * 5)).block, (ad.add (t * 5)).off + 1, none⟩ = some (.int .i64 y.lev) ∧ wx.cell? ⟨(ad.add (t * 5)).block, (ad.add (t * 5)).off + 2, none⟩ = some (.int .i64 y.size) ∧ wx.cell? ⟨(ad.add (t * 5)).block, (ad.add (t * 5)).off + 3, none⟩ = some (sv y.first) ∧ wx.cell? ⟨(ad.add (t * 5)).block, (ad.add (t * 5)).off + 4, none⟩ = some (sv y.last)) (by kernel_rfl) (hbk r9) (fun hH => ?_)
        (refine wpAnyH_take (i := 0) (oi := ⟨_, _, _, _, _, _⟩) (v := ?tv312) rfl (by kernel_rfl) (by kernel_rfl) (by kernel_rfl) (fun _ _ _ h => h) (Or.inl ⟨by kernel_rfl, ?hy312⟩) hH ?rs312; (case hy312 => (intro wx hSw; (try dsimp only at hSw); go_simp; try with_reducible rfl)); try simp only [Act.put, List.setIfInBounds_toArray, List.set_cons_zero, List.set_cons_succ]; try simp only [List.getElem_toArray, List.getElem_cons_succ, List.getElem_cons_zero])
        (refine wpAnyH_take (i := 1) (oi := ⟨_, _, _, _, _, _⟩) (v := ?tv313) rfl (by kernel_rfl) (by kernel_rfl) (by kernel_rfl) (fun _ _ _ h => h) (Or.inl ⟨by kernel_rfl, ?hy313⟩) hH ?rs313; (case hy313 => (intro wx hSw; (try dsimp only at hSw); go_simp; try with_reducible rfl)); try simp only [Act.put, List.setIfInBounds_toArray, List.set_cons_zero, List.set_cons_succ]; try simp only [List.getElem_toArray, List.getElem_cons_succ, List.getElem_cons_zero])
        (refine wpAnyH_take (i := 2) (oi := ⟨_, _, _, _, _, _⟩) (v := ?tv314) rfl (by kernel_rfl) (by kernel_rfl) (by kernel_rfl) (fun _ _ _ h => h) (Or.inl ⟨by kernel_rfl, ?hy314⟩) hH ?rs314; (case hy314 => (intro wx hSw; (try dsimp only at hSw); go_simp; try with_reducible rfl)); try simp only [Act.put, List.setIfInBounds_toArray, List.set_cons_zero, List.set_cons_succ]; try simp only [List.getElem_toArray, List.getElem_cons_succ, List.getElem_cons_zero])
        (refine wpAnyH_take (i := 3) (oi := ⟨_, _, _, _, _, _⟩) (v := ?tv315) rfl (by kernel_rfl) (by kernel_rfl) (by kernel_rfl) (fun _ _ _ h => h) (Or.inl ⟨by kernel_rfl, ?hy315⟩) hH ?rs315; (case hy315 => (intro wx hSw; (try dsimp only at hSw); go_simp; try with_reducible rfl)); try simp only [Act.put, List.setIfInBounds_toArray, List.set_cons_zero, List.set_cons_succ]; try simp only [List.getElem_toArray, List.getElem_cons_succ, List.getElem_cons_zero])
        (refine wpAnyH_take (i := 4) (oi := ⟨_, _, _, _, _, _⟩) (v := ?tv316) rfl (by kernel_rfl) (by kernel_rfl) (by kernel_rfl) (fun _ _ _ h => h) (Or.inl ⟨by kernel_rfl, ?hy316⟩) hH ?rs316; (case hy316 => (intro wx hSw; (try dsimp only at hSw); go_simp; try with_reducible rfl)); try simp only [Act.put, List.setIfInBounds_toArray, List.set_cons_zero, List.set_cons_succ]; try simp only [List.getElem_toArray, List.getElem_cons_succ, List.getElem_cons_zero])
        (refine wpAnyH_take (i := 5) (oi := ⟨_, _, _, _, _, _⟩) (v := ?tv317) rfl (by kernel_rfl) (by kernel_rfl) (by kernel_rfl) (fun _ _ _ h => h) (Or.inl ⟨by kernel_rfl, ?hy317⟩) hH ?rs317; (case hy317 => (intro wx hSw; (try dsimp only at hSw); go_simp; try with_reducible rfl)); try simp only [Act.put, List.setIfInBounds_toArray, List.set_cons_zero, List.set_cons_succ]; try simp only [List.getElem_toArray, List.getElem_cons_succ, List.getElem_cons_zero])
        (refine wpAnyH_take (i := 6) (oi := ⟨_, _, _, _, _, _⟩) (v := ?tv318) rfl (by kernel_rfl) (by kernel_rfl) (by kernel_rfl) (fun _ _ _ h => h) (Or.inl ⟨by kernel_rfl, ?hy318⟩) hH ?rs318; (case hy318 => (intro wx hSw; (try dsimp only at hSw); go_simp; try with_reducible rfl)); try simp only [Act.put, List.setIfInBounds_toArray, List.set_cons_zero, List.set_cons_succ]; try simp only [List.getElem_toArray, List.getElem_cons_succ, List.getElem_cons_zero])
        (refine wpAnyH_take (i := 7) (oi := ⟨_, _, _, _, _, _⟩) (v := ?tv319) rfl (by kernel_rfl) (by kernel_rfl) (by kernel_rfl) (fun _ _ _ h => h) (Or.inl ⟨by kernel_rfl, ?hy319⟩) hH ?rs319; (case hy319 => (intro wx hSw; (try dsimp only at hSw); go_simp; try with_reducible rfl)); try simp only [Act.put, List.setIfInBounds_toArray, List.set_cons_zero, List.set_cons_succ]; try simp only [List.getElem_toArray, List.getElem_cons_succ, List.getElem_cons_zero])
        (refine wpAnyH_take (i := 8) (oi := ⟨_, _, _, _, _, _⟩) (v := ?tv320) rfl (by kernel_rfl) (by kernel_rfl) (by kernel_rfl) (fun _ _ _ h => h) (Or.inl ⟨by kernel_rfl, ?hy320⟩) hH ?rs320; (case hy320 => (intro wx hSw; (try dsimp only at hSw); go_simp; try with_reducible rfl)); try simp only [Act.put, List.setIfInBounds_toArray, List.set_cons_zero, List.set_cons_succ]; try simp only [List.getElem_toArray, List.getElem_cons_succ, List.getElem_cons_zero])
        (refine wpAnyH_take (i := 9) (oi := ⟨_, _, _, _, _, _⟩) (v := ?tv321) rfl (by kernel_rfl) (by kernel_rfl) (by kernel_rfl) (fun _ _ _ h => h) (Or.inl ⟨by kernel_rfl, ?hy321⟩) hH ?rs321; (case hy321 => (intro wx hSw; (try dsimp only at hSw); go_simp; try with_reducible rfl)); try simp only [Act.put, List.setIfInBounds_toArray, List.set_cons_zero, List.set_cons_succ]; try simp only [List.getElem_toArray, List.getElem_cons_succ, List.getElem_cons_zero])
        (refine wpAnyH_take (i := 10) (oi := ⟨_, _, _, _, _, _⟩) (v := ?tv322) rfl (by kernel_rfl) (by kernel_rfl) (by kernel_rfl) (fun _ _ _ h => h) (Or.inl ⟨by kernel_rfl, ?hy322⟩) hH ?rs322; (case hy322 => (intro wx hSw; (try dsimp only at hSw); go_simp; try with_reducible rfl)); try simp only [Act.put, List.setIfInBounds_toArray, List.set_cons_zero, List.set_cons_succ]; try simp only [List.getElem_toArray, List.getElem_cons_succ, List.getElem_cons_zero])
        refine wpAnyH_done (by kernel_rfl) ?_ _
        go_wp2_with ((with_reducible show wpList _ _ _ (⟨some 57, _, _, _, _, _⟩ :: _) _ _); refine wp_appR tyF fic_len (x := y) hs9 rfl (fic_ok _) hnn rfl (.tmp 50) (.tmp 56) rfl rfl rfl ?_; intro va wa ka1 ka2 ka3)
        exact ⟨⟨t + 1, by omega, by go_num, by rw [← hM2.out, hs2.out]; exact ka1, fresh_ext r9 hfs ka3, ext_app0 r9 hfs ka2⟩, by simp [intOf] <;> omega⟩
end Go.Proofs.Ytmjkgibeljbloaa
