/- level: the law Gone. -/
import Derived.Test.YtmjkgibeljbloaaLsM
import Derived.Test.YtmjkgibeljbloaaLvS
import Derived.Test.YtmjkgibeljbloaaLvK
import Derived.Test.YtmjkgibeljbloaaLvM
namespace Go.Proofs.Ytmjkgibeljbloaa
open Go.RowKit
set_option maxRecDepth 100000

theorem i64_and16 (a : Int) : bits .and .i64 a 65535 = a % 65536 := by
  show IntKind.i64.wrap (((BitVec.ofInt 64 a &&& BitVec.ofInt 64 65535).toNat : Nat) : Int) = _
  rw [BitVec.toNat_and, show (BitVec.ofInt 64 65535).toNat = 2 ^ 16 - 1 by decide, Nat.and_two_pow_sub_one_eq_mod, BitVec.toNat_ofInt]
  have : 0 ≤ a % 18446744073709551616 := Int.emod_nonneg _ (by omega)
  have h2 : ((a % ((2 ^ 64 : Nat) : Int)).toNat : Int) = a % 18446744073709551616 := by
    rw [Int.toNat_of_nonneg (by exact this)]; rfl
  have h3 : (((a % ((2 ^ 64 : Nat) : Int)).toNat % 2 ^ 16 : Nat) : Int) = a % 65536 := by
    rw [Int.natCast_emod, h2]; omega
  rw [h3, IntKind.wrap_i64]
  omega
theorem gone_ans1 {n : Int} {L1 L2 : List Fl} {f : Fl} {e : Ending} {w' : World} (h : isV n (L1 ++ f :: L2)) (ha : chAns n (L1 ++ f :: L2) [f.id] [] e w') :
    ∃ v', OwnF w' v' (L1 ++ L2) ∧ e = .returned (.tuple #[.agg #[.int .i64 n, v'], .int .i64 0]) := by
  have hw := wo_one h.ids
  have hsub : (L1 ++ L2).Sublist (L1 ++ f :: L2) := List.Sublist.append_left (List.sublist_cons_self f L2) L1
  have hv := h.sub hsub
  have hu : ∀ S : List Fl, S.Perm ((wo [f.id] (L1 ++ f :: L2)).1 ++ []) → Srt S → S = L1 ++ L2 := fun S p s => by
    rw [hw, List.append_nil] at p
    exact srt_uniq hv s p
  have hn : nextF n [] = n := rfl
  rcases ha with ⟨S, v', _, p, s, _, o, e⟩ | ⟨hb | ⟨S, p, s, hb⟩, _⟩
  · rw [hu S p s] at o
    exact ⟨v', o, e⟩
  · exact absurd ⟨h, ⟨List.pairwise_singleton _ _, by rw [hw]⟩, fun f hf => by cases hf⟩ hb
  · rw [hu S p s] at hb
    exact absurd hv hb
theorem gone_ans2 {n : Int} {L1 L2 : List Fl} {f : Fl} {e : Ending} {w' : World} (h : isV n (L1 ++ f :: L2)) (ha : chAns n (L1 ++ L2) [] [f] e w') :
    ∃ v', OwnF w' v' (L1 ++ f :: L2) ∧ e = .returned (.tuple #[.agg #[.int .i64 n, v'], .int .i64 0]) := by
  have hw := wo_none (L1 ++ L2)
  have hsub : (L1 ++ L2).Sublist (L1 ++ f :: L2) := List.Sublist.append_left (List.sublist_cons_self f L2) L1
  have hv := h.sub hsub
  have hff := h.fitc f (List.mem_append_right _ (List.mem_cons_self ..))
  have hid := hff.2.1
  have hn2 := h.2.1
  have hu : ∀ S : List Fl, S.Perm ((wo [] (L1 ++ L2)).1 ++ [f]) → Srt S → S = L1 ++ f :: L2 := fun S p s => by
    rw [hw] at p
    refine srt_uniq h s (p.trans ?_)
    rw [List.append_assoc]
    exact List.Perm.append_left _ List.perm_append_comm
  have hn : nextF n [f] = n := by
    show max n (f.id + 1) = n
    omega
  rw [show chAns n (L1 ++ L2) [] [f] e w' = _ from rfl] at ha
  unfold chAns at ha
  rw [hn] at ha
  rcases ha with ⟨S, v', _, p, s, _, o, e⟩ | ⟨hb | ⟨S, p, s, hb⟩, _⟩
  · rw [hu S p s] at o
    exact ⟨v', o, e⟩
  · refine absurd ⟨hv, ⟨List.Pairwise.nil, by rw [hw]⟩, fun g hg => ?_⟩ hb
    rw [List.mem_singleton.1 hg]
    omega
  · rw [hu S p s] at hb
    exact absurd h hb
theorem box5 {w2 wx : World} {p : Nat} {a b c d e : Value} (B : Blk wx p 48 #[a, b, c, d, e]) (x : Ext w2 wx) (hp : w2.heap.size ≤ p) (f : Fl) :
    Blk (((((wx.setCell ⟨p, 0, none⟩ (.int .i64 f.id)).setCell ⟨p, 1, none⟩ (.int .i64 f.lev)).setCell ⟨p, 2, none⟩ (.int .i64 f.size)).setCell ⟨p, 3, none⟩ (sv f.first)).setCell ⟨p, 4, none⟩ (sv f.last)) p 48 (fia f) ∧
    Ext w2 (((((wx.setCell ⟨p, 0, none⟩ (.int .i64 f.id)).setCell ⟨p, 1, none⟩ (.int .i64 f.lev)).setCell ⟨p, 2, none⟩ (.int .i64 f.size)).setCell ⟨p, 3, none⟩ (sv f.first)).setCell ⟨p, 4, none⟩ (sv f.last)) := by
  refine ⟨((((B.set_ 0 (.int .i64 f.id)).set_ 1 (.int .i64 f.lev)).set_ 2 (.int .i64 f.size)).set_ 3 (sv f.first)).set_ 4 (sv f.last), ?_⟩
  exact ((((x.setCell (p := ⟨p, 0, none⟩) (fun h => absurd h (Nat.not_lt.2 hp)) _).setCell (p := ⟨p, 1, none⟩) (fun h => absurd h (Nat.not_lt.2 hp)) _).setCell (p := ⟨p, 2, none⟩) (fun h => absurd h (Nat.not_lt.2 hp)) _).setCell (p := ⟨p, 3, none⟩) (fun h => absurd h (Nat.not_lt.2 hp)) _).setCell (p := ⟨p, 4, none⟩) (fun h => absurd h (Nat.not_lt.2 hp)) _
set_option maxHeartbeats 32000000 in
theorem lgone_any {w : World} {S : Nat → Prop} {v : Value} {n i : Int} {L : List Fl} (h : Fs w S v L) (hf : MFits L) :
    Calls Try.prog 8 #[.agg #[.int .i64 n, v], .int .i64 i] w fun e w' => e = .returned (.bool true) ∧ Ext w w' := by
  have hshape := h.shape
  obtain ⟨A, c, rfl⟩ := hshape
  have B0 : Blk (w.alloc (.cells #[.int .i64 n, .slice A L.length c] 24)) w.heap.size 24 #[.int .i64 n, .slice A L.length c] := Blk.new w _ _
  have hB : Ext w (w.alloc (.cells #[.int .i64 n, .slice A L.length c] 24)) := (Mod.refl _ w).alloc _
  obtain ⟨w0, hw0⟩ : ∃ w0, w0 = w.alloc (.cells #[.int .i64 n, .slice A L.length c] 24) := ⟨_, rfl⟩
  rw [← hw0] at B0 hB
  obtain ⟨gv, hgv⟩ : ∃ gv, gv = w.heap.size := ⟨_, rfl⟩
  rw [← hgv] at B0
  replace hw0 := Lib.hid hw0
  replace hgv := Lib.hid hgv
  have h0 := h.ext hB
  have hhv := heavy11_any h0 hf
  have hri := fun {wx : World} (x : Ext w0 wx) => ris_any (n := n) (h0.ext x) hf
  have hkn := known11_any
  have b0 : w0.cell? ⟨gv, 0, none⟩ = some (.int .i64 n) := B0.cell 0
  have b1 : w0.cell? ⟨gv, 1, none⟩ = some (.slice A L.length c) := B0.cell 1
  have hbb : ∀ {wx : World}, Ext w0 wx → wx.cell? ⟨gv, 0, none⟩ = some (.int .i64 n) ∧ wx.cell? ⟨gv, 1, none⟩ = some (.slice A L.length c) := fun x => ⟨ext_cell x b0, ext_cell x b1⟩
  go_enter Try.func8, Try.ntmps8
  go_upto_region 1 with fail
  rw [← hw0.out, ← hgv.out]
  clear hw0 hgv
  go_wp2_with fail
  refine hhv.mono ?_
  rintro e w1 ⟨hq, rfl, hsm, x1⟩
  cases hq
  case true =>
    go_wp2_with fail
    go_ret
    exact ⟨rfl, ext_trans hB x1⟩
  clear hhv b0 b1
  obtain ⟨b0, b1⟩ := hbb x1
  go_wp2_with fail
  refine (hri x1).mono ?_
  rintro e w2 ⟨rfl, x2⟩
  have y2 := ext_trans x1 x2
  clear b0 b1
  obtain ⟨b0, b1⟩ := hbb y2
  by_cases hv : isV n L
  case neg =>
    rw [dfalse hv]
    go_wp2_with fail
    go_ret
    exact ⟨rfl, ext_trans hB y2⟩
  rw [dtrue hv]
  have hvl := hv.2.2.1
  by_cases hL : L.length = 0
  case pos =>
    have q1 : ((L.length : Int) == 0) = true := by rw [beq_iff_eq]; omega
    have q1' : (L.length == 0) = true := by rw [beq_iff_eq]; omega
    replace hL := Lib.hid hL
    go_wp2_with fail
    go_ret
    exact ⟨rfl, ext_trans hB y2⟩
  have q1 : ((L.length : Int) == 0) = false := by rw [beq_eq_false_iff_ne]; omega
  have q1' : (L.length == 0) = false := by rw [beq_eq_false_iff_ne]; omega
  have hand := i64_and16 i
  obtain ⟨j, hj⟩ : ∃ j : Nat, j = ((i % 65536) % (L.length : Int)).toNat := ⟨_, rfl⟩
  have hjm := Int.emod_lt_of_pos (i % 65536) (show (0 : Int) < (L.length : Int) by omega)
  have hjn := Int.emod_nonneg (i % 65536) (show (L.length : Int) ≠ 0 by omega)
  have hjl : j < L.length := by omega
  have hj2 : (i % 65536) % (L.length : Int) = (j : Int) := by omega
  have hmod : Int.tmod (i % 65536) (L.length : Int) = (j : Int) := by rw [Int.tmod_eq_emod_of_nonneg (by omega)]; exact hj2
  have hnz : (L.length : Int) ≠ 0 := by omega
  clear hj hjm hjn
  obtain ⟨_, _, he, g1, g2, g3, g4⟩ := h0.open_ fic_len
  injection he with he1 _ he3
  subst he1; subst he3
  obtain ⟨ad, hA, _⟩ := Fs.at_ g4 hjl
  subst hA
  obtain ⟨x, hx⟩ : ∃ x, x = L[j] := ⟨_, rfl⟩
  have hbk : (∀ {wx : World}, Ext w2 wx → wx.cell? ⟨gv, 1, none⟩ = some (.slice (some ad) L.length c) ∧ wx.cell? (ad.add (j * 5)) = some (.int .i64 x.id) ∧ wx.cell? ⟨(ad.add (j * 5)).block, (ad.add (j * 5)).off + 1, none⟩ = some (.int .i64 x.lev) ∧ wx.cell? ⟨(ad.add (j * 5)).block, (ad.add (j * 5)).off + 2, none⟩ = some (.int .i64 x.size) ∧ wx.cell? ⟨(ad.add (j * 5)).block, (ad.add (j * 5)).off + 3, none⟩ = some (sv x.first) ∧ wx.cell? ⟨(ad.add (j * 5)).block, (ad.add (j * 5)).off + 4, none⟩ = some (sv x.last)) := by
    intro wx hxx
    obtain ⟨ad2, hA2, _, e0, e1, e2, e3, e4⟩ := Fs.at_ (g4.ext (ext_trans y2 hxx)) hjl
    cases hA2
    rw [← hx] at e0 e1 e2 e3 e4
    exact ⟨(hbb (ext_trans y2 hxx)).2, e0, e1, e2, e3, e4⟩
  obtain ⟨L1, L2, hsplit⟩ : ∃ L1 L2, L = L1 ++ x :: L2 := ⟨L.take j, L.drop (j + 1), by rw [hx, ← List.drop_eq_getElem_cons hjl, List.take_append_drop]⟩
  have j0 : (0 : Int) ≤ (j : Int) := by omega
  have j1 : (j : Int) < (L.length : Int) := by omega
  have jw : IntKind.i64.wrap (j : Int) = (j : Int) := by rw [IntKind.wrap_i64]; omega
  replace hsplit := Lib.hid hsplit
  replace hx := Lib.hid hx
  have r0 : Ext w2 w2.drew := (Mod.refl _ w2).drew
  have hq2 := r0.size
  have hw02 := y2.size
  go_wp2_with fail
  refine wp_region_held_drew (S := fun wx => wx.cell? ⟨gv, 1, none⟩ = some (.slice (some ad) L.length c) ∧ wx.cell? (ad.add (j * 5)) = some (.int .i64 x.id) ∧ wx.cell? ⟨(ad.add (j * 5)).block, (ad.add (j * 5)).off + 1, none⟩ = some (.int .i64 x.lev) ∧ wx.cell? ⟨(ad.add (j * 5)).block, (ad.add (j * 5)).off + 2, none⟩ = some (.int .i64 x.size) ∧ wx.cell? ⟨(ad.add (j * 5)).block, (ad.add (j * 5)).off + 3, none⟩ = some (sv x.first) ∧ wx.cell? ⟨(ad.add (j * 5)).block, (ad.add (j * 5)).off + 4, none⟩ = some (sv x.last)) (by kernel_rfl) (hbk r0) (fun hH => ?_)
  (refine wpAnyH_take (i := 0) (oi := ⟨_, _, _, _, _, _⟩) (v := ?tv1) rfl (by kernel_rfl) (by kernel_rfl) (by kernel_rfl) (fun _ _ _ h => h) (Or.inl ⟨by kernel_rfl, ?hy1⟩) hH ?rs1; (case hy1 => (intro wx hSw; (try dsimp only at hSw); go_simp; try with_reducible rfl)); try simp only [Act.put, List.setIfInBounds_toArray, List.set_cons_zero, List.set_cons_succ]; try simp only [List.getElem_toArray, List.getElem_cons_succ, List.getElem_cons_zero])
  (refine wpAnyH_take (i := 1) (oi := ⟨_, _, _, _, _, _⟩) (v := ?tv2) rfl (by kernel_rfl) (by kernel_rfl) (by kernel_rfl) (fun _ _ _ h => h) (Or.inl ⟨by kernel_rfl, ?hy2⟩) hH ?rs2; (case hy2 => (intro wx hSw; (try dsimp only at hSw); go_simp; try with_reducible rfl)); try simp only [Act.put, List.setIfInBounds_toArray, List.set_cons_zero, List.set_cons_succ]; try simp only [List.getElem_toArray, List.getElem_cons_succ, List.getElem_cons_zero])
  (refine wpAnyH_take (i := 2) (oi := ⟨_, _, _, _, _, _⟩) (v := ?tv3) rfl (by kernel_rfl) (by kernel_rfl) (by kernel_rfl) (fun _ _ _ h => h) (Or.inl ⟨by kernel_rfl, ?hy3⟩) hH ?rs3; (case hy3 => (intro wx hSw; (try dsimp only at hSw); go_simp; try with_reducible rfl)); try simp only [Act.put, List.setIfInBounds_toArray, List.set_cons_zero, List.set_cons_succ]; try simp only [List.getElem_toArray, List.getElem_cons_succ, List.getElem_cons_zero])
  (refine wpAnyH_take (i := 3) (oi := ⟨_, _, _, _, _, _⟩) (v := ?tv4) rfl (by kernel_rfl) (by kernel_rfl) (by kernel_rfl) (fun _ _ _ h => h) (Or.inl ⟨by kernel_rfl, ?hy4⟩) hH ?rs4; (case hy4 => (intro wx hSw; (try dsimp only at hSw); go_simp; try with_reducible rfl)); try simp only [Act.put, List.setIfInBounds_toArray, List.set_cons_zero, List.set_cons_succ]; try simp only [List.getElem_toArray, List.getElem_cons_succ, List.getElem_cons_zero])
  (refine wpAnyH_take (i := 4) (oi := ⟨_, _, _, _, _, _⟩) (v := ?tv5) rfl (by kernel_rfl) (by kernel_rfl) (by kernel_rfl) (fun _ _ _ h => h) (Or.inl ⟨by kernel_rfl, ?hy5⟩) hH ?rs5; (case hy5 => (intro wx hSw; (try dsimp only at hSw); go_simp; try with_reducible rfl)); try simp only [Act.put, List.setIfInBounds_toArray, List.set_cons_zero, List.set_cons_succ]; try simp only [List.getElem_toArray, List.getElem_cons_succ, List.getElem_cons_zero])
  (refine wpAnyH_take (i := 5) (oi := ⟨_, _, _, _, _, _⟩) (v := ?tv6) rfl (by kernel_rfl) (by kernel_rfl) (by kernel_rfl) (fun _ _ _ h => h) (Or.inl ⟨by kernel_rfl, ?hy6⟩) hH ?rs6; (case hy6 => (intro wx hSw; (try dsimp only at hSw); go_simp; try with_reducible rfl)); try simp only [Act.put, List.setIfInBounds_toArray, List.set_cons_zero, List.set_cons_succ]; try simp only [List.getElem_toArray, List.getElem_cons_succ, List.getElem_cons_zero])
  (refine wpAnyH_take (i := 6) (oi := ⟨_, _, _, _, _, _⟩) (v := ?tv7) rfl (by kernel_rfl) (by kernel_rfl) (by kernel_rfl) (fun _ _ _ h => h) (Or.inl ⟨by kernel_rfl, ?hy7⟩) hH ?rs7; (case hy7 => (intro wx hSw; (try dsimp only at hSw); go_simp; try with_reducible rfl)); try simp only [Act.put, List.setIfInBounds_toArray, List.set_cons_zero, List.set_cons_succ]; try simp only [List.getElem_toArray, List.getElem_cons_succ, List.getElem_cons_zero])
  (refine wpAnyH_take (i := 7) (oi := ⟨_, _, _, _, _, _⟩) (v := ?tv8) rfl (by kernel_rfl) (by kernel_rfl) (by kernel_rfl) (fun _ _ _ h => h) (Or.inl ⟨by kernel_rfl, ?hy8⟩) hH ?rs8; (case hy8 => (intro wx hSw; (try dsimp only at hSw); go_simp; try with_reducible rfl)); try simp only [Act.put, List.setIfInBounds_toArray, List.set_cons_zero, List.set_cons_succ]; try simp only [List.getElem_toArray, List.getElem_cons_succ, List.getElem_cons_zero])
  (refine wpAnyH_take (i := 8) (oi := ⟨_, _, _, _, _, _⟩) (v := ?tv9) rfl (by kernel_rfl) (by kernel_rfl) (by kernel_rfl) (fun _ _ _ h => h) (Or.inl ⟨by kernel_rfl, ?hy9⟩) hH ?rs9; (case hy9 => (intro wx hSw; (try dsimp only at hSw); go_simp; try with_reducible rfl)); try simp only [Act.put, List.setIfInBounds_toArray, List.set_cons_zero, List.set_cons_succ]; try simp only [List.getElem_toArray, List.getElem_cons_succ, List.getElem_cons_zero])
  (refine wpAnyH_take (i := 9) (oi := ⟨_, _, _, _, _, _⟩) (v := ?tv10) rfl (by kernel_rfl) (by kernel_rfl) (by kernel_rfl) (fun _ _ _ h => h) (Or.inl ⟨by kernel_rfl, ?hy10⟩) hH ?rs10; (case hy10 => (intro wx hSw; (try dsimp only at hSw); go_simp; try with_reducible rfl)); try simp only [Act.put, List.setIfInBounds_toArray, List.set_cons_zero, List.set_cons_succ]; try simp only [List.getElem_toArray, List.getElem_cons_succ, List.getElem_cons_zero])
  refine wpAnyH_ready (rs := [10]) (by kernel_rfl) (by simp) ?_
  refine AllReadyH.cons rfl (fun K hK => ?_) AllReadyH.nil
  go_simp
  (go_wp2_with fail; refine hK.out _ _ (hbk (r0.alloc _)) (fun hH => ?_); clear hK K; try simp only [Act.put, List.setIfInBounds_toArray, List.set_cons_zero, List.set_cons_succ]; try simp only [List.getElem_toArray, List.getElem_cons_succ, List.getElem_cons_zero])
  have BP : Blk (w2.alloc (.cells #[.int .i64 0, .int .i64 0, .int .i64 0, .string ⟨#[]⟩, .string ⟨#[]⟩] 48)).drew w2.heap.size 48 #[.int .i64 0, .int .i64 0, .int .i64 0, .string ⟨#[]⟩, .string ⟨#[]⟩] := Blk.new w2 48 #[.int .i64 0, .int .i64 0, .int .i64 0, .string ⟨#[]⟩, .string ⟨#[]⟩]
  have qP : Ext w2 (w2.alloc (.cells #[.int .i64 0, .int .i64 0, .int .i64 0, .string ⟨#[]⟩, .string ⟨#[]⟩] 48)).drew := ((Mod.refl _ w2).alloc _).drew
  have hpl : w2.heap.size ≤ w2.heap.size := Nat.le_refl _
  obtain ⟨p, hp⟩ : ∃ p, p = w2.heap.size := ⟨_, rfl⟩
  rw [← hp] at BP ⊢
  replace hpl : w2.heap.size ≤ p := by omega
  replace hp := Lib.hid hp
  generalize (w2.alloc (.cells #[.int .i64 0, .int .i64 0, .int .i64 0, .string ⟨#[]⟩, .string ⟨#[]⟩] 48)).drew = wP at *
  have f5 := Blk.frozen BP 0
  have f6 := Blk.frozen BP 1
  have f7 := Blk.frozen BP 2
  have f8 := Blk.frozen BP 3
  have f9 := Blk.frozen BP 4
  have p5 : wP.cell? ⟨p, 0, none⟩ = _ := BP.cell 0
  have p6 : wP.cell? ⟨p, 1, none⟩ = _ := BP.cell 1
  have p7 : wP.cell? ⟨p, 2, none⟩ = _ := BP.cell 2
  have p8 : wP.cell? ⟨p, 3, none⟩ = _ := BP.cell 3
  have p9 : wP.cell? ⟨p, 4, none⟩ = _ := BP.cell 4
  obtain ⟨v1, v2⟩ := box5 BP qP hpl x
  refine wpAnyH_ready (rs := [11]) (by kernel_rfl) (by simp) ?_
  refine AllReadyH.cons rfl (fun K hK => ?_) AllReadyH.nil
  go_simp
  (go_wp2_with fail; refine hK.out _ _ (hbk v2) (fun hH => ?_); clear hK K; try simp only [Act.put, List.setIfInBounds_toArray, List.set_cons_zero, List.set_cons_succ]; try simp only [List.getElem_toArray, List.getElem_cons_succ, List.getElem_cons_zero])
  refine wpAnyH_done (by kernel_rfl) ?_ _
  clear f5 f6 f7 f8 f9 p5 p6 p7 p8 p9 BP qP hbk b0 b1
  generalize (((((wP.setCell ⟨p, 0, none⟩ (.int .i64 x.id)).setCell ⟨p, 1, none⟩ (.int .i64 x.lev)).setCell ⟨p, 2, none⟩ (.int .i64 x.size)).setCell ⟨p, 3, none⟩ (sv x.first)).setCell ⟨p, 4, none⟩ (sv x.last)) = w3 at v1 v2 ⊢
  have y3 := ext_trans y2 v2
  obtain ⟨b0, b1⟩ := hbb y3
  obtain ⟨z0, z1, z2, z3, z4⟩ := cell5 v1
  go_wp2_with fail
  obtain ⟨w4, hw4⟩ : ∃ w4, w4 = w3.alloc (.cells #[.int .i64 x.id] 3) := ⟨_, rfl⟩
  have hg1 : Own w4 3 (.slice (some ⟨w3.heap.size, 0, none⟩) 1 1) ([x.id].map iv) := by (rw [hw4]; exact Own.lit w3 3 [iv x.id] (by simp [maxLen]))
  have x4 : Ext w3 w4 := by (rw [hw4]; exact (Mod.refl _ w3).alloc _)
  have y4 := ext_trans y3 x4
  rw [← hw4]
  clear hw4
  have hrg : ∀ c ∈ L, -9223372036854775808 ≤ c.id ∧ c.id ≤ 9223372036854775807 := fun c hc => by (have := hv.fitc c hc; have h1 := this.1; have h2 := this.2.1; have h3 := hv.2.1; exact ⟨by omega, by omega⟩)
  have hxL : x ∈ L := by (rw [hsplit.out]; exact List.mem_append_right _ (List.mem_cons_self ..))
  have hv2 : isV n (L1 ++ x :: L2) := by (rw [← hsplit.out]; exact hv)
  have hf2 : MFits (L1 ++ x :: L2) := by (rw [← hsplit.out]; exact hf)
  have hl2 : L.length = (L1 ++ L2).length + 1 := by (rw [hsplit.out]; simp only [List.length_append, List.length_cons]; omega)
  have hfx : FFits x := hf.1 x hxL
  have kc := change_any (nx := n) (G := [x.id]) (B := []) (h0.ext y4) hf ⟨fun c hc => (by cases hc), (by simp)⟩ hg1 (OwnF.nil w4).rc hrg (fun c hc => (by cases hc)) (fun y hy => by (rw [List.mem_singleton.1 hy]; exact hrg x hxL)) (by simp) (by rw [List.append_nil]; exact hf) (by simp only [List.length_nil]; omega)
  refine kc.mono ?_
  rintro e w5 ⟨ha, x5⟩
  rw [hsplit.out] at ha
  obtain ⟨va, oa, rfl⟩ := gone_ans1 hv2 ha
  obtain ⟨M1, hM1⟩ : ∃ M1, M1 = L1 ++ L2 := ⟨_, rfl⟩
  rw [← hM1] at oa hl2
  have hfm : MFits (M1 ++ [x]) := by (rw [hM1]; refine ⟨fun c hc => hf2.1 c ?_, ?_⟩; (rcases List.mem_append.1 hc with q | q); (rcases List.mem_append.1 q with q | q); exact List.mem_append_left _ q; exact List.mem_append_right _ (List.mem_cons_of_mem _ q); (rw [List.mem_singleton.1 q]; exact List.mem_append_right _ (List.mem_cons_self ..)); (have h2 := hf2.2; simp only [List.length_append, List.length_cons, List.length_nil] at h2 ⊢; omega))
  have hfm1 : MFits M1 := ⟨fun c hc => hfm.1 c (List.mem_append_left _ hc), by (have h2 := hfm.2; rw [List.length_append] at h2; omega)⟩
  have hrm : ∀ c ∈ M1, -9223372036854775808 ≤ c.id ∧ c.id ≤ 9223372036854775807 := fun c hc => by (rw [hM1] at hc; refine hrg c ?_; rw [hsplit.out]; rcases List.mem_append.1 hc with q | q; exact List.mem_append_left _ q; exact List.mem_append_right _ (List.mem_cons_of_mem _ q))
  replace hM1 := Lib.hid hM1
  obtain ⟨Aa, ca, rfl⟩ := OwnR.shape oa
  have y5 := ext_trans y4 x5
  have x35 := ext_trans x4 x5
  have B6 := Blk.new w5 24 #[.int .i64 n, .slice Aa M1.length ca]
  have x6 : Ext w5 (w5.alloc (.cells #[.int .i64 n, .slice Aa M1.length ca] 24)) := (Mod.refl _ w5).alloc _
  obtain ⟨w6, hw6⟩ : ∃ w6, w6 = w5.alloc (.cells #[.int .i64 n, .slice Aa M1.length ca] 24) := ⟨_, rfl⟩
  rw [← hw6] at B6 x6
  obtain ⟨g6, hg6⟩ : ∃ g6, g6 = w5.heap.size := ⟨_, rfl⟩
  rw [← hg6] at B6
  replace hw6 := Lib.hid hw6
  replace hg6 := Lib.hid hg6
  have y6 := ext_trans y5 x6
  have x36 := ext_trans x35 x6
  have o6 := oa.ext x6
  replace z0 := ext_cell x36 z0
  replace z1 := ext_cell x36 z1
  replace z2 := ext_cell x36 z2
  replace z3 := ext_cell x36 z3
  replace z4 := ext_cell x36 z4
  clear b0 b1
  obtain ⟨b0, b1⟩ := hbb y6
  have d0 : w6.cell? ⟨g6, 0, none⟩ = some (.int .i64 n) := B6.cell 0
  have d1 : w6.cell? ⟨g6, 1, none⟩ = some (.slice Aa M1.length ca) := B6.cell 1
  clear ha kc x5 x4 x35
  go_upto_region 5 with fail
  rw [← hw6.out, ← hg6.out]
  clear hw6 hg6
  go_wp2_with fail
  obtain ⟨w7, hw7⟩ : ∃ w7, w7 = w6.alloc (.cells (fia x) 48) := ⟨_, rfl⟩
  have hl7 : OwnF w7 (.slice (some ⟨w6.heap.size, 0, none⟩) 1 1) [x] := by (rw [hw7]; exact OwnF.lit w6 x)
  have x7 : Ext w6 w7 := by (rw [hw7]; exact (Mod.refl _ w6).alloc _)
  have y7 := ext_trans y6 x7
  rw [← hw7]
  clear hw7
  have kd := change_any (nx := n) (G := []) (B := [x]) (o6.ext x7).rc hfm1 ⟨fun c hc => by (rw [List.mem_singleton.1 hc]; exact hfx), by simp⟩ (Own.nil w7 3) hl7.rc hrm (fun c hc => by (rw [List.mem_singleton.1 hc]; exact hrg x hxL)) (fun y hy => (by cases hy)) (by simp) hfm (by simp only [List.length_singleton]; omega)
  refine kd.mono ?_
  rintro e w8 ⟨hb, x8⟩
  rw [hM1.out] at hb
  obtain ⟨vb, ob, rfl⟩ := gone_ans2 hv2 hb
  rw [← hsplit.out] at ob
  obtain ⟨Ab, cb, rfl⟩ := OwnR.shape ob
  have y8 := ext_trans y7 x8
  have x68 := ext_trans x7 x8
  have B9 := Blk.new w8 24 #[.int .i64 n, .slice Ab L.length cb]
  have x9 : Ext w8 (w8.alloc (.cells #[.int .i64 n, .slice Ab L.length cb] 24)) := (Mod.refl _ w8).alloc _
  obtain ⟨w9, hw9⟩ : ∃ w9, w9 = w8.alloc (.cells #[.int .i64 n, .slice Ab L.length cb] 24) := ⟨_, rfl⟩
  rw [← hw9] at B9 x9
  obtain ⟨g9, hg9⟩ : ∃ g9, g9 = w8.heap.size := ⟨_, rfl⟩
  rw [← hg9] at B9
  replace hw9 := Lib.hid hw9
  replace hg9 := Lib.hid hg9
  have y9 := ext_trans y8 x9
  have x69 := ext_trans x68 x9
  clear b0 b1
  obtain ⟨b0, b1⟩ := hbb y9
  replace d0 := ext_cell x69 d0
  replace d1 := ext_cell x69 d1
  have e0 : w9.cell? ⟨g9, 0, none⟩ = some (.int .i64 n) := B9.cell 0
  have e1 : w9.cell? ⟨g9, 1, none⟩ = some (.slice Ab L.length cb) := B9.cell 1
  have ksm := same_any (n := n) (ob.ext x9).rc (h0.ext y9)
  have t1 : IntKind.i64.wrap ((L.length : Int) - 1) = (M1.length : Int) := by rw [IntKind.wrap_i64]; omega
  have t1b : (L.length : Int) - 1 = (M1.length : Int) := by omega
  replace hl2 := Lib.hid hl2
  clear z0 z1 z2 z3 z4 hb kd x8 x7 x68 hL
  go_upto_region 6 with fail
  rw [← hw9.out, ← hg9.out]
  clear hw9 hg9
  go_wp2_with fail
  refine ksm.mono ?_
  rintro e w10 ⟨rfl, x10⟩
  go_wp2_with fail
  refine (hkn _).mono ?_
  rintro e w11 ⟨rfl, x11⟩
  go_wp2_with fail
  go_ret
  exact ⟨rfl, ext_trans hB (ext_trans y9 (ext_trans x10 x11))⟩
end Go.Proofs.Ytmjkgibeljbloaa
