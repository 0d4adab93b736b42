/- level: what is due: the document's; the law's own version. -/
import Derived.Test.YtmjkgibeljbloaaLvI
import Derived.Test.YtmjkgibeljbloaaLvD
namespace Go.Proofs.Ytmjkgibeljbloaa
open Go.RowKit
set_option maxRecDepth 100000

theorem over_eq (l : Int) (lo hi : Tt) (L : List Fl) : L.filter (inL l lo hi) = (levF l L).filter (inR lo hi) := by
  unfold levF
  rw [List.filter_filter]
  congr 1
  funext c
  unfold inL
  rw [Bool.and_comm]

theorem rat2_any {w : World} {S : Nat → Prop} {v : Value} {n nx : Int} {L : List Fl} (h : Fs w S v L) (hf : L.length * 56 ≤ 140737488351232) :
    Calls Try.prog 36 #[.agg #[.int .i64 nx, v], .int .i64 n] w fun e w' => ∃ v', e = .returned v' ∧ OwnF w' v' (levF n L) ∧ Fresh w.heap.size v' ∧ Ext w w' := rat_any h hf
set_option maxHeartbeats 64000000 in
theorem rpick_any {w : World} {S : Nat → Prop} {v : Value} {n : Int} {L : List Fl} (h : Fs w S v L) (hf : MFits L) :
    Calls Try.prog 14 #[.agg #[.int .i64 n, v]] w fun e w' => ∃ v', e = .returned (.tuple #[v', .bool (pickF n L).2]) ∧ OwnF w' v' (pickF n L).1 ∧ Fresh w.heap.size v' ∧ Ext w w' := by
  have hshape := h.shape
  obtain ⟨A, c, rfl⟩ := hshape
  have B0 : Blk (w.alloc (.cells #[.int .i64 n, .slice A L.length c] 24)) w.heap.size 24 #[.int .i64 n, .slice A L.length c] := Blk.new w _ _
  have hB : Ext w (w.alloc (.cells #[.int .i64 n, .slice A L.length c] 24)) := (Mod.refl _ w).alloc _
  obtain ⟨w0, hw0⟩ : ∃ w0, w0 = w.alloc (.cells #[.int .i64 n, .slice A L.length c] 24) := ⟨_, rfl⟩
  rw [← hw0] at B0 hB
  replace hw0 := Lib.hid hw0
  have b0 : w0.cell? ⟨w.heap.size, 0, none⟩ = some (.int .i64 n) := B0.cell 0
  have b1 : w0.cell? ⟨w.heap.size, 1, none⟩ = some (.slice A L.length c) := B0.cell 1
  have his := ris_any (n := n) (h.ext hB) hf
  have hmin := fun wx ts t a b => run_minT (P := Try.prog) wx ts t a b
  have hmax := fun wx ts t a b => run_maxT (P := Try.prog) wx ts t a b
  obtain ⟨R, hR⟩ : ∃ R, R = pickF n L := ⟨_, rfl⟩
  rw [← hR]
  by_cases hv : isV n L
  case neg =>
    rw [dfalse hv] at his
    have hE : Hid (R = ([], false)) := Lib.hid (hR.trans (if_neg hv))
    clear hR hv hmin hmax
    go_enter Try.func14, Try.ntmps14
    go_upto_region 1 with fail
    rw [← hw0.out]
    clear hw0
    go_wp2_with fail
    refine his.mono ?_
    rintro e w1 ⟨rfl, x1⟩
    go_wp2_with fail
    go_ret2
    exact ⟨_, by rw [hE.out]; rfl, by rw [hE.out]; exact OwnF.nil _, fresh_nil _ _ _, ext_trans hB x1⟩
  rw [dtrue hv] at his
  have hlen : L.length ≤ 1024 := hv.2.2.1
  have hfl : ∀ l, (levF l L).length ≤ 1024 := fun l => Nat.le_trans (List.length_filter_le _ _) hlen
  have hE : Hid (R = if 4 ≤ (levF 0 L).length then (dueZ L, true) else pickR L 3 1 4) := Lib.hid (hR.trans (if_pos hv))
  have hat := fun {wx : World} (x : Ext w0 wx) (l : Int) => rat2_any (n := l) (nx := n) ((h.ext hB).ext x) (by omega)
  have hov := fun {wx : World} (x : Ext w0 wx) (l : Int) (lo hi : Tt) => rOver_any (n := l) (nx := n) (lo := lo) (hi := hi) ((h.ext hB).ext x) (by omega)
  have hbb : ∀ {wx : World}, Ext w0 wx → wx.cell? ⟨w.heap.size, 0, none⟩ = some (.int .i64 n) ∧ wx.cell? ⟨w.heap.size, 1, none⟩ = some (.slice A L.length c) := fun x => ⟨ext_cell x b0, ext_cell x b1⟩
  clear hR hv h B0
  go_enter Try.func14, Try.ntmps14
  go_upto_region 1 with fail
  rw [← hw0.out]
  clear hw0
  go_wp2_with fail
  refine his.mono ?_
  rintro e w1 ⟨rfl, x1⟩
  clear b0 b1 his
  obtain ⟨b0, b1⟩ := hbb x1
  go_wp2_with fail
  refine (hat x1 0).mono ?_
  rintro e w3 ⟨v3, rfl, o3, f3, x3⟩
  have y3 := ext_trans x1 x3
  have hf0 := hfl 0
  have hs0 := hB.size
  have f3' : Fresh w0.heap.size v3 := f3.mono x1.size
  obtain ⟨A3, c3, e3⟩ := o3.shape
  subst e3
  clear b0 b1 x1 x3 f3
  by_cases hz : 4 ≤ (levF 0 L).length
  case pos =>
    have hE2 : Hid (R = (dueZ L, true)) := Lib.hid (hE.out.trans (if_pos hz))
    have q1 : decide ((4 : Int) ≤ ((levF 0 L).length : Int)) = true := dtrue (by omega)
    have q1' : decide (4 ≤ (levF 0 L).length) = true := dtrue hz
    have hdz : Hid (dueZ L = levF 0 L ++ (levF 1 L).filter (inR (bnd (levF 0 L)).1 (bnd (levF 0 L)).2)) := Lib.hid rfl
    have hf1 := hfl 1
    obtain ⟨Z, hZ⟩ : ∃ Z, Z = levF 0 L := ⟨_, rfl⟩
    rw [← hZ] at o3 hz q1 q1' hdz hf0 f3' ⊢
    replace hZ := Lib.hid hZ
    have hkk := (OwnR.rc o3).open_ fic_len
    obtain ⟨_, _, he, h1, h2, h3, h4⟩ := hkk
    injection he with he1 _ he3
    subst he1; subst he3
    have hln : (0 : Int) < (Z.length : Int) := by omega
    obtain ⟨ad, hA, _, c0, c1, c2, c3', c4⟩ := Fs.at_ h4 (show 0 < Z.length by omega)
    subst hA
    rw [show ad.add (0 * 5) = ad by rw [Nat.zero_mul]; unfold Addr.add; simp] at c0 c1 c2 c3' c4
    have hst : bndK Z 0 = (Z[0].first, Z[0].last) := by unfold bndK; rw [head_get (by omega)]; rfl
    have hba := Lib.hid (bndK_all Z)
    have hbn := fun k h => @bndK_next Z k h
    replace hst := Lib.hid hst
    generalize Z[0] = y0 at *
    go_wp2_with fail
    go_quiet (fail)
    go_wp2_with fail
    go_loopw [5, 6, 7] (fun s t i wr => ∃ (k : Nat), k ≤ Z.length ∧ i = .int .i64 k ∧ s = sv (bndK Z k).1 ∧ t = sv (bndK Z k).2 ∧ Ext w3 wr) (fun _ _ i _ => Z.length - (intOf i).toNat)
    case atStart => exact ⟨0, Nat.zero_le _, rfl, by rw [hst.out], by rw [hst.out], (Mod.refl _ w3).drewN _⟩
    case round =>
      clear c0 c1 c2 c3' c4 hst
      obtain ⟨k, hk, rfl, rfl, rfl, hx⟩ := hrel
      by_cases hlt : k < Z.length
      case neg =>
        have hbl : decide ((k : Int) < (Z.length : Int)) = false := dfalse (by omega)
        obtain rfl : k = Z.length := by omega
        have y4 := ext_trans y3 hx
        obtain ⟨b0, b1⟩ := hbb y4
        have o4 := o3.ext hx
        have hov2 := hov y4 1 (bnd Z).1 (bnd Z).2
        rw [← hba.out] at hov2
        clear hov hat hbb hbn
        go_wp2_with fail
        refine hov2.mono ?_
        rintro e w6 ⟨v6, rfl, o6, f6, x6⟩
        have y6 := ext_trans y4 x6
        have o46 := o4.ext x6
        rw [over_eq] at o6
        have hl6 : ((levF 1 L).filter (inR (bndK Z Z.length).1 (bndK Z Z.length).2)).length ≤ 1024 := Nat.le_trans (List.length_filter_le _ _) hf1
        have hdz2 : Hid (dueZ L = Z ++ (levF 1 L).filter (inR (bndK Z Z.length).1 (bndK Z Z.length).2)) := Lib.hid (by rw [hdz.out, hba.out])
        clear hdz hba
        obtain ⟨M6, hM6⟩ : ∃ M, M = (levF 1 L).filter (inR (bndK Z Z.length).1 (bndK Z Z.length).2) := ⟨_, rfl⟩
        rw [← hM6] at o6 hl6
        replace hM6 := Lib.hid hM6
        have hn : (Z.length + M6.length) * 56 ≤ 140737488355328 := by omega
        clear o4 x6 hov2
        go_wp2_with ((with_reducible show wpList _ _ _ (⟨some 54, _, _, _, _, _⟩ :: _) _ _); refine wp_appRm tyF o46 o6.rc (fic_all _) hn rfl (.tmp 49) (.tmp 53) rfl rfl rfl ?_; intro va wa ka1 ka2 ka3)
        go_ret2
        refine ⟨_, by rw [hE2.out]; rfl, by rw [hE2.out, hdz2.out, ← hM6.out]; exact ka1, (ka3.fresh f3' y6.size).mono hs0, ext_trans hB (ext_app0 y6 f3' ka2)⟩
      have hbl : decide ((k : Int) < (Z.length : Int)) = true := dtrue (by omega)
      obtain ⟨ad', hA, _, c0, c1, c2, c3', c4⟩ := Fs.at_ (h4.ext hx) hlt
      cases hA
      have hsn := Lib.hid (hbn k hlt)
      have hi0 : (0 : Int) ≤ (k : Int) := by omega
      have hi1 : (k : Int) < (Z.length : Int) := by omega
      clear hbn hov hat hbb hba hdz
      generalize Z[k] = x at *
      generalize bndK Z k = B at *
      obtain ⟨lo, hi⟩ := B
      go_wp2_with fail
      go_quiet (fail)
      go_wp2_with fail
      exact ⟨⟨k + 1, by omega, by go_num, by rw [hsn.out]; rfl, by rw [hsn.out]; rfl, hx.drewN _⟩, by simp [intOf] <;> omega⟩
  have hE2 : Hid (R = pickR L 3 1 4) := Lib.hid (hE.out.trans (if_neg hz))
  have q1 : decide ((4 : Int) ≤ ((levF 0 L).length : Int)) = false := dfalse (by omega)
  have q1' : decide (4 ≤ (levF 0 L).length) = false := dfalse hz
  generalize levF 0 L = Z at *
  clear hE o3 f3' hmin hmax
  go_wp2_with fail
  clear q1 q1' hz
  go_loopw [8, 9] (fun s t wr => ∃ (f m p : Nat), m + f = 4 ∧ 1 ≤ m ∧ p * 4 * 4 ^ f ≤ 256 ∧ s = .int .i64 p ∧ t = .int .i64 m ∧ Hid (R = pickR L f m (p * 4)) ∧ Ext w0 wr) (fun _ t _ => 4 - (intOf t).toNat)
  case atStart => exact ⟨3, 1, 1, rfl, Nat.le_refl _, by decide, rfl, rfl, hE2, y3⟩
  case round =>
    clear y3 hE2
    obtain ⟨f, m, p, hmf, hm1, hp, rfl, rfl, hE, hx⟩ := hrel
    cases f with
    | zero =>
      obtain rfl : m = 4 := by omega
      have hE2 : Hid (R = ([], false)) := Lib.hid hE.out
      clear hE
      go_wp2_with fail
      go_ret2
      exact ⟨_, by rw [hE2.out]; rfl, by rw [hE2.out]; exact OwnF.nil _, fresh_nil _ _ _, ext_trans hB hx⟩
    | succ f =>
    have hp2 : (p * 4) * 4 * 4 ^ f ≤ 256 := by rw [Nat.pow_succ] at hp; rw [Nat.mul_assoc (p * 4), Nat.mul_comm 4 (4 ^ f)]; exact hp
    have hpp : (p * 4) * 4 ≤ 256 := Nat.le_trans (Nat.le_mul_of_pos_right _ (Nat.pow_pos (by omega))) hp2
    clear hp
    have hb : decide ((m : Int) < 4) = true := dtrue (by omega)
    have hb' : decide (m < 4) = true := dtrue (by omega)
    have hst : R = if p * 4 < (levF m L).length then (due L m, true) else pickR L f (m + 1) (p * 4 * 4) := hE.out
    replace hst := Lib.hid hst
    clear hE
    obtain ⟨b0, b1⟩ := hbb hx
    go_wp2_with fail
    refine (hat hx (m : Int)).mono ?_
    rintro e w4 ⟨v4, rfl, o4, f4, x4⟩
    have y4 := ext_trans hx x4
    have hf4 := hfl (m : Int)
    have o4' := o4
    clear o4
    obtain ⟨A4, c4, e4⟩ := o4'.shape
    subst e4
    clear x4 hx f4 b0 b1
    obtain ⟨P, hP⟩ : ∃ P, P = p * 4 := ⟨_, rfl⟩
    have hpi : (4 : Int) * (p : Int) = (P : Int) := by omega
    rw [← hP] at hst hp2 hpp
    by_cases hg : P < (levF (m : Int) L).length
    case neg =>
      have q2 : decide (((levF (m : Int) L).length : Int) ≤ (4 : Int) * (p : Int)) = true := dtrue (by omega)
      have q2' : decide ((levF (m : Int) L).length ≤ 4 * p) = true := dtrue (by omega)
      have hE2 : Hid (R = pickR L f (m + 1) (P * 4)) := Lib.hid (hst.out.trans (if_neg hg))
      have hPI : Hid ((4 : Int) * (p : Int) = (P : Int)) := Lib.hid hpi
      clear hst hg o4' hpi hP
      generalize levF (m : Int) L = Z4 at *
      go_wp2_with fail
      exact ⟨⟨f, m + 1, P, by omega, by omega, hp2, by rw [hPI.out], by go_num, hE2, y4⟩, by simp [intOf] <;> omega⟩
    have q2 : decide (((levF (m : Int) L).length : Int) ≤ (4 : Int) * (p : Int)) = false := dfalse (by omega)
    have q2' : decide ((levF (m : Int) L).length ≤ 4 * p) = false := dfalse (by omega)
    have hE2 : Hid (R = (due L m, true)) := Lib.hid (hst.out.trans (if_pos hg))
    have hdu : Hid (due L m = eld (levF m L) :: (levF ((m : Int) + 1) L).filter (inR (eld (levF m L)).first (eld (levF m L)).last)) := Lib.hid rfl
    have hf5 := hfl ((m : Int) + 1)
    have hg0 : 0 < (levF (m : Int) L).length := by omega
    clear hst hg hfl hpi hP
    generalize levF (m : Int) L = Z4 at *
    obtain ⟨_, _, he, h1, h2, h3, h4⟩ := (OwnR.rc o4').open_ fic_len
    injection he with he1 _ he3
    subst he1; subst he3
    obtain ⟨ad, hA, _, c0, c1, c2, c3', c4'⟩ := Fs.at_ h4 hg0
    subst hA
    rw [show ad.add (0 * 5) = ad by rw [Nat.zero_mul]; unfold Addr.add; simp] at c0 c1 c2 c3' c4'
    have hln : (0 : Int) < (Z4.length : Int) := by omega
    have hez := eldK_zero hg0
    have hea := Lib.hid (eldK_all Z4)
    have hen := fun k h => @eldK_next Z4 k h
    obtain ⟨y, hy⟩ : ∃ y, y = Z4[0] := ⟨_, rfl⟩
    rw [← hy] at c0 c1 c2 c3' c4' hez
    clear hy o4'
    have hbx : Ext w4 (w4.alloc (.cells (fia y) 48)) := (Mod.refl _ w4).alloc _
    have hBF := Blk.new w4 48 (fia y)
    obtain ⟨w6, hw6⟩ : ∃ w6, w6 = w4.alloc (.cells (fia y) 48) := ⟨_, rfl⟩
    rw [← hw6] at hbx hBF
    obtain ⟨g, hg⟩ : ∃ g, g = w4.heap.size := ⟨_, rfl⟩
    rw [← hg] at hBF
    have hgl : w4.heap.size ≤ g := by rw [hg]; exact Nat.le_refl _
    rw [← hez] at hBF
    replace hez := Lib.hid hez
    replace hw6 := Lib.hid hw6
    replace hg := Lib.hid hg
    go_upto_region 19 with fail
    rw [← hw6.out, ← hg.out]
    clear hw6 hg c0 c1 c2 c3' c4' q2 q2'
    go_wp2_with fail
    go_loopw [12] (fun i wz => ∃ (k : Nat), k ≤ Z4.length ∧ i = .int .i64 k ∧ Blk wz g 48 (fia (eldK Z4 k)) ∧ Ext w4 wz) (fun i _ => Z4.length - (intOf i).toNat)
    case atStart => exact ⟨0, Nat.zero_le _, rfl, hBF, hbx⟩
    case round =>
      clear hBF hbx
      obtain ⟨k, hk, rfl, BM, hx⟩ := hrel
      by_cases hlt : k < Z4.length
      case pos =>
        have hbl : decide ((k : Int) < (Z4.length : Int)) = true := dtrue (by omega)
        obtain ⟨ad', hA, _, c0, c1, c2, c3', c4'⟩ := Fs.at_ (h4.ext hx) hlt
        cases hA
        obtain ⟨d0, d1, d2, d3, d4⟩ := cell5 BM
        have hsn := hen k hlt
        have hi0 : (0 : Int) ≤ (k : Int) := by omega
        have hi1 : (k : Int) < (Z4.length : Int) := by omega
        obtain ⟨M2, hM2⟩ : ∃ M2, M2 = eldK Z4 (k + 1) := ⟨_, rfl⟩
        rw [← hM2] at hsn
        replace hM2 := Lib.hid hM2
        clear hen hov hat hbb hea
        generalize Z4[k] = x at *
        generalize eldK Z4 k = mm at *
        by_cases hc : x.id < mm.id
        · have hc2 : decide (x.id < mm.id) = true := dtrue hc
          have hs2 : Hid (M2 = x) := Lib.hid (hsn.trans (if_pos hc))
          have fz0 := BM.frozen 0
          have fz1 := BM.frozen 1
          have fz2 := BM.frozen 2
          have fz3 := BM.frozen 3
          have fz4 := BM.frozen 4
          clear hsn
          go_wp2_with fail
          go_quiet (fail)
          go_wp2_with fail
          have s5 := set5 (d := x) (BM.drewN nq)
          exact ⟨⟨k + 1, by omega, by go_num, by rw [← hM2.out, hs2.out]; exact s5.1, (hx.drewN nq).trans s5.2 (fun _ _ h => h) (fun b hb h => by omega)⟩, by simp [intOf] <;> omega⟩
        · have hc2 : decide (x.id < mm.id) = false := dfalse hc
          have hs2 : Hid (M2 = mm) := Lib.hid (hsn.trans (if_neg hc))
          clear hsn
          go_wp2_with fail
          go_quiet (fail)
          go_wp2_with fail
          exact ⟨⟨k + 1, by omega, by go_num, by rw [← hM2.out, hs2.out]; exact BM.drewN nq, hx.drewN nq⟩, by simp [intOf] <;> omega⟩
      have hbl : decide ((k : Int) < (Z4.length : Int)) = false := dfalse (by omega)
      obtain rfl : k = Z4.length := by omega
      rw [hea.out] at BM
      clear hen hea hat
      generalize eld Z4 = x at *
      have y6 := ext_trans y4 hx
      have hbk : ∀ {wx : World}, Ext wr wx → wx.cell? ⟨w.heap.size, 0, none⟩ = some (.int .i64 n) ∧ wx.cell? ⟨w.heap.size, 1, none⟩ = some (.slice A L.length c) ∧ wx.cell? ⟨g, 0, none⟩ = some (.int .i64 x.id) ∧ wx.cell? ⟨g, 1, none⟩ = some (.int .i64 x.lev) ∧ wx.cell? ⟨g, 2, none⟩ = some (.int .i64 x.size) ∧ wx.cell? ⟨g, 3, none⟩ = some (sv x.first) ∧ wx.cell? ⟨g, 4, none⟩ = some (sv x.last) := fun xx => by
        obtain ⟨d0, d1, d2, d3, d4⟩ := cell5 (BM.mod xx (fun h => h))
        obtain ⟨b0, b1⟩ := hbb (ext_trans y6 xx)
        exact ⟨b0, b1, d0, d1, d2, d3, d4⟩
      have q0 : Ext wr wr.drew := (Mod.refl _ wr).drew
      have hov2 := fun {wx : World} (xx : Ext wr wx) => hov (ext_trans y6 xx) ((m : Int) + 1) x.first x.last
      simp only [over_eq] at hov2
      have hm5 : IntKind.i64.wrap ((m : Int) + 1) = (m : Int) + 1 := by rw [IntKind.wrap_i64]; omega
      clear hov hbb
      generalize levF ((m : Int) + 1) L = Z5 at *
      obtain ⟨M7, hM7⟩ : ∃ M, M = Z5.filter (inR x.first x.last) := ⟨_, rfl⟩
      have hl7 : M7.length ≤ 1024 := by rw [hM7]; exact Nat.le_trans (List.length_filter_le _ _) hf5
      rw [← hM7] at hdu
      simp only [← hM7] at hov2
      clear hM7
      have hn : ([x].length + M7.length) * 56 ≤ 140737488355328 := by simp only [List.length_singleton]; omega
      have hw6s := ext_trans hB y6
      go_wp2_with fail
      refine wp_region_held_drew (S := fun wx => wx.cell? ⟨w.heap.size, 0, none⟩ = some (.int .i64 n) ∧ wx.cell? ⟨w.heap.size, 1, none⟩ = some (.slice A L.length c) ∧ wx.cell? ⟨g, 0, none⟩ = some (.int .i64 x.id) ∧ wx.cell? ⟨g, 1, none⟩ = some (.int .i64 x.lev) ∧ wx.cell? ⟨g, 2, none⟩ = some (.int .i64 x.size) ∧ wx.cell? ⟨g, 3, none⟩ = some (sv x.first) ∧ wx.cell? ⟨g, 4, none⟩ = some (sv x.last)) (by kernel_rfl) (hbk q0) (fun hH => ?_)
      (refine wpAnyH_take (i := 0) (oi := ⟨_, _, _, _, _, _⟩) (v := ?tv1) rfl (by kernel_rfl) (by kernel_rfl) (by kernel_rfl) (fun _ _ _ h => h) (Or.inl ⟨by kernel_rfl, ?hy1⟩) hH ?rs1; (case hy1 => (intro wx hSw; (try dsimp only at hSw); go_simp; try with_reducible rfl)); try simp only [Act.put, List.setIfInBounds_toArray, List.set_cons_zero, List.set_cons_succ]; try simp only [List.getElem_toArray, List.getElem_cons_succ, List.getElem_cons_zero])
      (refine wpAnyH_take (i := 2) (oi := ⟨_, _, _, _, _, _⟩) (v := ?tv2) rfl (by kernel_rfl) (by kernel_rfl) (by kernel_rfl) (fun _ _ _ h => h) (Or.inl ⟨by kernel_rfl, ?hy2⟩) hH ?rs2; (case hy2 => (intro wx hSw; (try dsimp only at hSw); go_simp; try with_reducible rfl)); try simp only [Act.put, List.setIfInBounds_toArray, List.set_cons_zero, List.set_cons_succ]; try simp only [List.getElem_toArray, List.getElem_cons_succ, List.getElem_cons_zero])
      (refine wpAnyH_take (i := 3) (oi := ⟨_, _, _, _, _, _⟩) (v := ?tv3) rfl (by kernel_rfl) (by kernel_rfl) (by kernel_rfl) (fun _ _ _ h => h) (Or.inl ⟨by kernel_rfl, ?hy3⟩) hH ?rs3; (case hy3 => (intro wx hSw; (try dsimp only at hSw); go_simp; try with_reducible rfl)); try simp only [Act.put, List.setIfInBounds_toArray, List.set_cons_zero, List.set_cons_succ]; try simp only [List.getElem_toArray, List.getElem_cons_succ, List.getElem_cons_zero])
      (refine wpAnyH_take (i := 4) (oi := ⟨_, _, _, _, _, _⟩) (v := ?tv4) rfl (by kernel_rfl) (by kernel_rfl) (by kernel_rfl) (fun _ _ _ h => h) (Or.inl ⟨by kernel_rfl, ?hy4⟩) hH ?rs4; (case hy4 => (intro wx hSw; (try dsimp only at hSw); go_simp; try with_reducible rfl)); try simp only [Act.put, List.setIfInBounds_toArray, List.set_cons_zero, List.set_cons_succ]; try simp only [List.getElem_toArray, List.getElem_cons_succ, List.getElem_cons_zero])
      (refine wpAnyH_take (i := 5) (oi := ⟨_, _, _, _, _, _⟩) (v := ?tv5) rfl (by kernel_rfl) (by kernel_rfl) (by kernel_rfl) (fun _ _ _ h => h) (Or.inl ⟨by kernel_rfl, ?hy5⟩) hH ?rs5; (case hy5 => (intro wx hSw; (try dsimp only at hSw); go_simp; try with_reducible rfl)); try simp only [Act.put, List.setIfInBounds_toArray, List.set_cons_zero, List.set_cons_succ]; try simp only [List.getElem_toArray, List.getElem_cons_succ, List.getElem_cons_zero])
      (refine wpAnyH_take (i := 6) (oi := ⟨_, _, _, _, _, _⟩) (v := ?tv6) rfl (by kernel_rfl) (by kernel_rfl) (by kernel_rfl) (fun _ _ _ h => h) (Or.inl ⟨by kernel_rfl, ?hy6⟩) hH ?rs6; (case hy6 => (intro wx hSw; (try dsimp only at hSw); go_simp; try with_reducible rfl)); try simp only [Act.put, List.setIfInBounds_toArray, List.set_cons_zero, List.set_cons_succ]; try simp only [List.getElem_toArray, List.getElem_cons_succ, List.getElem_cons_zero])
      (refine wpAnyH_take (i := 7) (oi := ⟨_, _, _, _, _, _⟩) (v := ?tv7) rfl (by kernel_rfl) (by kernel_rfl) (by kernel_rfl) (fun _ _ _ h => h) (Or.inl ⟨by kernel_rfl, ?hy7⟩) hH ?rs7; (case hy7 => (intro wx hSw; (try dsimp only at hSw); go_simp; try with_reducible rfl)); try simp only [Act.put, List.setIfInBounds_toArray, List.set_cons_zero, List.set_cons_succ]; try simp only [List.getElem_toArray, List.getElem_cons_succ, List.getElem_cons_zero])
      (refine wpAnyH_take (i := 8) (oi := ⟨_, _, _, _, _, _⟩) (v := ?tv8) rfl (by kernel_rfl) (by kernel_rfl) (by kernel_rfl) (fun _ _ _ h => h) (Or.inl ⟨by kernel_rfl, ?hy8⟩) hH ?rs8; (case hy8 => (intro wx hSw; (try dsimp only at hSw); go_simp; try with_reducible rfl)); try simp only [Act.put, List.setIfInBounds_toArray, List.set_cons_zero, List.set_cons_succ]; try simp only [List.getElem_toArray, List.getElem_cons_succ, List.getElem_cons_zero])
      refine wpAnyH_ready (rs := [1, 9]) (by kernel_rfl) (by simp) ?_
      refine AllReadyH.cons rfl (fun K hK => ?_) (AllReadyH.cons rfl (fun K hK => ?_) AllReadyH.nil)
      case' refine_1 =>
        have oL := OwnF.lit wr.drew x
        have qa : Ext wr (wr.drew.alloc (.cells (fia x) 48)) := q0.alloc _
        have fL : Fresh wr.heap.size (.slice (some ⟨wr.drew.heap.size, 0, none⟩) 1 1) := fun k hk => by (have h9 : wr.drew.heap.size = k := Option.some.inj hk); have h8 := q0.size; omega
        go_simp
        (go_wp2_with fail; refine hK.out _ _ (hbk qa) (fun hH => ?_); clear hK K; try simp only [Act.put, List.setIfInBounds_toArray, List.set_cons_zero, List.set_cons_succ]; try simp only [List.getElem_toArray, List.getElem_cons_succ, List.getElem_cons_zero])
        (refine wpAnyH_ready (rs := [9]) (by kernel_rfl) (by simp) ?_; refine AllReadyH.cons rfl (fun K hK => ?_) AllReadyH.nil)
        go_simp
        refine (hov2 qa).mono ?_
        rintro e wo ⟨vo, rfl, oo, fo, xo⟩
        have qo := ext_trans qa xo
        (go_wp2_with fail; refine hK.out _ _ (hbk qo) (fun hH => ?_); clear hK K; try simp only [Act.put, List.setIfInBounds_toArray, List.set_cons_zero, List.set_cons_succ]; try simp only [List.getElem_toArray, List.getElem_cons_succ, List.getElem_cons_zero])
        (refine wpAnyH_ready (rs := [10]) (by kernel_rfl) (by simp) ?_; refine AllReadyH.cons rfl (fun K hK => ?_) AllReadyH.nil)
        refine step_appRs 99 tyF (oL.ext xo) oo.rc (fic_all _) hn rfl rfl (.tmp 90) (.tmp 98) rfl rfl rfl ?_
        intro va wa ka1 ka2 ka3
        have qA := ext_app0 qo fL ka2
        have fA := fresh_ext qo fL ka3
        (refine hK.out _ _ (hbk qA) (fun hH => ?_); clear hK K; try simp only [Act.put, List.setIfInBounds_toArray, List.set_cons_zero, List.set_cons_succ]; try simp only [List.getElem_toArray, List.getElem_cons_succ, List.getElem_cons_zero])
        (refine wpAnyH_take (i := 11) (oi := ⟨_, _, _, _, _, _⟩) (v := ?tv9) rfl (by kernel_rfl) (by kernel_rfl) (by kernel_rfl) (fun _ _ _ h => h) (Or.inl ⟨by kernel_rfl, ?hy9⟩) hH ?rs9; (case hy9 => (intro wx hSw; (try dsimp only at hSw); go_simp; try with_reducible rfl)); try simp only [Act.put, List.setIfInBounds_toArray, List.set_cons_zero, List.set_cons_succ]; try simp only [List.getElem_toArray, List.getElem_cons_succ, List.getElem_cons_zero])
        (refine wpAnyH_take (i := 12) (oi := ⟨_, _, _, _, _, _⟩) (v := ?tv10) rfl (by kernel_rfl) (by kernel_rfl) (by kernel_rfl) (fun _ _ _ h => h) (Or.inl ⟨by kernel_rfl, ?hy10⟩) hH ?rs10; (case hy10 => (intro wx hSw; (try dsimp only at hSw); go_simp; try with_reducible rfl)); try simp only [Act.put, List.setIfInBounds_toArray, List.set_cons_zero, List.set_cons_succ]; try simp only [List.getElem_toArray, List.getElem_cons_succ, List.getElem_cons_zero])
        refine wpAnyH_done (by kernel_rfl) ?_ _
        go_wp2_with fail
        go_ret2
        exact ⟨_, by rw [hE2.out]; rfl, by rw [hE2.out, hdu.out]; exact ka1, fA.mono hw6s.size, ext_trans hw6s qA⟩
      case' refine_2 =>
        go_simp
        refine (hov2 q0).mono ?_
        rintro e wo ⟨vo, rfl, oo, fo, xo⟩
        have qo := ext_trans q0 xo
        (go_wp2_with fail; refine hK.out _ _ (hbk qo) (fun hH => ?_); clear hK K; try simp only [Act.put, List.setIfInBounds_toArray, List.set_cons_zero, List.set_cons_succ]; try simp only [List.getElem_toArray, List.getElem_cons_succ, List.getElem_cons_zero])
        (refine wpAnyH_ready (rs := [1]) (by kernel_rfl) (by simp) ?_; refine AllReadyH.cons rfl (fun K hK => ?_) AllReadyH.nil)
        have oL := OwnF.lit wo x
        have qa : Ext wr (wo.alloc (.cells (fia x) 48)) := qo.alloc _
        have fL : Fresh wr.heap.size (.slice (some ⟨wo.heap.size, 0, none⟩) 1 1) := fun k hk => by (have h9 : wo.heap.size = k := Option.some.inj hk); have h8 := qo.size; omega
        go_simp
        (go_wp2_with fail; refine hK.out _ _ (hbk qa) (fun hH => ?_); clear hK K; try simp only [Act.put, List.setIfInBounds_toArray, List.set_cons_zero, List.set_cons_succ]; try simp only [List.getElem_toArray, List.getElem_cons_succ, List.getElem_cons_zero])
        (refine wpAnyH_ready (rs := [10]) (by kernel_rfl) (by simp) ?_; refine AllReadyH.cons rfl (fun K hK => ?_) AllReadyH.nil)
        refine step_appRs 99 tyF oL (oo.ext ((Mod.refl _ wo).alloc _)).rc (fic_all _) hn rfl rfl (.tmp 90) (.tmp 98) rfl rfl rfl ?_
        intro va wa ka1 ka2 ka3
        have qA := ext_app0 qa fL ka2
        have fA := fresh_ext qa fL ka3
        (refine hK.out _ _ (hbk qA) (fun hH => ?_); clear hK K; try simp only [Act.put, List.setIfInBounds_toArray, List.set_cons_zero, List.set_cons_succ]; try simp only [List.getElem_toArray, List.getElem_cons_succ, List.getElem_cons_zero])
        (refine wpAnyH_take (i := 11) (oi := ⟨_, _, _, _, _, _⟩) (v := ?tv11) rfl (by kernel_rfl) (by kernel_rfl) (by kernel_rfl) (fun _ _ _ h => h) (Or.inl ⟨by kernel_rfl, ?hy11⟩) hH ?rs11; (case hy11 => (intro wx hSw; (try dsimp only at hSw); go_simp; try with_reducible rfl)); try simp only [Act.put, List.setIfInBounds_toArray, List.set_cons_zero, List.set_cons_succ]; try simp only [List.getElem_toArray, List.getElem_cons_succ, List.getElem_cons_zero])
        (refine wpAnyH_take (i := 12) (oi := ⟨_, _, _, _, _, _⟩) (v := ?tv12) rfl (by kernel_rfl) (by kernel_rfl) (by kernel_rfl) (fun _ _ _ h => h) (Or.inl ⟨by kernel_rfl, ?hy12⟩) hH ?rs12; (case hy12 => (intro wx hSw; (try dsimp only at hSw); go_simp; try with_reducible rfl)); try simp only [Act.put, List.setIfInBounds_toArray, List.set_cons_zero, List.set_cons_succ]; try simp only [List.getElem_toArray, List.getElem_cons_succ, List.getElem_cons_zero])
        refine wpAnyH_done (by kernel_rfl) ?_ _
        go_wp2_with fail
        go_ret2
        exact ⟨_, by rw [hE2.out]; rfl, by rw [hE2.out, hdu.out]; exact ka1, fA.mono hw6s.size, ext_trans hw6s qA⟩
end Go.Proofs.Ytmjkgibeljbloaa
