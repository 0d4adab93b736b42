/- level: the law Picks. -/
import Derived.Test.YtmjkgibeljbloaaLvK
import Derived.Test.YtmjkgibeljbloaaLvM
namespace Go.Proofs.Ytmjkgibeljbloaa
open Go.RowKit
set_option maxRecDepth 100000

theorem getA_l (Z N : List Fl) {k : Nat} (h : k < Z.length) (h2 : k < (Z ++ N).length) : (Z ++ N)[k] = Z[k] := List.getElem_append_left h
theorem getA_r (Z N : List Fl) {k : Nat} (h : Z.length ≤ k) (h2 : k < (Z ++ N).length) : (Z ++ N)[k] ∈ N := by
  rw [List.getElem_append_right h]
  exact List.getElem_mem _
theorem mem_take_succ {p : List Fl} {k : Nat} (h : k < p.length) (x : Fl) : x ∈ p.take (k + 1) ↔ x ∈ p.take k ∨ p[k] = x := by
  rw [List.take_succ_eq_append_getElem h, List.mem_append, List.mem_singleton]
  exact ⟨fun h => h.imp id Eq.symm, fun h => h.imp id Eq.symm⟩
theorem orfalse (b : Bool) : (b || false) = b := by cases b <;> rfl

set_option maxHeartbeats 64000000 in
theorem lpicks_any {w : World} {S : Nat → Prop} {v : Value} {n : Int} {L : List Fl} (h : Fs w S v L) (hf : MFits L) :
    Calls Try.prog 7 #[.agg #[.int .i64 n, v]] w fun e w' => e = .returned (.bool true) ∧ Ext w w' := by
  have hl56 := hf.2
  have hshape := h.shape
  obtain ⟨A, c, rfl⟩ := hshape
  have B0 : Blk (w.alloc (.cells #[.int .i64 n, .slice A L.length c] 24)) w.heap.size 24 #[.int .i64 n, .slice A L.length c] := Blk.new w _ _
  have hB : Ext w (w.alloc (.cells #[.int .i64 n, .slice A L.length c] 24)) := (Mod.refl _ w).alloc _
  obtain ⟨w0, hw0⟩ : ∃ w0, w0 = w.alloc (.cells #[.int .i64 n, .slice A L.length c] 24) := ⟨_, rfl⟩
  rw [← hw0] at B0 hB
  replace hw0 := Lib.hid hw0
  have b0 : w0.cell? ⟨w.heap.size, 0, none⟩ = some (.int .i64 n) := B0.cell 0
  have b1 : w0.cell? ⟨w.heap.size, 1, none⟩ = some (.slice A L.length c) := B0.cell 1
  have hhv := heavy11_any (h.ext hB) hf
  have his := fun {wx : World} (x : Ext w0 wx) => ris_any (n := n) ((h.ext hB).ext x) hf
  have hpk := fun {wx : World} (x : Ext w0 wx) => pick_any (n := n) ((h.ext hB).ext x) hf
  have hov := fun {wx : World} (x : Ext w0 wx) (l : Int) (lo hi : Tt) => rOver_any (n := l) (nx := n) (lo := lo) (hi := hi) ((h.ext hB).ext x) hl56
  have hmin := fun wx ts t a b => run_minT (P := Try.prog) wx ts t a b
  have hmax := fun wx ts t a b => run_maxT (P := Try.prog) wx ts t a b
  have hkn := known11_any
  have hbb : ∀ {wx : World}, Ext w0 wx → wx.cell? ⟨w.heap.size, 0, none⟩ = some (.int .i64 n) ∧ wx.cell? ⟨w.heap.size, 1, none⟩ = some (.slice A L.length c) := fun x => ⟨ext_cell x b0, ext_cell x b1⟩
  have hpl : (pickF n L).1.length ≤ 1000000 ∨ True := .inr trivial
  clear h B0 hpl
  go_enter Try.func7, Try.ntmps7
  go_upto_region 1 with fail
  rw [← hw0.out]
  clear hw0
  go_wp2_with fail
  refine hhv.mono ?_
  rintro e w1 ⟨q, rfl, hq, x1⟩
  cases q
  case true =>
    go_wp2_with fail
    go_ret
    exact ⟨rfl, ext_trans hB x1⟩
  obtain ⟨-, hlen⟩ := hq rfl
  clear hq hhv b0 b1
  obtain ⟨b0, b1⟩ := hbb x1
  have his1 := his x1
  go_wp2_with fail
  refine his1.mono ?_
  rintro e w2 ⟨rfl, x2⟩
  have y2 := ext_trans x1 x2
  clear his his1 b0 b1 x1 x2
  by_cases hv : isV n L
  case neg =>
    rw [dfalse hv]
    clear hv
    go_wp2_with fail
    go_ret
    exact ⟨rfl, ext_trans hB y2⟩
  rw [dtrue hv]
  clear hv
  obtain ⟨b0, b1⟩ := hbb y2
  go_wp2_with fail
  refine (hpk y2).mono ?_
  rintro e w3 ⟨vp, rfl, op, fp, x3⟩
  have y3 := ext_trans y2 x3
  have hno := @pick_no n L
  have hyes := @pick_spl n L
  clear hpk b0 b1 fp x3 y2
  generalize pickF n L = Q at *
  obtain ⟨p, q⟩ := Q
  simp only at hno hyes op ⊢
  obtain ⟨A3, c3, e3⟩ := op.shape
  subst e3
  cases q
  case false =>
    have hp0 : Hid (p = []) := Lib.hid (hno rfl)
    have hpl : (p.length : Int) = 0 := by rw [hp0.out]; rfl
    have hpl2 : ((p.length : Int) == 0) = true := by rw [hpl]; rfl
    have hpl' : p.length = 0 := by rw [hp0.out]; rfl
    replace hpl' := Lib.hid hpl'
    clear hno hyes op hov hmin hmax hbb hpl
    go_wp2_with fail
    refine (hkn _).mono ?_
    rintro e w4 ⟨rfl, x4⟩
    go_wp2_with fail
    go_ret
    exact ⟨rfl, ext_trans hB (ext_trans y3 x4)⟩
  obtain ⟨m, Z, N, hs⟩ := hyes rfl
  have hpl0 : 0 < p.length := by have := hs.z; rw [hs.p, List.length_append]; omega
  have hpl2 : ((p.length : Int) == 0) = false := by rw [beq_eq_false_iff_ne]; omega
  have hm0 := hs.m0
  have hplen : ∀ k (hk : k < p.length), ∀ hz : k < Z.length, p[k] = Z[k] := fun k hk hz => by
    have : ∀ (q : List Fl) (hq : q = Z ++ N) (hk : k < q.length), q[k] = Z[k] := fun q hq hk => by subst hq; exact getA_l Z N hz hk
    exact this p hs.p hk
  have hpr : ∀ k (hk : k < p.length), Z.length ≤ k → p[k] ∈ N := fun k hk hz => by
    have : ∀ (q : List Fl) (hq : q = Z ++ N) (hk : k < q.length), q[k] ∈ N := fun q hq hk => by subst hq; exact getA_r Z N hz hk
    exact this p hs.p hk
  have hstep : ∀ k (hk : k < p.length), (p[k].lev = m ∧ bndK Z (k + 1) = bstep (bndK Z k) p[k]) ∨ (p[k].lev = m + 1 ∧ bndK Z (k + 1) = bndK Z k) := fun k hk => by
    by_cases hz : k < Z.length
    · rw [hplen k hk hz]
      exact .inl ⟨hs.zl _ (List.getElem_mem _), bndK_next Z hz⟩
    · exact .inr ⟨hs.nl _ (hpr k hk (by omega)), bndK_more Z (by omega)⟩
  have hin : ∀ x ∈ N, x ∈ p := fun x hx => by rw [hs.p]; exact List.mem_append_right _ hx
  have hfin : bndK Z p.length = bnd Z := by
    unfold bndK bnd
    rw [List.take_of_length_le (by rw [hs.p, List.length_append]; omega)]
  have hst0 : p[0].lev = m ∧ bndK Z 0 = (p[0].first, p[0].last) := by
    have hz := hs.z
    rw [hplen 0 hpl0 hz]
    refine ⟨hs.zl _ (List.getElem_mem _), ?_⟩
    unfold bndK
    rw [head_get hz]; rfl
  have hN := Lib.hid hs.n
  clear hno hyes hs hplen hpr
  obtain ⟨_, _, he, h1, h2, h3, h4⟩ := (OwnR.rc op).open_ fic_len
  injection he with he1 _ he3
  subst he1; subst he3
  obtain ⟨ad, hA, _, c0, c1, c2, c3', c4⟩ := Fs.at_ h4 hpl0
  subst hA
  rw [show ad.add (0 * 5) = ad by rw [Nat.zero_mul]; unfold Addr.add; simp] at c0 c1 c2 c3' c4
  have hln : (0 : Int) < (p.length : Int) := by omega
  obtain ⟨hl0, hb0⟩ := hst0
  obtain ⟨x0, hx0⟩ : ∃ x, x = p[0] := ⟨_, rfl⟩
  rw [← hx0] at c0 c1 c2 c3' c4 hl0 hb0
  rw [hl0] at c1
  replace hb0 := Lib.hid hb0
  clear hl0 hx0 op
  go_wp2_with fail
  go_quiet (fail)
  go_wp2_with fail
  go_loopw [6, 7, 8] (fun s t i wr => ∃ (k : Nat), k ≤ p.length ∧ i = .int .i64 k ∧ s = sv (bndK Z k).1 ∧ t = sv (bndK Z k).2 ∧ Ext w3 wr) (fun _ _ i _ => p.length - (intOf i).toNat)
  case atStart => exact ⟨0, Nat.zero_le _, rfl, by rw [hb0.out], by rw [hb0.out], (Mod.refl _ w3).drewN _⟩
  case round =>
    clear c0 c1 c2 c3' c4 hb0
    obtain ⟨k, hk, rfl, rfl, rfl, hx⟩ := hrel
    by_cases hlt : k < p.length
    case pos =>
      have hbl : decide ((k : Int) < (p.length : Int)) = true := dtrue (by omega)
      have hbl' : decide (k < p.length) = true := dtrue hlt
      obtain ⟨ad', hA, _, c0, c1, c2, c3', c4⟩ := Fs.at_ (h4.ext hx) hlt
      cases hA
      have hsn := hstep k hlt
      have hi0 : (0 : Int) ≤ (k : Int) := by omega
      have hi1 : (k : Int) < (p.length : Int) := by omega
      clear hstep hov hbb hin hfin hN hkn
      generalize p[k] = x at *
      obtain ⟨M2, hM2⟩ : ∃ M2, M2 = bndK Z (k + 1) := ⟨_, rfl⟩
      rw [← hM2] at hsn
      replace hM2 := Lib.hid hM2
      generalize bndK Z k = B at *
      obtain ⟨lo, hi⟩ := B
      rcases hsn with ⟨hl, hs2⟩ | ⟨hl, hs2⟩
      · have q1 : (x.lev == m) = true := by rw [beq_iff_eq]; exact hl
        have q2 : (x.lev != m) = false := by rw [bne_eq_false_iff_eq]; exact hl
        replace hs2 := Lib.hid hs2
        clear hl
        go_wp2_with fail
        go_quiet (fail)
        go_wp2_with fail
        exact ⟨⟨k + 1, by omega, by go_num, by rw [← hM2.out, hs2.out]; rfl, by rw [← hM2.out, hs2.out]; rfl, hx.drewN _⟩, by simp [intOf] <;> omega⟩
      · have q1 : (x.lev == m) = false := by rw [beq_eq_false_iff_ne]; omega
        have q2 : (x.lev != m) = true := by rw [bne_iff_ne]; omega
        have q3 : (x.lev != m + 1) = false := by rw [bne_eq_false_iff_eq]; exact hl
        replace hs2 := Lib.hid hs2
        clear hl
        go_wp2_with fail
        exact ⟨⟨k + 1, by omega, by go_num, by rw [← hM2.out, hs2.out], by rw [← hM2.out, hs2.out], hx⟩, by simp [intOf] <;> omega⟩
    have hbl : decide ((k : Int) < (p.length : Int)) = false := dfalse (by omega)
    have hbl' : decide (k < p.length) = false := dfalse hlt
    obtain rfl : k = p.length := by omega
    have y4 := ext_trans y3 hx
    obtain ⟨b0, b1⟩ := hbb y4
    have hov2 := hov y4 (m + 1) (bndK Z p.length).1 (bndK Z p.length).2
    have hN2 : L.filter (inL (m + 1) (bndK Z p.length).1 (bndK Z p.length).2) = N := by rw [hfin]; exact hN.out.symm
    rw [hN2] at hov2
    clear hov hfin hN hN2 hstep hmin hmax hbb
    generalize bndK Z p.length = B at *
    obtain ⟨lo, hi⟩ := B
    go_wp2_with fail
    refine hov2.mono ?_
    rintro e w6 ⟨v6, rfl, o6, f6, x6⟩
    obtain ⟨A6, c6, e6, j1, j2, j3, j4⟩ := (OwnR.rc o6).open_ fic_len
    subst e6
    have y6 := ext_trans hx x6
    clear hov2 b0 b1 o6 f6 y4 hx x6
    go_wp2_with fail
    go_loopw [10] (fun i wr => ∃ (t : Nat), t ≤ N.length ∧ i = .int .i64 t ∧ Ext w3 wr ∧ Ext w6 wr) (fun i _ => N.length - (intOf i).toNat)
    case atStart => exact ⟨0, Nat.zero_le _, rfl, y6, Mod.refl _ _⟩
    case round =>
      clear y6
      obtain ⟨t, ht, rfl, hx, hx6⟩ := hrel
      by_cases htl : t < N.length
      case neg =>
        have hbt : decide ((t : Int) < (N.length : Int)) = false := dfalse (by omega)
        clear hin
        go_wp2_with fail
        refine (hkn _).mono ?_
        rintro e w7 ⟨rfl, x7⟩
        go_wp2_with fail
        go_ret
        exact ⟨rfl, ext_trans hB (ext_trans y3 (ext_trans hx x7))⟩
      have hbt : decide ((t : Int) < (N.length : Int)) = true := dtrue (by omega)
      have hmem := hin _ (List.getElem_mem htl)
      have htat : ∀ {wx : World}, Ext w6 wx → ∃ bd, A6 = some bd ∧ wx.cell? (bd.add (t * 5)) = some (.int .i64 N[t].id) ∧ wx.cell? ⟨(bd.add (t * 5)).block, (bd.add (t * 5)).off + 1, none⟩ = some (.int .i64 N[t].lev) ∧ wx.cell? ⟨(bd.add (t * 5)).block, (bd.add (t * 5)).off + 2, none⟩ = some (.int .i64 N[t].size) ∧ wx.cell? ⟨(bd.add (t * 5)).block, (bd.add (t * 5)).off + 3, none⟩ = some (sv N[t].first) ∧ wx.cell? ⟨(bd.add (t * 5)).block, (bd.add (t * 5)).off + 4, none⟩ = some (sv N[t].last) := fun x => by
        obtain ⟨bd, hA, _, e0, e1, e2, e3, e4⟩ := Fs.at_ (j4.ext x) htl
        exact ⟨bd, hA, e0, e1, e2, e3, e4⟩
      obtain ⟨bd, hA6, -⟩ := htat hx6
      subst hA6
      have ht0 : (0 : Int) ≤ (t : Int) := by omega
      have ht1 : (t : Int) < (N.length : Int) := by omega
      have hEq := fun (y : Fl) wx => eqF wx y N[t]
      have hgu := fun (y : Fl) wx a b => guardF wx .eql a b (fia y) (fia N[t])
      clear hin hkn
      generalize N[t] = x at *
      go_wp2_with fail
      go_loopw [11, 12] (fun s i wr => ∃ (k : Nat), k ≤ p.length ∧ i = .int .i64 k ∧ s = .bool (decide (x ∈ p.take k)) ∧ Ext w3 wr ∧ Ext w6 wr) (fun _ i _ => p.length - (intOf i).toNat)
      case atStart => exact ⟨0, Nat.zero_le _, rfl, by simp, hx, hx6⟩
      case round =>
        clear hx hx6
        obtain ⟨k, hk, rfl, rfl, hx, hx6⟩ := hrel
        by_cases hkl : k < p.length
        case neg =>
          have hbl : decide ((k : Int) < (p.length : Int)) = false := dfalse (by omega)
          have hbl' : decide (k < p.length) = false := dfalse hkl
          have hm2 : decide (x ∈ p.take k) = true := dtrue (by rw [List.take_of_length_le (by omega)]; exact hmem)
          rw [hm2]
          clear hm2 hmem hEq hgu htat
          go_wp2_with fail
          exact ⟨⟨t + 1, by omega, by go_num, hx, hx6⟩, by simp [intOf] <;> omega⟩
        have hbl : decide ((k : Int) < (p.length : Int)) = true := dtrue (by omega)
        have hbl' : decide (k < p.length) = true := dtrue hkl
        have hi0 : (0 : Int) ≤ (k : Int) := by omega
        have hi1 : (k : Int) < (p.length : Int) := by omega
        have hms := mem_take_succ hkl x
        by_cases hmk : x ∈ p.take k
        · have hm2 : decide (x ∈ p.take (k + 1)) = true := dtrue (hms.2 (.inl hmk))
          rw [dtrue hmk]
          replace hm2 := Lib.hid hm2
          clear hms hmk hmem hEq hgu htat
          go_wp2_with fail
          go_quiet (fail)
          go_wp2_with fail
          exact ⟨⟨k + 1, by omega, by go_num, by rw [hm2.out], hx.drewN _, hx6.drewN _⟩, by simp [intOf] <;> omega⟩
        · rw [dfalse hmk]
          obtain ⟨ad', hA, _, c0, c1, c2, c3', c4⟩ := Fs.at_ (h4.ext hx) hkl
          cases hA
          obtain ⟨bd', hB', d0, d1, d2, d3, d4⟩ := htat hx6
          cases hB'
          have hm2 : decide (x ∈ p.take (k + 1)) = decide (p[k] = x) := decide_eq_decide.2 (hms.trans ⟨fun h => h.resolve_left hmk, .inr⟩)
          replace hm2 := Lib.hid hm2
          have hEq2 := hEq p[k]
          have hgu2 := hgu p[k]
          clear hms hmk hmem hEq hgu htat
          generalize p[k] = y at *
          by_cases hyx : y = x
          · have hE3 : ∀ wx, (binOp .eql 48 (.agg (fia y)) (.agg (fia x))).run Try.prog wx = .ok (.bool true) wx := fun wx => by rw [hEq2, dtrue hyx]
            have hm3 : Hid (decide (x ∈ p.take (k + 1)) = true) := Lib.hid (hm2.out.trans (dtrue hyx))
            clear hEq2 hyx hm2
            go_wp2_with fail
            go_quiet (fail)
            go_wp2_with fail
            exact ⟨⟨k + 1, by omega, by go_num, by rw [hm3.out], hx.drewN _, hx6.drewN _⟩, by simp [intOf] <;> omega⟩
          · have hE3 : ∀ wx, (binOp .eql 48 (.agg (fia y)) (.agg (fia x))).run Try.prog wx = .ok (.bool false) wx := fun wx => by rw [hEq2, dfalse hyx]
            have hm3 : Hid (decide (x ∈ p.take (k + 1)) = false) := Lib.hid (hm2.out.trans (dfalse hyx))
            clear hEq2 hyx hm2
            go_wp2_with fail
            go_quiet (fail)
            go_wp2_with fail
            exact ⟨⟨k + 1, by omega, by go_num, by rw [hm3.out], hx.drewN _, hx6.drewN _⟩, by simp [intOf] <;> omega⟩
end Go.Proofs.Ytmjkgibeljbloaa
