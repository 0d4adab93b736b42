/- block: the law Order. -/
import Derived.Test.YtlfooppmdgddkaaCelI
namespace Go.Proofs.Ytlfooppmdgddkaa
open Go.RowKit
set_option maxRecDepth 100000

set_option maxHeartbeats 16000000 in
theorem blockOrder_walk {w : World} {a b c : Ce} (fa : CFits a) (fb : CFits b) (fc : CFits c) :
    Calls Try.prog 7 #[.agg (car a), .agg (car b), .agg (car c)] w fun e w' => e = .returned (.bool true) ∧ Ext w w' := by
  obtain ⟨w0, hw0⟩ : ∃ w0, w0 = ((w.alloc (.cells (car a) 23)).alloc (.cells (car b) 23)).alloc (.cells (car c) 23) := ⟨_, rfl⟩
  have x0 : Ext w w0 := by rw [hw0]; exact (((Mod.refl _ w).alloc _).alloc _).alloc _
  have A0 : Blk w0 w.heap.size 23 (car a) := by rw [hw0]; exact ((Blk.new w _ _).alloc _).alloc _
  have B0 : Blk w0 (w.heap.size + 1) 23 (car b) := by
    rw [hw0]
    have := Blk.new (w.alloc (.cells (car a) 23)) 23 (car b)
    exact Blk.alloc (by simpa using this) _
  have D0 : Blk w0 (w.heap.size + 2) 23 (car c) := by
    rw [hw0]
    have := Blk.new ((w.alloc (.cells (car a) 23)).alloc (.cells (car b) 23)) 23 (car c)
    simpa using this
  replace hw0 := Lib.hid hw0
  have hc : ∀ {wx : World}, Ext w0 wx → wx.cell? ⟨w.heap.size, 0, none⟩ = some (sv a.key) ∧ wx.cell? ⟨w.heap.size, 1, none⟩ = some (sv a.val) ∧ wx.cell? ⟨w.heap.size, 2, none⟩ = some (.bool a.del) ∧ wx.cell? ⟨w.heap.size, 3, none⟩ = some (.int .i64 a.seq) ∧ wx.cell? ⟨w.heap.size + 1, 0, none⟩ = some (sv b.key) ∧ wx.cell? ⟨w.heap.size + 1, 1, none⟩ = some (sv b.val) ∧ wx.cell? ⟨w.heap.size + 1, 2, none⟩ = some (.bool b.del) ∧ wx.cell? ⟨w.heap.size + 1, 3, none⟩ = some (.int .i64 b.seq) ∧ wx.cell? ⟨w.heap.size + 2, 0, none⟩ = some (sv c.key) ∧ wx.cell? ⟨w.heap.size + 2, 1, none⟩ = some (sv c.val) ∧ wx.cell? ⟨w.heap.size + 2, 2, none⟩ = some (.bool c.del) ∧ wx.cell? ⟨w.heap.size + 2, 3, none⟩ = some (.int .i64 c.seq) := fun hx => ⟨Blk.cell (A0.mod hx (fun h => h)) 0, Blk.cell (A0.mod hx (fun h => h)) 1, Blk.cell (A0.mod hx (fun h => h)) 2, Blk.cell (A0.mod hx (fun h => h)) 3, Blk.cell (B0.mod hx (fun h => h)) 0, Blk.cell (B0.mod hx (fun h => h)) 1, Blk.cell (B0.mod hx (fun h => h)) 2, Blk.cell (B0.mod hx (fun h => h)) 3, Blk.cell (D0.mod hx (fun h => h)) 0, Blk.cell (D0.mod hx (fun h => h)) 1, Blk.cell (D0.mod hx (fun h => h)) 2, Blk.cell (D0.mod hx (fun h => h)) 3⟩
  obtain ⟨c0, c1, c2, c3, d0, d1, d2, d3, e0, e1, e2, e3⟩ := hc (Mod.refl _ w0)
  obtain ⟨fa1, fa2⟩ := fa
  obtain ⟨fb1, fb2⟩ := fb
  obtain ⟨fc1, fc2⟩ := fc
  have za := sv_size a.key
  have zb := sv_size b.key
  have zc := sv_size c.key
  have q0 : Ext w0 w0.drew := (Mod.refl _ w0).drew
  have hab := fun wx => less_any (w := wx) a b
  have hba := fun wx => less_any (w := wx) b a
  have hbc := fun wx => less_any (w := wx) b c
  have hac := fun wx => less_any (w := wx) a c
  have hkn := fun wx => known7_any (w := wx)
  have hk1 : (a.key == b.key) = decide (a.key = b.key) := by rw [Bool.eq_iff_iff, beq_iff_eq, decide_eq_true_eq]
  have hk2 : (a.seq == b.seq) = decide (a.seq = b.seq) := by rw [Bool.eq_iff_iff, beq_iff_eq, decide_eq_true_eq]
  go_enter Try.func7, Try.ntmps7
  go_upto_region 1 with fail
  rw [← hw0.out]
  by_cases hbig : 10000 < a.key.length + b.key.length + c.key.length
  · have hb : decide ((10000 : Int) < (a.key.length : Int) + (b.key.length : Int) + (c.key.length : Int)) = true := dtrue (by omega)
    go_wp2_with fail
    go_ret
    exact ⟨rfl, x0⟩
  have hb : decide ((10000 : Int) < (a.key.length : Int) + (b.key.length : Int) + (c.key.length : Int)) = false := dfalse (by omega)
  by_cases h1 : a.key = b.key ∧ a.seq = b.seq
  · rw [lessC_one h1] at hab
    rw [lessC_one ⟨h1.1.symm, h1.2.symm⟩] at hba
    rw [dtrue h1.1] at hk1
    rw [dtrue h1.2] at hk2
    clear h1
    go_wp2_with fail
    go_region_held3 (fun w' => w'.cell? ⟨w.heap.size, 0, none⟩ = some (sv a.key) ∧ w'.cell? ⟨w.heap.size, 1, none⟩ = some (sv a.val) ∧ w'.cell? ⟨w.heap.size, 2, none⟩ = some (.bool a.del) ∧ w'.cell? ⟨w.heap.size, 3, none⟩ = some (.int .i64 a.seq) ∧ w'.cell? ⟨w.heap.size + 1, 0, none⟩ = some (sv b.key) ∧ w'.cell? ⟨w.heap.size + 1, 1, none⟩ = some (sv b.val) ∧ w'.cell? ⟨w.heap.size + 1, 2, none⟩ = some (.bool b.del) ∧ w'.cell? ⟨w.heap.size + 1, 3, none⟩ = some (.int .i64 b.seq) ∧ w'.cell? ⟨w.heap.size + 2, 0, none⟩ = some (sv c.key) ∧ w'.cell? ⟨w.heap.size + 2, 1, none⟩ = some (sv c.val) ∧ w'.cell? ⟨w.heap.size + 2, 2, none⟩ = some (.bool c.del) ∧ w'.cell? ⟨w.heap.size + 2, 3, none⟩ = some (.int .i64 c.seq)) (first | exact hc q0 | exact hc q1 | exact hc q2) (first
      | (go_at_call 20; (with_reducible refine (hab _).mono ?_); rintro e w1 ⟨rfl, x1⟩; have q1 := ext_trans q0 x1)
      | (go_at_call 20; (with_reducible refine (hba _).mono ?_); rintro e w2 ⟨rfl, x2⟩; have q2 := ext_trans q1 x2))
    all_goals go_wp2_with fail
    all_goals refine (hkn _).mono ?_
    all_goals rintro e w7 ⟨rfl, x7⟩
    all_goals have q7 := ext_trans q2 x7
    all_goals go_wp2_with fail
    all_goals go_ret
    all_goals exact ⟨rfl, ext_trans x0 q7⟩
  have ho := lessC_other h1
  have htr := fun h1 h2 => lessC_trans (a := a) (b := b) (c := c) h1 h2
  have h12 : (a.key = b.key → ¬ a.seq = b.seq) := fun h h2 => h1 ⟨h, h2⟩
  have hk3 : ∃ p q, (a.key == b.key) = p ∧ (a.seq == b.seq) = q ∧ (p = true → q = false) := ⟨_, _, rfl, rfl, fun h => by
    rw [beq_eq_false_iff_ne]; exact h12 (beq_iff_eq.1 h)⟩
  obtain ⟨p, q, hp, hq, hpq⟩ := hk3
  clear hk1 hk2 h1 h12
  cases hl : lessC a b
  · have hl2 : lessC b a = true := by rw [hl] at ho; cases h : lessC b a; rw [h] at ho; cases ho; rfl
    rw [hl] at hab
    rw [hl2] at hba
    clear ho htr hl hl2
    cases p
    case' true => replace hpq := hpq rfl; subst hpq
    all_goals (
      go_wp2_with fail
      go_region_held3 (fun w' => w'.cell? ⟨w.heap.size, 0, none⟩ = some (sv a.key) ∧ w'.cell? ⟨w.heap.size, 1, none⟩ = some (sv a.val) ∧ w'.cell? ⟨w.heap.size, 2, none⟩ = some (.bool a.del) ∧ w'.cell? ⟨w.heap.size, 3, none⟩ = some (.int .i64 a.seq) ∧ w'.cell? ⟨w.heap.size + 1, 0, none⟩ = some (sv b.key) ∧ w'.cell? ⟨w.heap.size + 1, 1, none⟩ = some (sv b.val) ∧ w'.cell? ⟨w.heap.size + 1, 2, none⟩ = some (.bool b.del) ∧ w'.cell? ⟨w.heap.size + 1, 3, none⟩ = some (.int .i64 b.seq) ∧ w'.cell? ⟨w.heap.size + 2, 0, none⟩ = some (sv c.key) ∧ w'.cell? ⟨w.heap.size + 2, 1, none⟩ = some (sv c.val) ∧ w'.cell? ⟨w.heap.size + 2, 2, none⟩ = some (.bool c.del) ∧ w'.cell? ⟨w.heap.size + 2, 3, none⟩ = some (.int .i64 c.seq)) (first | exact hc q0 | exact hc q1 | exact hc q2) (first
        | (go_at_call 20; (with_reducible refine (hab _).mono ?_); rintro e w1 ⟨rfl, x1⟩; have q1 := ext_trans q0 x1)
        | (go_at_call 20; (with_reducible refine (hba _).mono ?_); rintro e w2 ⟨rfl, x2⟩; have q2 := ext_trans q1 x2))
      all_goals go_wp2_with fail
      all_goals refine (hkn _).mono ?_
      all_goals rintro e w7 ⟨rfl, x7⟩
      all_goals have q7 := ext_trans q2 x7
      all_goals go_wp2_with fail
      all_goals go_ret
      all_goals exact ⟨rfl, ext_trans x0 q7⟩)
  · have hl2 : lessC b a = false := by rw [hl] at ho; cases h : lessC b a; rfl; rw [h] at ho; cases ho
    rw [hl] at hab
    rw [hl2] at hba
    replace htr := htr hl
    clear ho hl hl2
    cases hm : lessC b c
    · rw [hm] at hbc
      clear htr hm
      cases p
      case' true => replace hpq := hpq rfl; subst hpq
      all_goals (
        go_wp2_with fail
        go_region_held3 (fun w' => w'.cell? ⟨w.heap.size, 0, none⟩ = some (sv a.key) ∧ w'.cell? ⟨w.heap.size, 1, none⟩ = some (sv a.val) ∧ w'.cell? ⟨w.heap.size, 2, none⟩ = some (.bool a.del) ∧ w'.cell? ⟨w.heap.size, 3, none⟩ = some (.int .i64 a.seq) ∧ w'.cell? ⟨w.heap.size + 1, 0, none⟩ = some (sv b.key) ∧ w'.cell? ⟨w.heap.size + 1, 1, none⟩ = some (sv b.val) ∧ w'.cell? ⟨w.heap.size + 1, 2, none⟩ = some (.bool b.del) ∧ w'.cell? ⟨w.heap.size + 1, 3, none⟩ = some (.int .i64 b.seq) ∧ w'.cell? ⟨w.heap.size + 2, 0, none⟩ = some (sv c.key) ∧ w'.cell? ⟨w.heap.size + 2, 1, none⟩ = some (sv c.val) ∧ w'.cell? ⟨w.heap.size + 2, 2, none⟩ = some (.bool c.del) ∧ w'.cell? ⟨w.heap.size + 2, 3, none⟩ = some (.int .i64 c.seq)) (first | exact hc q0 | exact hc q1 | exact hc q2) (first
          | (go_at_call 20; (with_reducible refine (hab _).mono ?_); rintro e w1 ⟨rfl, x1⟩; have q1 := ext_trans q0 x1)
          | (go_at_call 20; (with_reducible refine (hba _).mono ?_); rintro e w2 ⟨rfl, x2⟩; have q2 := ext_trans q1 x2))
        all_goals obtain ⟨g0, g1, g2, g3, i0, i1, i2, i3, j0, j1, j2, j3⟩ := hc q2
        all_goals go_wp2_with fail
        all_goals refine (hbc _).mono ?_
        all_goals rintro e w3 ⟨rfl, x3⟩
        all_goals have q3 := ext_trans q2 x3
        all_goals go_wp2_with fail
        all_goals refine (hkn _).mono ?_
        all_goals rintro e w7 ⟨rfl, x7⟩
        all_goals have q7 := ext_trans q3 x7
        all_goals go_wp2_with fail
        all_goals go_ret
        all_goals exact ⟨rfl, ext_trans x0 q7⟩)
    · have ht := htr hm
      rw [hm] at hbc
      rw [ht] at hac
      clear htr hm ht
      cases p
      case' true => replace hpq := hpq rfl; subst hpq
      all_goals (
        go_wp2_with fail
        go_region_held3 (fun w' => w'.cell? ⟨w.heap.size, 0, none⟩ = some (sv a.key) ∧ w'.cell? ⟨w.heap.size, 1, none⟩ = some (sv a.val) ∧ w'.cell? ⟨w.heap.size, 2, none⟩ = some (.bool a.del) ∧ w'.cell? ⟨w.heap.size, 3, none⟩ = some (.int .i64 a.seq) ∧ w'.cell? ⟨w.heap.size + 1, 0, none⟩ = some (sv b.key) ∧ w'.cell? ⟨w.heap.size + 1, 1, none⟩ = some (sv b.val) ∧ w'.cell? ⟨w.heap.size + 1, 2, none⟩ = some (.bool b.del) ∧ w'.cell? ⟨w.heap.size + 1, 3, none⟩ = some (.int .i64 b.seq) ∧ w'.cell? ⟨w.heap.size + 2, 0, none⟩ = some (sv c.key) ∧ w'.cell? ⟨w.heap.size + 2, 1, none⟩ = some (sv c.val) ∧ w'.cell? ⟨w.heap.size + 2, 2, none⟩ = some (.bool c.del) ∧ w'.cell? ⟨w.heap.size + 2, 3, none⟩ = some (.int .i64 c.seq)) (first | exact hc q0 | exact hc q1 | exact hc q2) (first
          | (go_at_call 20; (with_reducible refine (hab _).mono ?_); rintro e w1 ⟨rfl, x1⟩; have q1 := ext_trans q0 x1)
          | (go_at_call 20; (with_reducible refine (hba _).mono ?_); rintro e w2 ⟨rfl, x2⟩; have q2 := ext_trans q1 x2))
        all_goals obtain ⟨g0, g1, g2, g3, i0, i1, i2, i3, j0, j1, j2, j3⟩ := hc q2
        all_goals go_wp2_with fail
        all_goals refine (hbc _).mono ?_
        all_goals rintro e w3 ⟨rfl, x3⟩
        all_goals have q3 := ext_trans q2 x3
        all_goals clear g0 g1 g2 g3 i0 i1 i2 i3 j0 j1 j2 j3
        all_goals obtain ⟨g0, g1, g2, g3, i0, i1, i2, i3, j0, j1, j2, j3⟩ := hc q3
        all_goals go_wp2_with fail
        all_goals refine (hac _).mono ?_
        all_goals rintro e w4 ⟨rfl, x4⟩
        all_goals have q4 := ext_trans q3 x4
        all_goals go_wp2_with fail
        all_goals refine (hkn _).mono ?_
        all_goals rintro e w7 ⟨rfl, x7⟩
        all_goals have q7 := ext_trans q4 x7
        all_goals go_wp2_with fail
        all_goals go_ret
        all_goals exact ⟨rfl, ext_trans x0 q7⟩)
end Go.Proofs.Ytlfooppmdgddkaa
