/- eval: the law EvalFilters. -/
import Derived.Test.YteihjdefdeckaaaGreatDoorFlK
namespace Go.Proofs.YteihjdefdeckaaaGreatDoor
open Go.RowKit
set_option maxRecDepth 100000

set_option maxHeartbeats 16000000 in
theorem lfilters_any {n : Nat} {w : World} {F : Fi} {vs vk vd va : Value} {E : Ent} (h : FilN n w F vs vk) (hd : As w AllE vd E.dn) (ha : Ats w va E.ats) (hwA : wA E.ats ≤ 1048576) (hM : Mxl w) :
    Calls Tryz.prog 3 #[.agg #[.int .i64 F.kind, sv F.typ, sv F.val, vs, vk], .agg #[vd, va]] w fun e w' => e = .returned (.bool true) ∧ Ext w w' := by
  obtain ⟨⟨Y1, Y2, Y3, rfl⟩, Z1, Z2, Z3, rfl⟩ := h.shape
  obtain ⟨D0, dn, dc, rfl⟩ : ∃ D0 dn dc, vd = .slice D0 dn dc := by obtain ⟨A, c, e⟩ := Rc.shape hd; exact ⟨A, _, c, e⟩
  obtain ⟨B0, bn, bc, rfl⟩ : ∃ B0 bn bc, va = .slice B0 bn bc := by obtain ⟨A, c, e, -⟩ := ha.open_; exact ⟨A, _, c, e⟩
  obtain ⟨w0, hw0⟩ : ∃ x, x = w.alloc (.cells #[.int .i64 F.kind, sv F.typ, sv F.val, .slice Y1 Y2 Y3, .slice Z1 Z2 Z3] 25) := ⟨_, rfl⟩
  obtain ⟨w1, hw1⟩ : ∃ x, x = w0.alloc (.cells #[.slice D0 dn dc, .slice B0 bn bc] 29) := ⟨_, rfl⟩
  obtain ⟨p, hp⟩ : ∃ p, p = w.heap.size := ⟨_, rfl⟩
  obtain ⟨g, hg⟩ : ∃ g, g = p + 1 := ⟨_, rfl⟩
  have hgs : w0.heap.size = g := by rw [hw0, hg, hp]; simp
  have x0 : Ext w w0 := by rw [hw0]; exact (Mod.refl _ w).alloc _
  have x01 : Ext w0 w1 := by rw [hw1]; exact (Mod.refl _ w0).alloc _
  have x1 := ext_trans x0 x01
  have BP0 : Blk w0 p 25 #[.int .i64 F.kind, sv F.typ, sv F.val, .slice Y1 Y2 Y3, .slice Z1 Z2 Z3] := by rw [hw0, hp]; exact Blk.new w _ _
  have BP := BP0.mod x01 (fun h => h)
  have BG : Blk w1 g 29 #[.slice D0 dn dc, .slice B0 bn bc] := by rw [hw1, ← hgs]; exact Blk.new w0 _ _
  have hcc : ∀ {wx : World}, Ext w1 wx → (wx.cell? ⟨p, 0, none⟩ = some (.int .i64 F.kind) ∧ wx.cell? ⟨p, 1, none⟩ = some (sv F.typ) ∧ wx.cell? ⟨p, 2, none⟩ = some (sv F.val) ∧ wx.cell? ⟨p, 3, none⟩ = some (.slice Y1 Y2 Y3) ∧ wx.cell? ⟨p, 4, none⟩ = some (.slice Z1 Z2 Z3)) ∧ wx.cell? ⟨g, 0, none⟩ = some (.slice D0 dn dc) ∧ wx.cell? ⟨g, 1, none⟩ = some (.slice B0 bn bc) := fun x => ⟨⟨(BP.mod x (fun h => h)).cell 0, (BP.mod x (fun h => h)).cell 1, (BP.mod x (fun h => h)).cell 2, (BP.mod x (fun h => h)).cell 3, (BP.mod x (fun h => h)).cell 4⟩, (BG.mod x (fun h => h)).cell 0, (BG.mod x (fun h => h)).cell 1⟩
  obtain ⟨⟨p0, p1, p2, p3, p4⟩, g0, g1⟩ := hcc (Mod.refl _ w1)
  have hhv := heavyF_any n (left := 600) (h.ext x1) (by omega) (by omega)
  have hgr := fun {wx : World} (x : Ext w wx) => great17_any (E := E) (hd.ext x) (ha.ext x) (by omega)
  have h4 := fun {wx : World} (x : Ext w wx) (h6 : wF n F ≤ 600) (h2 : wA E.ats ≤ 2000) => EvalT_any (h.ext x) (hd.ext x) (ha.ext x) (by omega) (by omega) (hM.ext x)
  have h5 := fun {wx : World} (x : Ext w wx) (h6 : wF n F ≤ 600) (h2 : wA E.ats ≤ 2000) => rEvalT_any (h.ext x) (hd.ext x) (ha.ext x) (by omega) (by omega)
  have hkn := fun wx : World => known17_any (w := wx)
  generalize topN n F E.ats = r at *
  generalize wA E.ats = A at *
  generalize wF n F = W at *
  generalize F.kind = kd at *
  generalize F.typ = T at *
  generalize F.val = V at *
  replace hw0 := Lib.hid hw0
  replace hw1 := Lib.hid hw1
  replace hp := Lib.hid hp
  replace hg := Lib.hid hg
  clear BP0 BP BG hgs x0 x01
  clear hd ha h
  go_enter Tryz.func3, Tryz.ntmps3
  go_upto_region 1 with fail
  rw [← hp.out]
  rw [show w.alloc (.cells #[.int .i64 kd, sv T, sv V, .slice Y1 Y2 Y3, .slice Z1 Z2 Z3] 25) = w0 from hw0.out.symm]
  rw [← hg.out, show w0.alloc (.cells #[.slice D0 dn dc, .slice B0 bn bc] 29) = w1 from hw1.out.symm]
  clear hw0 hw1 hp hg
  go_wp2_with fail
  refine hhv.mono ?_
  rintro e w2 ⟨l, rfl, hl, x2⟩
  clear p0 p1 p2 p3 p4 g0 g1 hhv
  obtain ⟨⟨p0, p1, p2, p3, p4⟩, g0, g1⟩ := hcc x2
  by_cases hl0 : l < 0
  · have hb : decide (l < 0) = true := dtrue hl0
    clear h4 h5 hgr
    go_wp2_with fail
    go_ret
    exact ⟨rfl, ext_trans x1 x2⟩
  have hb : decide (l < 0) = false := dfalse hl0
  have hW : W ≤ 600 := by rcases hl with h | h <;> omega
  have hgr2 := hgr (ext_trans x1 x2)
  clear hl hgr
  by_cases hA : 2000 < A
  · rw [dtrue hA] at hgr2
    clear h4 h5
    go_wp2_with fail
    refine hgr2.mono ?_
    rintro e w3 ⟨rfl, x3⟩
    go_wp2_with fail
    go_ret
    exact ⟨rfl, ext_trans x1 (ext_trans x2 x3)⟩
  rw [dfalse hA] at hgr2
  have h6 := fun {wx : World} (x : Ext w wx) => h4 x hW (by omega)
  have h7 := fun {wx : World} (x : Ext w wx) => h5 x hW (by omega)
  clear h4 h5
  go_wp2_with fail
  refine hgr2.mono ?_
  rintro e w3 ⟨rfl, x3⟩
  have y3 := ext_trans x2 x3
  have hrr : (r == r) = true := by simp
  clear p0 p1 p2 p3 p4 g0 g1 hgr2
  go_upto_region 3 with fail
  have z0 : Ext w1 w3.drew := y3.drew
  go_region_held3 (fun wx => (wx.cell? ⟨p, 0, none⟩ = some (.int .i64 kd) ∧ wx.cell? ⟨p, 1, none⟩ = some (sv T) ∧ wx.cell? ⟨p, 2, none⟩ = some (sv V) ∧ wx.cell? ⟨p, 3, none⟩ = some (.slice Y1 Y2 Y3) ∧ wx.cell? ⟨p, 4, none⟩ = some (.slice Z1 Z2 Z3)) ∧ wx.cell? ⟨g, 0, none⟩ = some (.slice D0 dn dc) ∧ wx.cell? ⟨g, 1, none⟩ = some (.slice B0 bn bc)) (first | exact hcc z0 | exact hcc z1 | exact hcc z2 | exact hcc z3) (first
    | (go_at_call 10; (with_reducible refine (h6 (ext_trans x1 z0)).mono ?_); rintro e7 w7 ⟨rfl, x7⟩; have z1 := ext_trans z0 x7)
    | (go_at_call 11; (with_reducible refine (h7 (ext_trans x1 z1)).mono ?_); rintro e8 w8 ⟨rfl, x8⟩; have z2 := ext_trans z1 x8)
    | (go_at_call 12; (with_reducible refine (hkn _).mono ?_); rintro e9 w9 ⟨rfl, x9⟩; have z3 := ext_trans z2 x9))
  go_wp2_with fail
  go_ret
  exact ⟨rfl, ext_trans x1 z3⟩
end Go.Proofs.YteihjdefdeckaaaGreatDoor
