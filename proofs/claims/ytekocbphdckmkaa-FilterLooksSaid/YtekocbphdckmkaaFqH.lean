/- filter: the law FilterBack. -/
import Derived.Test.YtekocbphdckmkaaFqG
import Derived.Test.YtekocbphdckmkaaFlD
namespace Go.Proofs.Ytekocbphdckmkaa
open Go.RowKit
set_option maxRecDepth 100000

set_option maxHeartbeats 16000000 in
theorem lback_any {n : Nat} {w : World} {F : Fi} {vs vk : Value} (h : FilN n w F vs vk) :
    Calls Try.prog 5 #[.agg #[.int .i64 F.kind, sv F.typ, sv F.val, vs, vk]] w fun e w' => e = .returned (.bool true) ∧ Ext w w' := by
  obtain ⟨⟨Y1, Y2, Y3, rfl⟩, Z1, Z2, Z3, rfl⟩ := h.shape
  obtain ⟨w1, hw1⟩ : ∃ x, x = w.alloc (.cells #[.int .i64 F.kind, sv F.typ, sv F.val, .slice Y1 Y2 Y3, .slice Z1 Z2 Z3] 25) := ⟨_, rfl⟩
  obtain ⟨p, hp⟩ : ∃ p, p = w.heap.size := ⟨_, rfl⟩
  have x1 : Ext w w1 := by rw [hw1]; exact (Mod.refl _ w).alloc _
  have BP : Blk w1 p 25 #[.int .i64 F.kind, sv F.typ, sv F.val, .slice Y1 Y2 Y3, .slice Z1 Z2 Z3] := by rw [hw1, hp]; exact Blk.new w _ _
  have hcc : ∀ {wx : World}, Ext w1 wx → wx.cell? ⟨p, 0, none⟩ = some (.int .i64 F.kind) ∧ wx.cell? ⟨p, 1, none⟩ = some (sv F.typ) ∧ wx.cell? ⟨p, 2, none⟩ = some (sv F.val) ∧ wx.cell? ⟨p, 3, none⟩ = some (.slice Y1 Y2 Y3) ∧ wx.cell? ⟨p, 4, none⟩ = some (.slice Z1 Z2 Z3) := fun x => (BP.mod x (fun h => h)).five.2
  obtain ⟨p0, p1, p2, p3, p4⟩ := hcc (Mod.refl _ w1)
  have hhv := heavyF_any n (left := 600) (h.ext x1) (by omega) (by omega)
  have hnw := nodes_wF n F
  have hri := fun {wx : World} (x : Ext w wx) (h6 : wF n F ≤ 600) => rIsF_any (h.ext x) (by omega)
  have hpr := fun {wx : World} (x : Ext w wx) => fprint_any (h.ext x)
  have hprN : isN n F = true → printN n F = textN n F := fun h => by unfold printN; rw [if_pos h]
  have hpp := fun h => parse_print (n := n) (F := F) h
  have hpl := fun h => text_isN (n := n) (F := F) h
  have hsm := fun {wx : World} (x : Ext w wx) {us uk : Value} (h2 : FilN 16 wx F us uk) => rsame_any (n + 16) ((h.ext x).more (by omega)) (h2.more (by omega))
  have heq : eqN (n + 16) F F = true := eqN_refl (h.more (by omega))
  rw [heq] at hsm
  have hfs : ∀ {wx : World} {us uk : Value}, FilN 16 wx F us uk → (∃ A m c, us = .slice A m c) ∧ ∃ A m c, uk = .slice A m c := fun h => h.shape
  generalize hPN : printN n F = pn at *
  generalize isN n F = b at *
  generalize textN n F = tx at *
  generalize wF n F = W at *
  replace hw1 := Lib.hid hw1
  replace hp := Lib.hid hp
  replace hprN := Lib.hid hprN
  replace hpp := Lib.hid hpp
  replace hpl := Lib.hid hpl
  clear BP h hPN heq hnw
  go_enter Try.func5, Try.ntmps5
  go_upto_region 1 with fail
  rw [← hw1.out, ← hp.out]
  go_wp2_with fail
  refine hhv.mono ?_
  rintro e w2 ⟨l, rfl, hl, x2⟩
  clear p0 p1 p2 p3 p4 hhv
  obtain ⟨p0, p1, p2, p3, p4⟩ := hcc x2
  by_cases hl0 : l < 0
  · have hb : decide (l < 0) = true := dtrue hl0
    clear hri hpr hsm
    go_wp2_with fail
    go_ret
    exact ⟨rfl, ext_trans x1 x2⟩
  have hb : decide (l < 0) = false := dfalse hl0
  have hW : W ≤ 600 := by rcases hl with ⟨h1, -⟩ | ⟨-, h1, -⟩ <;> omega
  have y2 := ext_trans x1 x2
  have hri2 := Lib.hid (hri y2 hW)
  clear hri hl hl0
  go_wp2_with fail
  refine hri2.out.mono ?_
  rintro e w3 ⟨rfl, x3⟩
  have y3 := ext_trans y2 x3
  have z3 := ext_trans x2 x3
  clear p0 p1 p2 p3 p4 hri2
  obtain ⟨p0, p1, p2, p3, p4⟩ := hcc z3
  cases b
  · clear hpr hsm
    go_wp2_with fail
    go_ret
    exact ⟨rfl, y3⟩
  have hpn := hprN.out rfl
  have hpp2 := hpp.out rfl
  have hpl2 := hpl.out rfl
  subst hpn
  have hpr3 := Lib.hid (hpr y3)
  clear hpr hprN hpp hpl
  go_wp2_with fail
  refine hpr3.out.mono ?_
  rintro e w4 ⟨rfl, x4⟩
  have y4 := ext_trans y3 x4
  have z4 := ext_trans z3 x4
  clear p0 p1 p2 p3 p4 hpr3
  have hpa := Lib.hid (fparse_any (w := w4) pn (by omega))
  go_wp2_with fail
  refine hpa.out.mono ?_
  rintro e w5 ⟨hpo, x5⟩
  obtain ⟨us, uk, rfl, hF5⟩ := hpo.ok_ hpp2
  obtain ⟨⟨U1, U2, U3, rfl⟩, V1, V2, V3, rfl⟩ := hfs hF5
  have y5 := ext_trans y4 x5
  have z5 := ext_trans z4 x5
  obtain ⟨w6, hw6⟩ : ∃ y, y = w5.alloc (.cells #[.int .i64 F.kind, sv F.typ, sv F.val, .slice U1 U2 U3, .slice V1 V2 V3] 25) := ⟨_, rfl⟩
  obtain ⟨q, hq⟩ : ∃ y, y = w5.heap.size := ⟨_, rfl⟩
  have x6 : Ext w5 w6 := by rw [hw6]; exact (Mod.refl _ w5).alloc _
  have BQ : Blk w6 q 25 #[.int .i64 F.kind, sv F.typ, sv F.val, .slice U1 U2 U3, .slice V1 V2 V3] := by rw [hw6, hq]; exact Blk.new w5 _ _
  obtain ⟨-, q0, q1, q2, q3, q4⟩ := BQ.five
  obtain ⟨p0, p1, p2, p3, p4⟩ := hcc (ext_trans z5 x6)
  have y6 := ext_trans y5 x6
  have hs6 := Lib.hid (hsm y6 (hF5.ext x6))
  replace hw6 := Lib.hid hw6
  replace hq := Lib.hid hq
  clear hsm hpo hpa BQ hF5
  go_upto_region 4 with fail
  rw [← hw6.out, ← hq.out]
  go_wp2_with fail
  refine hs6.out.mono ?_
  rintro e w7 ⟨rfl, x7⟩
  clear p0 p1 p2 p3 p4 q0 q1 q2 q3 q4 hs6
  go_wp2_with fail
  refine (knownF_any w7).mono ?_
  rintro e w8 ⟨rfl, x8⟩
  go_wp2_with fail
  go_ret
  exact ⟨rfl, ext_trans y6 (ext_trans x7 x8)⟩
end Go.Proofs.Ytekocbphdckmkaa
