/- eval: the law EvalTwice. -/
import Derived.Test.YteihjdefdeckaaaGreatDoorFlN
namespace Go.Proofs.YteihjdefdeckaaaGreatDoor
open Go.RowKit
set_option maxRecDepth 100000

set_option maxHeartbeats 16000000 in
theorem ltwice_any {n : Nat} {w : World} {F : Fi} {vs vk vd va : Value} {E : Ent} (h : FilN n w F vs vk) (hd : As w AllE vd E.dn) (ha : Ats w va E.ats) (hwA : wA E.ats ≤ 1048576) (hM : Mxl w) :
    Calls Tryz.prog 5 #[.agg #[.int .i64 F.kind, sv F.typ, sv F.val, vs, vk], .agg #[vd, va]] w fun e w' => e = .returned (.bool true) ∧ Ext w w' := by
  obtain ⟨⟨Y1, Y2, Y3, rfl⟩, Z1, Z2, Z3, rfl⟩ := h.shape
  obtain ⟨D0, dn, dc, rfl⟩ : ∃ D0 dn dc, vd = .slice D0 dn dc := by obtain ⟨A, c, e⟩ := Rc.shape hd; exact ⟨A, _, c, e⟩
  obtain ⟨B0, bn, bc, rfl⟩ : ∃ B0 bn bc, va = .slice B0 bn bc := by obtain ⟨A, c, e, -⟩ := ha.open_; exact ⟨A, _, c, e⟩
  obtain ⟨w0, hw0⟩ : ∃ x, x = w.alloc (.cells #[.int .i64 F.kind, sv F.typ, sv F.val, .slice Y1 Y2 Y3, .slice Z1 Z2 Z3] 25) := ⟨_, rfl⟩
  obtain ⟨w1, hw1⟩ : ∃ x, x = w0.alloc (.cells #[.slice D0 dn dc, .slice B0 bn bc] 29) := ⟨_, rfl⟩
  obtain ⟨p, hp⟩ : ∃ p, p = w.heap.size := ⟨_, rfl⟩
  obtain ⟨g, hg⟩ : ∃ g, g = p + 1 := ⟨_, rfl⟩
  have hgs : w0.heap.size = g := by rw [hw0, hg, hp]; simp
  have x0 : Ext w w0 := by rw [hw0]; exact (Mod.refl _ w).alloc _
  have x01 : Ext w0 w1 := by rw [hw1]; exact (Mod.refl _ w0).alloc _
  have x1 := ext_trans x0 x01
  have BP0 : Blk w0 p 25 #[.int .i64 F.kind, sv F.typ, sv F.val, .slice Y1 Y2 Y3, .slice Z1 Z2 Z3] := by rw [hw0, hp]; exact Blk.new w _ _
  have BP := BP0.mod x01 (fun h => h)
  have BG : Blk w1 g 29 #[.slice D0 dn dc, .slice B0 bn bc] := by rw [hw1, ← hgs]; exact Blk.new w0 _ _
  have hcc : ∀ {wx : World}, Ext w1 wx → (wx.cell? ⟨p, 0, none⟩ = some (.int .i64 F.kind) ∧ wx.cell? ⟨p, 1, none⟩ = some (sv F.typ) ∧ wx.cell? ⟨p, 2, none⟩ = some (sv F.val) ∧ wx.cell? ⟨p, 3, none⟩ = some (.slice Y1 Y2 Y3) ∧ wx.cell? ⟨p, 4, none⟩ = some (.slice Z1 Z2 Z3)) ∧ wx.cell? ⟨g, 0, none⟩ = some (.slice D0 dn dc) ∧ wx.cell? ⟨g, 1, none⟩ = some (.slice B0 bn bc) := fun x => ⟨⟨(BP.mod x (fun h => h)).cell 0, (BP.mod x (fun h => h)).cell 1, (BP.mod x (fun h => h)).cell 2, (BP.mod x (fun h => h)).cell 3, (BP.mod x (fun h => h)).cell 4⟩, (BG.mod x (fun h => h)).cell 0, (BG.mod x (fun h => h)).cell 1⟩
  obtain ⟨⟨p0, p1, p2, p3, p4⟩, g0, g1⟩ := hcc (Mod.refl _ w1)
  have hhv := heavyF_any n (left := 400) (h.ext x1) (by omega) (by omega)
  have hgr := fun {wx : World} (x : Ext w wx) => great17_any (E := E) (hd.ext x) (ha.ext x) (by omega)
  have hIs := fun {wx : World} (x : Ext w wx) (h6 : wF n F ≤ 400) => rIsF_any (h.ext x) (by have := nodes_wF n F; omega)
  have hEv := fun {wx : World} (x : Ext w wx) (h6 : wF n F ≤ 400) (h2 : wA E.ats ≤ 2000) => EvalT_any (h.ext x) (hd.ext x) (ha.ext x) (by omega) (by omega) (hM.ext x)
  have hw1F := fun {wx : World} (x : Ext w wx) (kd : Int) (hk : -9223372036854775808 ≤ kd ∧ kd ≤ 9223372036854775807) => FilN.wrap (w := wx) (C := [(F, .slice Y1 Y2 Y3, .slice Z1 Z2 Z3)]) (fun y hy => by rw [List.mem_singleton.1 hy]; exact h.ext x) kd hk (by simp)
  have hIs2 : ∀ {wx wy : World} (_ : Ext w wx) (_ : Ext ((wx.alloc (.cells #[.int .i64 F.kind, sv F.typ, sv F.val, .slice Y1 Y2 Y3, .slice Z1 Z2 Z3] 25)).alloc (.cells #[.int .i64 2, sv [], sv [], .slice none 0 0, .slice (some ⟨wx.heap.size, 0, none⟩) 1 1] 25)) wy) (_ : wF n F ≤ 400), FilN (n + 2) wy (ofK 2 [ofK 2 [F]]) (.slice none 0 0) (.slice (some ⟨wx.heap.size + 1, 0, none⟩) 1 1) := fun {wx wy} x y h6 => by
    have h1 := hw1F x 2 (by omega)
    have h2 := FilN.wrap (w := wx.alloc (.cells #[.int .i64 F.kind, sv F.typ, sv F.val, .slice Y1 Y2 Y3, .slice Z1 Z2 Z3] 25)) (C := [(ofK 2 [F], .slice none 0 0, .slice (some ⟨wx.heap.size, 0, none⟩) 1 1)]) (fun y hy => by rw [List.mem_singleton.1 hy]; exact h1) 2 (by omega) (by simp)
    have e : (wx.alloc (.cells #[.int .i64 F.kind, sv F.typ, sv F.val, .slice Y1 Y2 Y3, .slice Z1 Z2 Z3] 25)).heap.size = wx.heap.size + 1 := by simp
    rw [e] at h2
    exact h2.ext y
  have hkn := fun wx : World => known17_any (w := wx)
  have htri := tri_eval n F E.ats
  have hNN : isN (n + 2) (ofK 2 [ofK 2 [F]]) = true → topN n F E.ats = evalN n F E.ats ∧ topN (n + 2) (ofK 2 [ofK 2 [F]]) E.ats = evalN n F E.ats ∧ topN (n + 1) (ofK 0 [F]) E.ats = evalN n F E.ats ∧ topN (n + 1) (ofK 1 [F]) E.ats = evalN n F E.ats := fun hi => by
    have h1 := isN_ofK (n := n + 1) (.inr (.inr rfl)) hi
    have h2 := isN_ofK (n := n) (.inr (.inr rfl)) h1
    have h3 := isN_other (.inr (.inr rfl)) (.inl rfl) h1
    have h4 := isN_other (.inr (.inr rfl)) (.inr (.inl rfl)) h1
    refine ⟨if_pos h2, (if_pos hi).trans ?_, (if_pos h3).trans ?_, (if_pos h4).trans ?_⟩
    · rw [eval_not1, eval_not1, not_not htri]
    · rw [eval_and (by simp)]; exact and_one htri
    · rw [eval_or (by simp)]; exact or_one htri
  have hEvN : ∀ {wx : World} {b : Nat}, FilN (n + 2) wx (ofK 2 [ofK 2 [F]]) (.slice none 0 0) (.slice (some ⟨b, 0, none⟩) 1 1) → Ext w wx → wF n F ≤ 400 → wA E.ats ≤ 2000 → Calls Tryz.prog 10 #[.agg #[.int .i64 2, sv [], sv [], .slice none 0 0, .slice (some ⟨b, 0, none⟩) 1 1], .agg #[.slice D0 dn dc, .slice B0 bn bc]] wx fun e w' => e = .returned (.int .i64 (topN (n + 2) (ofK 2 [ofK 2 [F]]) E.ats)) ∧ Ext wx w' := fun hf x h6 h2 => EvalT_any hf (hd.ext x) (ha.ext x) (by rw [wF_ofK]; simp only [List.map_cons, List.map_nil, List.sum_cons, List.sum_nil, wF_ofK]; omega) (by omega) (hM.ext x)
  have hIsN : ∀ {wx : World} {b : Nat}, FilN (n + 2) wx (ofK 2 [ofK 2 [F]]) (.slice none 0 0) (.slice (some ⟨b, 0, none⟩) 1 1) → wF n F ≤ 400 → Calls Tryz.prog 15 #[.agg #[.int .i64 2, sv [], sv [], .slice none 0 0, .slice (some ⟨b, 0, none⟩) 1 1]] wx fun e w' => e = .returned (.bool (isN (n + 2) (ofK 2 [ofK 2 [F]]))) ∧ Ext wx w' := fun hf h6 => rIsF_any hf (by have h9 := nodes_wF (n + 2) (ofK 2 [ofK 2 [F]]); rw [wF_ofK] at h9; simp only [List.map_cons, List.map_nil, List.sum_cons, List.sum_nil, wF_ofK] at h9; omega)
  have hEvA : ∀ {wx wy : World} (_ : Ext w wx) (kd : Int) (_ : -9223372036854775808 ≤ kd ∧ kd ≤ 9223372036854775807) (_ : Ext (wx.alloc (.cells #[.int .i64 F.kind, sv F.typ, sv F.val, .slice Y1 Y2 Y3, .slice Z1 Z2 Z3] 25)) wy), wF n F ≤ 400 → wA E.ats ≤ 2000 → Calls Tryz.prog 10 #[.agg #[.int .i64 kd, sv [], sv [], .slice none 0 0, .slice (some ⟨wx.heap.size, 0, none⟩) 1 1], .agg #[.slice D0 dn dc, .slice B0 bn bc]] wy fun e w' => e = .returned (.int .i64 (topN (n + 1) (ofK kd [F]) E.ats)) ∧ Ext wy w' := fun {wx wy} x kd hk y h6 h2 => by
    have h1 := (hw1F x kd hk).ext y
    have x2 : Ext w wy := ext_trans (x.alloc _) y
    exact EvalT_any (F := ofK kd [F]) h1 (hd.ext x2) (ha.ext x2) (by rw [wF_ofK]; simp only [List.map_cons, List.map_nil, List.sum_cons, List.sum_nil]; omega) (by omega) (hM.ext x2)
  have htv : 0 ≤ evalN n F E.ats ∧ evalN n F E.ats ≤ 2 := by rcases htri with h | h | h <;> omega
  have hEvA0 := fun {wx wy : World} x y h6 h2 => hEvA (wx := wx) (wy := wy) x 0 (by omega) y h6 h2
  have hEvA1 := fun {wx wy : World} x y h6 h2 => hEvA (wx := wx) (wy := wy) x 1 (by omega) y h6 h2
  clear hEvA hw1F htri
  generalize isN (n + 2) (ofK 2 [ofK 2 [F]]) = b1 at *
  generalize topN (n + 2) (ofK 2 [ofK 2 [F]]) E.ats = r1 at *
  generalize topN (n + 1) (ofK 0 [F]) E.ats = r2 at *
  generalize topN (n + 1) (ofK 1 [F]) E.ats = r3 at *
  generalize topN n F E.ats = r at *
  generalize evalN n F E.ats = v at *
  generalize isN n F = b0 at *
  generalize wA E.ats = A at *
  generalize wF n F = W at *
  clear hd ha h
  generalize F.kind = kd at *
  generalize F.typ = T at *
  generalize F.val = V at *
  replace hw0 := Lib.hid hw0
  replace hw1 := Lib.hid hw1
  replace hp := Lib.hid hp
  replace hg := Lib.hid hg
  clear BP0 BP BG hgs x0 x01
  go_enter Tryz.func5, Tryz.ntmps5
  go_upto_region 1 with fail
  rw [← hp.out]
  rw [show w.alloc (.cells #[.int .i64 kd, sv T, sv V, .slice Y1 Y2 Y3, .slice Z1 Z2 Z3] 25) = w0 from hw0.out.symm]
  rw [← hg.out, show w0.alloc (.cells #[.slice D0 dn dc, .slice B0 bn bc] 29) = w1 from hw1.out.symm]
  clear hw0 hw1 hp hg
  go_wp2_with fail
  refine hhv.mono ?_
  rintro e w2 ⟨l, rfl, hl, x2⟩
  clear p0 p1 p2 p3 p4 g0 g1 hhv
  obtain ⟨⟨p0, p1, p2, p3, p4⟩, g0, g1⟩ := hcc x2
  by_cases hl0 : l < 0
  · have hb : decide (l < 0) = true := dtrue hl0
    clear hEvN hIsN hEvA0 hEvA1 hgr hIs2 hEv hIs
    go_wp2_with fail
    go_ret
    exact ⟨rfl, ext_trans x1 x2⟩
  have hb : decide (l < 0) = false := dfalse hl0
  have hW : W ≤ 400 := by rcases hl with h | h <;> omega
  have hgr2 := hgr (ext_trans x1 x2)
  clear hl hgr
  by_cases hA : 2000 < A
  · rw [dtrue hA] at hgr2
    clear hEvN hIsN hEvA0 hEvA1 hIs2 hEv hIs
    go_wp2_with fail
    refine hgr2.mono ?_
    rintro e w3 ⟨rfl, x3⟩
    go_wp2_with fail
    go_ret
    exact ⟨rfl, ext_trans x1 (ext_trans x2 x3)⟩
  rw [dfalse hA] at hgr2
  have hA2 : A ≤ 2000 := by omega
  go_wp2_with fail
  refine hgr2.mono ?_
  rintro e w3 ⟨rfl, x3⟩
  have y3 := ext_trans x2 x3
  clear p0 p1 p2 p3 p4 g0 g1 hgr2 x2 x3
  obtain ⟨⟨p0, p1, p2, p3, p4⟩, g0, g1⟩ := hcc y3
  go_wp2_with fail
  refine (hIs (ext_trans x1 y3) hW).mono ?_
  rintro e w4 ⟨rfl, x4⟩
  have y4 := ext_trans y3 x4
  clear p0 p1 p2 p3 p4 g0 g1 y3 x4
  obtain ⟨⟨p0, p1, p2, p3, p4⟩, g0, g1⟩ := hcc y4
  cases b0 with
  | false =>
    clear hEvN hIsN hEvA0 hEvA1 hIs2 hEv hIs
    go_wp2_with fail
    go_ret
    exact ⟨rfl, ext_trans x1 y4⟩
  | true =>
    clear hIs
    go_upto_region 4 with fail
    obtain ⟨w6, hw6⟩ : ∃ x, x = (w4.alloc (.cells #[.int .i64 kd, sv T, sv V, .slice Y1 Y2 Y3, .slice Z1 Z2 Z3] 25)).alloc (.cells #[.int .i64 2, sv [], sv [], .slice none 0 0, .slice (some ⟨w4.heap.size, 0, none⟩) 1 1] 25) := ⟨_, rfl⟩
    have hN := fun {wx : World} (y : Ext w6 wx) => hIs2 (ext_trans x1 y4) (wy := wx) (by rw [← hw6]; exact y) hW
    rw [show (w4.alloc (.cells #[.int .i64 kd, sv T, sv V, .slice Y1 Y2 Y3, .slice Z1 Z2 Z3] 25)).alloc (.cells #[.int .i64 2, .string ⟨#[]⟩, .string ⟨#[]⟩, .slice none 0 0, .slice (some ⟨w4.heap.size, 0, none⟩) 1 1] 25) = w6 from hw6.symm]
    obtain ⟨b, hb0⟩ : ∃ b, b = w4.heap.size + 1 := ⟨_, rfl⟩
    rw [← hb0] at hN ⊢
    obtain ⟨q, hq⟩ : ∃ q, q = b + 1 := ⟨_, rfl⟩
    rw [← hq]
    have hqs : w6.heap.size = q := by rw [hw6, hq, hb0]; simp
    have x6 : Ext w4 w6 := by rw [hw6]; exact ((Mod.refl _ w4).alloc _).alloc _
    obtain ⟨w7, hw7⟩ : ∃ x, x = w6.alloc (.cells #[.int .i64 2, sv [], sv [], .slice none 0 0, .slice (some ⟨b, 0, none⟩) 1 1] 25) := ⟨_, rfl⟩
    rw [show w6.alloc (.cells #[.int .i64 2, .string ⟨#[]⟩, .string ⟨#[]⟩, .slice none 0 0, .slice (some ⟨b, 0, none⟩) 1 1] 25) = w7 from hw7.symm]
    have x7 : Ext w6 w7 := by rw [hw7]; exact (Mod.refl _ w6).alloc _
    have BQ : Blk w7 q 25 #[.int .i64 2, sv [], sv [], .slice none 0 0, .slice (some ⟨b, 0, none⟩) 1 1] := by rw [hw7, ← hqs]; exact Blk.new w6 _ _
    have hqc : ∀ {wx : World}, Ext w7 wx → wx.cell? ⟨q, 0, none⟩ = some (.int .i64 2) ∧ wx.cell? ⟨q, 1, none⟩ = some (sv []) ∧ wx.cell? ⟨q, 2, none⟩ = some (sv []) ∧ wx.cell? ⟨q, 3, none⟩ = some (.slice none 0 0) ∧ wx.cell? ⟨q, 4, none⟩ = some (.slice (some ⟨b, 0, none⟩) 1 1) := fun x => have B := BQ.mod x (fun h => h); ⟨B.cell 0, B.cell 1, B.cell 2, B.cell 3, B.cell 4⟩
    have y7 := ext_trans y4 (ext_trans x6 x7)
    clear p0 p1 p2 p3 p4 g0 g1 hIs2
    clear hqs BQ hb0 hq hw6 hw7
    obtain ⟨⟨p0, p1, p2, p3, p4⟩, g0, g1⟩ := hcc y7
    obtain ⟨q0, q1, q2, q3, q4⟩ := hqc (Mod.refl _ w7)
    go_wp2_with fail
    refine (hIsN (hN x7) hW).mono ?_
    rintro e w8 ⟨rfl, x8⟩
    have y8 := ext_trans y7 x8
    clear p0 p1 p2 p3 p4 g0 g1 q0 q1 q2 q3 q4 hIsN
    obtain ⟨⟨p0, p1, p2, p3, p4⟩, g0, g1⟩ := hcc y8
    obtain ⟨q0, q1, q2, q3, q4⟩ := hqc x8
    cases b1 with
    | false =>
      clear hEvN hEvA0 hEvA1 hEv
      go_wp2_with fail
      refine (hkn _).mono ?_
      rintro e w9 ⟨rfl, x9⟩
      go_wp2_with fail
      go_ret
      exact ⟨rfl, ext_trans x1 (ext_trans y8 x9)⟩
    | true =>
      obtain ⟨rfl, rfl, rfl, rfl⟩ := hNN rfl
      go_wp2_with fail
      refine (hEv (ext_trans x1 y8) hW hA2).mono ?_
      rintro e w9 ⟨rfl, x9⟩
      have y9 := ext_trans y8 x9
      have z9 := ext_trans x8 x9
      clear p0 p1 p2 p3 p4 g0 g1 q0 q1 q2 q3 q4 hEv
      obtain ⟨⟨p0, p1, p2, p3, p4⟩, g0, g1⟩ := hcc y9
      obtain ⟨q0, q1, q2, q3, q4⟩ := hqc z9
      have k1 : Ext w9 ((w9.alloc (.cells #[.int .i64 kd, sv T, sv V, .slice Y1 Y2 Y3, .slice Z1 Z2 Z3] 25)).alloc (.cells #[.int .i64 0, .string ⟨#[]⟩, .string ⟨#[]⟩, .slice none 0 0, .slice (some ⟨w9.heap.size, 0, none⟩) 1 1] 25)) := ((Mod.refl _ w9).alloc _).alloc _
      have k2 : Ext w9 ((((w9.alloc (.cells #[.int .i64 kd, sv T, sv V, .slice Y1 Y2 Y3, .slice Z1 Z2 Z3] 25)).alloc (.cells #[.int .i64 0, .string ⟨#[]⟩, .string ⟨#[]⟩, .slice none 0 0, .slice (some ⟨w9.heap.size, 0, none⟩) 1 1] 25)).alloc (.cells #[.int .i64 kd, sv T, sv V, .slice Y1 Y2 Y3, .slice Z1 Z2 Z3] 25)).alloc (.cells #[.int .i64 1, .string ⟨#[]⟩, .string ⟨#[]⟩, .slice none 0 0, .slice (some ⟨w9.heap.size + 1 + 1, 0, none⟩) 1 1] 25)) := (k1.alloc _).alloc _
      obtain ⟨⟨pa0, pa1, pa2, pa3, pa4⟩, ga0, ga1⟩ := hcc (ext_trans y9 k1)
      obtain ⟨⟨pb0, pb1, pb2, pb3, pb4⟩, gb0, gb1⟩ := hcc (ext_trans y9 k2)
      obtain ⟨qb0, qb1, qb2, qb3, qb4⟩ := hqc (ext_trans z9 k2)
      have BA : Blk ((w9.alloc (.cells #[.int .i64 kd, sv T, sv V, .slice Y1 Y2 Y3, .slice Z1 Z2 Z3] 25)).alloc (.cells #[.int .i64 0, .string ⟨#[]⟩, .string ⟨#[]⟩, .slice none 0 0, .slice (some ⟨w9.heap.size, 0, none⟩) 1 1] 25)) (w9.heap.size + 1) 25 #[.int .i64 0, .string ⟨#[]⟩, .string ⟨#[]⟩, .slice none 0 0, .slice (some ⟨w9.heap.size, 0, none⟩) 1 1] := by have h := Blk.new (w9.alloc (.cells #[.int .i64 kd, sv T, sv V, .slice Y1 Y2 Y3, .slice Z1 Z2 Z3] 25)) 25 #[.int .i64 0, .string ⟨#[]⟩, .string ⟨#[]⟩, .slice none 0 0, .slice (some ⟨w9.heap.size, 0, none⟩) 1 1]; rw [show (w9.alloc (.cells #[.int .i64 kd, sv T, sv V, .slice Y1 Y2 Y3, .slice Z1 Z2 Z3] 25)).heap.size = w9.heap.size + 1 by simp] at h; exact h
      have BO : Blk ((((w9.alloc (.cells #[.int .i64 kd, sv T, sv V, .slice Y1 Y2 Y3, .slice Z1 Z2 Z3] 25)).alloc (.cells #[.int .i64 0, .string ⟨#[]⟩, .string ⟨#[]⟩, .slice none 0 0, .slice (some ⟨w9.heap.size, 0, none⟩) 1 1] 25)).alloc (.cells #[.int .i64 kd, sv T, sv V, .slice Y1 Y2 Y3, .slice Z1 Z2 Z3] 25)).alloc (.cells #[.int .i64 1, .string ⟨#[]⟩, .string ⟨#[]⟩, .slice none 0 0, .slice (some ⟨w9.heap.size + 1 + 1, 0, none⟩) 1 1] 25)) (w9.heap.size + 1 + 1 + 1) 25 #[.int .i64 1, .string ⟨#[]⟩, .string ⟨#[]⟩, .slice none 0 0, .slice (some ⟨w9.heap.size + 1 + 1, 0, none⟩) 1 1] := by have h := Blk.new (((w9.alloc (.cells #[.int .i64 kd, sv T, sv V, .slice Y1 Y2 Y3, .slice Z1 Z2 Z3] 25)).alloc (.cells #[.int .i64 0, .string ⟨#[]⟩, .string ⟨#[]⟩, .slice none 0 0, .slice (some ⟨w9.heap.size, 0, none⟩) 1 1] 25)).alloc (.cells #[.int .i64 kd, sv T, sv V, .slice Y1 Y2 Y3, .slice Z1 Z2 Z3] 25)) 25 #[.int .i64 1, .string ⟨#[]⟩, .string ⟨#[]⟩, .slice none 0 0, .slice (some ⟨w9.heap.size + 1 + 1, 0, none⟩) 1 1]; rw [show (((w9.alloc (.cells #[.int .i64 kd, sv T, sv V, .slice Y1 Y2 Y3, .slice Z1 Z2 Z3] 25)).alloc (.cells #[.int .i64 0, .string ⟨#[]⟩, .string ⟨#[]⟩, .slice none 0 0, .slice (some ⟨w9.heap.size, 0, none⟩) 1 1] 25)).alloc (.cells #[.int .i64 kd, sv T, sv V, .slice Y1 Y2 Y3, .slice Z1 Z2 Z3] 25)).heap.size = w9.heap.size + 1 + 1 + 1 by simp] at h; exact h
      have hac : ∀ {wx : World}, Ext ((((w9.alloc (.cells #[.int .i64 kd, sv T, sv V, .slice Y1 Y2 Y3, .slice Z1 Z2 Z3] 25)).alloc (.cells #[.int .i64 0, .string ⟨#[]⟩, .string ⟨#[]⟩, .slice none 0 0, .slice (some ⟨w9.heap.size, 0, none⟩) 1 1] 25)).alloc (.cells #[.int .i64 kd, sv T, sv V, .slice Y1 Y2 Y3, .slice Z1 Z2 Z3] 25)).alloc (.cells #[.int .i64 1, .string ⟨#[]⟩, .string ⟨#[]⟩, .slice none 0 0, .slice (some ⟨w9.heap.size + 1 + 1, 0, none⟩) 1 1] 25)) wx → (wx.cell? ⟨w9.heap.size + 1, 0, none⟩ = some (.int .i64 0) ∧ wx.cell? ⟨w9.heap.size + 1, 1, none⟩ = some (sv []) ∧ wx.cell? ⟨w9.heap.size + 1, 2, none⟩ = some (sv []) ∧ wx.cell? ⟨w9.heap.size + 1, 3, none⟩ = some (.slice none 0 0) ∧ wx.cell? ⟨w9.heap.size + 1, 4, none⟩ = some (.slice (some ⟨w9.heap.size, 0, none⟩) 1 1)) ∧ wx.cell? ⟨w9.heap.size + 1 + 1 + 1, 0, none⟩ = some (.int .i64 1) ∧ wx.cell? ⟨w9.heap.size + 1 + 1 + 1, 1, none⟩ = some (sv []) ∧ wx.cell? ⟨w9.heap.size + 1 + 1 + 1, 2, none⟩ = some (sv []) ∧ wx.cell? ⟨w9.heap.size + 1 + 1 + 1, 3, none⟩ = some (.slice none 0 0) ∧ wx.cell? ⟨w9.heap.size + 1 + 1 + 1, 4, none⟩ = some (.slice (some ⟨w9.heap.size + 1 + 1, 0, none⟩) 1 1) := fun x => have B := BA.mod (ext_trans (((Mod.refl _ _).alloc _).alloc _) x) (fun h => h); have C := BO.mod x (fun h => h); ⟨⟨B.cell 0, B.cell 1, B.cell 2, B.cell 3, B.cell 4⟩, C.cell 0, C.cell 1, C.cell 2, C.cell 3, C.cell 4⟩
      have hEa := fun {wy : World} (y : Ext ((((w9.alloc (.cells #[.int .i64 kd, sv T, sv V, .slice Y1 Y2 Y3, .slice Z1 Z2 Z3] 25)).alloc (.cells #[.int .i64 0, .string ⟨#[]⟩, .string ⟨#[]⟩, .slice none 0 0, .slice (some ⟨w9.heap.size, 0, none⟩) 1 1] 25)).alloc (.cells #[.int .i64 kd, sv T, sv V, .slice Y1 Y2 Y3, .slice Z1 Z2 Z3] 25)).alloc (.cells #[.int .i64 1, .string ⟨#[]⟩, .string ⟨#[]⟩, .slice none 0 0, .slice (some ⟨w9.heap.size + 1 + 1, 0, none⟩) 1 1] 25)) wy) => hEvA0 (ext_trans x1 y9) (wy := wy) (ext_trans ((((Mod.refl _ _).alloc _).alloc _).alloc _) y) hW hA2
      have hEb := fun {wy : World} (y : Ext ((((w9.alloc (.cells #[.int .i64 kd, sv T, sv V, .slice Y1 Y2 Y3, .slice Z1 Z2 Z3] 25)).alloc (.cells #[.int .i64 0, .string ⟨#[]⟩, .string ⟨#[]⟩, .slice none 0 0, .slice (some ⟨w9.heap.size, 0, none⟩) 1 1] 25)).alloc (.cells #[.int .i64 kd, sv T, sv V, .slice Y1 Y2 Y3, .slice Z1 Z2 Z3] 25)).alloc (.cells #[.int .i64 1, .string ⟨#[]⟩, .string ⟨#[]⟩, .slice none 0 0, .slice (some ⟨w9.heap.size + 1 + 1, 0, none⟩) 1 1] 25)) wy) => hEvA1 (wx := ((w9.alloc (.cells #[.int .i64 kd, sv T, sv V, .slice Y1 Y2 Y3, .slice Z1 Z2 Z3] 25)).alloc (.cells #[.int .i64 0, .string ⟨#[]⟩, .string ⟨#[]⟩, .slice none 0 0, .slice (some ⟨w9.heap.size, 0, none⟩) 1 1] 25))) (ext_trans x1 (ext_trans y9 k1)) (wy := wy) (ext_trans ((Mod.refl _ _).alloc _) y) hW hA2
      rw [show ((w9.alloc (.cells #[.int .i64 kd, sv T, sv V, .slice Y1 Y2 Y3, .slice Z1 Z2 Z3] 25)).alloc (.cells #[.int .i64 0, .string ⟨#[]⟩, .string ⟨#[]⟩, .slice none 0 0, .slice (some ⟨w9.heap.size, 0, none⟩) 1 1] 25)).heap.size = w9.heap.size + 1 + 1 by simp] at hEb
      clear hEvA0 hEvA1 BA BO
      have hrr : (r3 == r3) = true := by simp
      have hz0 : decide ((0 : Int) ≤ r3) = true := dtrue htv.1
      have hz2 : decide (r3 ≤ (2 : Int)) = true := dtrue htv.2
      go_wp2_with fail
      refine (hEvN (hN (ext_trans x7 (ext_trans z9 k2))) (ext_trans x1 (ext_trans y9 k2)) hW hA2).mono ?_
      rintro e w10 ⟨rfl, x10⟩
      have y10 := ext_trans y9 (ext_trans k2 x10)
      clear pa0 pa1 pa2 pa3 pa4 ga0 ga1 pb0 pb1 pb2 pb3 pb4 gb0 gb1 qb0 qb1 qb2 qb3 qb4 p0 p1 p2 p3 p4 g0 g1 q0 q1 q2 q3 q4
      obtain ⟨-, g0, g1⟩ := hcc y10
      obtain ⟨⟨a0, a1, a2, a3, a4⟩, o0, o1, o2, o3, o4⟩ := hac x10
      go_wp2_with fail
      refine (hEa x10).mono ?_
      rintro e w11 ⟨rfl, x11⟩
      have z11 := ext_trans x10 x11
      clear g0 g1 a0 a1 a2 a3 a4 o0 o1 o2 o3 o4
      obtain ⟨-, g0, g1⟩ := hcc (ext_trans y10 x11)
      obtain ⟨-, o0, o1, o2, o3, o4⟩ := hac z11
      go_wp2_with fail
      refine (hEb z11).mono ?_
      rintro e w12 ⟨rfl, x12⟩
      go_wp2_with fail
      refine (hkn _).mono ?_
      rintro e w13 ⟨rfl, x13⟩
      go_wp2_with fail
      go_ret
      exact ⟨rfl, ext_trans x1 (ext_trans y10 (ext_trans x11 (ext_trans x12 x13)))⟩
end Go.Proofs.YteihjdefdeckaaaGreatDoor
