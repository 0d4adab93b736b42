/- filter: the document's Print; the law FilterLooks. -/
import Derived.Test.YtekocbphdckmkaaFqL
namespace Go.Proofs.Ytekocbphdckmkaa
open Go.RowKit
set_option maxRecDepth 100000

set_option maxHeartbeats 8000000 in
theorem rprint_any {n : Nat} {w : World} {F : Fi} {vs vk : Value} (h : FilN n w F vs vk) (hN : nodesN n F ≤ 1000000) :
    Calls Try.prog 14 #[.agg #[.int .i64 F.kind, sv F.typ, sv F.val, vs, vk]] w fun e w' => e = .returned (sv (printN n F)) ∧ Ext w w' := by
  have hlen := fun h => text_isN (n := n) (F := F) h
  have hone : isN n F = true → oneN n F 1 = true := fun h => by unfold isN at h; rw [Bool.and_eq_true_iff] at h; exact h.1
  obtain ⟨⟨Y1, Y2, Y3, rfl⟩, Z1, Z2, Z3, rfl⟩ := h.shape
  obtain ⟨w1, hw1⟩ : ∃ x, x = w.alloc (.cells #[.int .i64 F.kind, sv F.typ, sv F.val, .slice Y1 Y2 Y3, .slice Z1 Z2 Z3] 25) := ⟨_, rfl⟩
  obtain ⟨p, hp⟩ : ∃ p, p = w.heap.size := ⟨_, rfl⟩
  have x1 : Ext w w1 := by rw [hw1]; exact (Mod.refl _ w).alloc _
  have BP : Blk w1 p 25 #[.int .i64 F.kind, sv F.typ, sv F.val, .slice Y1 Y2 Y3, .slice Z1 Z2 Z3] := by rw [hw1, hp]; exact Blk.new w _ _
  obtain ⟨-, p0, p1, p2, p3, p4⟩ := BP.five
  have his := rIsF_any (h.ext x1) hN
  have htx := fun {wx : World} (x : Ext w wx) (h1 : oneN n F 1 = true) (h2 : (textN n F).length ≤ 10000000) => rtext_any n (h.ext x) h1 h2
  obtain ⟨b, hb⟩ : ∃ b, b = isN n F := ⟨_, rfl⟩
  obtain ⟨R, hR⟩ : ∃ R, R = printN n F := ⟨_, rfl⟩
  rw [← hR]
  unfold printN at hR
  rw [← hb] at his hR hlen hone
  replace hw1 := Lib.hid hw1
  replace hp := Lib.hid hp
  replace his := Lib.hid his
  clear hb
  go_enter Try.func14, Try.ntmps14
  go_upto_region 1 with fail
  rw [← hw1.out, ← hp.out]
  go_wp2_with fail
  refine his.out.mono ?_
  rintro e w2 ⟨rfl, x2⟩
  cases b
  · have hr := Lib.hid (show R = [] by rw [hR, if_neg (by decide)])
    clear hR hlen htx hone
    go_wp2_with fail
    go_ret
    exact ⟨by rw [hr.out]; rfl, ext_trans x1 x2⟩
  · have hl := hlen rfl
    have hr := Lib.hid (show R = textN n F by rw [hR, if_pos rfl])
    have BP2 := BP.mod x2 (fun h => h)
    obtain ⟨-, q0, q1, q2, q3, q4⟩ := BP2.five
    have hwr : Calls Try.prog 25 #[.agg #[.int .i64 F.kind, sv F.typ, sv F.val, .slice Y1 Y2 Y3, .slice Z1 Z2 Z3]] w2 _ := htx (ext_trans x1 x2) (hone rfl) (by omega)
    replace hwr := Lib.hid hwr
    clear hR hlen p0 p1 p2 p3 p4 htx hone
    go_wp2_with fail
    refine hwr.out.mono ?_
    rintro e w3 ⟨rfl, x3⟩
    clear hwr
    go_wp2_with fail
    go_ret
    exact ⟨by rw [hr.out]; rfl, ext_trans (ext_trans x1 x2) x3⟩
set_option maxHeartbeats 64000000 in
theorem llooks_any {n n' : Nat} {w : World} {F G : Fi} {vs vk us uk : Value} (h : FilN n w F vs vk) (h' : FilN n' w G us uk) :
    Calls Try.prog 4 #[.agg #[.int .i64 F.kind, sv F.typ, sv F.val, vs, vk], .agg #[.int .i64 G.kind, sv G.typ, sv G.val, us, uk]] w fun e w' => e = .returned (.bool true) ∧ Ext w w' := by
  obtain ⟨⟨Y1, Y2, Y3, rfl⟩, Z1, Z2, Z3, rfl⟩ := h.shape
  obtain ⟨⟨U1, U2, U3, rfl⟩, V1, V2, V3, rfl⟩ := h'.shape
  obtain ⟨w1, hw1⟩ : ∃ y7 : World, y7 = (w.alloc (.cells #[.int .i64 F.kind, sv F.typ, sv F.val, .slice Y1 Y2 Y3, .slice Z1 Z2 Z3] 25)).alloc (.cells #[.int .i64 G.kind, sv G.typ, sv G.val, .slice U1 U2 U3, .slice V1 V2 V3] 25) := ⟨_, rfl⟩
  obtain ⟨p, hp⟩ : ∃ y8, y8 = w.heap.size := ⟨_, rfl⟩
  have x1 : Ext w w1 := by rw [hw1]; exact ((Mod.refl _ w).alloc _).alloc _
  have BP : Blk w1 p 25 #[.int .i64 F.kind, sv F.typ, sv F.val, .slice Y1 Y2 Y3, .slice Z1 Z2 Z3] := by rw [hw1, hp]; exact (Blk.new w _ _).alloc _
  have BQ : Blk w1 (p + 1) 25 #[.int .i64 G.kind, sv G.typ, sv G.val, .slice U1 U2 U3, .slice V1 V2 V3] := by
    rw [hw1, hp]
    have := Blk.new (w.alloc (.cells #[.int .i64 F.kind, sv F.typ, sv F.val, .slice Y1 Y2 Y3, .slice Z1 Z2 Z3] 25)) 25 #[.int .i64 G.kind, sv G.typ, sv G.val, .slice U1 U2 U3, .slice V1 V2 V3]
    simpa using this
  have hcc : ∀ {wx : World}, Ext w1 wx → wx.cell? ⟨p, 0, none⟩ = some (.int .i64 F.kind) ∧ wx.cell? ⟨p, 1, none⟩ = some (sv F.typ) ∧ wx.cell? ⟨p, 2, none⟩ = some (sv F.val) ∧ wx.cell? ⟨p, 3, none⟩ = some (.slice Y1 Y2 Y3) ∧ wx.cell? ⟨p, 4, none⟩ = some (.slice Z1 Z2 Z3) ∧ wx.cell? ⟨p + 1, 0, none⟩ = some (.int .i64 G.kind) ∧ wx.cell? ⟨p + 1, 1, none⟩ = some (sv G.typ) ∧ wx.cell? ⟨p + 1, 2, none⟩ = some (sv G.val) ∧ wx.cell? ⟨p + 1, 3, none⟩ = some (.slice U1 U2 U3) ∧ wx.cell? ⟨p + 1, 4, none⟩ = some (.slice V1 V2 V3) := fun x =>
    have a := (BP.mod x (fun h => h)).five.2
    have b := (BQ.mod x (fun h => h)).five.2
    ⟨a.1, a.2.1, a.2.2.1, a.2.2.2.1, a.2.2.2.2, b.1, b.2.1, b.2.2.1, b.2.2.2.1, b.2.2.2.2⟩
  have hhF := heavyF_any n (left := 600) (h.ext x1) (by omega) (by omega)
  have hhG := fun {wx : World} (x : Ext w wx) => Lib.hid (heavyF_any n' (left := 600) (h'.ext x) (by omega) (by omega))
  have hnw := nodes_wF n F
  have h1 := fun {wx : World} (x : Ext w wx) => Lib.hid (show Calls Try.prog 13 #[.agg #[.int .i64 F.kind, sv F.typ, sv F.val, .slice Y1 Y2 Y3, .slice Z1 Z2 Z3]] wx _ from fprint_any (h.ext x))
  have h2 := fun {wx : World} (x : Ext w wx) (hN : nodesN n F ≤ 1000000) => Lib.hid (rprint_any (h.ext x) hN)
  have h3 := fun {wx : World} (x : Ext w wx) => Lib.hid (IsF_any (h.ext x))
  have h4 := fun {wx : World} (x : Ext w wx) (hN : nodesN n F ≤ 1000000) => Lib.hid (rIsF_any (h.ext x) hN)
  have h5 := fun {wx : World} (x : Ext w wx) (hN : nodesN n F ≤ 1000000) => Lib.hid (fnodes_any n (h.ext x) hN)
  have h6 := fun {wx : World} (x : Ext w wx) (hN : nodesN n F ≤ 1000000) => Lib.hid (rnodes_any n (h.ext x) hN)
  have h7 := fun {wx : World} (x : Ext w wx) => Lib.hid (show Calls Try.prog 19 #[.agg #[.int .i64 F.kind, sv F.typ, sv F.val, .slice Y1 Y2 Y3, .slice Z1 Z2 Z3], .agg #[.int .i64 G.kind, sv G.typ, sv G.val, .slice U1 U2 U3, .slice V1 V2 V3]] wx _ from fsame_any (n + n') ((h.ext x).more (by omega)) ((h'.ext x).more (by omega)))
  have h8 := fun {wx : World} (x : Ext w wx) => Lib.hid (show Calls Try.prog 10 #[.agg #[.int .i64 F.kind, sv F.typ, sv F.val, .slice Y1 Y2 Y3, .slice Z1 Z2 Z3], .agg #[.int .i64 G.kind, sv G.typ, sv G.val, .slice U1 U2 U3, .slice V1 V2 V3]] wx _ from rsame_any (n + n') ((h.ext x).more (by omega)) ((h'.ext x).more (by omega)))
  have h9 := fun {wx : World} (x : Ext w wx) => Lib.hid (show Calls Try.prog 19 #[.agg #[.int .i64 F.kind, sv F.typ, sv F.val, .slice Y1 Y2 Y3, .slice Z1 Z2 Z3], .agg #[.int .i64 F.kind, sv F.typ, sv F.val, .slice Y1 Y2 Y3, .slice Z1 Z2 Z3]] wx (fun e w' => e = .returned (.bool true) ∧ Ext wx w') from by
    have := fsame_any n (h.ext x) (h.ext x)
    rw [eqN_refl h] at this
    exact this)
  have hkn := fun (wx : World) => Lib.hid (knownF_any wx)
  generalize printN n F = PN at *
  generalize isN n F = b at *
  generalize eqN (n + n') F G = b' at *
  generalize nodesN n F = N at *
  generalize wF n F = W at *
  generalize wF n' G = W' at *
  generalize F.kind = f0 at *
  generalize F.typ = f1 at *
  generalize F.val = f2 at *
  generalize G.kind = g0 at *
  generalize G.typ = g1 at *
  generalize G.val = g2 at *
  have e1 : (PN == PN) = true := beq_self_eq_true PN
  have e2 : (b == b) = true := beq_self_eq_true b
  have e3 : ((N : Int) == (N : Int)) = true := beq_self_eq_true _
  have e4 : (b' == b') = true := beq_self_eq_true b'
  obtain ⟨p0, p1, p2, p3, p4, o0, o1, o2, o3, o4⟩ := hcc (Mod.refl _ w1)
  replace hw1 := Lib.hid hw1
  replace hp := Lib.hid hp
  clear BP BQ h h'
  go_enter Try.func4, Try.ntmps4
  go_upto_region 1 with fail
  rw [← hw1.out, ← hp.out]
  clear hw1 hp
  go_wp2_with fail
  refine hhF.mono ?_
  rintro e w2 ⟨l, rfl, hl, x2⟩
  clear p0 p1 p2 p3 p4 o0 o1 o2 o3 o4 hhF
  obtain ⟨p0, p1, p2, p3, p4, o0, o1, o2, o3, o4⟩ := hcc x2
  have y2 := ext_trans x1 x2
  by_cases hl0 : l < 0
  · have hb : decide (l < 0) = true := dtrue hl0
    clear h1 h2 h3 h4 h5 h6 h7 h8 h9 hkn hhG
    go_wp2_with fail
    go_ret
    exact ⟨rfl, y2⟩
  have hb : decide (l < 0) = false := dfalse hl0
  have hW : W ≤ 600 := by rcases hl with ⟨h1, -⟩ | ⟨-, h1, -⟩ <;> omega
  have hN : N ≤ 1000000 := by omega
  have hG2 := hhG y2
  clear hl hl0 hhG
  go_wp2_with fail
  refine hG2.out.mono ?_
  rintro e w3 ⟨l', rfl, -, x3⟩
  have y3 := ext_trans y2 x3
  have z3 := ext_trans x2 x3
  clear p0 p1 p2 p3 p4 o0 o1 o2 o3 o4 hG2
  by_cases hl1 : l' < 0
  · have hb1 : decide (l' < 0) = true := dtrue hl1
    clear h1 h2 h3 h4 h5 h6 h7 h8 h9 hkn
    go_wp2_with fail
    go_ret
    exact ⟨rfl, y3⟩
  have hb1 : decide (l' < 0) = false := dfalse hl1
  clear hl1 hnw hW
  obtain ⟨p0, p1, p2, p3, p4, o0, o1, o2, o3, o4⟩ := hcc z3
  go_upto_region 3 with fail
  clear hb hb1 p0 p1 p2 p3 p4 o0 o1 o2 o3 o4
  have z0 : Ext w1 w3.drew := z3.drew
  go_region_held3 (fun wx => wx.cell? ⟨p, 0, none⟩ = some (.int .i64 f0) ∧ wx.cell? ⟨p, 1, none⟩ = some (sv f1) ∧ wx.cell? ⟨p, 2, none⟩ = some (sv f2) ∧ wx.cell? ⟨p, 3, none⟩ = some (.slice Y1 Y2 Y3) ∧ wx.cell? ⟨p, 4, none⟩ = some (.slice Z1 Z2 Z3) ∧ wx.cell? ⟨p + 1, 0, none⟩ = some (.int .i64 g0) ∧ wx.cell? ⟨p + 1, 1, none⟩ = some (sv g1) ∧ wx.cell? ⟨p + 1, 2, none⟩ = some (sv g2) ∧ wx.cell? ⟨p + 1, 3, none⟩ = some (.slice U1 U2 U3) ∧ wx.cell? ⟨p + 1, 4, none⟩ = some (.slice V1 V2 V3)) (first | exact hcc z0 | exact hcc z1 | exact hcc z2 | exact hcc z4 | exact hcc z5 | exact hcc z6 | exact hcc z7 | exact hcc z8 | exact hcc z9 | exact hcc z10 | exact hcc z11) (first
    | (go_at_call 13; (with_reducible refine (h1 (ext_trans x1 z0)).out.mono ?_); rintro e7 w7 ⟨rfl, x7⟩; have z1 := ext_trans z0 x7)
    | (go_at_call 14; (with_reducible refine (h2 (ext_trans x1 z1) hN).out.mono ?_); rintro e8 w8 ⟨rfl, x8⟩; have z2 := ext_trans z1 x8)
    | (go_at_call 15; (with_reducible refine (h3 (ext_trans x1 z2)).out.mono ?_); rintro e9 w9 ⟨rfl, x9⟩; have z4 := ext_trans z2 x9)
    | (go_at_call 16; (with_reducible refine (h4 (ext_trans x1 z4) hN).out.mono ?_); rintro e10 w10 ⟨rfl, x10⟩; have z5 := ext_trans z4 x10)
    | (go_at_call 17; (with_reducible refine (h5 (ext_trans x1 z5) hN).out.mono ?_); rintro e11 w11 ⟨rfl, x11⟩; have z6 := ext_trans z5 x11)
    | (go_at_call 18; (with_reducible refine (h6 (ext_trans x1 z6) hN).out.mono ?_); rintro e12 w12 ⟨rfl, x12⟩; have z7 := ext_trans z6 x12)
    | (go_at_call 19; (with_reducible refine (h7 (ext_trans x1 z7)).out.mono ?_); rintro e13 w13 ⟨rfl, x13⟩; have z8 := ext_trans z7 x13)
    | (go_at_call 10; (with_reducible refine (h8 (ext_trans x1 z8)).out.mono ?_); rintro e14 w14 ⟨rfl, x14⟩; have z9 := ext_trans z8 x14)
    | (go_at_call 19; (with_reducible refine (h9 (ext_trans x1 z9)).out.mono ?_); rintro e15 w15 ⟨rfl, x15⟩; have z10 := ext_trans z9 x15)
    | (go_at_call 11; (with_reducible refine (hkn _).out.mono ?_); rintro e17 w17 ⟨rfl, x17⟩; have z11 := ext_trans z10 x17))
  go_wp2_with fail
  go_ret
  exact ⟨rfl, ext_trans x1 z11⟩
end Go.Proofs.Ytekocbphdckmkaa
