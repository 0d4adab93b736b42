/- msg: Same, when all but lists is alike. -/
import Derived.Test.YtoockogceobfgaaGreatMgV
namespace Go.Proofs.YtoockogceobfgaaGreat
open Go.RowKit
set_option maxRecDepth 100000

set_option maxHeartbeats 32000000 in
theorem same25_yes {n : Nat} {w : World} {a b : Rq} {A0 A1 A2 A3 A4 B0 B1 B2 B3 B4 : Option Addr} {A0n A0c A1n A1c A2n A2c A3n A3c A4n A4c B0n B0c B1n B1c B2n B2c B3n B3c B4n B4c : Nat} (h : RqAt n w a (.slice A0 A0n A0c) (.slice A1 A1n A1c) (.slice A2 A2n A2c) (.slice A3 A3n A3c) (.slice A4 A4n A4c)) (h' : RqAt n w b (.slice B0 B0n B0c) (.slice B1 B1n B1c) (.slice B2 B2n B2c) (.slice B3 B3n B3c) (.slice B4 B4n B4c)) (hpl : plainQ a b = true) :
    Calls Tryz.prog 77 #[.agg #[.int .i64 a.num, .int .i64 a.kind, sv a.dn, sv a.pass, .int .i64 a.scope, .int .i64 a.limit, .int .i64 a.fil.kind, sv a.fil.typ, sv a.fil.val, .slice A0 A0n A0c, .slice A1 A1n A1c, .slice A2 A2n A2c, .slice A3 A3n A3c, .slice A4 A4n A4c, sv a.rdn, .bool a.keep, .bool a.above, sv a.up, sv a.avt, sv a.avv, .int .i64 a.which], .agg #[.int .i64 b.num, .int .i64 b.kind, sv b.dn, sv b.pass, .int .i64 b.scope, .int .i64 b.limit, .int .i64 b.fil.kind, sv b.fil.typ, sv b.fil.val, .slice B0 B0n B0c, .slice B1 B1n B1c, .slice B2 B2n B2c, .slice B3 B3n B3c, .slice B4 B4n B4c, sv b.rdn, .bool b.keep, .bool b.above, sv b.up, sv b.avt, sv b.avv, .int .i64 b.which]] w fun e w' => e = .returned (.bool (decide (a.want = b.want) && (decide (a.ats = b.ats) && (eqN n a.fil b.fil && decide (a.mods = b.mods))))) ∧ Ext w w' := by
  obtain ⟨X1, hX1⟩ : ∃ X, X = decide (a.want = b.want) := ⟨_, rfl⟩
  obtain ⟨X2, hX2⟩ : ∃ X, X = decide (a.ats = b.ats) := ⟨_, rfl⟩
  obtain ⟨X3, hX3⟩ : ∃ X, X = eqN n a.fil b.fil := ⟨_, rfl⟩
  obtain ⟨X4, hX4⟩ : ∃ X, X = decide (a.mods = b.mods) := ⟨_, rfl⟩
  rw [← hX1, ← hX2, ← hX3, ← hX4]
  unfold plainQ at hpl
  obtain ⟨x2a, x2b, x2⟩ := Blk.twoN w #[.int .i64 a.num, .int .i64 a.kind, sv a.dn, sv a.pass, .int .i64 a.scope, .int .i64 a.limit, .int .i64 a.fil.kind, sv a.fil.typ, sv a.fil.val, .slice A0 A0n A0c, .slice A1 A1n A1c, .slice A2 A2n A2c, .slice A3 A3n A3c, .slice A4 A4n A4c, sv a.rdn, .bool a.keep, .bool a.above, sv a.up, sv a.avt, sv a.avv, .int .i64 a.which] #[.int .i64 b.num, .int .i64 b.kind, sv b.dn, sv b.pass, .int .i64 b.scope, .int .i64 b.limit, .int .i64 b.fil.kind, sv b.fil.typ, sv b.fil.val, .slice B0 B0n B0c, .slice B1 B1n B1c, .slice B2 B2n B2c, .slice B3 B3n B3c, .slice B4 B4n B4c, sv b.rdn, .bool b.keep, .bool b.above, sv b.up, sv b.avt, sv b.avv, .int .i64 b.which] 32 32
  obtain ⟨w2, hw2⟩ : ∃ x, x = (w.alloc (.cells #[.int .i64 a.num, .int .i64 a.kind, sv a.dn, sv a.pass, .int .i64 a.scope, .int .i64 a.limit, .int .i64 a.fil.kind, sv a.fil.typ, sv a.fil.val, .slice A0 A0n A0c, .slice A1 A1n A1c, .slice A2 A2n A2c, .slice A3 A3n A3c, .slice A4 A4n A4c, sv a.rdn, .bool a.keep, .bool a.above, sv a.up, sv a.avt, sv a.avv, .int .i64 a.which] 32)).alloc (.cells #[.int .i64 b.num, .int .i64 b.kind, sv b.dn, sv b.pass, .int .i64 b.scope, .int .i64 b.limit, .int .i64 b.fil.kind, sv b.fil.typ, sv b.fil.val, .slice B0 B0n B0c, .slice B1 B1n B1c, .slice B2 B2n B2c, .slice B3 B3n B3c, .slice B4 B4n B4c, sv b.rdn, .bool b.keep, .bool b.above, sv b.up, sv b.avt, sv b.avv, .int .i64 b.which] 32) := ⟨_, rfl⟩
  rw [← hw2] at x2a x2b x2
  obtain ⟨q, hq⟩ : ∃ q, q = w.heap.size + 1 := ⟨_, rfl⟩
  obtain ⟨p, hp⟩ : ∃ p, p = w.heap.size := ⟨_, rfl⟩
  rw [← hq] at x2b
  rw [← hp] at x2a
  have a0 : w2.cell? ⟨p, 0, none⟩ = some (.int .i64 a.num) := x2a.cell 0
  have b0 : w2.cell? ⟨q, 0, none⟩ = some (.int .i64 b.num) := x2b.cell 0
  have a1 : w2.cell? ⟨p, 1, none⟩ = some (.int .i64 a.kind) := x2a.cell 1
  have b1 : w2.cell? ⟨q, 1, none⟩ = some (.int .i64 b.kind) := x2b.cell 1
  have a2 : w2.cell? ⟨p, 2, none⟩ = some (sv a.dn) := x2a.cell 2
  have b2 : w2.cell? ⟨q, 2, none⟩ = some (sv b.dn) := x2b.cell 2
  have a3 : w2.cell? ⟨p, 3, none⟩ = some (sv a.pass) := x2a.cell 3
  have b3 : w2.cell? ⟨q, 3, none⟩ = some (sv b.pass) := x2b.cell 3
  have a4 : w2.cell? ⟨p, 4, none⟩ = some (.int .i64 a.scope) := x2a.cell 4
  have b4 : w2.cell? ⟨q, 4, none⟩ = some (.int .i64 b.scope) := x2b.cell 4
  have a5 : w2.cell? ⟨p, 5, none⟩ = some (.int .i64 a.limit) := x2a.cell 5
  have b5 : w2.cell? ⟨q, 5, none⟩ = some (.int .i64 b.limit) := x2b.cell 5
  have a14 : w2.cell? ⟨p, 14, none⟩ = some (sv a.rdn) := x2a.cell 14
  have b14 : w2.cell? ⟨q, 14, none⟩ = some (sv b.rdn) := x2b.cell 14
  have a15 : w2.cell? ⟨p, 15, none⟩ = some (.bool a.keep) := x2a.cell 15
  have b15 : w2.cell? ⟨q, 15, none⟩ = some (.bool b.keep) := x2b.cell 15
  have a16 : w2.cell? ⟨p, 16, none⟩ = some (.bool a.above) := x2a.cell 16
  have b16 : w2.cell? ⟨q, 16, none⟩ = some (.bool b.above) := x2b.cell 16
  have a17 : w2.cell? ⟨p, 17, none⟩ = some (sv a.up) := x2a.cell 17
  have b17 : w2.cell? ⟨q, 17, none⟩ = some (sv b.up) := x2b.cell 17
  have a18 : w2.cell? ⟨p, 18, none⟩ = some (sv a.avt) := x2a.cell 18
  have b18 : w2.cell? ⟨q, 18, none⟩ = some (sv b.avt) := x2b.cell 18
  have a19 : w2.cell? ⟨p, 19, none⟩ = some (sv a.avv) := x2a.cell 19
  have b19 : w2.cell? ⟨q, 19, none⟩ = some (sv b.avv) := x2b.cell 19
  have a20 : w2.cell? ⟨p, 20, none⟩ = some (.int .i64 a.which) := x2a.cell 20
  have b20 : w2.cell? ⟨q, 20, none⟩ = some (.int .i64 b.which) := x2b.cell 20
  have a11 : w2.cell? ⟨p, 11, none⟩ = some (.slice A2 A2n A2c) := x2a.cell 11
  have b11 : w2.cell? ⟨q, 11, none⟩ = some (.slice B2 B2n B2c) := x2b.cell 11
  have hE := Lib.hid (eqS16_any (Sl.ext h.want x2) (Sl.ext h'.want x2))
  have hT := fun {wx : World} (x : Ext w wx) => Lib.hid (sameAts_any (h.ats.ext x) (h'.ats.ext x))
  have hF : ∀ {wx : World}, Ext w wx → Hid (Calls Tryz.prog 110 #[.agg #[.int .i64 a.fil.kind, sv a.fil.typ, sv a.fil.val, .slice A0 A0n A0c, .slice A1 A1n A1c], .agg #[.int .i64 b.fil.kind, sv b.fil.typ, sv b.fil.val, .slice B0 B0n B0c, .slice B1 B1n B1c]] wx fun e w' => e = .returned (.bool (eqN n a.fil b.fil)) ∧ Ext wx w') := fun x => Lib.hid (fsame_any n (h.fil.ext x) (h'.fil.ext x))
  have hM := fun {wx : World} (x : Ext w wx) => Lib.hid (eqMds_any (h.mods.ext x) (h'.mods.ext x))
  have hcc : ∀ {wx : World}, Ext w2 wx → (wx.cell? ⟨p, 13, none⟩ = some (.slice A4 A4n A4c) ∧ wx.cell? ⟨q, 13, none⟩ = some (.slice B4 B4n B4c)) ∧ (wx.cell? ⟨p, 12, none⟩ = some (.slice A3 A3n A3c) ∧ wx.cell? ⟨q, 12, none⟩ = some (.slice B3 B3n B3c)) := fun x => ⟨⟨(x2a.mod x (fun h => h)).cell 13, (x2b.mod x (fun h => h)).cell 13⟩, (x2a.mod x (fun h => h)).cell 12, (x2b.mod x (fun h => h)).cell 12⟩
  have hcf : ∀ {wx : World}, Ext w2 wx → ((wx.cell? ⟨p, 6, none⟩ = some (.int .i64 a.fil.kind) ∧ wx.cell? ⟨p, 7, none⟩ = some (sv a.fil.typ) ∧ wx.cell? ⟨p, 8, none⟩ = some (sv a.fil.val) ∧ wx.cell? ⟨p, 9, none⟩ = some (.slice A0 A0n A0c) ∧ wx.cell? ⟨p, 10, none⟩ = some (.slice A1 A1n A1c)) ∧ wx.cell? ⟨q, 6, none⟩ = some (.int .i64 b.fil.kind) ∧ wx.cell? ⟨q, 7, none⟩ = some (sv b.fil.typ) ∧ wx.cell? ⟨q, 8, none⟩ = some (sv b.fil.val) ∧ wx.cell? ⟨q, 9, none⟩ = some (.slice B0 B0n B0c) ∧ wx.cell? ⟨q, 10, none⟩ = some (.slice B1 B1n B1c)) := fun x => ⟨⟨(x2a.mod x (fun h => h)).cell 6, (x2a.mod x (fun h => h)).cell 7, (x2a.mod x (fun h => h)).cell 8, (x2a.mod x (fun h => h)).cell 9, (x2a.mod x (fun h => h)).cell 10⟩, (x2b.mod x (fun h => h)).cell 6, (x2b.mod x (fun h => h)).cell 7, (x2b.mod x (fun h => h)).cell 8, (x2b.mod x (fun h => h)).cell 9, (x2b.mod x (fun h => h)).cell 10⟩
  clear h h' x2a x2b
  rw [← hX1] at hE
  rw [← hX2] at hT
  rw [← hX3] at hF
  rw [← hX4] at hM
  clear hX1 hX2 hX3 hX4
  obtain ⟨YA, hYA⟩ : ∃ X, X = decide ((a.avt, a.avv) = (b.avt, b.avv)) := ⟨_, rfl⟩
  have heA : ∀ wx, (binOp .eql 30 (.agg #[sv a.avt, sv a.avv]) (.agg #[sv b.avt, sv b.avv])).run Tryz.prog wx = .ok (.bool (decide ((a.avt, a.avv) = (b.avt, b.avv)))) wx := fun wx => eqA wx (a.avt, a.avv) (b.avt, b.avv)
  have hgu := fun wx x y => guardA0 wx .eql x y #[sv a.avt, sv a.avv] #[sv b.avt, sv b.avv]
  rw [← hYA] at heA hpl
  clear hYA
  generalize a.num = unum at *
  generalize a.kind = ukind at *
  generalize a.dn = udn at *
  generalize a.pass = upass at *
  generalize a.scope = uscope at *
  generalize a.limit = ulimit at *
  generalize a.rdn = urdn at *
  generalize a.keep = ukeep at *
  generalize a.above = uabove at *
  generalize a.up = uup at *
  generalize a.avt = uavt at *
  generalize a.avv = uavv at *
  generalize a.which = uwhich at *
  generalize a.fil.kind = ufkind at *
  generalize a.fil.typ = uftyp at *
  generalize a.fil.val = ufval at *
  generalize b.num = vnum at *
  generalize b.kind = vkind at *
  generalize b.dn = vdn at *
  generalize b.pass = vpass at *
  generalize b.scope = vscope at *
  generalize b.limit = vlimit at *
  generalize b.rdn = vrdn at *
  generalize b.keep = vkeep at *
  generalize b.above = vabove at *
  generalize b.up = vup at *
  generalize b.avt = vavt at *
  generalize b.avv = vavv at *
  generalize b.which = vwhich at *
  generalize b.fil.kind = vfkind at *
  generalize b.fil.typ = vftyp at *
  generalize b.fil.val = vfval at *
  simp only [Bool.and_eq_true] at hpl
  obtain ⟨h0, h1, h2, h3, h4, h5, h14, h15, h16, h17, h18, h20⟩ := hpl
  subst h18
  replace hw2 := Lib.hid hw2
  replace hq := Lib.hid hq
  replace hp := Lib.hid hp
  cases X1
  · clear hT hF hM hcc hcf
    go_enter Tryz.func77, Tryz.ntmps77
    go_upto_region 1 with fail
    rw [← hw2.out, ← hq.out, ← hp.out]
    clear hw2 hq hp
    go_wp2_with fail
    refine hE.out.mono ?_
    rintro e w3 ⟨rfl, x3⟩
    go_wp2_with fail
    go_ret
    exact ⟨rfl, ext_trans x2 x3⟩
  go_enter Tryz.func77, Tryz.ntmps77
  go_upto_region 1 with fail
  rw [← hw2.out, ← hq.out, ← hp.out]
  clear hw2 hq hp
  go_wp2_with fail
  refine hE.out.mono ?_
  rintro e w3 ⟨rfl, x3⟩
  obtain ⟨⟨c1, c2⟩, -⟩ := hcc x3
  clear hE a0 b0 a1 b1 a2 b2 a3 b3 a4 b4 a5 b5 a14 b14 a15 b15 a16 b16 a17 b17 a18 b18 a19 b19 a20 b20 a11 b11 heA hgu h0 h1 h2 h3 h4 h5 h14 h15 h16 h17 h20
  have z3 := ext_trans x2 x3
  have hT3 := hT z3
  clear hT
  go_wp2_with fail
  refine hT3.out.mono ?_
  rintro e w4 ⟨rfl, x4⟩
  have y4 := ext_trans x3 x4
  have z4 := ext_trans z3 x4
  clear hT3 c1 c2 x3 z3 x4
  cases X2
  · clear hF hM hcc hcf
    go_wp2_with fail
    go_ret
    exact ⟨rfl, z4⟩
  obtain ⟨⟨d1, d2, d3, d4, d5⟩, d6, d7, d8, d9, d10⟩ := hcf y4
  have hF4 := hF z4
  clear hF hcf
  go_wp2_with fail
  refine hF4.out.mono ?_
  rintro e w5 ⟨rfl, x5⟩
  have y5 := ext_trans y4 x5
  have z5 := ext_trans z4 x5
  clear hF4 d1 d2 d3 d4 d5 d6 d7 d8 d9 d10 y4 z4 x5
  cases X3
  · clear hM hcc
    go_wp2_with fail
    go_ret
    exact ⟨rfl, z5⟩
  obtain ⟨-, k1, k2⟩ := hcc y5
  have hM5 := hM z5
  clear hM hcc
  go_wp2_with fail
  refine hM5.out.mono ?_
  rintro e w6 ⟨rfl, x6⟩
  go_wp2_with fail
  go_ret
  exact ⟨by simp, ext_trans z5 x6⟩
theorem same25_any {n : Nat} {w : World} {a b : Rq} {A0 A1 A2 A3 A4 B0 B1 B2 B3 B4 : Option Addr} {A0n A0c A1n A1c A2n A2c A3n A3c A4n A4c B0n B0c B1n B1c B2n B2c B3n B3c B4n B4c : Nat} (h : RqAt n w a (.slice A0 A0n A0c) (.slice A1 A1n A1c) (.slice A2 A2n A2c) (.slice A3 A3n A3c) (.slice A4 A4n A4c)) (h' : RqAt n w b (.slice B0 B0n B0c) (.slice B1 B1n B1c) (.slice B2 B2n B2c) (.slice B3 B3n B3c) (.slice B4 B4n B4c)) :
    Calls Tryz.prog 77 #[.agg #[.int .i64 a.num, .int .i64 a.kind, sv a.dn, sv a.pass, .int .i64 a.scope, .int .i64 a.limit, .int .i64 a.fil.kind, sv a.fil.typ, sv a.fil.val, .slice A0 A0n A0c, .slice A1 A1n A1c, .slice A2 A2n A2c, .slice A3 A3n A3c, .slice A4 A4n A4c, sv a.rdn, .bool a.keep, .bool a.above, sv a.up, sv a.avt, sv a.avv, .int .i64 a.which], .agg #[.int .i64 b.num, .int .i64 b.kind, sv b.dn, sv b.pass, .int .i64 b.scope, .int .i64 b.limit, .int .i64 b.fil.kind, sv b.fil.typ, sv b.fil.val, .slice B0 B0n B0c, .slice B1 B1n B1c, .slice B2 B2n B2c, .slice B3 B3n B3c, .slice B4 B4n B4c, sv b.rdn, .bool b.keep, .bool b.above, sv b.up, sv b.avt, sv b.avv, .int .i64 b.which]] w fun e w' => e = .returned (.bool (sameQ n a b)) ∧ Ext w w' := by
  unfold sameQ
  cases hp : plainQ a b
  · exact same25_no (_n := n) hp
  · exact same25_yes h h' hp
end Go.Proofs.YtoockogceobfgaaGreat
