/- msg: Same. -/
import Derived.Test.YtoockogceobfgaaGreatMgUm
import Derived.Test.YtoockogceobfgaaGreatMfCm
import Derived.Laws.StructEq
import Derived.Laws.Tables
namespace Go.Proofs.YtoockogceobfgaaGreat
open Go.RowKit
set_option maxRecDepth 100000

theorem eqInA25 (w : World) (a b : Av) : (Op.equalIn 10000 30 (.agg #[sv a.1, sv a.2]) (.agg #[sv b.1, sv b.2])).run Tryz.prog w = .ok (decide (a = b)) w := by
  rw [run_equalIn_agg w 9999 30 _ _ (by kernel_rfl) (by kernel_rfl)]
  simp only [Program.fieldsOf, Tryz.underlying30]
  obtain ⟨a1, a2⟩ := a
  obtain ⟨b1, b2⟩ := b
  by_cases h1 : a1 = b1 <;> by_cases h2 : a2 = b2 <;> simp [Op.eqFields, part, go_sem, h1, h2]
theorem eqA (w : World) (a b : Av) : (binOp .eql 30 (.agg #[sv a.1, sv a.2]) (.agg #[sv b.1, sv b.2])).run Tryz.prog w = .ok (.bool (decide (a = b))) w := by
  rw [run_eql_struct, eqInA25]; rfl
set_option maxHeartbeats 32000000 in
theorem same25_no {_n : Nat} {w : World} {a b : Rq} {A0 A1 A2 A3 A4 B0 B1 B2 B3 B4 : Option Addr} {A0n A0c A1n A1c A2n A2c A3n A3c A4n A4c B0n B0c B1n B1c B2n B2c B3n B3c B4n B4c : Nat} (hpl : plainQ a b = false) :
    Calls Tryz.prog 77 #[.agg #[.int .i64 a.num, .int .i64 a.kind, sv a.dn, sv a.pass, .int .i64 a.scope, .int .i64 a.limit, .int .i64 a.fil.kind, sv a.fil.typ, sv a.fil.val, .slice A0 A0n A0c, .slice A1 A1n A1c, .slice A2 A2n A2c, .slice A3 A3n A3c, .slice A4 A4n A4c, sv a.rdn, .bool a.keep, .bool a.above, sv a.up, sv a.avt, sv a.avv, .int .i64 a.which], .agg #[.int .i64 b.num, .int .i64 b.kind, sv b.dn, sv b.pass, .int .i64 b.scope, .int .i64 b.limit, .int .i64 b.fil.kind, sv b.fil.typ, sv b.fil.val, .slice B0 B0n B0c, .slice B1 B1n B1c, .slice B2 B2n B2c, .slice B3 B3n B3c, .slice B4 B4n B4c, sv b.rdn, .bool b.keep, .bool b.above, sv b.up, sv b.avt, sv b.avv, .int .i64 b.which]] w fun e w' => e = .returned (.bool (false)) ∧ Ext w w' := by
  unfold plainQ at hpl
  obtain ⟨x2a, x2b, x2⟩ := Blk.twoN w #[.int .i64 a.num, .int .i64 a.kind, sv a.dn, sv a.pass, .int .i64 a.scope, .int .i64 a.limit, .int .i64 a.fil.kind, sv a.fil.typ, sv a.fil.val, .slice A0 A0n A0c, .slice A1 A1n A1c, .slice A2 A2n A2c, .slice A3 A3n A3c, .slice A4 A4n A4c, sv a.rdn, .bool a.keep, .bool a.above, sv a.up, sv a.avt, sv a.avv, .int .i64 a.which] #[.int .i64 b.num, .int .i64 b.kind, sv b.dn, sv b.pass, .int .i64 b.scope, .int .i64 b.limit, .int .i64 b.fil.kind, sv b.fil.typ, sv b.fil.val, .slice B0 B0n B0c, .slice B1 B1n B1c, .slice B2 B2n B2c, .slice B3 B3n B3c, .slice B4 B4n B4c, sv b.rdn, .bool b.keep, .bool b.above, sv b.up, sv b.avt, sv b.avv, .int .i64 b.which] 32 32
  obtain ⟨w2, hw2⟩ : ∃ x, x = (w.alloc (.cells #[.int .i64 a.num, .int .i64 a.kind, sv a.dn, sv a.pass, .int .i64 a.scope, .int .i64 a.limit, .int .i64 a.fil.kind, sv a.fil.typ, sv a.fil.val, .slice A0 A0n A0c, .slice A1 A1n A1c, .slice A2 A2n A2c, .slice A3 A3n A3c, .slice A4 A4n A4c, sv a.rdn, .bool a.keep, .bool a.above, sv a.up, sv a.avt, sv a.avv, .int .i64 a.which] 32)).alloc (.cells #[.int .i64 b.num, .int .i64 b.kind, sv b.dn, sv b.pass, .int .i64 b.scope, .int .i64 b.limit, .int .i64 b.fil.kind, sv b.fil.typ, sv b.fil.val, .slice B0 B0n B0c, .slice B1 B1n B1c, .slice B2 B2n B2c, .slice B3 B3n B3c, .slice B4 B4n B4c, sv b.rdn, .bool b.keep, .bool b.above, sv b.up, sv b.avt, sv b.avv, .int .i64 b.which] 32) := ⟨_, rfl⟩
  rw [← hw2] at x2a x2b x2
  obtain ⟨q, hq⟩ : ∃ q, q = w.heap.size + 1 := ⟨_, rfl⟩
  obtain ⟨p, hp⟩ : ∃ p, p = w.heap.size := ⟨_, rfl⟩
  rw [← hq] at x2b
  rw [← hp] at x2a
  have a0 : w2.cell? ⟨p, 0, none⟩ = some (.int .i64 a.num) := x2a.cell 0
  have b0 : w2.cell? ⟨q, 0, none⟩ = some (.int .i64 b.num) := x2b.cell 0
  have a1 : w2.cell? ⟨p, 1, none⟩ = some (.int .i64 a.kind) := x2a.cell 1
  have b1 : w2.cell? ⟨q, 1, none⟩ = some (.int .i64 b.kind) := x2b.cell 1
  have a2 : w2.cell? ⟨p, 2, none⟩ = some (sv a.dn) := x2a.cell 2
  have b2 : w2.cell? ⟨q, 2, none⟩ = some (sv b.dn) := x2b.cell 2
  have a3 : w2.cell? ⟨p, 3, none⟩ = some (sv a.pass) := x2a.cell 3
  have b3 : w2.cell? ⟨q, 3, none⟩ = some (sv b.pass) := x2b.cell 3
  have a4 : w2.cell? ⟨p, 4, none⟩ = some (.int .i64 a.scope) := x2a.cell 4
  have b4 : w2.cell? ⟨q, 4, none⟩ = some (.int .i64 b.scope) := x2b.cell 4
  have a5 : w2.cell? ⟨p, 5, none⟩ = some (.int .i64 a.limit) := x2a.cell 5
  have b5 : w2.cell? ⟨q, 5, none⟩ = some (.int .i64 b.limit) := x2b.cell 5
  have a14 : w2.cell? ⟨p, 14, none⟩ = some (sv a.rdn) := x2a.cell 14
  have b14 : w2.cell? ⟨q, 14, none⟩ = some (sv b.rdn) := x2b.cell 14
  have a15 : w2.cell? ⟨p, 15, none⟩ = some (.bool a.keep) := x2a.cell 15
  have b15 : w2.cell? ⟨q, 15, none⟩ = some (.bool b.keep) := x2b.cell 15
  have a16 : w2.cell? ⟨p, 16, none⟩ = some (.bool a.above) := x2a.cell 16
  have b16 : w2.cell? ⟨q, 16, none⟩ = some (.bool b.above) := x2b.cell 16
  have a17 : w2.cell? ⟨p, 17, none⟩ = some (sv a.up) := x2a.cell 17
  have b17 : w2.cell? ⟨q, 17, none⟩ = some (sv b.up) := x2b.cell 17
  have a18 : w2.cell? ⟨p, 18, none⟩ = some (sv a.avt) := x2a.cell 18
  have b18 : w2.cell? ⟨q, 18, none⟩ = some (sv b.avt) := x2b.cell 18
  have a19 : w2.cell? ⟨p, 19, none⟩ = some (sv a.avv) := x2a.cell 19
  have b19 : w2.cell? ⟨q, 19, none⟩ = some (sv b.avv) := x2b.cell 19
  have a20 : w2.cell? ⟨p, 20, none⟩ = some (.int .i64 a.which) := x2a.cell 20
  have b20 : w2.cell? ⟨q, 20, none⟩ = some (.int .i64 b.which) := x2b.cell 20
  clear x2a x2b
  obtain ⟨YA, hYA⟩ : ∃ X, X = decide ((a.avt, a.avv) = (b.avt, b.avv)) := ⟨_, rfl⟩
  have heA : ∀ wx, (binOp .eql 30 (.agg #[sv a.avt, sv a.avv]) (.agg #[sv b.avt, sv b.avv])).run Tryz.prog wx = .ok (.bool (decide ((a.avt, a.avv) = (b.avt, b.avv)))) wx := fun wx => eqA wx (a.avt, a.avv) (b.avt, b.avv)
  have hgu := fun wx x y => guardA0 wx .eql x y #[sv a.avt, sv a.avv] #[sv b.avt, sv b.avv]
  rw [← hYA] at heA hpl
  clear hYA
  generalize a.num = unum at *
  generalize a.kind = ukind at *
  generalize a.dn = udn at *
  generalize a.pass = upass at *
  generalize a.scope = uscope at *
  generalize a.limit = ulimit at *
  generalize a.rdn = urdn at *
  generalize a.keep = ukeep at *
  generalize a.above = uabove at *
  generalize a.up = uup at *
  generalize a.avt = uavt at *
  generalize a.avv = uavv at *
  generalize a.which = uwhich at *
  generalize a.fil.kind = ufkind at *
  generalize a.fil.typ = uftyp at *
  generalize a.fil.val = ufval at *
  generalize b.num = vnum at *
  generalize b.kind = vkind at *
  generalize b.dn = vdn at *
  generalize b.pass = vpass at *
  generalize b.scope = vscope at *
  generalize b.limit = vlimit at *
  generalize b.rdn = vrdn at *
  generalize b.keep = vkeep at *
  generalize b.above = vabove at *
  generalize b.up = vup at *
  generalize b.avt = vavt at *
  generalize b.avv = vavv at *
  generalize b.which = vwhich at *
  generalize b.fil.kind = vfkind at *
  generalize b.fil.typ = vftyp at *
  generalize b.fil.val = vfval at *
  replace hw2 := Lib.hid hw2
  replace hq := Lib.hid hq
  replace hp := Lib.hid hp
  replace hpl := Lib.hid hpl
  go_enter Tryz.func77, Tryz.ntmps77
  go_upto_region 1 with fail
  rw [← hw2.out, ← hq.out, ← hp.out]
  clear hw2 hq hp
  cases h0 : (unum == vnum)
  · clear hpl heA hgu
    clear a1 b1 a2 b2 a3 b3 a4 b4 a5 b5 a14 b14 a15 b15 a16 b16 a17 b17 a18 b18 a19 b19 a20 b20
    go_wp2_with fail
    go_ret
    exact ⟨rfl, x2⟩
  cases h1 : (ukind == vkind)
  · clear hpl heA hgu
    clear a2 b2 a3 b3 a4 b4 a5 b5 a14 b14 a15 b15 a16 b16 a17 b17 a18 b18 a19 b19 a20 b20
    go_wp2_with fail
    go_ret
    exact ⟨rfl, x2⟩
  cases h2 : (udn == vdn)
  · clear hpl heA hgu
    clear a3 b3 a4 b4 a5 b5 a14 b14 a15 b15 a16 b16 a17 b17 a18 b18 a19 b19 a20 b20
    go_wp2_with fail
    go_ret
    exact ⟨rfl, x2⟩
  cases h3 : (upass == vpass)
  · clear hpl heA hgu
    clear a4 b4 a5 b5 a14 b14 a15 b15 a16 b16 a17 b17 a18 b18 a19 b19 a20 b20
    go_wp2_with fail
    go_ret
    exact ⟨rfl, x2⟩
  cases h4 : (uscope == vscope)
  · clear hpl heA hgu
    clear a5 b5 a14 b14 a15 b15 a16 b16 a17 b17 a18 b18 a19 b19 a20 b20
    go_wp2_with fail
    go_ret
    exact ⟨rfl, x2⟩
  cases h5 : (ulimit == vlimit)
  · clear hpl heA hgu
    clear a14 b14 a15 b15 a16 b16 a17 b17 a18 b18 a19 b19 a20 b20
    go_wp2_with fail
    go_ret
    exact ⟨rfl, x2⟩
  cases h14 : (urdn == vrdn)
  · clear hpl heA hgu
    clear a15 b15 a16 b16 a17 b17 a18 b18 a19 b19 a20 b20
    go_wp2_with fail
    go_ret
    exact ⟨rfl, x2⟩
  cases h15 : (ukeep == vkeep)
  · clear hpl heA hgu
    clear a16 b16 a17 b17 a18 b18 a19 b19 a20 b20
    go_wp2_with fail
    go_ret
    exact ⟨rfl, x2⟩
  cases h16 : (uabove == vabove)
  · clear hpl heA hgu
    clear a17 b17 a18 b18 a19 b19 a20 b20
    go_wp2_with fail
    go_ret
    exact ⟨rfl, x2⟩
  cases h17 : (uup == vup)
  · clear hpl heA hgu
    clear a18 b18 a19 b19 a20 b20
    go_wp2_with fail
    go_ret
    exact ⟨rfl, x2⟩
  cases YA
  · clear hpl
    clear a20 b20
    go_wp2_with fail
    go_ret
    exact ⟨rfl, x2⟩
  cases h20 : (uwhich == vwhich)
  · clear hpl
    go_wp2_with fail
    go_ret
    exact ⟨rfl, x2⟩
  have := hpl.out
  rw [h0, h1, h2, h3, h4, h5, h14, h15, h16, h17, h20] at this
  cases this
end Go.Proofs.YtoockogceobfgaaGreat
