/- msg: the document's Is, Encode. -/
import Derived.Test.YtoockogceobfgaaGreatMgQa
import Derived.Test.YtoockogceobfgaaGreatMgRcm
import Derived.Deep.RegionHeld3
import Derived.Deep.MidRow
namespace Go.Proofs.YtoockogceobfgaaGreat
open Go.RowKit
set_option maxRecDepth 100000

theorem wpList_load_mid_on {P : Program} {ops : Array Oper} {rest : List Oper} {op : Oper} {a : Act} {w : World} {Q : Exit → Act → World → Prop} (hw : Region.wanted op (yielded ops a.tmps) = true) (ty : TypeId) (x : Operand) (ho : op.op = .load ty x)
    (b o : Nat) (hx : a.eval x = .pointer (some ⟨b, o, none⟩)) (cs : List Value) (d : TypeDesc) (hc : w.rangeAt b o cs)
    (hu : P.underlying ty = some d) (hd : d.isRow = true) (hi : (P.info? ty).map (·.size) = some cs.length)
    (h : wpList P ops Q rest (a.put op.dst (.agg cs.toArray)) w) : wpList P ops Q (op :: rest) a w :=
  wpList_step fun K hK => by rw [if_pos hw]; exact wp_load_mid ty x ho b o hx cs d hc hu hd hi (hK _ _ h)
set_option maxHeartbeats 32000000 in
theorem rIs25_any {n : Nat} {w : World} {r : Rq} {A0 A1 A2 A3 A4 : Option Addr} {A0n A0c A1n A1c A2n A2c A3n A3c A4n A4c : Nat} (h : RqAt n w r (.slice A0 A0n A0c) (.slice A1 A1n A1c) (.slice A2 A2n A2c) (.slice A3 A3n A3c) (.slice A4 A4n A4c)) (hmd : ∀ m ∈ r.mods, -9223372036854775808 ≤ m.kind ∧ m.kind ≤ 9223372036854775807) (hn0 : -9223372036854775808 ≤ r.num) (hn1 : r.num ≤ 9223372036854775807) (hnod : nodesN n r.fil ≤ 1000000) (hk : isOp r.kind → listsQ r = true → (r.kind = 3 → isN n r.fil = true) → sameQ n r (bareQ r) = true → RFit r ∧ (r.kind = 3 → KrN n r.fil) ∧ (reqB n r).length ≤ 65536) :
    Calls Tryz.prog 14 #[.agg #[.int .i64 r.num, .int .i64 r.kind, sv r.dn, sv r.pass, .int .i64 r.scope, .int .i64 r.limit, .int .i64 r.fil.kind, sv r.fil.typ, sv r.fil.val, .slice A0 A0n A0c, .slice A1 A1n A1c, .slice A2 A2n A2c, .slice A3 A3n A3c, .slice A4 A4n A4c, sv r.rdn, .bool r.keep, .bool r.above, sv r.up, sv r.avt, sv r.avv, .int .i64 r.which]] w fun e w' => e = .returned (.bool (rmayQ n r)) ∧ Ext w w' := by
  obtain ⟨M, hM⟩ : ∃ M, M = rmayQ n r := ⟨_, rfl⟩
  rw [← hM]
  unfold rmayQ at hM
  have hno : ¬ (isOp r.kind ∧ 1 ≤ r.num ∧ r.num ≤ 2147483647 ∧ 0 ≤ r.scope ∧ r.scope ≤ 2 ∧ 0 ≤ r.limit ∧ r.limit ≤ 2147483647 ∧ 0 ≤ r.which ∧ r.which ≤ 2147483647) → M = false := fun g => by rw [hM, dfalse g]; rfl
  obtain ⟨w1, hw1⟩ : ∃ x, x = w.alloc (.cells #[.int .i64 r.num, .int .i64 r.kind, sv r.dn, sv r.pass, .int .i64 r.scope, .int .i64 r.limit, .int .i64 r.fil.kind, sv r.fil.typ, sv r.fil.val, .slice A0 A0n A0c, .slice A1 A1n A1c, .slice A2 A2n A2c, .slice A3 A3n A3c, .slice A4 A4n A4c, sv r.rdn, .bool r.keep, .bool r.above, sv r.up, sv r.avt, sv r.avv, .int .i64 r.which] 32) := ⟨_, rfl⟩
  obtain ⟨p, hp⟩ : ∃ p, p = w.heap.size := ⟨_, rfl⟩
  have x1 : Ext w w1 := by rw [hw1]; exact (Mod.refl _ w).alloc _
  have BP : Blk w1 p 32 #[.int .i64 r.num, .int .i64 r.kind, sv r.dn, sv r.pass, .int .i64 r.scope, .int .i64 r.limit, .int .i64 r.fil.kind, sv r.fil.typ, sv r.fil.val, .slice A0 A0n A0c, .slice A1 A1n A1c, .slice A2 A2n A2c, .slice A3 A3n A3c, .slice A4 A4n A4c, sv r.rdn, .bool r.keep, .bool r.above, sv r.up, sv r.avt, sv r.avv, .int .i64 r.which] := by rw [hw1, hp]; exact Blk.new w _ _
  have p0 : w1.cell? ⟨p, 0, none⟩ = some (.int .i64 r.num) := BP.cell 0
  have p1 : w1.cell? ⟨p, 1, none⟩ = some (.int .i64 r.kind) := BP.cell 1
  have p4 : w1.cell? ⟨p, 4, none⟩ = some (.int .i64 r.scope) := BP.cell 4
  have p5 : w1.cell? ⟨p, 5, none⟩ = some (.int .i64 r.limit) := BP.cell 5
  have p20 : w1.cell? ⟨p, 20, none⟩ = some (.int .i64 r.which) := BP.cell 20
  have hcc : ∀ {wx : World}, Ext w1 wx → wx.cell? ⟨p, 1, none⟩ = some (.int .i64 r.kind) ∧ wx.cell? ⟨p, 6, none⟩ = some (.int .i64 r.fil.kind) ∧ wx.cell? ⟨p, 7, none⟩ = some (sv r.fil.typ) ∧ wx.cell? ⟨p, 8, none⟩ = some (sv r.fil.val) ∧ wx.cell? ⟨p, 9, none⟩ = some (.slice A0 A0n A0c) ∧ wx.cell? ⟨p, 10, none⟩ = some (.slice A1 A1n A1c) ∧ wx.cell? ⟨p, 16, none⟩ = some (.bool r.above) ∧ wx.cell? ⟨p, 17, none⟩ = some (sv r.up) ∧ wx.rangeAt p 0 [.int .i64 r.num, .int .i64 r.kind, sv r.dn, sv r.pass, .int .i64 r.scope, .int .i64 r.limit, .int .i64 r.fil.kind, sv r.fil.typ, sv r.fil.val, .slice A0 A0n A0c, .slice A1 A1n A1c, .slice A2 A2n A2c, .slice A3 A3n A3c, .slice A4 A4n A4c, sv r.rdn, .bool r.keep, .bool r.above, sv r.up, sv r.avt, sv r.avv, .int .i64 r.which] :=
    fun x => ⟨(BP.mod x (fun h => h)).cell 1, (BP.mod x (fun h => h)).cell 6, (BP.mod x (fun h => h)).cell 7, (BP.mod x (fun h => h)).cell 8, (BP.mod x (fun h => h)).cell 9, (BP.mod x (fun h => h)).cell 10, (BP.mod x (fun h => h)).cell 16, (BP.mod x (fun h => h)).cell 17, fun j v hj => by rw [Nat.zero_add, (BP.mod x (fun h => h)).cell]; simpa using hj⟩
  have BPx : ∀ {wx : World}, Ext w1 wx → Blk wx p 32 #[.int .i64 r.num, .int .i64 r.kind, sv r.dn, sv r.pass, .int .i64 r.scope, .int .i64 r.limit, .int .i64 r.fil.kind, sv r.fil.typ, sv r.fil.val, .slice A0 A0n A0c, .slice A1 A1n A1c, .slice A2 A2n A2c, .slice A3 A3n A3c, .slice A4 A4n A4c, sv r.rdn, .bool r.keep, .bool r.above, sv r.up, sv r.avt, sv r.avv, .int .i64 r.which] := fun x => BP.mod x (fun h => h)
  have hrg : w1.rangeAt p 0 [.int .i64 r.num, .int .i64 r.kind, sv r.dn, sv r.pass, .int .i64 r.scope, .int .i64 r.limit, .int .i64 r.fil.kind, sv r.fil.typ, sv r.fil.val, .slice A0 A0n A0c, .slice A1 A1n A1c, .slice A2 A2n A2c, .slice A3 A3n A3c, .slice A4 A4n A4c, sv r.rdn, .bool r.keep, .bool r.above, sv r.up, sv r.avt, sv r.avv, .int .i64 r.which] := ((hcc (Mod.refl _ w1)).2.2.2.2.2.2.2.2)
  have hkind := rkind25_any (w := w1) r.kind
  replace hw1 := Lib.hid hw1
  replace hp := Lib.hid hp
  by_cases ho : isOp r.kind
  rotate_left
  · have hr : Hid (M = false) := Lib.hid (hno (fun h => ho h.1))
    rw [dfalse ho] at hkind
    clear hM hno hk hcc BPx BP hrg
    go_enter Tryz.func14, Tryz.ntmps14
    go_upto_region 1 with fail
    rw [← hw1.out, ← hp.out]
    clear hw1 hp
    go_wp2_with fail
    refine hkind.mono ?_
    rintro e w2 ⟨rfl, rfl⟩
    go_wp2_with fail
    go_ret
    exact ⟨by rw [hr.out]; rfl, x1⟩
  rw [dtrue ho] at hkind
  by_cases g0 : 1 ≤ r.num
  rotate_left
  · have hr : Hid (M = false) := Lib.hid (hno (fun h => g0 h.2.1))
    have d0 : decide (r.num < 1) = true := dtrue (by omega)
    clear hM hno hk hcc BPx BP hrg ho g0
    go_enter Tryz.func14, Tryz.ntmps14
    go_upto_region 1 with fail
    rw [← hw1.out, ← hp.out]
    clear hw1 hp
    go_wp2_with fail
    refine hkind.mono ?_
    rintro e w2 ⟨rfl, rfl⟩
    go_wp2_with fail
    go_ret
    exact ⟨by rw [hr.out]; rfl, x1⟩
  have d0 : decide (r.num < 1) = false := dfalse (by omega)
  by_cases g1 : r.num ≤ 2147483647
  rotate_left
  · have hr : Hid (M = false) := Lib.hid (hno (fun h => g1 h.2.2.1))
    have d1 : decide (r.num > 2147483647) = true := dtrue (by omega)
    have d1' : decide (2147483647 < r.num) = true := dtrue (by omega)
    clear hM hno hk hcc BPx BP hrg ho g0 g1
    go_enter Tryz.func14, Tryz.ntmps14
    go_upto_region 1 with fail
    rw [← hw1.out, ← hp.out]
    clear hw1 hp
    go_wp2_with fail
    refine hkind.mono ?_
    rintro e w2 ⟨rfl, rfl⟩
    go_wp2_with fail
    go_ret
    exact ⟨by rw [hr.out]; rfl, x1⟩
  have d1 : decide (r.num > 2147483647) = false := dfalse (by omega)
  have d1' : decide (2147483647 < r.num) = false := dfalse (by omega)
  by_cases g2 : 0 ≤ r.scope
  rotate_left
  · have hr : Hid (M = false) := Lib.hid (hno (fun h => g2 h.2.2.2.1))
    have d2 : decide (r.scope < 0) = true := dtrue (by omega)
    clear hM hno hk hcc BPx BP hrg ho g0 g1 g2
    go_enter Tryz.func14, Tryz.ntmps14
    go_upto_region 1 with fail
    rw [← hw1.out, ← hp.out]
    clear hw1 hp
    go_wp2_with fail
    refine hkind.mono ?_
    rintro e w2 ⟨rfl, rfl⟩
    go_wp2_with fail
    go_ret
    exact ⟨by rw [hr.out]; rfl, x1⟩
  have d2 : decide (r.scope < 0) = false := dfalse (by omega)
  by_cases g3 : r.scope ≤ 2
  rotate_left
  · have hr : Hid (M = false) := Lib.hid (hno (fun h => g3 h.2.2.2.2.1))
    have d3 : decide (r.scope > 2) = true := dtrue (by omega)
    have d3' : decide (2 < r.scope) = true := dtrue (by omega)
    clear hM hno hk hcc BPx BP hrg ho g0 g1 g2 g3
    go_enter Tryz.func14, Tryz.ntmps14
    go_upto_region 1 with fail
    rw [← hw1.out, ← hp.out]
    clear hw1 hp
    go_wp2_with fail
    refine hkind.mono ?_
    rintro e w2 ⟨rfl, rfl⟩
    go_wp2_with fail
    go_ret
    exact ⟨by rw [hr.out]; rfl, x1⟩
  have d3 : decide (r.scope > 2) = false := dfalse (by omega)
  have d3' : decide (2 < r.scope) = false := dfalse (by omega)
  by_cases g4 : 0 ≤ r.limit
  rotate_left
  · have hr : Hid (M = false) := Lib.hid (hno (fun h => g4 h.2.2.2.2.2.1))
    have d4 : decide (r.limit < 0) = true := dtrue (by omega)
    clear hM hno hk hcc BPx BP hrg ho g0 g1 g2 g3 g4
    go_enter Tryz.func14, Tryz.ntmps14
    go_upto_region 1 with fail
    rw [← hw1.out, ← hp.out]
    clear hw1 hp
    go_wp2_with fail
    refine hkind.mono ?_
    rintro e w2 ⟨rfl, rfl⟩
    go_wp2_with fail
    go_ret
    exact ⟨by rw [hr.out]; rfl, x1⟩
  have d4 : decide (r.limit < 0) = false := dfalse (by omega)
  by_cases g5 : r.limit ≤ 2147483647
  rotate_left
  · have hr : Hid (M = false) := Lib.hid (hno (fun h => g5 h.2.2.2.2.2.2.1))
    have d5 : decide (r.limit > 2147483647) = true := dtrue (by omega)
    have d5' : decide (2147483647 < r.limit) = true := dtrue (by omega)
    clear hM hno hk hcc BPx BP hrg ho g0 g1 g2 g3 g4 g5
    go_enter Tryz.func14, Tryz.ntmps14
    go_upto_region 1 with fail
    rw [← hw1.out, ← hp.out]
    clear hw1 hp
    go_wp2_with fail
    refine hkind.mono ?_
    rintro e w2 ⟨rfl, rfl⟩
    go_wp2_with fail
    go_ret
    exact ⟨by rw [hr.out]; rfl, x1⟩
  have d5 : decide (r.limit > 2147483647) = false := dfalse (by omega)
  have d5' : decide (2147483647 < r.limit) = false := dfalse (by omega)
  by_cases g6 : 0 ≤ r.which
  rotate_left
  · have hr : Hid (M = false) := Lib.hid (hno (fun h => g6 h.2.2.2.2.2.2.2.1))
    have d6 : decide (r.which < 0) = true := dtrue (by omega)
    clear hM hno hk hcc BPx BP hrg ho g0 g1 g2 g3 g4 g5 g6
    go_enter Tryz.func14, Tryz.ntmps14
    go_upto_region 1 with fail
    rw [← hw1.out, ← hp.out]
    clear hw1 hp
    go_wp2_with fail
    refine hkind.mono ?_
    rintro e w2 ⟨rfl, rfl⟩
    go_wp2_with fail
    go_ret
    exact ⟨by rw [hr.out]; rfl, x1⟩
  have d6 : decide (r.which < 0) = false := dfalse (by omega)
  by_cases g7 : r.which ≤ 2147483647
  rotate_left
  · have hr : Hid (M = false) := Lib.hid (hno (fun h => g7 h.2.2.2.2.2.2.2.2))
    have d7 : decide (r.which > 2147483647) = true := dtrue (by omega)
    have d7' : decide (2147483647 < r.which) = true := dtrue (by omega)
    clear hM hno hk hcc BPx BP hrg ho g0 g1 g2 g3 g4 g5 g6 g7
    go_enter Tryz.func14, Tryz.ntmps14
    go_upto_region 1 with fail
    rw [← hw1.out, ← hp.out]
    clear hw1 hp
    go_wp2_with fail
    refine hkind.mono ?_
    rintro e w2 ⟨rfl, rfl⟩
    go_wp2_with fail
    go_ret
    exact ⟨by rw [hr.out]; rfl, x1⟩
  have d7 : decide (r.which > 2147483647) = false := dfalse (by omega)
  have d7' : decide (2147483647 < r.which) = false := dfalse (by omega)
  have hlists := Lib.hid (rlists25_any (h.ext x1) hmd)
  obtain ⟨L, hL⟩ : ∃ L, L = listsQ r := ⟨_, rfl⟩
  rw [← hL] at hlists hM hk
  replace hM : M = (L && (decide (r.kind = 3 → isN n r.fil = true) && (decide (r.above = false → r.up = []) && (sameQ n r (bareQ r) && decide ((reqB n r).length ≤ 65536))))) := by rw [hM, dtrue ⟨ho, g0, g1, g2, g3, g4, g5, g6, g7⟩]; rfl
  replace hM := Lib.hid hM
  clear hL hno
  cases L
  · have hr : Hid (M = false) := Lib.hid (by rw [hM.out]; rfl)
    clear hM hk hcc BPx ho g0 g1 g2 g3 g4 g5 g6 g7
    go_enter Tryz.func14, Tryz.ntmps14
    go_upto_region 1 with fail
    rw [← hw1.out, ← hp.out]
    clear hw1 hp
    go_wp2_with fail
    refine hkind.mono ?_
    rintro e w2 ⟨rfl, rfl⟩
    go_wp2_with ((with_reducible show wpList _ _ _ (⟨some 48, _, _, _, _, _⟩ :: _) _ _); refine wpList_load_mid_on (by rfl) 32 (.tmp 1) rfl p 0 rfl [.int .i64 r.num, .int .i64 r.kind, sv r.dn, sv r.pass, .int .i64 r.scope, .int .i64 r.limit, .int .i64 r.fil.kind, sv r.fil.typ, sv r.fil.val, .slice A0 A0n A0c, .slice A1 A1n A1c, .slice A2 A2n A2c, .slice A3 A3n A3c, .slice A4 A4n A4c, sv r.rdn, .bool r.keep, .bool r.above, sv r.up, sv r.avt, sv r.avv, .int .i64 r.which] _ hrg Tryz.underlying32 rfl (by kernel_rfl) ?_)
    refine hlists.out.mono ?_
    rintro e w3 ⟨rfl, x3⟩
    go_wp2_with fail
    go_ret
    exact ⟨by rw [hr.out]; rfl, ext_trans x1 x3⟩
  have hM2 : Hid (M = (decide (r.kind = 3 → isN n r.fil = true) && (decide (r.above = false → r.up = []) && (sameQ n r (bareQ r) && decide ((reqB n r).length ≤ 65536))))) := Lib.hid (by rw [hM.out]; rfl)
  clear hM
  go_enter Tryz.func14, Tryz.ntmps14
  go_upto_region 1 with fail
  rw [← hw1.out, ← hp.out]
  clear hw1 hp
  go_wp2_with fail
  refine hkind.mono ?_
  rintro e w2 ⟨rfl, rfl⟩
  go_wp2_with ((with_reducible show wpList _ _ _ (⟨some 48, _, _, _, _, _⟩ :: _) _ _); refine wpList_load_mid_on (by rfl) 32 (.tmp 1) rfl p 0 rfl [.int .i64 r.num, .int .i64 r.kind, sv r.dn, sv r.pass, .int .i64 r.scope, .int .i64 r.limit, .int .i64 r.fil.kind, sv r.fil.typ, sv r.fil.val, .slice A0 A0n A0c, .slice A1 A1n A1c, .slice A2 A2n A2c, .slice A3 A3n A3c, .slice A4 A4n A4c, sv r.rdn, .bool r.keep, .bool r.above, sv r.up, sv r.avt, sv r.avv, .int .i64 r.which] _ hrg Tryz.underlying32 rfl (by kernel_rfl) ?_)
  refine hlists.out.mono ?_
  rintro e w3 ⟨rfl, x3⟩
  have z3' := ext_trans x1 x3
  clear hrg hlists hkind p0 p1 p4 p5 p20 BP g0 d0 g1 d1 g2 d2 g3 d3 g4 d4 g5 d5 g6 d6 g7 d7 d1' d3' d5' d7'
  go_upto_region 3 with fail
  have z0 := x3.drew
  have z0' := z3'.drew
  have hI := rIsF_any (h.fil.ext z0') hnod
  obtain ⟨I, hI2⟩ : ∃ I, I = isN n r.fil := ⟨_, rfl⟩
  rw [← hI2] at hI hM2 hk
  clear hI2
  obtain ⟨Sq, hSq⟩ : ∃ S, S = sameQ n r (bareQ r) := ⟨_, rfl⟩
  rw [← hSq] at hM2 hk
  replace hSq := Lib.hid hSq
  replace hk := Lib.hid hk
  refine wp_region_held_drew (S := fun wx => wx.cell? ⟨p, 1, none⟩ = some (.int .i64 r.kind) ∧ wx.cell? ⟨p, 6, none⟩ = some (.int .i64 r.fil.kind) ∧ wx.cell? ⟨p, 7, none⟩ = some (sv r.fil.typ) ∧ wx.cell? ⟨p, 8, none⟩ = some (sv r.fil.val) ∧ wx.cell? ⟨p, 9, none⟩ = some (.slice A0 A0n A0c) ∧ wx.cell? ⟨p, 10, none⟩ = some (.slice A1 A1n A1c) ∧ wx.cell? ⟨p, 16, none⟩ = some (.bool r.above) ∧ wx.cell? ⟨p, 17, none⟩ = some (sv r.up) ∧ wx.rangeAt p 0 [.int .i64 r.num, .int .i64 r.kind, sv r.dn, sv r.pass, .int .i64 r.scope, .int .i64 r.limit, .int .i64 r.fil.kind, sv r.fil.typ, sv r.fil.val, .slice A0 A0n A0c, .slice A1 A1n A1c, .slice A2 A2n A2c, .slice A3 A3n A3c, .slice A4 A4n A4c, sv r.rdn, .bool r.keep, .bool r.above, sv r.up, sv r.avt, sv r.avv, .int .i64 r.which]) (by kernel_rfl) (hcc z0) (fun hH => ?_)
  by_cases hk3 : r.kind = 3
  · have hb3 : (r.kind == 3) = true := beq_iff_eq.2 hk3
    replace hk3 := Lib.hid hk3
    (refine wpAnyH_take (i := 0) (oi := ⟨_, _, _, _, _, _⟩) (v := ?_) rfl (by kernel_rfl) (by kernel_rfl) (by kernel_rfl) (fun _ _ _ h => h) (Or.inl ⟨by kernel_rfl, ?_⟩) hH ?_; rotate_left; focus (intro wx hSw; obtain ⟨hS0, hS1, hS2, hS3, hS4, hS5, hS6, hS7, -⟩ := hSw; go_simp; try with_reducible rfl)); try simp only [Act.put, List.setIfInBounds_toArray, List.set_cons_zero, List.set_cons_succ]; try simp only [List.getElem_toArray, List.getElem_cons_succ, List.getElem_cons_zero]
    (refine wpAnyH_take (i := 1) (oi := ⟨_, _, _, _, _, _⟩) (v := ?_) rfl (by kernel_rfl) (by kernel_rfl) (by kernel_rfl) (fun _ _ _ h => h) (Or.inl ⟨by kernel_rfl, ?_⟩) hH ?_; rotate_left; focus (intro wx hSw; obtain ⟨hS0, hS1, hS2, hS3, hS4, hS5, hS6, hS7, -⟩ := hSw; go_simp; try with_reducible rfl)); try simp only [Act.put, List.setIfInBounds_toArray, List.set_cons_zero, List.set_cons_succ]; try simp only [List.getElem_toArray, List.getElem_cons_succ, List.getElem_cons_zero]
    (refine wpAnyH_take (i := 2) (oi := ⟨_, _, _, _, _, _⟩) (v := ?_) rfl (by kernel_rfl) (by kernel_rfl) (by kernel_rfl) (fun _ _ _ h => h) (Or.inl ⟨by kernel_rfl, ?_⟩) hH ?_; rotate_left; focus (intro wx hSw; obtain ⟨hS0, hS1, hS2, hS3, hS4, hS5, hS6, hS7, -⟩ := hSw; go_simp; try with_reducible rfl)); try simp only [Act.put, List.setIfInBounds_toArray, List.set_cons_zero, List.set_cons_succ]; try simp only [List.getElem_toArray, List.getElem_cons_succ, List.getElem_cons_zero]
    (refine wpAnyH_take (i := 3) (oi := ⟨_, _, _, _, _, _⟩) (v := ?_) rfl (by kernel_rfl) (by kernel_rfl) (by kernel_rfl) (fun _ _ _ h => h) (Or.inl ⟨by kernel_rfl, ?_⟩) hH ?_; rotate_left; focus (intro wx hSw; obtain ⟨hS0, hS1, hS2, hS3, hS4, hS5, hS6, hS7, -⟩ := hSw; go_simp; try with_reducible rfl)); try simp only [Act.put, List.setIfInBounds_toArray, List.set_cons_zero, List.set_cons_succ]; try simp only [List.getElem_toArray, List.getElem_cons_succ, List.getElem_cons_zero]
    (refine wpAnyH_take (i := 4) (oi := ⟨_, _, _, _, _, _⟩) (v := ?_) rfl (by kernel_rfl) (by kernel_rfl) (by kernel_rfl) (fun _ _ _ h => h) (Or.inl ⟨by kernel_rfl, ?_⟩) hH ?_; rotate_left; focus (intro wx hSw; obtain ⟨hS0, hS1, hS2, hS3, hS4, hS5, hS6, hS7, -⟩ := hSw; go_simp; try with_reducible rfl)); try simp only [Act.put, List.setIfInBounds_toArray, List.set_cons_zero, List.set_cons_succ]; try simp only [List.getElem_toArray, List.getElem_cons_succ, List.getElem_cons_zero]
    (refine wpAnyH_take (i := 5) (oi := ⟨_, _, _, _, _, _⟩) (v := ?_) rfl (by kernel_rfl) (by kernel_rfl) (by kernel_rfl) (fun _ _ _ h => h) (Or.inl ⟨by kernel_rfl, ?_⟩) hH ?_; rotate_left; focus (intro wx hSw; obtain ⟨hS0, hS1, hS2, hS3, hS4, hS5, hS6, hS7, -⟩ := hSw; go_simp; try with_reducible rfl)); try simp only [Act.put, List.setIfInBounds_toArray, List.set_cons_zero, List.set_cons_succ]; try simp only [List.getElem_toArray, List.getElem_cons_succ, List.getElem_cons_zero]
    (refine wpAnyH_ready (rs := [6]) (by kernel_rfl) (by simp) ?_; refine AllReadyH.cons rfl (fun K' hK => ?_) AllReadyH.nil); go_simp
    refine hI.mono ?_
    rintro e9 w9 ⟨rfl, x9⟩
    have y1 := ext_trans z0 x9
    have y1' := ext_trans z0' x9
    (go_wp2_with fail; refine hK.out _ _ (hcc y1) (fun hH => ?_); clear hK K'; try simp only [Act.put, List.setIfInBounds_toArray, List.set_cons_zero, List.set_cons_succ]; try simp only [List.getElem_toArray, List.getElem_cons_succ, List.getElem_cons_zero])
    cases I
    · have hr : Hid (M = false) := Lib.hid (by rw [hM2.out, dfalse (show ¬ (r.kind = 3 → false = true) from fun g => absurd (g hk3.out) (by decide))]; rfl)
      clear hM2 hk hI
      (refine wpAnyH_take (i := 7) (oi := ⟨_, _, _, _, _, _⟩) (v := ?_) rfl (by kernel_rfl) (by kernel_rfl) (by kernel_rfl) (fun _ _ _ h => h) (Or.inl ⟨by kernel_rfl, ?_⟩) hH ?_; rotate_left; focus (intro wx hSw; obtain ⟨hS0, hS1, hS2, hS3, hS4, hS5, hS6, hS7, -⟩ := hSw; go_simp; try with_reducible rfl)); try simp only [Act.put, List.setIfInBounds_toArray, List.set_cons_zero, List.set_cons_succ]; try simp only [List.getElem_toArray, List.getElem_cons_succ, List.getElem_cons_zero]
      (refine wpAnyH_take (i := 8) (oi := ⟨_, _, _, _, _, _⟩) (v := ?_) rfl (by kernel_rfl) (by kernel_rfl) (by kernel_rfl) (fun _ _ _ h => h) (Or.inl ⟨by kernel_rfl, ?_⟩) hH ?_; rotate_left; focus (intro wx hSw; obtain ⟨hS0, hS1, hS2, hS3, hS4, hS5, hS6, hS7, -⟩ := hSw; go_simp; try with_reducible rfl)); try simp only [Act.put, List.setIfInBounds_toArray, List.set_cons_zero, List.set_cons_succ]; try simp only [List.getElem_toArray, List.getElem_cons_succ, List.getElem_cons_zero]
      (refine wpAnyH_take (i := 9) (oi := ⟨_, _, _, _, _, _⟩) (v := ?_) rfl (by kernel_rfl) (by kernel_rfl) (by kernel_rfl) (fun _ _ _ h => h) (Or.inl ⟨by kernel_rfl, ?_⟩) hH ?_; rotate_left; focus (intro wx hSw; obtain ⟨hS0, hS1, hS2, hS3, hS4, hS5, hS6, hS7, -⟩ := hSw; go_simp; try with_reducible rfl)); try simp only [Act.put, List.setIfInBounds_toArray, List.set_cons_zero, List.set_cons_succ]; try simp only [List.getElem_toArray, List.getElem_cons_succ, List.getElem_cons_zero]
      (refine wpAnyH_take (i := 10) (oi := ⟨_, _, _, _, _, _⟩) (v := undef) rfl (by kernel_rfl) (by kernel_rfl) (by kernel_rfl) (fun _ _ _ h => h) (Or.inr ⟨by kernel_rfl, rfl⟩) hH ?_); try simp only [Act.put, List.setIfInBounds_toArray, List.set_cons_zero, List.set_cons_succ]; try simp only [List.getElem_toArray, List.getElem_cons_succ, List.getElem_cons_zero]
      (refine wpAnyH_take (i := 11) (oi := ⟨_, _, _, _, _, _⟩) (v := undef) rfl (by kernel_rfl) (by kernel_rfl) (by kernel_rfl) (fun _ _ _ h => h) (Or.inr ⟨by kernel_rfl, rfl⟩) hH ?_); try simp only [Act.put, List.setIfInBounds_toArray, List.set_cons_zero, List.set_cons_succ]; try simp only [List.getElem_toArray, List.getElem_cons_succ, List.getElem_cons_zero]
      (refine wpAnyH_take (i := 12) (oi := ⟨_, _, _, _, _, _⟩) (v := undef) rfl (by kernel_rfl) (by kernel_rfl) (by kernel_rfl) (fun _ _ _ h => h) (Or.inr ⟨by kernel_rfl, rfl⟩) hH ?_); try simp only [Act.put, List.setIfInBounds_toArray, List.set_cons_zero, List.set_cons_succ]; try simp only [List.getElem_toArray, List.getElem_cons_succ, List.getElem_cons_zero]
      (refine wpAnyH_take (i := 13) (oi := ⟨_, _, _, _, _, _⟩) (v := undef) rfl (by kernel_rfl) (by kernel_rfl) (by kernel_rfl) (fun _ _ _ h => h) (Or.inr ⟨by kernel_rfl, rfl⟩) hH ?_); try simp only [Act.put, List.setIfInBounds_toArray, List.set_cons_zero, List.set_cons_succ]; try simp only [List.getElem_toArray, List.getElem_cons_succ, List.getElem_cons_zero]
      (refine wpAnyH_take (i := 14) (oi := ⟨_, _, _, _, _, _⟩) (v := undef) rfl (by kernel_rfl) (by kernel_rfl) (by kernel_rfl) (fun _ _ _ h => h) (Or.inr ⟨by kernel_rfl, rfl⟩) hH ?_); try simp only [Act.put, List.setIfInBounds_toArray, List.set_cons_zero, List.set_cons_succ]; try simp only [List.getElem_toArray, List.getElem_cons_succ, List.getElem_cons_zero]
      (refine wpAnyH_take (i := 15) (oi := ⟨_, _, _, _, _, _⟩) (v := undef) rfl (by kernel_rfl) (by kernel_rfl) (by kernel_rfl) (fun _ _ _ h => h) (Or.inr ⟨by kernel_rfl, rfl⟩) hH ?_); try simp only [Act.put, List.setIfInBounds_toArray, List.set_cons_zero, List.set_cons_succ]; try simp only [List.getElem_toArray, List.getElem_cons_succ, List.getElem_cons_zero]
      (refine wpAnyH_take (i := 16) (oi := ⟨_, _, _, _, _, _⟩) (v := undef) rfl (by kernel_rfl) (by kernel_rfl) (by kernel_rfl) (fun _ _ _ h => h) (Or.inr ⟨by kernel_rfl, rfl⟩) hH ?_); try simp only [Act.put, List.setIfInBounds_toArray, List.set_cons_zero, List.set_cons_succ]; try simp only [List.getElem_toArray, List.getElem_cons_succ, List.getElem_cons_zero]
      (refine wpAnyH_take (i := 17) (oi := ⟨_, _, _, _, _, _⟩) (v := undef) rfl (by kernel_rfl) (by kernel_rfl) (by kernel_rfl) (fun _ _ _ h => h) (Or.inr ⟨by kernel_rfl, rfl⟩) hH ?_); try simp only [Act.put, List.setIfInBounds_toArray, List.set_cons_zero, List.set_cons_succ]; try simp only [List.getElem_toArray, List.getElem_cons_succ, List.getElem_cons_zero]
      (refine wpAnyH_take (i := 18) (oi := ⟨_, _, _, _, _, _⟩) (v := ?_) rfl (by kernel_rfl) (by kernel_rfl) (by kernel_rfl) (fun _ _ _ h => h) (Or.inl ⟨by kernel_rfl, ?_⟩) hH ?_; rotate_left; focus (intro wx hSw; obtain ⟨hS0, hS1, hS2, hS3, hS4, hS5, hS6, hS7, -⟩ := hSw; go_simp; try with_reducible rfl)); try simp only [Act.put, List.setIfInBounds_toArray, List.set_cons_zero, List.set_cons_succ]; try simp only [List.getElem_toArray, List.getElem_cons_succ, List.getElem_cons_zero]
      (refine wpAnyH_take (i := 19) (oi := ⟨_, _, _, _, _, _⟩) (v := ?_) rfl (by kernel_rfl) (by kernel_rfl) (by kernel_rfl) (fun _ _ _ h => h) (Or.inl ⟨by kernel_rfl, ?_⟩) hH ?_; rotate_left; focus (intro wx hSw; obtain ⟨hS0, hS1, hS2, hS3, hS4, hS5, hS6, hS7, -⟩ := hSw; go_simp; try with_reducible rfl)); try simp only [Act.put, List.setIfInBounds_toArray, List.set_cons_zero, List.set_cons_succ]; try simp only [List.getElem_toArray, List.getElem_cons_succ, List.getElem_cons_zero]
      (refine wpAnyH_take (i := 20) (oi := ⟨_, _, _, _, _, _⟩) (v := undef) rfl (by kernel_rfl) (by kernel_rfl) (by kernel_rfl) (fun _ _ _ h => h) (Or.inr ⟨by kernel_rfl, rfl⟩) hH ?_); try simp only [Act.put, List.setIfInBounds_toArray, List.set_cons_zero, List.set_cons_succ]; try simp only [List.getElem_toArray, List.getElem_cons_succ, List.getElem_cons_zero]
      (refine wpAnyH_take (i := 21) (oi := ⟨_, _, _, _, _, _⟩) (v := undef) rfl (by kernel_rfl) (by kernel_rfl) (by kernel_rfl) (fun _ _ _ h => h) (Or.inr ⟨by kernel_rfl, rfl⟩) hH ?_); try simp only [Act.put, List.setIfInBounds_toArray, List.set_cons_zero, List.set_cons_succ]; try simp only [List.getElem_toArray, List.getElem_cons_succ, List.getElem_cons_zero]
      (refine wpAnyH_take (i := 22) (oi := ⟨_, _, _, _, _, _⟩) (v := undef) rfl (by kernel_rfl) (by kernel_rfl) (by kernel_rfl) (fun _ _ _ h => h) (Or.inr ⟨by kernel_rfl, rfl⟩) hH ?_); try simp only [Act.put, List.setIfInBounds_toArray, List.set_cons_zero, List.set_cons_succ]; try simp only [List.getElem_toArray, List.getElem_cons_succ, List.getElem_cons_zero]
      (refine wpAnyH_take (i := 23) (oi := ⟨_, _, _, _, _, _⟩) (v := undef) rfl (by kernel_rfl) (by kernel_rfl) (by kernel_rfl) (fun _ _ _ h => h) (Or.inr ⟨by kernel_rfl, rfl⟩) hH ?_); try simp only [Act.put, List.setIfInBounds_toArray, List.set_cons_zero, List.set_cons_succ]; try simp only [List.getElem_toArray, List.getElem_cons_succ, List.getElem_cons_zero]
      (refine wpAnyH_take (i := 24) (oi := ⟨_, _, _, _, _, _⟩) (v := undef) rfl (by kernel_rfl) (by kernel_rfl) (by kernel_rfl) (fun _ _ _ h => h) (Or.inr ⟨by kernel_rfl, rfl⟩) hH ?_); try simp only [Act.put, List.setIfInBounds_toArray, List.set_cons_zero, List.set_cons_succ]; try simp only [List.getElem_toArray, List.getElem_cons_succ, List.getElem_cons_zero]
      (refine wpAnyH_take (i := 25) (oi := ⟨_, _, _, _, _, _⟩) (v := ?_) rfl (by kernel_rfl) (by kernel_rfl) (by kernel_rfl) (fun _ _ _ h => h) (Or.inl ⟨by kernel_rfl, ?_⟩) hH ?_; rotate_left; focus (intro wx hSw; obtain ⟨hS0, hS1, hS2, hS3, hS4, hS5, hS6, hS7, -⟩ := hSw; go_simp; try with_reducible rfl)); try simp only [Act.put, List.setIfInBounds_toArray, List.set_cons_zero, List.set_cons_succ]; try simp only [List.getElem_toArray, List.getElem_cons_succ, List.getElem_cons_zero]
      refine wpAnyH_done (by kernel_rfl) ?_ _
      clear hH hcc BPx
      go_wp2_with fail
      go_ret
      exact ⟨by rw [hr.out]; rfl, y1'⟩
    (refine wpAnyH_take (i := 7) (oi := ⟨_, _, _, _, _, _⟩) (v := ?_) rfl (by kernel_rfl) (by kernel_rfl) (by kernel_rfl) (fun _ _ _ h => h) (Or.inl ⟨by kernel_rfl, ?_⟩) hH ?_; rotate_left; focus (intro wx hSw; obtain ⟨hS0, hS1, hS2, hS3, hS4, hS5, hS6, hS7, -⟩ := hSw; go_simp; try with_reducible rfl)); try simp only [Act.put, List.setIfInBounds_toArray, List.set_cons_zero, List.set_cons_succ]; try simp only [List.getElem_toArray, List.getElem_cons_succ, List.getElem_cons_zero]
    (refine wpAnyH_take (i := 8) (oi := ⟨_, _, _, _, _, _⟩) (v := ?_) rfl (by kernel_rfl) (by kernel_rfl) (by kernel_rfl) (fun _ _ _ h => h) (Or.inl ⟨by kernel_rfl, ?_⟩) hH ?_; rotate_left; focus (intro wx hSw; obtain ⟨hS0, hS1, hS2, hS3, hS4, hS5, hS6, hS7, -⟩ := hSw; go_simp; try with_reducible rfl)); try simp only [Act.put, List.setIfInBounds_toArray, List.set_cons_zero, List.set_cons_succ]; try simp only [List.getElem_toArray, List.getElem_cons_succ, List.getElem_cons_zero]
    (refine wpAnyH_take (i := 9) (oi := ⟨_, _, _, _, _, _⟩) (v := ?_) rfl (by kernel_rfl) (by kernel_rfl) (by kernel_rfl) (fun _ _ _ h => h) (Or.inl ⟨by kernel_rfl, ?_⟩) hH ?_; rotate_left; focus (intro wx hSw; obtain ⟨hS0, hS1, hS2, hS3, hS4, hS5, hS6, hS7, -⟩ := hSw; go_simp; try with_reducible rfl)); try simp only [Act.put, List.setIfInBounds_toArray, List.set_cons_zero, List.set_cons_succ]; try simp only [List.getElem_toArray, List.getElem_cons_succ, List.getElem_cons_zero]
    (refine wpAnyH_take (i := 10) (oi := ⟨_, _, _, _, _, _⟩) (v := ?_) rfl (by kernel_rfl) (by kernel_rfl) (by kernel_rfl) (fun _ _ _ h => h) (Or.inl ⟨by kernel_rfl, ?_⟩) hH ?_; rotate_left; focus (intro wx hSw; obtain ⟨hS0, hS1, hS2, hS3, hS4, hS5, hS6, hS7, -⟩ := hSw; go_simp; try with_reducible rfl)); try simp only [Act.put, List.setIfInBounds_toArray, List.set_cons_zero, List.set_cons_succ]; try simp only [List.getElem_toArray, List.getElem_cons_succ, List.getElem_cons_zero]
    (refine wpAnyH_take (i := 11) (oi := ⟨_, _, _, _, _, _⟩) (v := ?_) rfl (by kernel_rfl) (by kernel_rfl) (by kernel_rfl) (fun _ _ _ h => h) (Or.inl ⟨by kernel_rfl, ?_⟩) hH ?_; rotate_left; focus (intro wx hSw; obtain ⟨hS0, hS1, hS2, hS3, hS4, hS5, hS6, hS7, -⟩ := hSw; go_simp; try with_reducible rfl)); try simp only [Act.put, List.setIfInBounds_toArray, List.set_cons_zero, List.set_cons_succ]; try simp only [List.getElem_toArray, List.getElem_cons_succ, List.getElem_cons_zero]
    by_cases ha : r.above = false
    · have hna : (!r.above) = true := by rw [ha]; rfl
      replace ha := Lib.hid ha
      (refine wpAnyH_take (i := 12) (oi := ⟨_, _, _, _, _, _⟩) (v := ?_) rfl (by kernel_rfl) (by kernel_rfl) (by kernel_rfl) (fun _ _ _ h => h) (Or.inl ⟨by kernel_rfl, ?_⟩) hH ?_; rotate_left; focus (intro wx hSw; obtain ⟨hS0, hS1, hS2, hS3, hS4, hS5, hS6, hS7, -⟩ := hSw; go_simp; try with_reducible rfl)); try simp only [Act.put, List.setIfInBounds_toArray, List.set_cons_zero, List.set_cons_succ]; try simp only [List.getElem_toArray, List.getElem_cons_succ, List.getElem_cons_zero]
      (refine wpAnyH_take (i := 13) (oi := ⟨_, _, _, _, _, _⟩) (v := ?_) rfl (by kernel_rfl) (by kernel_rfl) (by kernel_rfl) (fun _ _ _ h => h) (Or.inl ⟨by kernel_rfl, ?_⟩) hH ?_; rotate_left; focus (intro wx hSw; obtain ⟨hS0, hS1, hS2, hS3, hS4, hS5, hS6, hS7, -⟩ := hSw; go_simp; try with_reducible rfl)); try simp only [Act.put, List.setIfInBounds_toArray, List.set_cons_zero, List.set_cons_succ]; try simp only [List.getElem_toArray, List.getElem_cons_succ, List.getElem_cons_zero]
      (refine wpAnyH_take (i := 14) (oi := ⟨_, _, _, _, _, _⟩) (v := ?_) rfl (by kernel_rfl) (by kernel_rfl) (by kernel_rfl) (fun _ _ _ h => h) (Or.inl ⟨by kernel_rfl, ?_⟩) hH ?_; rotate_left; focus (intro wx hSw; obtain ⟨hS0, hS1, hS2, hS3, hS4, hS5, hS6, hS7, -⟩ := hSw; go_simp; try with_reducible rfl)); try simp only [Act.put, List.setIfInBounds_toArray, List.set_cons_zero, List.set_cons_succ]; try simp only [List.getElem_toArray, List.getElem_cons_succ, List.getElem_cons_zero]
      (refine wpAnyH_take (i := 15) (oi := ⟨_, _, _, _, _, _⟩) (v := ?_) rfl (by kernel_rfl) (by kernel_rfl) (by kernel_rfl) (fun _ _ _ h => h) (Or.inl ⟨by kernel_rfl, ?_⟩) hH ?_; rotate_left; focus (intro wx hSw; obtain ⟨hS0, hS1, hS2, hS3, hS4, hS5, hS6, hS7, -⟩ := hSw; go_simp; try with_reducible rfl)); try simp only [Act.put, List.setIfInBounds_toArray, List.set_cons_zero, List.set_cons_succ]; try simp only [List.getElem_toArray, List.getElem_cons_succ, List.getElem_cons_zero]
      by_cases hu : r.up = []
      · have hu2 : r.up.isEmpty = true := by simp [hu]
        replace hu := Lib.hid hu
        (refine wpAnyH_take (i := 16) (oi := ⟨_, _, _, _, _, _⟩) (v := ?_) rfl (by kernel_rfl) (by kernel_rfl) (by kernel_rfl) (fun _ _ _ h => h) (Or.inl ⟨by kernel_rfl, ?_⟩) hH ?_; rotate_left; focus (intro wx hSw; obtain ⟨hS0, hS1, hS2, hS3, hS4, hS5, hS6, hS7, -⟩ := hSw; go_simp; try with_reducible rfl)); try simp only [Act.put, List.setIfInBounds_toArray, List.set_cons_zero, List.set_cons_succ]; try simp only [List.getElem_toArray, List.getElem_cons_succ, List.getElem_cons_zero]
        (refine wpAnyH_take (i := 17) (oi := ⟨_, _, _, _, _, _⟩) (v := ?_) rfl (by kernel_rfl) (by kernel_rfl) (by kernel_rfl) (fun _ _ _ h => h) (Or.inl ⟨by kernel_rfl, ?_⟩) hH ?_; rotate_left; focus (intro wx hSw; obtain ⟨hS0, hS1, hS2, hS3, hS4, hS5, hS6, hS7, -⟩ := hSw; go_simp; try with_reducible rfl)); try simp only [Act.put, List.setIfInBounds_toArray, List.set_cons_zero, List.set_cons_succ]; try simp only [List.getElem_toArray, List.getElem_cons_succ, List.getElem_cons_zero]
        (refine wpAnyH_take (i := 18) (oi := ⟨_, _, _, _, _, _⟩) (v := ?_) rfl (by kernel_rfl) (by kernel_rfl) (by kernel_rfl) (fun _ _ _ h => h) (Or.inl ⟨by kernel_rfl, ?_⟩) hH ?_; rotate_left; focus (intro wx hSw; obtain ⟨hS0, hS1, hS2, hS3, hS4, hS5, hS6, hS7, -⟩ := hSw; go_simp; try with_reducible rfl)); try simp only [Act.put, List.setIfInBounds_toArray, List.set_cons_zero, List.set_cons_succ]; try simp only [List.getElem_toArray, List.getElem_cons_succ, List.getElem_cons_zero]
        (refine wpAnyH_take (i := 19) (oi := ⟨_, _, _, _, _, _⟩) (v := ?_) rfl (by kernel_rfl) (by kernel_rfl) (by kernel_rfl) (fun _ _ _ h => h) (Or.inl ⟨by kernel_rfl, ?_⟩) hH ?_; rotate_left; focus (intro wx hSw; obtain ⟨hS0, hS1, hS2, hS3, hS4, hS5, hS6, hS7, -⟩ := hSw; go_simp; try with_reducible rfl)); try simp only [Act.put, List.setIfInBounds_toArray, List.set_cons_zero, List.set_cons_succ]; try simp only [List.getElem_toArray, List.getElem_cons_succ, List.getElem_cons_zero]
        (refine wpAnyH_take (i := 20) (oi := ⟨_, _, _, _, _, _⟩) (v := .agg #[.int .i64 r.num, .int .i64 r.kind, sv r.dn, sv r.pass, .int .i64 r.scope, .int .i64 r.limit, .int .i64 r.fil.kind, sv r.fil.typ, sv r.fil.val, .slice A0 A0n A0c, .slice A1 A1n A1c, .slice A2 A2n A2c, .slice A3 A3n A3c, .slice A4 A4n A4c, sv r.rdn, .bool r.keep, .bool r.above, sv r.up, sv r.avt, sv r.avv, .int .i64 r.which]) rfl (by kernel_rfl) (by kernel_rfl) (by kernel_rfl) (fun _ _ _ h => h) (yieldsIf_load_mid (by rfl) 32 (.tmp 1) rfl p 0 rfl [.int .i64 r.num, .int .i64 r.kind, sv r.dn, sv r.pass, .int .i64 r.scope, .int .i64 r.limit, .int .i64 r.fil.kind, sv r.fil.typ, sv r.fil.val, .slice A0 A0n A0c, .slice A1 A1n A1c, .slice A2 A2n A2c, .slice A3 A3n A3c, .slice A4 A4n A4c, sv r.rdn, .bool r.keep, .bool r.above, sv r.up, sv r.avt, sv r.avv, .int .i64 r.which] _ (fun _ h => h.2.2.2.2.2.2.2.2) Tryz.underlying32 rfl (by kernel_rfl)) hH ?_); try simp only [Act.put, List.setIfInBounds_toArray, List.set_cons_zero, List.set_cons_succ]; try simp only [List.getElem_toArray, List.getElem_cons_succ, List.getElem_cons_zero]
        (refine wpAnyH_take (i := 21) (oi := ⟨_, _, _, _, _, _⟩) (v := .agg #[.int .i64 r.num, .int .i64 r.kind, sv r.dn, sv r.pass, .int .i64 r.scope, .int .i64 r.limit, .int .i64 r.fil.kind, sv r.fil.typ, sv r.fil.val, .slice A0 A0n A0c, .slice A1 A1n A1c, .slice A2 A2n A2c, .slice A3 A3n A3c, .slice A4 A4n A4c, sv r.rdn, .bool r.keep, .bool r.above, sv r.up, sv r.avt, sv r.avv, .int .i64 r.which]) rfl (by kernel_rfl) (by kernel_rfl) (by kernel_rfl) (fun _ _ _ h => h) (yieldsIf_load_mid (by rfl) 32 (.tmp 1) rfl p 0 rfl [.int .i64 r.num, .int .i64 r.kind, sv r.dn, sv r.pass, .int .i64 r.scope, .int .i64 r.limit, .int .i64 r.fil.kind, sv r.fil.typ, sv r.fil.val, .slice A0 A0n A0c, .slice A1 A1n A1c, .slice A2 A2n A2c, .slice A3 A3n A3c, .slice A4 A4n A4c, sv r.rdn, .bool r.keep, .bool r.above, sv r.up, sv r.avt, sv r.avv, .int .i64 r.which] _ (fun _ h => h.2.2.2.2.2.2.2.2) Tryz.underlying32 rfl (by kernel_rfl)) hH ?_); try simp only [Act.put, List.setIfInBounds_toArray, List.set_cons_zero, List.set_cons_succ]; try simp only [List.getElem_toArray, List.getElem_cons_succ, List.getElem_cons_zero]
        (refine wpAnyH_ready (rs := [22]) (by kernel_rfl) (by simp) ?_; refine AllReadyH.cons rfl (fun K' hK => ?_) AllReadyH.nil); go_simp
        refine (blank25_any (h.ext y1') ho).mono ?_
        rintro e4 w4 ⟨B0, B1, B2, B3, B4, B0n, B0c, B1n, B1c, B2n, B2c, B3n, B3c, B4n, B4c, rfl, hb, x4⟩
        have y2 := ext_trans y1 x4
        have y2' := ext_trans y1' x4
        (go_wp2_with fail; refine hK.out _ _ (hcc y2) (fun hH => ?_); clear hK K'; try simp only [Act.put, List.setIfInBounds_toArray, List.set_cons_zero, List.set_cons_succ]; try simp only [List.getElem_toArray, List.getElem_cons_succ, List.getElem_cons_zero])
        have hsame := rsame25_any (h.ext y2') hb
        rw [← hSq.out] at hsame
        (refine wpAnyH_ready (rs := [23]) (by kernel_rfl) (by simp) ?_; refine AllReadyH.cons rfl (fun K' hK => ?_) AllReadyH.nil); go_simp
        refine hsame.mono ?_
        rintro e5 w5 ⟨rfl, x5⟩
        have y3 := ext_trans y2 x5
        have y3' := ext_trans y2' x5
        clear hsame hb
        (go_wp2_with fail; refine hK.out _ _ (hcc y3) (fun hH => ?_); clear hK K'; try simp only [Act.put, List.setIfInBounds_toArray, List.set_cons_zero, List.set_cons_succ]; try simp only [List.getElem_toArray, List.getElem_cons_succ, List.getElem_cons_zero])
        cases Sq
        · have hr : Hid (M = false) := Lib.hid (by rw [hM2.out]; simp)
          clear hM2 hk hI
          (refine wpAnyH_take (i := 24) (oi := ⟨_, _, _, _, _, _⟩) (v := ?_) rfl (by kernel_rfl) (by kernel_rfl) (by kernel_rfl) (fun _ _ _ h => h) (Or.inl ⟨by kernel_rfl, ?_⟩) hH ?_; rotate_left; focus (intro wx hSw; obtain ⟨hS0, hS1, hS2, hS3, hS4, hS5, hS6, hS7, -⟩ := hSw; go_simp; try with_reducible rfl)); try simp only [Act.put, List.setIfInBounds_toArray, List.set_cons_zero, List.set_cons_succ]; try simp only [List.getElem_toArray, List.getElem_cons_succ, List.getElem_cons_zero]
          (refine wpAnyH_take (i := 25) (oi := ⟨_, _, _, _, _, _⟩) (v := ?_) rfl (by kernel_rfl) (by kernel_rfl) (by kernel_rfl) (fun _ _ _ h => h) (Or.inl ⟨by kernel_rfl, ?_⟩) hH ?_; rotate_left; focus (intro wx hSw; obtain ⟨hS0, hS1, hS2, hS3, hS4, hS5, hS6, hS7, -⟩ := hSw; go_simp; try with_reducible rfl)); try simp only [Act.put, List.setIfInBounds_toArray, List.set_cons_zero, List.set_cons_succ]; try simp only [List.getElem_toArray, List.getElem_cons_succ, List.getElem_cons_zero]
          refine wpAnyH_done (by kernel_rfl) ?_ _
          clear hH hcc BPx
          go_wp2_with fail
          go_ret
          exact ⟨by rw [hr.out]; rfl, y3'⟩
        (refine wpAnyH_take (i := 24) (oi := ⟨_, _, _, _, _, _⟩) (v := ?_) rfl (by kernel_rfl) (by kernel_rfl) (by kernel_rfl) (fun _ _ _ h => h) (Or.inl ⟨by kernel_rfl, ?_⟩) hH ?_; rotate_left; focus (intro wx hSw; obtain ⟨hS0, hS1, hS2, hS3, hS4, hS5, hS6, hS7, -⟩ := hSw; go_simp; try with_reducible rfl)); try simp only [Act.put, List.setIfInBounds_toArray, List.set_cons_zero, List.set_cons_succ]; try simp only [List.getElem_toArray, List.getElem_cons_succ, List.getElem_cons_zero]
        (refine wpAnyH_take (i := 25) (oi := ⟨_, _, _, _, _, _⟩) (v := ?_) rfl (by kernel_rfl) (by kernel_rfl) (by kernel_rfl) (fun _ _ _ h => h) (Or.inl ⟨by kernel_rfl, ?_⟩) hH ?_; rotate_left; focus (intro wx hSw; obtain ⟨hS0, hS1, hS2, hS3, hS4, hS5, hS6, hS7, -⟩ := hSw; go_simp; try with_reducible rfl)); try simp only [Act.put, List.setIfInBounds_toArray, List.set_cons_zero, List.set_cons_succ]; try simp only [List.getElem_toArray, List.getElem_cons_succ, List.getElem_cons_zero]
        have hk2 := hk.out ho (by first | rfl | trivial) (fun _ => by first | rfl | trivial) (by first | rfl | trivial)
        obtain ⟨hf, hkr, hlz⟩ := hk2
        have hf1 : r.above = false → r.up = [] := (fun _ => hu.out)
        have hr : Hid (M = true) := Lib.hid (by rw [hM2.out, dtrue hf1, dtrue hlz]; first | (rw [dtrue (show r.kind = 3 → I = true from fun g => absurd g hk3.out)]; rfl) | (simp; done))
        clear hf1
        have hby := Lib.hid (rbytes25_any (h.ext y3') hf hn0 hn1 ho hkr hlz)
        have BP5 := BPx y3
        obtain ⟨Zr, hZr⟩ : ∃ Z, Z = reqB n r := ⟨_, rfl⟩
        rw [← hZr] at hby hlz
        have hlzi : decide ((Zr.length : Int) ≤ 65536) = true := dtrue (by omega)
        have hlzn : decide (Zr.length ≤ 65536) = true := dtrue hlz
        refine wpAnyH_done (by kernel_rfl) ?_ _
        clear hH hcc BPx hM2 hk hI hZr hlz hkr
        go_wp2_with ((with_reducible show wpList _ _ _ (⟨some 78, _, _, _, _, _⟩ :: _) _ _); refine wpList_load_row rfl 32 (.tmp 1) rfl p rfl _ _ _ _ BP5 Tryz.underlying32 rfl size21 ?_)
        refine hby.out.mono ?_
        rintro e w6 ⟨v6, rfl, o6, -, x6⟩
        obtain ⟨A6, c6, e6⟩ := o6.shape
        rw [List.length_map] at e6
        subst e6
        go_wp2_with fail
        go_ret
        exact ⟨by rw [hr.out]; rfl, ext_trans y3' x6⟩
      · have hr : Hid (M = false) := Lib.hid (by rw [hM2.out, dfalse (show ¬ (r.above = false → r.up = []) from fun g => hu (g ha.out))]; simp)
        have hu2 : r.up.isEmpty = false := by cases hz : r.up <;> first | exact absurd hz hu | rfl
        replace hu := Lib.hid hu
        (refine wpAnyH_take (i := 16) (oi := ⟨_, _, _, _, _, _⟩) (v := ?_) rfl (by kernel_rfl) (by kernel_rfl) (by kernel_rfl) (fun _ _ _ h => h) (Or.inl ⟨by kernel_rfl, ?_⟩) hH ?_; rotate_left; focus (intro wx hSw; obtain ⟨hS0, hS1, hS2, hS3, hS4, hS5, hS6, hS7, -⟩ := hSw; go_simp; try with_reducible rfl)); try simp only [Act.put, List.setIfInBounds_toArray, List.set_cons_zero, List.set_cons_succ]; try simp only [List.getElem_toArray, List.getElem_cons_succ, List.getElem_cons_zero]
        (refine wpAnyH_take (i := 17) (oi := ⟨_, _, _, _, _, _⟩) (v := ?_) rfl (by kernel_rfl) (by kernel_rfl) (by kernel_rfl) (fun _ _ _ h => h) (Or.inl ⟨by kernel_rfl, ?_⟩) hH ?_; rotate_left; focus (intro wx hSw; obtain ⟨hS0, hS1, hS2, hS3, hS4, hS5, hS6, hS7, -⟩ := hSw; go_simp; try with_reducible rfl)); try simp only [Act.put, List.setIfInBounds_toArray, List.set_cons_zero, List.set_cons_succ]; try simp only [List.getElem_toArray, List.getElem_cons_succ, List.getElem_cons_zero]
        (refine wpAnyH_take (i := 18) (oi := ⟨_, _, _, _, _, _⟩) (v := ?_) rfl (by kernel_rfl) (by kernel_rfl) (by kernel_rfl) (fun _ _ _ h => h) (Or.inl ⟨by kernel_rfl, ?_⟩) hH ?_; rotate_left; focus (intro wx hSw; obtain ⟨hS0, hS1, hS2, hS3, hS4, hS5, hS6, hS7, -⟩ := hSw; go_simp; try with_reducible rfl)); try simp only [Act.put, List.setIfInBounds_toArray, List.set_cons_zero, List.set_cons_succ]; try simp only [List.getElem_toArray, List.getElem_cons_succ, List.getElem_cons_zero]
        (refine wpAnyH_take (i := 19) (oi := ⟨_, _, _, _, _, _⟩) (v := ?_) rfl (by kernel_rfl) (by kernel_rfl) (by kernel_rfl) (fun _ _ _ h => h) (Or.inl ⟨by kernel_rfl, ?_⟩) hH ?_; rotate_left; focus (intro wx hSw; obtain ⟨hS0, hS1, hS2, hS3, hS4, hS5, hS6, hS7, -⟩ := hSw; go_simp; try with_reducible rfl)); try simp only [Act.put, List.setIfInBounds_toArray, List.set_cons_zero, List.set_cons_succ]; try simp only [List.getElem_toArray, List.getElem_cons_succ, List.getElem_cons_zero]
        clear hM2 hk hI
        (refine wpAnyH_take (i := 20) (oi := ⟨_, _, _, _, _, _⟩) (v := undef) rfl (by kernel_rfl) (by kernel_rfl) (by kernel_rfl) (fun _ _ _ h => h) (Or.inr ⟨by kernel_rfl, rfl⟩) hH ?_); try simp only [Act.put, List.setIfInBounds_toArray, List.set_cons_zero, List.set_cons_succ]; try simp only [List.getElem_toArray, List.getElem_cons_succ, List.getElem_cons_zero]
        (refine wpAnyH_take (i := 21) (oi := ⟨_, _, _, _, _, _⟩) (v := undef) rfl (by kernel_rfl) (by kernel_rfl) (by kernel_rfl) (fun _ _ _ h => h) (Or.inr ⟨by kernel_rfl, rfl⟩) hH ?_); try simp only [Act.put, List.setIfInBounds_toArray, List.set_cons_zero, List.set_cons_succ]; try simp only [List.getElem_toArray, List.getElem_cons_succ, List.getElem_cons_zero]
        (refine wpAnyH_take (i := 22) (oi := ⟨_, _, _, _, _, _⟩) (v := undef) rfl (by kernel_rfl) (by kernel_rfl) (by kernel_rfl) (fun _ _ _ h => h) (Or.inr ⟨by kernel_rfl, rfl⟩) hH ?_); try simp only [Act.put, List.setIfInBounds_toArray, List.set_cons_zero, List.set_cons_succ]; try simp only [List.getElem_toArray, List.getElem_cons_succ, List.getElem_cons_zero]
        (refine wpAnyH_take (i := 23) (oi := ⟨_, _, _, _, _, _⟩) (v := undef) rfl (by kernel_rfl) (by kernel_rfl) (by kernel_rfl) (fun _ _ _ h => h) (Or.inr ⟨by kernel_rfl, rfl⟩) hH ?_); try simp only [Act.put, List.setIfInBounds_toArray, List.set_cons_zero, List.set_cons_succ]; try simp only [List.getElem_toArray, List.getElem_cons_succ, List.getElem_cons_zero]
        (refine wpAnyH_take (i := 24) (oi := ⟨_, _, _, _, _, _⟩) (v := undef) rfl (by kernel_rfl) (by kernel_rfl) (by kernel_rfl) (fun _ _ _ h => h) (Or.inr ⟨by kernel_rfl, rfl⟩) hH ?_); try simp only [Act.put, List.setIfInBounds_toArray, List.set_cons_zero, List.set_cons_succ]; try simp only [List.getElem_toArray, List.getElem_cons_succ, List.getElem_cons_zero]
        (refine wpAnyH_take (i := 25) (oi := ⟨_, _, _, _, _, _⟩) (v := ?_) rfl (by kernel_rfl) (by kernel_rfl) (by kernel_rfl) (fun _ _ _ h => h) (Or.inl ⟨by kernel_rfl, ?_⟩) hH ?_; rotate_left; focus (intro wx hSw; obtain ⟨hS0, hS1, hS2, hS3, hS4, hS5, hS6, hS7, -⟩ := hSw; go_simp; try with_reducible rfl)); try simp only [Act.put, List.setIfInBounds_toArray, List.set_cons_zero, List.set_cons_succ]; try simp only [List.getElem_toArray, List.getElem_cons_succ, List.getElem_cons_zero]
        refine wpAnyH_done (by kernel_rfl) ?_ _
        clear hH hcc BPx
        go_wp2_with fail
        go_ret
        exact ⟨by rw [hr.out]; rfl, y1'⟩
    have hna : (!r.above) = false := by cases hz : r.above <;> first | exact absurd hz ha | rfl
    replace ha := Lib.hid ha
    (refine wpAnyH_take (i := 12) (oi := ⟨_, _, _, _, _, _⟩) (v := ?_) rfl (by kernel_rfl) (by kernel_rfl) (by kernel_rfl) (fun _ _ _ h => h) (Or.inl ⟨by kernel_rfl, ?_⟩) hH ?_; rotate_left; focus (intro wx hSw; obtain ⟨hS0, hS1, hS2, hS3, hS4, hS5, hS6, hS7, -⟩ := hSw; go_simp; try with_reducible rfl)); try simp only [Act.put, List.setIfInBounds_toArray, List.set_cons_zero, List.set_cons_succ]; try simp only [List.getElem_toArray, List.getElem_cons_succ, List.getElem_cons_zero]
    (refine wpAnyH_take (i := 13) (oi := ⟨_, _, _, _, _, _⟩) (v := ?_) rfl (by kernel_rfl) (by kernel_rfl) (by kernel_rfl) (fun _ _ _ h => h) (Or.inl ⟨by kernel_rfl, ?_⟩) hH ?_; rotate_left; focus (intro wx hSw; obtain ⟨hS0, hS1, hS2, hS3, hS4, hS5, hS6, hS7, -⟩ := hSw; go_simp; try with_reducible rfl)); try simp only [Act.put, List.setIfInBounds_toArray, List.set_cons_zero, List.set_cons_succ]; try simp only [List.getElem_toArray, List.getElem_cons_succ, List.getElem_cons_zero]
    (refine wpAnyH_take (i := 14) (oi := ⟨_, _, _, _, _, _⟩) (v := undef) rfl (by kernel_rfl) (by kernel_rfl) (by kernel_rfl) (fun _ _ _ h => h) (Or.inr ⟨by kernel_rfl, rfl⟩) hH ?_); try simp only [Act.put, List.setIfInBounds_toArray, List.set_cons_zero, List.set_cons_succ]; try simp only [List.getElem_toArray, List.getElem_cons_succ, List.getElem_cons_zero]
    (refine wpAnyH_take (i := 15) (oi := ⟨_, _, _, _, _, _⟩) (v := undef) rfl (by kernel_rfl) (by kernel_rfl) (by kernel_rfl) (fun _ _ _ h => h) (Or.inr ⟨by kernel_rfl, rfl⟩) hH ?_); try simp only [Act.put, List.setIfInBounds_toArray, List.set_cons_zero, List.set_cons_succ]; try simp only [List.getElem_toArray, List.getElem_cons_succ, List.getElem_cons_zero]
    (refine wpAnyH_take (i := 16) (oi := ⟨_, _, _, _, _, _⟩) (v := undef) rfl (by kernel_rfl) (by kernel_rfl) (by kernel_rfl) (fun _ _ _ h => h) (Or.inr ⟨by kernel_rfl, rfl⟩) hH ?_); try simp only [Act.put, List.setIfInBounds_toArray, List.set_cons_zero, List.set_cons_succ]; try simp only [List.getElem_toArray, List.getElem_cons_succ, List.getElem_cons_zero]
    (refine wpAnyH_take (i := 17) (oi := ⟨_, _, _, _, _, _⟩) (v := ?_) rfl (by kernel_rfl) (by kernel_rfl) (by kernel_rfl) (fun _ _ _ h => h) (Or.inl ⟨by kernel_rfl, ?_⟩) hH ?_; rotate_left; focus (intro wx hSw; obtain ⟨hS0, hS1, hS2, hS3, hS4, hS5, hS6, hS7, -⟩ := hSw; go_simp; try with_reducible rfl)); try simp only [Act.put, List.setIfInBounds_toArray, List.set_cons_zero, List.set_cons_succ]; try simp only [List.getElem_toArray, List.getElem_cons_succ, List.getElem_cons_zero]
    (refine wpAnyH_take (i := 18) (oi := ⟨_, _, _, _, _, _⟩) (v := ?_) rfl (by kernel_rfl) (by kernel_rfl) (by kernel_rfl) (fun _ _ _ h => h) (Or.inl ⟨by kernel_rfl, ?_⟩) hH ?_; rotate_left; focus (intro wx hSw; obtain ⟨hS0, hS1, hS2, hS3, hS4, hS5, hS6, hS7, -⟩ := hSw; go_simp; try with_reducible rfl)); try simp only [Act.put, List.setIfInBounds_toArray, List.set_cons_zero, List.set_cons_succ]; try simp only [List.getElem_toArray, List.getElem_cons_succ, List.getElem_cons_zero]
    (refine wpAnyH_take (i := 19) (oi := ⟨_, _, _, _, _, _⟩) (v := ?_) rfl (by kernel_rfl) (by kernel_rfl) (by kernel_rfl) (fun _ _ _ h => h) (Or.inl ⟨by kernel_rfl, ?_⟩) hH ?_; rotate_left; focus (intro wx hSw; obtain ⟨hS0, hS1, hS2, hS3, hS4, hS5, hS6, hS7, -⟩ := hSw; go_simp; try with_reducible rfl)); try simp only [Act.put, List.setIfInBounds_toArray, List.set_cons_zero, List.set_cons_succ]; try simp only [List.getElem_toArray, List.getElem_cons_succ, List.getElem_cons_zero]
    (refine wpAnyH_take (i := 20) (oi := ⟨_, _, _, _, _, _⟩) (v := .agg #[.int .i64 r.num, .int .i64 r.kind, sv r.dn, sv r.pass, .int .i64 r.scope, .int .i64 r.limit, .int .i64 r.fil.kind, sv r.fil.typ, sv r.fil.val, .slice A0 A0n A0c, .slice A1 A1n A1c, .slice A2 A2n A2c, .slice A3 A3n A3c, .slice A4 A4n A4c, sv r.rdn, .bool r.keep, .bool r.above, sv r.up, sv r.avt, sv r.avv, .int .i64 r.which]) rfl (by kernel_rfl) (by kernel_rfl) (by kernel_rfl) (fun _ _ _ h => h) (yieldsIf_load_mid (by rfl) 32 (.tmp 1) rfl p 0 rfl [.int .i64 r.num, .int .i64 r.kind, sv r.dn, sv r.pass, .int .i64 r.scope, .int .i64 r.limit, .int .i64 r.fil.kind, sv r.fil.typ, sv r.fil.val, .slice A0 A0n A0c, .slice A1 A1n A1c, .slice A2 A2n A2c, .slice A3 A3n A3c, .slice A4 A4n A4c, sv r.rdn, .bool r.keep, .bool r.above, sv r.up, sv r.avt, sv r.avv, .int .i64 r.which] _ (fun _ h => h.2.2.2.2.2.2.2.2) Tryz.underlying32 rfl (by kernel_rfl)) hH ?_); try simp only [Act.put, List.setIfInBounds_toArray, List.set_cons_zero, List.set_cons_succ]; try simp only [List.getElem_toArray, List.getElem_cons_succ, List.getElem_cons_zero]
    (refine wpAnyH_take (i := 21) (oi := ⟨_, _, _, _, _, _⟩) (v := .agg #[.int .i64 r.num, .int .i64 r.kind, sv r.dn, sv r.pass, .int .i64 r.scope, .int .i64 r.limit, .int .i64 r.fil.kind, sv r.fil.typ, sv r.fil.val, .slice A0 A0n A0c, .slice A1 A1n A1c, .slice A2 A2n A2c, .slice A3 A3n A3c, .slice A4 A4n A4c, sv r.rdn, .bool r.keep, .bool r.above, sv r.up, sv r.avt, sv r.avv, .int .i64 r.which]) rfl (by kernel_rfl) (by kernel_rfl) (by kernel_rfl) (fun _ _ _ h => h) (yieldsIf_load_mid (by rfl) 32 (.tmp 1) rfl p 0 rfl [.int .i64 r.num, .int .i64 r.kind, sv r.dn, sv r.pass, .int .i64 r.scope, .int .i64 r.limit, .int .i64 r.fil.kind, sv r.fil.typ, sv r.fil.val, .slice A0 A0n A0c, .slice A1 A1n A1c, .slice A2 A2n A2c, .slice A3 A3n A3c, .slice A4 A4n A4c, sv r.rdn, .bool r.keep, .bool r.above, sv r.up, sv r.avt, sv r.avv, .int .i64 r.which] _ (fun _ h => h.2.2.2.2.2.2.2.2) Tryz.underlying32 rfl (by kernel_rfl)) hH ?_); try simp only [Act.put, List.setIfInBounds_toArray, List.set_cons_zero, List.set_cons_succ]; try simp only [List.getElem_toArray, List.getElem_cons_succ, List.getElem_cons_zero]
    (refine wpAnyH_ready (rs := [22]) (by kernel_rfl) (by simp) ?_; refine AllReadyH.cons rfl (fun K' hK => ?_) AllReadyH.nil); go_simp
    refine (blank25_any (h.ext y1') ho).mono ?_
    rintro e4 w4 ⟨B0, B1, B2, B3, B4, B0n, B0c, B1n, B1c, B2n, B2c, B3n, B3c, B4n, B4c, rfl, hb, x4⟩
    have y2 := ext_trans y1 x4
    have y2' := ext_trans y1' x4
    (go_wp2_with fail; refine hK.out _ _ (hcc y2) (fun hH => ?_); clear hK K'; try simp only [Act.put, List.setIfInBounds_toArray, List.set_cons_zero, List.set_cons_succ]; try simp only [List.getElem_toArray, List.getElem_cons_succ, List.getElem_cons_zero])
    have hsame := rsame25_any (h.ext y2') hb
    rw [← hSq.out] at hsame
    (refine wpAnyH_ready (rs := [23]) (by kernel_rfl) (by simp) ?_; refine AllReadyH.cons rfl (fun K' hK => ?_) AllReadyH.nil); go_simp
    refine hsame.mono ?_
    rintro e5 w5 ⟨rfl, x5⟩
    have y3 := ext_trans y2 x5
    have y3' := ext_trans y2' x5
    clear hsame hb
    (go_wp2_with fail; refine hK.out _ _ (hcc y3) (fun hH => ?_); clear hK K'; try simp only [Act.put, List.setIfInBounds_toArray, List.set_cons_zero, List.set_cons_succ]; try simp only [List.getElem_toArray, List.getElem_cons_succ, List.getElem_cons_zero])
    cases Sq
    · have hr : Hid (M = false) := Lib.hid (by rw [hM2.out]; simp)
      clear hM2 hk hI
      (refine wpAnyH_take (i := 24) (oi := ⟨_, _, _, _, _, _⟩) (v := ?_) rfl (by kernel_rfl) (by kernel_rfl) (by kernel_rfl) (fun _ _ _ h => h) (Or.inl ⟨by kernel_rfl, ?_⟩) hH ?_; rotate_left; focus (intro wx hSw; obtain ⟨hS0, hS1, hS2, hS3, hS4, hS5, hS6, hS7, -⟩ := hSw; go_simp; try with_reducible rfl)); try simp only [Act.put, List.setIfInBounds_toArray, List.set_cons_zero, List.set_cons_succ]; try simp only [List.getElem_toArray, List.getElem_cons_succ, List.getElem_cons_zero]
      (refine wpAnyH_take (i := 25) (oi := ⟨_, _, _, _, _, _⟩) (v := ?_) rfl (by kernel_rfl) (by kernel_rfl) (by kernel_rfl) (fun _ _ _ h => h) (Or.inl ⟨by kernel_rfl, ?_⟩) hH ?_; rotate_left; focus (intro wx hSw; obtain ⟨hS0, hS1, hS2, hS3, hS4, hS5, hS6, hS7, -⟩ := hSw; go_simp; try with_reducible rfl)); try simp only [Act.put, List.setIfInBounds_toArray, List.set_cons_zero, List.set_cons_succ]; try simp only [List.getElem_toArray, List.getElem_cons_succ, List.getElem_cons_zero]
      refine wpAnyH_done (by kernel_rfl) ?_ _
      clear hH hcc BPx
      go_wp2_with fail
      go_ret
      exact ⟨by rw [hr.out]; rfl, y3'⟩
    (refine wpAnyH_take (i := 24) (oi := ⟨_, _, _, _, _, _⟩) (v := ?_) rfl (by kernel_rfl) (by kernel_rfl) (by kernel_rfl) (fun _ _ _ h => h) (Or.inl ⟨by kernel_rfl, ?_⟩) hH ?_; rotate_left; focus (intro wx hSw; obtain ⟨hS0, hS1, hS2, hS3, hS4, hS5, hS6, hS7, -⟩ := hSw; go_simp; try with_reducible rfl)); try simp only [Act.put, List.setIfInBounds_toArray, List.set_cons_zero, List.set_cons_succ]; try simp only [List.getElem_toArray, List.getElem_cons_succ, List.getElem_cons_zero]
    (refine wpAnyH_take (i := 25) (oi := ⟨_, _, _, _, _, _⟩) (v := ?_) rfl (by kernel_rfl) (by kernel_rfl) (by kernel_rfl) (fun _ _ _ h => h) (Or.inl ⟨by kernel_rfl, ?_⟩) hH ?_; rotate_left; focus (intro wx hSw; obtain ⟨hS0, hS1, hS2, hS3, hS4, hS5, hS6, hS7, -⟩ := hSw; go_simp; try with_reducible rfl)); try simp only [Act.put, List.setIfInBounds_toArray, List.set_cons_zero, List.set_cons_succ]; try simp only [List.getElem_toArray, List.getElem_cons_succ, List.getElem_cons_zero]
    have hk2 := hk.out ho (by first | rfl | trivial) (fun _ => by first | rfl | trivial) (by first | rfl | trivial)
    obtain ⟨hf, hkr, hlz⟩ := hk2
    have hf1 : r.above = false → r.up = [] := (fun g => absurd g ha.out)
    have hr : Hid (M = true) := Lib.hid (by rw [hM2.out, dtrue hf1, dtrue hlz]; first | (rw [dtrue (show r.kind = 3 → I = true from fun g => absurd g hk3.out)]; rfl) | (simp; done))
    clear hf1
    have hby := Lib.hid (rbytes25_any (h.ext y3') hf hn0 hn1 ho hkr hlz)
    have BP5 := BPx y3
    obtain ⟨Zr, hZr⟩ : ∃ Z, Z = reqB n r := ⟨_, rfl⟩
    rw [← hZr] at hby hlz
    have hlzi : decide ((Zr.length : Int) ≤ 65536) = true := dtrue (by omega)
    have hlzn : decide (Zr.length ≤ 65536) = true := dtrue hlz
    refine wpAnyH_done (by kernel_rfl) ?_ _
    clear hH hcc BPx hM2 hk hI hZr hlz hkr
    go_wp2_with ((with_reducible show wpList _ _ _ (⟨some 78, _, _, _, _, _⟩ :: _) _ _); refine wpList_load_row rfl 32 (.tmp 1) rfl p rfl _ _ _ _ BP5 Tryz.underlying32 rfl size21 ?_)
    refine hby.out.mono ?_
    rintro e w6 ⟨v6, rfl, o6, -, x6⟩
    obtain ⟨A6, c6, e6⟩ := o6.shape
    rw [List.length_map] at e6
    subst e6
    go_wp2_with fail
    go_ret
    exact ⟨by rw [hr.out]; rfl, ext_trans y3' x6⟩
  have hb3 : (r.kind == 3) = false := beq_eq_false_iff_ne.2 hk3
  replace hk3 := Lib.hid hk3
  (refine wpAnyH_take (i := 0) (oi := ⟨_, _, _, _, _, _⟩) (v := ?_) rfl (by kernel_rfl) (by kernel_rfl) (by kernel_rfl) (fun _ _ _ h => h) (Or.inl ⟨by kernel_rfl, ?_⟩) hH ?_; rotate_left; focus (intro wx hSw; obtain ⟨hS0, hS1, hS2, hS3, hS4, hS5, hS6, hS7, -⟩ := hSw; go_simp; try with_reducible rfl)); try simp only [Act.put, List.setIfInBounds_toArray, List.set_cons_zero, List.set_cons_succ]; try simp only [List.getElem_toArray, List.getElem_cons_succ, List.getElem_cons_zero]
  (refine wpAnyH_take (i := 1) (oi := ⟨_, _, _, _, _, _⟩) (v := ?_) rfl (by kernel_rfl) (by kernel_rfl) (by kernel_rfl) (fun _ _ _ h => h) (Or.inl ⟨by kernel_rfl, ?_⟩) hH ?_; rotate_left; focus (intro wx hSw; obtain ⟨hS0, hS1, hS2, hS3, hS4, hS5, hS6, hS7, -⟩ := hSw; go_simp; try with_reducible rfl)); try simp only [Act.put, List.setIfInBounds_toArray, List.set_cons_zero, List.set_cons_succ]; try simp only [List.getElem_toArray, List.getElem_cons_succ, List.getElem_cons_zero]
  (refine wpAnyH_take (i := 2) (oi := ⟨_, _, _, _, _, _⟩) (v := ?_) rfl (by kernel_rfl) (by kernel_rfl) (by kernel_rfl) (fun _ _ _ h => h) (Or.inl ⟨by kernel_rfl, ?_⟩) hH ?_; rotate_left; focus (intro wx hSw; obtain ⟨hS0, hS1, hS2, hS3, hS4, hS5, hS6, hS7, -⟩ := hSw; go_simp; try with_reducible rfl)); try simp only [Act.put, List.setIfInBounds_toArray, List.set_cons_zero, List.set_cons_succ]; try simp only [List.getElem_toArray, List.getElem_cons_succ, List.getElem_cons_zero]
  (refine wpAnyH_take (i := 3) (oi := ⟨_, _, _, _, _, _⟩) (v := ?_) rfl (by kernel_rfl) (by kernel_rfl) (by kernel_rfl) (fun _ _ _ h => h) (Or.inl ⟨by kernel_rfl, ?_⟩) hH ?_; rotate_left; focus (intro wx hSw; obtain ⟨hS0, hS1, hS2, hS3, hS4, hS5, hS6, hS7, -⟩ := hSw; go_simp; try with_reducible rfl)); try simp only [Act.put, List.setIfInBounds_toArray, List.set_cons_zero, List.set_cons_succ]; try simp only [List.getElem_toArray, List.getElem_cons_succ, List.getElem_cons_zero]
  (refine wpAnyH_take (i := 4) (oi := ⟨_, _, _, _, _, _⟩) (v := undef) rfl (by kernel_rfl) (by kernel_rfl) (by kernel_rfl) (fun _ _ _ h => h) (Or.inr ⟨by kernel_rfl, rfl⟩) hH ?_); try simp only [Act.put, List.setIfInBounds_toArray, List.set_cons_zero, List.set_cons_succ]; try simp only [List.getElem_toArray, List.getElem_cons_succ, List.getElem_cons_zero]
  (refine wpAnyH_take (i := 5) (oi := ⟨_, _, _, _, _, _⟩) (v := undef) rfl (by kernel_rfl) (by kernel_rfl) (by kernel_rfl) (fun _ _ _ h => h) (Or.inr ⟨by kernel_rfl, rfl⟩) hH ?_); try simp only [Act.put, List.setIfInBounds_toArray, List.set_cons_zero, List.set_cons_succ]; try simp only [List.getElem_toArray, List.getElem_cons_succ, List.getElem_cons_zero]
  (refine wpAnyH_take (i := 6) (oi := ⟨_, _, _, _, _, _⟩) (v := undef) rfl (by kernel_rfl) (by kernel_rfl) (by kernel_rfl) (fun _ _ _ h => h) (Or.inr ⟨by kernel_rfl, rfl⟩) hH ?_); try simp only [Act.put, List.setIfInBounds_toArray, List.set_cons_zero, List.set_cons_succ]; try simp only [List.getElem_toArray, List.getElem_cons_succ, List.getElem_cons_zero]
  (refine wpAnyH_take (i := 7) (oi := ⟨_, _, _, _, _, _⟩) (v := undef) rfl (by kernel_rfl) (by kernel_rfl) (by kernel_rfl) (fun _ _ _ h => h) (Or.inr ⟨by kernel_rfl, rfl⟩) hH ?_); try simp only [Act.put, List.setIfInBounds_toArray, List.set_cons_zero, List.set_cons_succ]; try simp only [List.getElem_toArray, List.getElem_cons_succ, List.getElem_cons_zero]
  (refine wpAnyH_take (i := 8) (oi := ⟨_, _, _, _, _, _⟩) (v := ?_) rfl (by kernel_rfl) (by kernel_rfl) (by kernel_rfl) (fun _ _ _ h => h) (Or.inl ⟨by kernel_rfl, ?_⟩) hH ?_; rotate_left; focus (intro wx hSw; obtain ⟨hS0, hS1, hS2, hS3, hS4, hS5, hS6, hS7, -⟩ := hSw; go_simp; try with_reducible rfl)); try simp only [Act.put, List.setIfInBounds_toArray, List.set_cons_zero, List.set_cons_succ]; try simp only [List.getElem_toArray, List.getElem_cons_succ, List.getElem_cons_zero]
  (refine wpAnyH_take (i := 9) (oi := ⟨_, _, _, _, _, _⟩) (v := ?_) rfl (by kernel_rfl) (by kernel_rfl) (by kernel_rfl) (fun _ _ _ h => h) (Or.inl ⟨by kernel_rfl, ?_⟩) hH ?_; rotate_left; focus (intro wx hSw; obtain ⟨hS0, hS1, hS2, hS3, hS4, hS5, hS6, hS7, -⟩ := hSw; go_simp; try with_reducible rfl)); try simp only [Act.put, List.setIfInBounds_toArray, List.set_cons_zero, List.set_cons_succ]; try simp only [List.getElem_toArray, List.getElem_cons_succ, List.getElem_cons_zero]
  (refine wpAnyH_take (i := 10) (oi := ⟨_, _, _, _, _, _⟩) (v := ?_) rfl (by kernel_rfl) (by kernel_rfl) (by kernel_rfl) (fun _ _ _ h => h) (Or.inl ⟨by kernel_rfl, ?_⟩) hH ?_; rotate_left; focus (intro wx hSw; obtain ⟨hS0, hS1, hS2, hS3, hS4, hS5, hS6, hS7, -⟩ := hSw; go_simp; try with_reducible rfl)); try simp only [Act.put, List.setIfInBounds_toArray, List.set_cons_zero, List.set_cons_succ]; try simp only [List.getElem_toArray, List.getElem_cons_succ, List.getElem_cons_zero]
  (refine wpAnyH_take (i := 11) (oi := ⟨_, _, _, _, _, _⟩) (v := ?_) rfl (by kernel_rfl) (by kernel_rfl) (by kernel_rfl) (fun _ _ _ h => h) (Or.inl ⟨by kernel_rfl, ?_⟩) hH ?_; rotate_left; focus (intro wx hSw; obtain ⟨hS0, hS1, hS2, hS3, hS4, hS5, hS6, hS7, -⟩ := hSw; go_simp; try with_reducible rfl)); try simp only [Act.put, List.setIfInBounds_toArray, List.set_cons_zero, List.set_cons_succ]; try simp only [List.getElem_toArray, List.getElem_cons_succ, List.getElem_cons_zero]
  by_cases ha : r.above = false
  · have hna : (!r.above) = true := by rw [ha]; rfl
    replace ha := Lib.hid ha
    (refine wpAnyH_take (i := 12) (oi := ⟨_, _, _, _, _, _⟩) (v := ?_) rfl (by kernel_rfl) (by kernel_rfl) (by kernel_rfl) (fun _ _ _ h => h) (Or.inl ⟨by kernel_rfl, ?_⟩) hH ?_; rotate_left; focus (intro wx hSw; obtain ⟨hS0, hS1, hS2, hS3, hS4, hS5, hS6, hS7, -⟩ := hSw; go_simp; try with_reducible rfl)); try simp only [Act.put, List.setIfInBounds_toArray, List.set_cons_zero, List.set_cons_succ]; try simp only [List.getElem_toArray, List.getElem_cons_succ, List.getElem_cons_zero]
    (refine wpAnyH_take (i := 13) (oi := ⟨_, _, _, _, _, _⟩) (v := ?_) rfl (by kernel_rfl) (by kernel_rfl) (by kernel_rfl) (fun _ _ _ h => h) (Or.inl ⟨by kernel_rfl, ?_⟩) hH ?_; rotate_left; focus (intro wx hSw; obtain ⟨hS0, hS1, hS2, hS3, hS4, hS5, hS6, hS7, -⟩ := hSw; go_simp; try with_reducible rfl)); try simp only [Act.put, List.setIfInBounds_toArray, List.set_cons_zero, List.set_cons_succ]; try simp only [List.getElem_toArray, List.getElem_cons_succ, List.getElem_cons_zero]
    (refine wpAnyH_take (i := 14) (oi := ⟨_, _, _, _, _, _⟩) (v := ?_) rfl (by kernel_rfl) (by kernel_rfl) (by kernel_rfl) (fun _ _ _ h => h) (Or.inl ⟨by kernel_rfl, ?_⟩) hH ?_; rotate_left; focus (intro wx hSw; obtain ⟨hS0, hS1, hS2, hS3, hS4, hS5, hS6, hS7, -⟩ := hSw; go_simp; try with_reducible rfl)); try simp only [Act.put, List.setIfInBounds_toArray, List.set_cons_zero, List.set_cons_succ]; try simp only [List.getElem_toArray, List.getElem_cons_succ, List.getElem_cons_zero]
    (refine wpAnyH_take (i := 15) (oi := ⟨_, _, _, _, _, _⟩) (v := ?_) rfl (by kernel_rfl) (by kernel_rfl) (by kernel_rfl) (fun _ _ _ h => h) (Or.inl ⟨by kernel_rfl, ?_⟩) hH ?_; rotate_left; focus (intro wx hSw; obtain ⟨hS0, hS1, hS2, hS3, hS4, hS5, hS6, hS7, -⟩ := hSw; go_simp; try with_reducible rfl)); try simp only [Act.put, List.setIfInBounds_toArray, List.set_cons_zero, List.set_cons_succ]; try simp only [List.getElem_toArray, List.getElem_cons_succ, List.getElem_cons_zero]
    by_cases hu : r.up = []
    · have hu2 : r.up.isEmpty = true := by simp [hu]
      replace hu := Lib.hid hu
      (refine wpAnyH_take (i := 16) (oi := ⟨_, _, _, _, _, _⟩) (v := ?_) rfl (by kernel_rfl) (by kernel_rfl) (by kernel_rfl) (fun _ _ _ h => h) (Or.inl ⟨by kernel_rfl, ?_⟩) hH ?_; rotate_left; focus (intro wx hSw; obtain ⟨hS0, hS1, hS2, hS3, hS4, hS5, hS6, hS7, -⟩ := hSw; go_simp; try with_reducible rfl)); try simp only [Act.put, List.setIfInBounds_toArray, List.set_cons_zero, List.set_cons_succ]; try simp only [List.getElem_toArray, List.getElem_cons_succ, List.getElem_cons_zero]
      (refine wpAnyH_take (i := 17) (oi := ⟨_, _, _, _, _, _⟩) (v := ?_) rfl (by kernel_rfl) (by kernel_rfl) (by kernel_rfl) (fun _ _ _ h => h) (Or.inl ⟨by kernel_rfl, ?_⟩) hH ?_; rotate_left; focus (intro wx hSw; obtain ⟨hS0, hS1, hS2, hS3, hS4, hS5, hS6, hS7, -⟩ := hSw; go_simp; try with_reducible rfl)); try simp only [Act.put, List.setIfInBounds_toArray, List.set_cons_zero, List.set_cons_succ]; try simp only [List.getElem_toArray, List.getElem_cons_succ, List.getElem_cons_zero]
      (refine wpAnyH_take (i := 18) (oi := ⟨_, _, _, _, _, _⟩) (v := ?_) rfl (by kernel_rfl) (by kernel_rfl) (by kernel_rfl) (fun _ _ _ h => h) (Or.inl ⟨by kernel_rfl, ?_⟩) hH ?_; rotate_left; focus (intro wx hSw; obtain ⟨hS0, hS1, hS2, hS3, hS4, hS5, hS6, hS7, -⟩ := hSw; go_simp; try with_reducible rfl)); try simp only [Act.put, List.setIfInBounds_toArray, List.set_cons_zero, List.set_cons_succ]; try simp only [List.getElem_toArray, List.getElem_cons_succ, List.getElem_cons_zero]
      (refine wpAnyH_take (i := 19) (oi := ⟨_, _, _, _, _, _⟩) (v := ?_) rfl (by kernel_rfl) (by kernel_rfl) (by kernel_rfl) (fun _ _ _ h => h) (Or.inl ⟨by kernel_rfl, ?_⟩) hH ?_; rotate_left; focus (intro wx hSw; obtain ⟨hS0, hS1, hS2, hS3, hS4, hS5, hS6, hS7, -⟩ := hSw; go_simp; try with_reducible rfl)); try simp only [Act.put, List.setIfInBounds_toArray, List.set_cons_zero, List.set_cons_succ]; try simp only [List.getElem_toArray, List.getElem_cons_succ, List.getElem_cons_zero]
      (refine wpAnyH_take (i := 20) (oi := ⟨_, _, _, _, _, _⟩) (v := .agg #[.int .i64 r.num, .int .i64 r.kind, sv r.dn, sv r.pass, .int .i64 r.scope, .int .i64 r.limit, .int .i64 r.fil.kind, sv r.fil.typ, sv r.fil.val, .slice A0 A0n A0c, .slice A1 A1n A1c, .slice A2 A2n A2c, .slice A3 A3n A3c, .slice A4 A4n A4c, sv r.rdn, .bool r.keep, .bool r.above, sv r.up, sv r.avt, sv r.avv, .int .i64 r.which]) rfl (by kernel_rfl) (by kernel_rfl) (by kernel_rfl) (fun _ _ _ h => h) (yieldsIf_load_mid (by rfl) 32 (.tmp 1) rfl p 0 rfl [.int .i64 r.num, .int .i64 r.kind, sv r.dn, sv r.pass, .int .i64 r.scope, .int .i64 r.limit, .int .i64 r.fil.kind, sv r.fil.typ, sv r.fil.val, .slice A0 A0n A0c, .slice A1 A1n A1c, .slice A2 A2n A2c, .slice A3 A3n A3c, .slice A4 A4n A4c, sv r.rdn, .bool r.keep, .bool r.above, sv r.up, sv r.avt, sv r.avv, .int .i64 r.which] _ (fun _ h => h.2.2.2.2.2.2.2.2) Tryz.underlying32 rfl (by kernel_rfl)) hH ?_); try simp only [Act.put, List.setIfInBounds_toArray, List.set_cons_zero, List.set_cons_succ]; try simp only [List.getElem_toArray, List.getElem_cons_succ, List.getElem_cons_zero]
      (refine wpAnyH_take (i := 21) (oi := ⟨_, _, _, _, _, _⟩) (v := .agg #[.int .i64 r.num, .int .i64 r.kind, sv r.dn, sv r.pass, .int .i64 r.scope, .int .i64 r.limit, .int .i64 r.fil.kind, sv r.fil.typ, sv r.fil.val, .slice A0 A0n A0c, .slice A1 A1n A1c, .slice A2 A2n A2c, .slice A3 A3n A3c, .slice A4 A4n A4c, sv r.rdn, .bool r.keep, .bool r.above, sv r.up, sv r.avt, sv r.avv, .int .i64 r.which]) rfl (by kernel_rfl) (by kernel_rfl) (by kernel_rfl) (fun _ _ _ h => h) (yieldsIf_load_mid (by rfl) 32 (.tmp 1) rfl p 0 rfl [.int .i64 r.num, .int .i64 r.kind, sv r.dn, sv r.pass, .int .i64 r.scope, .int .i64 r.limit, .int .i64 r.fil.kind, sv r.fil.typ, sv r.fil.val, .slice A0 A0n A0c, .slice A1 A1n A1c, .slice A2 A2n A2c, .slice A3 A3n A3c, .slice A4 A4n A4c, sv r.rdn, .bool r.keep, .bool r.above, sv r.up, sv r.avt, sv r.avv, .int .i64 r.which] _ (fun _ h => h.2.2.2.2.2.2.2.2) Tryz.underlying32 rfl (by kernel_rfl)) hH ?_); try simp only [Act.put, List.setIfInBounds_toArray, List.set_cons_zero, List.set_cons_succ]; try simp only [List.getElem_toArray, List.getElem_cons_succ, List.getElem_cons_zero]
      (refine wpAnyH_ready (rs := [22]) (by kernel_rfl) (by simp) ?_; refine AllReadyH.cons rfl (fun K' hK => ?_) AllReadyH.nil); go_simp
      refine (blank25_any (h.ext z0') ho).mono ?_
      rintro e4 w4 ⟨B0, B1, B2, B3, B4, B0n, B0c, B1n, B1c, B2n, B2c, B3n, B3c, B4n, B4c, rfl, hb, x4⟩
      have y2 := ext_trans z0 x4
      have y2' := ext_trans z0' x4
      (go_wp2_with fail; refine hK.out _ _ (hcc y2) (fun hH => ?_); clear hK K'; try simp only [Act.put, List.setIfInBounds_toArray, List.set_cons_zero, List.set_cons_succ]; try simp only [List.getElem_toArray, List.getElem_cons_succ, List.getElem_cons_zero])
      have hsame := rsame25_any (h.ext y2') hb
      rw [← hSq.out] at hsame
      (refine wpAnyH_ready (rs := [23]) (by kernel_rfl) (by simp) ?_; refine AllReadyH.cons rfl (fun K' hK => ?_) AllReadyH.nil); go_simp
      refine hsame.mono ?_
      rintro e5 w5 ⟨rfl, x5⟩
      have y3 := ext_trans y2 x5
      have y3' := ext_trans y2' x5
      clear hsame hb
      (go_wp2_with fail; refine hK.out _ _ (hcc y3) (fun hH => ?_); clear hK K'; try simp only [Act.put, List.setIfInBounds_toArray, List.set_cons_zero, List.set_cons_succ]; try simp only [List.getElem_toArray, List.getElem_cons_succ, List.getElem_cons_zero])
      cases Sq
      · have hr : Hid (M = false) := Lib.hid (by rw [hM2.out]; simp)
        clear hM2 hk hI
        (refine wpAnyH_take (i := 24) (oi := ⟨_, _, _, _, _, _⟩) (v := ?_) rfl (by kernel_rfl) (by kernel_rfl) (by kernel_rfl) (fun _ _ _ h => h) (Or.inl ⟨by kernel_rfl, ?_⟩) hH ?_; rotate_left; focus (intro wx hSw; obtain ⟨hS0, hS1, hS2, hS3, hS4, hS5, hS6, hS7, -⟩ := hSw; go_simp; try with_reducible rfl)); try simp only [Act.put, List.setIfInBounds_toArray, List.set_cons_zero, List.set_cons_succ]; try simp only [List.getElem_toArray, List.getElem_cons_succ, List.getElem_cons_zero]
        (refine wpAnyH_take (i := 25) (oi := ⟨_, _, _, _, _, _⟩) (v := ?_) rfl (by kernel_rfl) (by kernel_rfl) (by kernel_rfl) (fun _ _ _ h => h) (Or.inl ⟨by kernel_rfl, ?_⟩) hH ?_; rotate_left; focus (intro wx hSw; obtain ⟨hS0, hS1, hS2, hS3, hS4, hS5, hS6, hS7, -⟩ := hSw; go_simp; try with_reducible rfl)); try simp only [Act.put, List.setIfInBounds_toArray, List.set_cons_zero, List.set_cons_succ]; try simp only [List.getElem_toArray, List.getElem_cons_succ, List.getElem_cons_zero]
        refine wpAnyH_done (by kernel_rfl) ?_ _
        clear hH hcc BPx
        go_wp2_with fail
        go_ret
        exact ⟨by rw [hr.out]; rfl, y3'⟩
      (refine wpAnyH_take (i := 24) (oi := ⟨_, _, _, _, _, _⟩) (v := ?_) rfl (by kernel_rfl) (by kernel_rfl) (by kernel_rfl) (fun _ _ _ h => h) (Or.inl ⟨by kernel_rfl, ?_⟩) hH ?_; rotate_left; focus (intro wx hSw; obtain ⟨hS0, hS1, hS2, hS3, hS4, hS5, hS6, hS7, -⟩ := hSw; go_simp; try with_reducible rfl)); try simp only [Act.put, List.setIfInBounds_toArray, List.set_cons_zero, List.set_cons_succ]; try simp only [List.getElem_toArray, List.getElem_cons_succ, List.getElem_cons_zero]
      (refine wpAnyH_take (i := 25) (oi := ⟨_, _, _, _, _, _⟩) (v := ?_) rfl (by kernel_rfl) (by kernel_rfl) (by kernel_rfl) (fun _ _ _ h => h) (Or.inl ⟨by kernel_rfl, ?_⟩) hH ?_; rotate_left; focus (intro wx hSw; obtain ⟨hS0, hS1, hS2, hS3, hS4, hS5, hS6, hS7, -⟩ := hSw; go_simp; try with_reducible rfl)); try simp only [Act.put, List.setIfInBounds_toArray, List.set_cons_zero, List.set_cons_succ]; try simp only [List.getElem_toArray, List.getElem_cons_succ, List.getElem_cons_zero]
      have hk2 := hk.out ho (by first | rfl | trivial) (fun g => absurd g hk3.out) (by first | rfl | trivial)
      obtain ⟨hf, hkr, hlz⟩ := hk2
      have hf1 : r.above = false → r.up = [] := (fun _ => hu.out)
      have hr : Hid (M = true) := Lib.hid (by rw [hM2.out, dtrue hf1, dtrue hlz]; first | (rw [dtrue (show r.kind = 3 → I = true from fun g => absurd g hk3.out)]; rfl) | (simp; done))
      clear hf1
      have hby := Lib.hid (rbytes25_any (h.ext y3') hf hn0 hn1 ho hkr hlz)
      have BP5 := BPx y3
      obtain ⟨Zr, hZr⟩ : ∃ Z, Z = reqB n r := ⟨_, rfl⟩
      rw [← hZr] at hby hlz
      have hlzi : decide ((Zr.length : Int) ≤ 65536) = true := dtrue (by omega)
      have hlzn : decide (Zr.length ≤ 65536) = true := dtrue hlz
      refine wpAnyH_done (by kernel_rfl) ?_ _
      clear hH hcc BPx hM2 hk hI hZr hlz hkr
      go_wp2_with ((with_reducible show wpList _ _ _ (⟨some 78, _, _, _, _, _⟩ :: _) _ _); refine wpList_load_row rfl 32 (.tmp 1) rfl p rfl _ _ _ _ BP5 Tryz.underlying32 rfl size21 ?_)
      refine hby.out.mono ?_
      rintro e w6 ⟨v6, rfl, o6, -, x6⟩
      obtain ⟨A6, c6, e6⟩ := o6.shape
      rw [List.length_map] at e6
      subst e6
      go_wp2_with fail
      go_ret
      exact ⟨by rw [hr.out]; rfl, ext_trans y3' x6⟩
    · have hr : Hid (M = false) := Lib.hid (by rw [hM2.out, dfalse (show ¬ (r.above = false → r.up = []) from fun g => hu (g ha.out))]; simp)
      have hu2 : r.up.isEmpty = false := by cases hz : r.up <;> first | exact absurd hz hu | rfl
      replace hu := Lib.hid hu
      (refine wpAnyH_take (i := 16) (oi := ⟨_, _, _, _, _, _⟩) (v := ?_) rfl (by kernel_rfl) (by kernel_rfl) (by kernel_rfl) (fun _ _ _ h => h) (Or.inl ⟨by kernel_rfl, ?_⟩) hH ?_; rotate_left; focus (intro wx hSw; obtain ⟨hS0, hS1, hS2, hS3, hS4, hS5, hS6, hS7, -⟩ := hSw; go_simp; try with_reducible rfl)); try simp only [Act.put, List.setIfInBounds_toArray, List.set_cons_zero, List.set_cons_succ]; try simp only [List.getElem_toArray, List.getElem_cons_succ, List.getElem_cons_zero]
      (refine wpAnyH_take (i := 17) (oi := ⟨_, _, _, _, _, _⟩) (v := ?_) rfl (by kernel_rfl) (by kernel_rfl) (by kernel_rfl) (fun _ _ _ h => h) (Or.inl ⟨by kernel_rfl, ?_⟩) hH ?_; rotate_left; focus (intro wx hSw; obtain ⟨hS0, hS1, hS2, hS3, hS4, hS5, hS6, hS7, -⟩ := hSw; go_simp; try with_reducible rfl)); try simp only [Act.put, List.setIfInBounds_toArray, List.set_cons_zero, List.set_cons_succ]; try simp only [List.getElem_toArray, List.getElem_cons_succ, List.getElem_cons_zero]
      (refine wpAnyH_take (i := 18) (oi := ⟨_, _, _, _, _, _⟩) (v := ?_) rfl (by kernel_rfl) (by kernel_rfl) (by kernel_rfl) (fun _ _ _ h => h) (Or.inl ⟨by kernel_rfl, ?_⟩) hH ?_; rotate_left; focus (intro wx hSw; obtain ⟨hS0, hS1, hS2, hS3, hS4, hS5, hS6, hS7, -⟩ := hSw; go_simp; try with_reducible rfl)); try simp only [Act.put, List.setIfInBounds_toArray, List.set_cons_zero, List.set_cons_succ]; try simp only [List.getElem_toArray, List.getElem_cons_succ, List.getElem_cons_zero]
      (refine wpAnyH_take (i := 19) (oi := ⟨_, _, _, _, _, _⟩) (v := ?_) rfl (by kernel_rfl) (by kernel_rfl) (by kernel_rfl) (fun _ _ _ h => h) (Or.inl ⟨by kernel_rfl, ?_⟩) hH ?_; rotate_left; focus (intro wx hSw; obtain ⟨hS0, hS1, hS2, hS3, hS4, hS5, hS6, hS7, -⟩ := hSw; go_simp; try with_reducible rfl)); try simp only [Act.put, List.setIfInBounds_toArray, List.set_cons_zero, List.set_cons_succ]; try simp only [List.getElem_toArray, List.getElem_cons_succ, List.getElem_cons_zero]
      clear hM2 hk hI
      (refine wpAnyH_take (i := 20) (oi := ⟨_, _, _, _, _, _⟩) (v := undef) rfl (by kernel_rfl) (by kernel_rfl) (by kernel_rfl) (fun _ _ _ h => h) (Or.inr ⟨by kernel_rfl, rfl⟩) hH ?_); try simp only [Act.put, List.setIfInBounds_toArray, List.set_cons_zero, List.set_cons_succ]; try simp only [List.getElem_toArray, List.getElem_cons_succ, List.getElem_cons_zero]
      (refine wpAnyH_take (i := 21) (oi := ⟨_, _, _, _, _, _⟩) (v := undef) rfl (by kernel_rfl) (by kernel_rfl) (by kernel_rfl) (fun _ _ _ h => h) (Or.inr ⟨by kernel_rfl, rfl⟩) hH ?_); try simp only [Act.put, List.setIfInBounds_toArray, List.set_cons_zero, List.set_cons_succ]; try simp only [List.getElem_toArray, List.getElem_cons_succ, List.getElem_cons_zero]
      (refine wpAnyH_take (i := 22) (oi := ⟨_, _, _, _, _, _⟩) (v := undef) rfl (by kernel_rfl) (by kernel_rfl) (by kernel_rfl) (fun _ _ _ h => h) (Or.inr ⟨by kernel_rfl, rfl⟩) hH ?_); try simp only [Act.put, List.setIfInBounds_toArray, List.set_cons_zero, List.set_cons_succ]; try simp only [List.getElem_toArray, List.getElem_cons_succ, List.getElem_cons_zero]
      (refine wpAnyH_take (i := 23) (oi := ⟨_, _, _, _, _, _⟩) (v := undef) rfl (by kernel_rfl) (by kernel_rfl) (by kernel_rfl) (fun _ _ _ h => h) (Or.inr ⟨by kernel_rfl, rfl⟩) hH ?_); try simp only [Act.put, List.setIfInBounds_toArray, List.set_cons_zero, List.set_cons_succ]; try simp only [List.getElem_toArray, List.getElem_cons_succ, List.getElem_cons_zero]
      (refine wpAnyH_take (i := 24) (oi := ⟨_, _, _, _, _, _⟩) (v := undef) rfl (by kernel_rfl) (by kernel_rfl) (by kernel_rfl) (fun _ _ _ h => h) (Or.inr ⟨by kernel_rfl, rfl⟩) hH ?_); try simp only [Act.put, List.setIfInBounds_toArray, List.set_cons_zero, List.set_cons_succ]; try simp only [List.getElem_toArray, List.getElem_cons_succ, List.getElem_cons_zero]
      (refine wpAnyH_take (i := 25) (oi := ⟨_, _, _, _, _, _⟩) (v := ?_) rfl (by kernel_rfl) (by kernel_rfl) (by kernel_rfl) (fun _ _ _ h => h) (Or.inl ⟨by kernel_rfl, ?_⟩) hH ?_; rotate_left; focus (intro wx hSw; obtain ⟨hS0, hS1, hS2, hS3, hS4, hS5, hS6, hS7, -⟩ := hSw; go_simp; try with_reducible rfl)); try simp only [Act.put, List.setIfInBounds_toArray, List.set_cons_zero, List.set_cons_succ]; try simp only [List.getElem_toArray, List.getElem_cons_succ, List.getElem_cons_zero]
      refine wpAnyH_done (by kernel_rfl) ?_ _
      clear hH hcc BPx
      go_wp2_with fail
      go_ret
      exact ⟨by rw [hr.out]; rfl, z0'⟩
  have hna : (!r.above) = false := by cases hz : r.above <;> first | exact absurd hz ha | rfl
  replace ha := Lib.hid ha
  (refine wpAnyH_take (i := 12) (oi := ⟨_, _, _, _, _, _⟩) (v := ?_) rfl (by kernel_rfl) (by kernel_rfl) (by kernel_rfl) (fun _ _ _ h => h) (Or.inl ⟨by kernel_rfl, ?_⟩) hH ?_; rotate_left; focus (intro wx hSw; obtain ⟨hS0, hS1, hS2, hS3, hS4, hS5, hS6, hS7, -⟩ := hSw; go_simp; try with_reducible rfl)); try simp only [Act.put, List.setIfInBounds_toArray, List.set_cons_zero, List.set_cons_succ]; try simp only [List.getElem_toArray, List.getElem_cons_succ, List.getElem_cons_zero]
  (refine wpAnyH_take (i := 13) (oi := ⟨_, _, _, _, _, _⟩) (v := ?_) rfl (by kernel_rfl) (by kernel_rfl) (by kernel_rfl) (fun _ _ _ h => h) (Or.inl ⟨by kernel_rfl, ?_⟩) hH ?_; rotate_left; focus (intro wx hSw; obtain ⟨hS0, hS1, hS2, hS3, hS4, hS5, hS6, hS7, -⟩ := hSw; go_simp; try with_reducible rfl)); try simp only [Act.put, List.setIfInBounds_toArray, List.set_cons_zero, List.set_cons_succ]; try simp only [List.getElem_toArray, List.getElem_cons_succ, List.getElem_cons_zero]
  (refine wpAnyH_take (i := 14) (oi := ⟨_, _, _, _, _, _⟩) (v := undef) rfl (by kernel_rfl) (by kernel_rfl) (by kernel_rfl) (fun _ _ _ h => h) (Or.inr ⟨by kernel_rfl, rfl⟩) hH ?_); try simp only [Act.put, List.setIfInBounds_toArray, List.set_cons_zero, List.set_cons_succ]; try simp only [List.getElem_toArray, List.getElem_cons_succ, List.getElem_cons_zero]
  (refine wpAnyH_take (i := 15) (oi := ⟨_, _, _, _, _, _⟩) (v := undef) rfl (by kernel_rfl) (by kernel_rfl) (by kernel_rfl) (fun _ _ _ h => h) (Or.inr ⟨by kernel_rfl, rfl⟩) hH ?_); try simp only [Act.put, List.setIfInBounds_toArray, List.set_cons_zero, List.set_cons_succ]; try simp only [List.getElem_toArray, List.getElem_cons_succ, List.getElem_cons_zero]
  (refine wpAnyH_take (i := 16) (oi := ⟨_, _, _, _, _, _⟩) (v := undef) rfl (by kernel_rfl) (by kernel_rfl) (by kernel_rfl) (fun _ _ _ h => h) (Or.inr ⟨by kernel_rfl, rfl⟩) hH ?_); try simp only [Act.put, List.setIfInBounds_toArray, List.set_cons_zero, List.set_cons_succ]; try simp only [List.getElem_toArray, List.getElem_cons_succ, List.getElem_cons_zero]
  (refine wpAnyH_take (i := 17) (oi := ⟨_, _, _, _, _, _⟩) (v := ?_) rfl (by kernel_rfl) (by kernel_rfl) (by kernel_rfl) (fun _ _ _ h => h) (Or.inl ⟨by kernel_rfl, ?_⟩) hH ?_; rotate_left; focus (intro wx hSw; obtain ⟨hS0, hS1, hS2, hS3, hS4, hS5, hS6, hS7, -⟩ := hSw; go_simp; try with_reducible rfl)); try simp only [Act.put, List.setIfInBounds_toArray, List.set_cons_zero, List.set_cons_succ]; try simp only [List.getElem_toArray, List.getElem_cons_succ, List.getElem_cons_zero]
  (refine wpAnyH_take (i := 18) (oi := ⟨_, _, _, _, _, _⟩) (v := ?_) rfl (by kernel_rfl) (by kernel_rfl) (by kernel_rfl) (fun _ _ _ h => h) (Or.inl ⟨by kernel_rfl, ?_⟩) hH ?_; rotate_left; focus (intro wx hSw; obtain ⟨hS0, hS1, hS2, hS3, hS4, hS5, hS6, hS7, -⟩ := hSw; go_simp; try with_reducible rfl)); try simp only [Act.put, List.setIfInBounds_toArray, List.set_cons_zero, List.set_cons_succ]; try simp only [List.getElem_toArray, List.getElem_cons_succ, List.getElem_cons_zero]
  (refine wpAnyH_take (i := 19) (oi := ⟨_, _, _, _, _, _⟩) (v := ?_) rfl (by kernel_rfl) (by kernel_rfl) (by kernel_rfl) (fun _ _ _ h => h) (Or.inl ⟨by kernel_rfl, ?_⟩) hH ?_; rotate_left; focus (intro wx hSw; obtain ⟨hS0, hS1, hS2, hS3, hS4, hS5, hS6, hS7, -⟩ := hSw; go_simp; try with_reducible rfl)); try simp only [Act.put, List.setIfInBounds_toArray, List.set_cons_zero, List.set_cons_succ]; try simp only [List.getElem_toArray, List.getElem_cons_succ, List.getElem_cons_zero]
  (refine wpAnyH_take (i := 20) (oi := ⟨_, _, _, _, _, _⟩) (v := .agg #[.int .i64 r.num, .int .i64 r.kind, sv r.dn, sv r.pass, .int .i64 r.scope, .int .i64 r.limit, .int .i64 r.fil.kind, sv r.fil.typ, sv r.fil.val, .slice A0 A0n A0c, .slice A1 A1n A1c, .slice A2 A2n A2c, .slice A3 A3n A3c, .slice A4 A4n A4c, sv r.rdn, .bool r.keep, .bool r.above, sv r.up, sv r.avt, sv r.avv, .int .i64 r.which]) rfl (by kernel_rfl) (by kernel_rfl) (by kernel_rfl) (fun _ _ _ h => h) (yieldsIf_load_mid (by rfl) 32 (.tmp 1) rfl p 0 rfl [.int .i64 r.num, .int .i64 r.kind, sv r.dn, sv r.pass, .int .i64 r.scope, .int .i64 r.limit, .int .i64 r.fil.kind, sv r.fil.typ, sv r.fil.val, .slice A0 A0n A0c, .slice A1 A1n A1c, .slice A2 A2n A2c, .slice A3 A3n A3c, .slice A4 A4n A4c, sv r.rdn, .bool r.keep, .bool r.above, sv r.up, sv r.avt, sv r.avv, .int .i64 r.which] _ (fun _ h => h.2.2.2.2.2.2.2.2) Tryz.underlying32 rfl (by kernel_rfl)) hH ?_); try simp only [Act.put, List.setIfInBounds_toArray, List.set_cons_zero, List.set_cons_succ]; try simp only [List.getElem_toArray, List.getElem_cons_succ, List.getElem_cons_zero]
  (refine wpAnyH_take (i := 21) (oi := ⟨_, _, _, _, _, _⟩) (v := .agg #[.int .i64 r.num, .int .i64 r.kind, sv r.dn, sv r.pass, .int .i64 r.scope, .int .i64 r.limit, .int .i64 r.fil.kind, sv r.fil.typ, sv r.fil.val, .slice A0 A0n A0c, .slice A1 A1n A1c, .slice A2 A2n A2c, .slice A3 A3n A3c, .slice A4 A4n A4c, sv r.rdn, .bool r.keep, .bool r.above, sv r.up, sv r.avt, sv r.avv, .int .i64 r.which]) rfl (by kernel_rfl) (by kernel_rfl) (by kernel_rfl) (fun _ _ _ h => h) (yieldsIf_load_mid (by rfl) 32 (.tmp 1) rfl p 0 rfl [.int .i64 r.num, .int .i64 r.kind, sv r.dn, sv r.pass, .int .i64 r.scope, .int .i64 r.limit, .int .i64 r.fil.kind, sv r.fil.typ, sv r.fil.val, .slice A0 A0n A0c, .slice A1 A1n A1c, .slice A2 A2n A2c, .slice A3 A3n A3c, .slice A4 A4n A4c, sv r.rdn, .bool r.keep, .bool r.above, sv r.up, sv r.avt, sv r.avv, .int .i64 r.which] _ (fun _ h => h.2.2.2.2.2.2.2.2) Tryz.underlying32 rfl (by kernel_rfl)) hH ?_); try simp only [Act.put, List.setIfInBounds_toArray, List.set_cons_zero, List.set_cons_succ]; try simp only [List.getElem_toArray, List.getElem_cons_succ, List.getElem_cons_zero]
  (refine wpAnyH_ready (rs := [22]) (by kernel_rfl) (by simp) ?_; refine AllReadyH.cons rfl (fun K' hK => ?_) AllReadyH.nil); go_simp
  refine (blank25_any (h.ext z0') ho).mono ?_
  rintro e4 w4 ⟨B0, B1, B2, B3, B4, B0n, B0c, B1n, B1c, B2n, B2c, B3n, B3c, B4n, B4c, rfl, hb, x4⟩
  have y2 := ext_trans z0 x4
  have y2' := ext_trans z0' x4
  (go_wp2_with fail; refine hK.out _ _ (hcc y2) (fun hH => ?_); clear hK K'; try simp only [Act.put, List.setIfInBounds_toArray, List.set_cons_zero, List.set_cons_succ]; try simp only [List.getElem_toArray, List.getElem_cons_succ, List.getElem_cons_zero])
  have hsame := rsame25_any (h.ext y2') hb
  rw [← hSq.out] at hsame
  (refine wpAnyH_ready (rs := [23]) (by kernel_rfl) (by simp) ?_; refine AllReadyH.cons rfl (fun K' hK => ?_) AllReadyH.nil); go_simp
  refine hsame.mono ?_
  rintro e5 w5 ⟨rfl, x5⟩
  have y3 := ext_trans y2 x5
  have y3' := ext_trans y2' x5
  clear hsame hb
  (go_wp2_with fail; refine hK.out _ _ (hcc y3) (fun hH => ?_); clear hK K'; try simp only [Act.put, List.setIfInBounds_toArray, List.set_cons_zero, List.set_cons_succ]; try simp only [List.getElem_toArray, List.getElem_cons_succ, List.getElem_cons_zero])
  cases Sq
  · have hr : Hid (M = false) := Lib.hid (by rw [hM2.out]; simp)
    clear hM2 hk hI
    (refine wpAnyH_take (i := 24) (oi := ⟨_, _, _, _, _, _⟩) (v := ?_) rfl (by kernel_rfl) (by kernel_rfl) (by kernel_rfl) (fun _ _ _ h => h) (Or.inl ⟨by kernel_rfl, ?_⟩) hH ?_; rotate_left; focus (intro wx hSw; obtain ⟨hS0, hS1, hS2, hS3, hS4, hS5, hS6, hS7, -⟩ := hSw; go_simp; try with_reducible rfl)); try simp only [Act.put, List.setIfInBounds_toArray, List.set_cons_zero, List.set_cons_succ]; try simp only [List.getElem_toArray, List.getElem_cons_succ, List.getElem_cons_zero]
    (refine wpAnyH_take (i := 25) (oi := ⟨_, _, _, _, _, _⟩) (v := ?_) rfl (by kernel_rfl) (by kernel_rfl) (by kernel_rfl) (fun _ _ _ h => h) (Or.inl ⟨by kernel_rfl, ?_⟩) hH ?_; rotate_left; focus (intro wx hSw; obtain ⟨hS0, hS1, hS2, hS3, hS4, hS5, hS6, hS7, -⟩ := hSw; go_simp; try with_reducible rfl)); try simp only [Act.put, List.setIfInBounds_toArray, List.set_cons_zero, List.set_cons_succ]; try simp only [List.getElem_toArray, List.getElem_cons_succ, List.getElem_cons_zero]
    refine wpAnyH_done (by kernel_rfl) ?_ _
    clear hH hcc BPx
    go_wp2_with fail
    go_ret
    exact ⟨by rw [hr.out]; rfl, y3'⟩
  (refine wpAnyH_take (i := 24) (oi := ⟨_, _, _, _, _, _⟩) (v := ?_) rfl (by kernel_rfl) (by kernel_rfl) (by kernel_rfl) (fun _ _ _ h => h) (Or.inl ⟨by kernel_rfl, ?_⟩) hH ?_; rotate_left; focus (intro wx hSw; obtain ⟨hS0, hS1, hS2, hS3, hS4, hS5, hS6, hS7, -⟩ := hSw; go_simp; try with_reducible rfl)); try simp only [Act.put, List.setIfInBounds_toArray, List.set_cons_zero, List.set_cons_succ]; try simp only [List.getElem_toArray, List.getElem_cons_succ, List.getElem_cons_zero]
  (refine wpAnyH_take (i := 25) (oi := ⟨_, _, _, _, _, _⟩) (v := ?_) rfl (by kernel_rfl) (by kernel_rfl) (by kernel_rfl) (fun _ _ _ h => h) (Or.inl ⟨by kernel_rfl, ?_⟩) hH ?_; rotate_left; focus (intro wx hSw; obtain ⟨hS0, hS1, hS2, hS3, hS4, hS5, hS6, hS7, -⟩ := hSw; go_simp; try with_reducible rfl)); try simp only [Act.put, List.setIfInBounds_toArray, List.set_cons_zero, List.set_cons_succ]; try simp only [List.getElem_toArray, List.getElem_cons_succ, List.getElem_cons_zero]
  have hk2 := hk.out ho (by first | rfl | trivial) (fun g => absurd g hk3.out) (by first | rfl | trivial)
  obtain ⟨hf, hkr, hlz⟩ := hk2
  have hf1 : r.above = false → r.up = [] := (fun g => absurd g ha.out)
  have hr : Hid (M = true) := Lib.hid (by rw [hM2.out, dtrue hf1, dtrue hlz]; first | (rw [dtrue (show r.kind = 3 → I = true from fun g => absurd g hk3.out)]; rfl) | (simp; done))
  clear hf1
  have hby := Lib.hid (rbytes25_any (h.ext y3') hf hn0 hn1 ho hkr hlz)
  have BP5 := BPx y3
  obtain ⟨Zr, hZr⟩ : ∃ Z, Z = reqB n r := ⟨_, rfl⟩
  rw [← hZr] at hby hlz
  have hlzi : decide ((Zr.length : Int) ≤ 65536) = true := dtrue (by omega)
  have hlzn : decide (Zr.length ≤ 65536) = true := dtrue hlz
  refine wpAnyH_done (by kernel_rfl) ?_ _
  clear hH hcc BPx hM2 hk hI hZr hlz hkr
  go_wp2_with ((with_reducible show wpList _ _ _ (⟨some 78, _, _, _, _, _⟩ :: _) _ _); refine wpList_load_row rfl 32 (.tmp 1) rfl p rfl _ _ _ _ BP5 Tryz.underlying32 rfl size21 ?_)
  refine hby.out.mono ?_
  rintro e w6 ⟨v6, rfl, o6, -, x6⟩
  obtain ⟨A6, c6, e6⟩ := o6.shape
  rw [List.length_map] at e6
  subst e6
  go_wp2_with fail
  go_ret
  exact ⟨by rw [hr.out]; rfl, ext_trans y3' x6⟩
set_option maxHeartbeats 8000000 in
theorem rEncode25_any {n : Nat} {w : World} {r : Rq} {A0 A1 A2 A3 A4 : Option Addr} {A0n A0c A1n A1c A2n A2c A3n A3c A4n A4c : Nat} (h : RqAt n w r (.slice A0 A0n A0c) (.slice A1 A1n A1c) (.slice A2 A2n A2c) (.slice A3 A3n A3c) (.slice A4 A4n A4c)) (hmd : ∀ m ∈ r.mods, -9223372036854775808 ≤ m.kind ∧ m.kind ≤ 9223372036854775807) (hn0 : -9223372036854775808 ≤ r.num) (hn1 : r.num ≤ 9223372036854775807) (hnod : nodesN n r.fil ≤ 1000000) (hk : isOp r.kind → listsQ r = true → (r.kind = 3 → isN n r.fil = true) → sameQ n r (bareQ r) = true → RFit r ∧ (r.kind = 3 → KrN n r.fil) ∧ (reqB n r).length ≤ 65536) :
    Calls Tryz.prog 27 #[.agg #[.int .i64 r.num, .int .i64 r.kind, sv r.dn, sv r.pass, .int .i64 r.scope, .int .i64 r.limit, .int .i64 r.fil.kind, sv r.fil.typ, sv r.fil.val, .slice A0 A0n A0c, .slice A1 A1n A1c, .slice A2 A2n A2c, .slice A3 A3n A3c, .slice A4 A4n A4c, sv r.rdn, .bool r.keep, .bool r.above, sv r.up, sv r.avt, sv r.avv, .int .i64 r.which]] w fun e w' => ∃ v', e = .returned (.tuple #[v', .int .i64 (if rmayQ n r then 0 else 1)]) ∧ Own w' 5 v' ((if rmayQ n r then reqB n r else []).map bv) ∧ Ext w w' := by
  have BP : Blk (w.alloc (.cells #[.int .i64 r.num, .int .i64 r.kind, sv r.dn, sv r.pass, .int .i64 r.scope, .int .i64 r.limit, .int .i64 r.fil.kind, sv r.fil.typ, sv r.fil.val, .slice A0 A0n A0c, .slice A1 A1n A1c, .slice A2 A2n A2c, .slice A3 A3n A3c, .slice A4 A4n A4c, sv r.rdn, .bool r.keep, .bool r.above, sv r.up, sv r.avt, sv r.avv, .int .i64 r.which] 32)) w.heap.size 32 #[.int .i64 r.num, .int .i64 r.kind, sv r.dn, sv r.pass, .int .i64 r.scope, .int .i64 r.limit, .int .i64 r.fil.kind, sv r.fil.typ, sv r.fil.val, .slice A0 A0n A0c, .slice A1 A1n A1c, .slice A2 A2n A2c, .slice A3 A3n A3c, .slice A4 A4n A4c, sv r.rdn, .bool r.keep, .bool r.above, sv r.up, sv r.avt, sv r.avv, .int .i64 r.which] := Blk.new w _ _
  have x0 : Ext w (w.alloc (.cells #[.int .i64 r.num, .int .i64 r.kind, sv r.dn, sv r.pass, .int .i64 r.scope, .int .i64 r.limit, .int .i64 r.fil.kind, sv r.fil.typ, sv r.fil.val, .slice A0 A0n A0c, .slice A1 A1n A1c, .slice A2 A2n A2c, .slice A3 A3n A3c, .slice A4 A4n A4c, sv r.rdn, .bool r.keep, .bool r.above, sv r.up, sv r.avt, sv r.avv, .int .i64 r.which] 32)) := (Mod.refl _ w).alloc _
  have hI := Lib.hid (rIs25_any (h.ext x0) hmd hn0 hn1 hnod hk)
  have hby : rmayQ n r = true → ∀ {wx : World}, Ext w wx → Hid (Calls Tryz.prog 46 #[.agg #[.int .i64 r.num, .int .i64 r.kind, sv r.dn, sv r.pass, .int .i64 r.scope, .int .i64 r.limit, .int .i64 r.fil.kind, sv r.fil.typ, sv r.fil.val, .slice A0 A0n A0c, .slice A1 A1n A1c, .slice A2 A2n A2c, .slice A3 A3n A3c, .slice A4 A4n A4c, sv r.rdn, .bool r.keep, .bool r.above, sv r.up, sv r.avt, sv r.avv, .int .i64 r.which]] wx fun e w' => ∃ v', e = .returned v' ∧ Own w' 5 v' ((reqB n r).map bv) ∧ Fresh wx.heap.size v' ∧ Ext wx w') := fun hm wx x => by
    unfold rmayQ at hm
    simp only [Bool.and_eq_true, decide_eq_true_eq] at hm
    obtain ⟨⟨ho, -⟩, hl, h3, -, hs, hz⟩ := hm
    exact Lib.hid (rbytes25_any (h.ext x) (hk ho hl h3 hs).1 hn0 hn1 ho (hk ho hl h3 hs).2.1 hz)
  obtain ⟨M, hM⟩ : ∃ M, M = rmayQ n r := ⟨_, rfl⟩
  rw [← hM] at hI hby ⊢
  obtain ⟨Zr, hZr⟩ : ∃ Z, Z = reqB n r := ⟨_, rfl⟩
  simp only [← hZr] at hby ⊢
  clear hk h hmd hM hZr hnod
  cases M
  · clear hby
    go_enter Tryz.func27, Tryz.ntmps27
    go_wp2_with ((with_reducible show wpList _ _ _ (⟨some 4, _, _, _, _, _⟩ :: _) _ _); refine wpList_load_row rfl 32 (.tmp 1) rfl _ rfl _ _ _ _ BP Tryz.underlying32 rfl size21 ?_)
    refine hI.out.mono ?_
    rintro e w1 ⟨rfl, x1⟩
    go_wp2_with fail
    go_ret2
    exact ⟨_, rfl, Own.nil _ 5, ext_trans x0 x1⟩
  · have hby1 := fun {wx : World} (x : Ext w wx) => hby (by first | rfl | trivial) x
    clear hby
    go_enter Tryz.func27, Tryz.ntmps27
    go_wp2_with ((with_reducible show wpList _ _ _ (⟨some 4, _, _, _, _, _⟩ :: _) _ _); refine wpList_load_row rfl 32 (.tmp 1) rfl _ rfl _ _ _ _ BP Tryz.underlying32 rfl size21 ?_)
    refine hI.out.mono ?_
    rintro e w1 ⟨rfl, x1⟩
    have BP1 := BP.mod x1 (fun h => h)
    have z1 := ext_trans x0 x1
    have hc := hby1 z1
    clear hby1 BP
    go_wp2_with ((with_reducible show wpList _ _ _ (⟨some 7, _, _, _, _, _⟩ :: _) _ _); refine wpList_load_row rfl 32 (.tmp 1) rfl _ rfl _ _ _ _ BP1 Tryz.underlying32 rfl size21 ?_)
    refine hc.out.mono ?_
    rintro e w2 ⟨v2, rfl, o2, -, x2⟩
    obtain ⟨A2', c2, hv2⟩ := o2.shape
    rw [List.length_map] at hv2
    subst hv2
    go_wp2_with fail
    go_ret2
    exact ⟨_, rfl, o2, ext_trans z1 x2⟩
end Go.Proofs.YtoockogceobfgaaGreat
