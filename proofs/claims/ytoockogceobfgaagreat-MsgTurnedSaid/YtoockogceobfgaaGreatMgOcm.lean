/- msg: the document's operations but of Bind, Search and Rename. -/
import Derived.Test.YtoockogceobfgaaGreatMgHcm
import Derived.Test.YtoockogceobfgaaGreatMgQm
import Derived.Deep.RegionHeld3
namespace Go.Proofs.YtoockogceobfgaaGreat
open Go.RowKit
set_option maxRecDepth 100000

theorem rbool_any {w : World} (q : Bool) : Calls Tryz.prog 98 #[.bool q] w fun e w' => ∃ A c, e = .returned (.slice A 1 c) ∧ Bs w' AllE (.slice A 1 c) [if q then 255 else 0] ∧ Ext w w' := by
  have h1 : Bs (w.alloc (.cells #[.int .u8 255] 5)) AllE (.slice (some ⟨w.heap.size, 0, none⟩) 1 1) [255] := (Bs.lit w 5 [255] (by simp [maxLen])).mono (fun _ _ _ => trivial)
  have h2 : Bs (w.alloc (.cells #[.int .u8 0] 5)) AllE (.slice (some ⟨w.heap.size, 0, none⟩) 1 1) [0] := (Bs.lit w 5 [0] (by simp [maxLen])).mono (fun _ _ _ => trivial)
  cases q
  · go_enter Tryz.func98, Tryz.ntmps98
    go_wp2_with fail
    go_ret
    exact ⟨_, _, rfl, h2, (Mod.refl _ _).alloc _⟩
  · go_enter Tryz.func98, Tryz.ntmps98
    go_wp2_with fail
    go_ret
    exact ⟨_, _, rfl, h1, (Mod.refl _ _).alloc _⟩
theorem rw_nil (w : World) (S : Nat → Prop) : Rw w S (.slice none 0 0) [] := ⟨[], rfl, Sl.nil w S, fun k x l h => by simp at h⟩
set_option maxHeartbeats 16000000 in
theorem rop2_any {w : World} {num scope limit fk which : Int} {dn pass ft fv rdn up avt avv : List UInt8} {keep above : Bool} {Y1 Z1 W1 M1 A1 : Option Addr} {Y2 Y3 Z2 Z3 W2 W3 M2 M3 A2 A3 : Nat} (_hl : (([] : List UInt8)).length ≤ 65536) :
    Calls Tryz.prog 74 #[.agg #[.int .i64 num, .int .i64 2, sv dn, sv pass, .int .i64 scope, .int .i64 limit, .int .i64 fk, sv ft, sv fv, .slice Y1 Y2 Y3, .slice Z1 Z2 Z3, .slice W1 W2 W3, .slice M1 M2 M3, .slice A1 A2 A3, sv rdn, .bool keep, .bool above, sv up, sv avt, sv avv, .int .i64 which]] w fun e w' => ∃ v', e = .returned v' ∧ Own w' 5 v' ((tlv 66 (([] : List UInt8))).map bv) ∧ Fresh w.heap.size v' ∧ Ext w w' := by
  obtain ⟨Z, hZ⟩ : ∃ Z, Z = tlv 66 (([] : List UInt8)) := ⟨_, rfl⟩
  rw [← hZ]
  replace hZ := Lib.hid hZ
  obtain ⟨w1, hw1⟩ : ∃ x, x = w.alloc (.cells #[.int .i64 num, .int .i64 2, sv dn, sv pass, .int .i64 scope, .int .i64 limit, .int .i64 fk, sv ft, sv fv, .slice Y1 Y2 Y3, .slice Z1 Z2 Z3, .slice W1 W2 W3, .slice M1 M2 M3, .slice A1 A2 A3, sv rdn, .bool keep, .bool above, sv up, sv avt, sv avv, .int .i64 which] 32) := ⟨_, rfl⟩
  obtain ⟨p, hp⟩ : ∃ p, p = w.heap.size := ⟨_, rfl⟩
  have x1 : Ext w w1 := by rw [hw1]; exact (Mod.refl _ w).alloc _
  have BP : Blk w1 p 32 #[.int .i64 num, .int .i64 2, sv dn, sv pass, .int .i64 scope, .int .i64 limit, .int .i64 fk, sv ft, sv fv, .slice Y1 Y2 Y3, .slice Z1 Z2 Z3, .slice W1 W2 W3, .slice M1 M2 M3, .slice A1 A2 A3, sv rdn, .bool keep, .bool above, sv up, sv avt, sv avv, .int .i64 which] := by rw [hw1, hp]; exact Blk.new w _ _
  have p1 : w1.cell? ⟨p, 1, none⟩ = some (.int .i64 2) := BP.cell 1
  have q0 : Ext w1 w1.drew := (Mod.refl _ w1).drew
  replace hw1 := Lib.hid hw1
  replace hp := Lib.hid hp
  clear BP
  clear q0 _hl
  go_enter Tryz.func74, Tryz.ntmps74
  go_upto_region 1 with fail
  rw [← hw1.out, ← hp.out]
  clear hw1 hp
  go_wp2_with fail
  refine (rtag25_any 66 (rw_nil w1 AllE) (by simp)).mono ?_
  rintro e w2 ⟨v2, rfl, m1, m2, m3⟩
  go_wp2_with fail
  go_ret
  exact ⟨_, rfl, by rw [hZ.out]; exact m1, fresh_le m2 x1.size, ext_trans x1 m3⟩
set_option maxHeartbeats 16000000 in
theorem rop16_any {w : World} {num scope limit fk which : Int} {dn pass ft fv rdn up avt avv : List UInt8} {keep above : Bool} {Y1 Z1 W1 M1 A1 : Option Addr} {Y2 Y3 Z2 Z3 W2 W3 M2 M3 A2 A3 : Nat} (h0 : -9223372036854775808 ≤ which) (h1 : which ≤ 9223372036854775807) (_hl : (iB which).length ≤ 65536) :
    Calls Tryz.prog 74 #[.agg #[.int .i64 num, .int .i64 16, sv dn, sv pass, .int .i64 scope, .int .i64 limit, .int .i64 fk, sv ft, sv fv, .slice Y1 Y2 Y3, .slice Z1 Z2 Z3, .slice W1 W2 W3, .slice M1 M2 M3, .slice A1 A2 A3, sv rdn, .bool keep, .bool above, sv up, sv avt, sv avv, .int .i64 which]] w fun e w' => ∃ v', e = .returned v' ∧ Own w' 5 v' ((tlv 80 (iB which)).map bv) ∧ Fresh w.heap.size v' ∧ Ext w w' := by
  obtain ⟨Z, hZ⟩ : ∃ Z, Z = tlv 80 (iB which) := ⟨_, rfl⟩
  rw [← hZ]
  replace hZ := Lib.hid hZ
  obtain ⟨w1, hw1⟩ : ∃ x, x = w.alloc (.cells #[.int .i64 num, .int .i64 16, sv dn, sv pass, .int .i64 scope, .int .i64 limit, .int .i64 fk, sv ft, sv fv, .slice Y1 Y2 Y3, .slice Z1 Z2 Z3, .slice W1 W2 W3, .slice M1 M2 M3, .slice A1 A2 A3, sv rdn, .bool keep, .bool above, sv up, sv avt, sv avv, .int .i64 which] 32) := ⟨_, rfl⟩
  obtain ⟨p, hp⟩ : ∃ p, p = w.heap.size := ⟨_, rfl⟩
  have x1 : Ext w w1 := by rw [hw1]; exact (Mod.refl _ w).alloc _
  have BP : Blk w1 p 32 #[.int .i64 num, .int .i64 16, sv dn, sv pass, .int .i64 scope, .int .i64 limit, .int .i64 fk, sv ft, sv fv, .slice Y1 Y2 Y3, .slice Z1 Z2 Z3, .slice W1 W2 W3, .slice M1 M2 M3, .slice A1 A2 A3, sv rdn, .bool keep, .bool above, sv up, sv avt, sv avv, .int .i64 which] := by rw [hw1, hp]; exact Blk.new w _ _
  have p1 : w1.cell? ⟨p, 1, none⟩ = some (.int .i64 16) := BP.cell 1
  have p20 : w1.cell? ⟨p, 20, none⟩ = some (.int .i64 which) := BP.cell 20
  have hS : ∀ wx, Ext w1 wx → wx.cell? ⟨p, 20, none⟩ = some (.int .i64 which) := fun wx x => (BP.mod x (fun h => h)).cell 20
  have q0 : Ext w1 w1.drew := (Mod.refl _ w1).drew
  replace hw1 := Lib.hid hw1
  replace hp := Lib.hid hp
  clear BP
  clear q0 _hl hS
  go_enter Tryz.func74, Tryz.ntmps74
  go_upto_region 1 with fail
  rw [← hw1.out, ← hp.out]
  clear hw1 hp
  go_wp2_with fail
  refine (rnum25_any 80 which h0 h1).mono ?_
  rintro e w2 ⟨v2, rfl, m1, m2, m3⟩
  go_wp2_with fail
  go_ret
  exact ⟨_, rfl, by rw [hZ.out]; exact m1, fresh_le m2 x1.size, ext_trans x1 m3⟩
set_option maxHeartbeats 16000000 in
theorem rop10_any {w : World} {num scope limit fk which : Int} {dn pass ft fv rdn up avt avv : List UInt8} {keep above : Bool} {Y1 Z1 W1 M1 A1 : Option Addr} {Y2 Y3 Z2 Z3 W2 W3 M2 M3 A2 A3 : Nat} (hl : (dn).length ≤ 65536) :
    Calls Tryz.prog 74 #[.agg #[.int .i64 num, .int .i64 10, sv dn, sv pass, .int .i64 scope, .int .i64 limit, .int .i64 fk, sv ft, sv fv, .slice Y1 Y2 Y3, .slice Z1 Z2 Z3, .slice W1 W2 W3, .slice M1 M2 M3, .slice A1 A2 A3, sv rdn, .bool keep, .bool above, sv up, sv avt, sv avv, .int .i64 which]] w fun e w' => ∃ v', e = .returned v' ∧ Own w' 5 v' ((tlv 74 (dn)).map bv) ∧ Fresh w.heap.size v' ∧ Ext w w' := by
  obtain ⟨Z, hZ⟩ : ∃ Z, Z = tlv 74 (dn) := ⟨_, rfl⟩
  rw [← hZ]
  replace hZ := Lib.hid hZ
  obtain ⟨w1, hw1⟩ : ∃ x, x = w.alloc (.cells #[.int .i64 num, .int .i64 10, sv dn, sv pass, .int .i64 scope, .int .i64 limit, .int .i64 fk, sv ft, sv fv, .slice Y1 Y2 Y3, .slice Z1 Z2 Z3, .slice W1 W2 W3, .slice M1 M2 M3, .slice A1 A2 A3, sv rdn, .bool keep, .bool above, sv up, sv avt, sv avv, .int .i64 which] 32) := ⟨_, rfl⟩
  obtain ⟨p, hp⟩ : ∃ p, p = w.heap.size := ⟨_, rfl⟩
  have x1 : Ext w w1 := by rw [hw1]; exact (Mod.refl _ w).alloc _
  have BP : Blk w1 p 32 #[.int .i64 num, .int .i64 10, sv dn, sv pass, .int .i64 scope, .int .i64 limit, .int .i64 fk, sv ft, sv fv, .slice Y1 Y2 Y3, .slice Z1 Z2 Z3, .slice W1 W2 W3, .slice M1 M2 M3, .slice A1 A2 A3, sv rdn, .bool keep, .bool above, sv up, sv avt, sv avv, .int .i64 which] := by rw [hw1, hp]; exact Blk.new w _ _
  have p1 : w1.cell? ⟨p, 1, none⟩ = some (.int .i64 10) := BP.cell 1
  have p2 : w1.cell? ⟨p, 2, none⟩ = some (sv dn) := BP.cell 2
  have hS : ∀ wx, Ext w1 wx → wx.cell? ⟨p, 2, none⟩ = some (sv dn) := fun wx x => (BP.mod x (fun h => h)).cell 2
  have q0 : Ext w1 w1.drew := (Mod.refl _ w1).drew
  replace hw1 := Lib.hid hw1
  replace hp := Lib.hid hp
  clear BP
  clear q0 hS
  go_enter Tryz.func74, Tryz.ntmps74
  go_upto_region 1 with fail
  rw [← hw1.out, ← hp.out]
  clear hw1 hp
  go_wp2_with ((with_reducible show wpList _ _ _ (⟨some 70, _, _, _, _, _⟩ :: _) _ _); refine wp_tob Tryz.underlying9 Tryz.underlying22 Tryz.underlying5 (l := dn) (by omega) rfl (.tmp 69) rfl rfl ?_; intro cp w2 k1 k2 k3; clear k3)
  have hr := Rw.one 22 k1
  have hx2 := ext_trans k2 ((Mod.refl (fun _ => False) w2).alloc (.cells #[.slice (some ⟨w1.heap.size, 0, none⟩) dn.length cp] 22))
  refine (rtag25_any 74 hr (by rw [one_flat]; exact hl)).mono ?_
  rintro e w3 ⟨v3, rfl, m1, m2, m3⟩
  rw [one_flat] at m1
  go_wp2_with fail
  go_ret
  exact ⟨_, rfl, by rw [hZ.out]; exact m1, fresh_le m2 (Nat.le_trans x1.size hx2.size), ext_trans x1 (ext_trans hx2 m3)⟩
set_option maxHeartbeats 16000000 in
theorem rop6_any {w : World} {num scope limit fk which : Int} {dn pass ft fv rdn up avt avv : List UInt8} {keep above : Bool} {Y1 Z1 W1 M1 A1 : Option Addr} {Y2 Y3 Z2 Z3 W2 W3 M2 M3 A2 A3 : Nat} {K : List Md} (hK : Mds w (.slice M1 M2 M3) K) (hkd : ∀ m ∈ K, -9223372036854775808 ≤ m.kind ∧ m.kind ≤ 9223372036854775807) (hl : (txB dn ++ tlv 48 (K.flatMap mdB)).length ≤ 65536) :
    Calls Tryz.prog 74 #[.agg #[.int .i64 num, .int .i64 6, sv dn, sv pass, .int .i64 scope, .int .i64 limit, .int .i64 fk, sv ft, sv fv, .slice Y1 Y2 Y3, .slice Z1 Z2 Z3, .slice W1 W2 W3, .slice M1 M2 M3, .slice A1 A2 A3, sv rdn, .bool keep, .bool above, sv up, sv avt, sv avv, .int .i64 which]] w fun e w' => ∃ v', e = .returned v' ∧ Own w' 5 v' ((tlv 102 (txB dn ++ tlv 48 (K.flatMap mdB))).map bv) ∧ Fresh w.heap.size v' ∧ Ext w w' := by
  obtain ⟨Z, hZ⟩ : ∃ Z, Z = tlv 102 (txB dn ++ tlv 48 (K.flatMap mdB)) := ⟨_, rfl⟩
  rw [← hZ]
  replace hZ := Lib.hid hZ
  obtain ⟨w1, hw1⟩ : ∃ x, x = w.alloc (.cells #[.int .i64 num, .int .i64 6, sv dn, sv pass, .int .i64 scope, .int .i64 limit, .int .i64 fk, sv ft, sv fv, .slice Y1 Y2 Y3, .slice Z1 Z2 Z3, .slice W1 W2 W3, .slice M1 M2 M3, .slice A1 A2 A3, sv rdn, .bool keep, .bool above, sv up, sv avt, sv avv, .int .i64 which] 32) := ⟨_, rfl⟩
  obtain ⟨p, hp⟩ : ∃ p, p = w.heap.size := ⟨_, rfl⟩
  have x1 : Ext w w1 := by rw [hw1]; exact (Mod.refl _ w).alloc _
  have BP : Blk w1 p 32 #[.int .i64 num, .int .i64 6, sv dn, sv pass, .int .i64 scope, .int .i64 limit, .int .i64 fk, sv ft, sv fv, .slice Y1 Y2 Y3, .slice Z1 Z2 Z3, .slice W1 W2 W3, .slice M1 M2 M3, .slice A1 A2 A3, sv rdn, .bool keep, .bool above, sv up, sv avt, sv avv, .int .i64 which] := by rw [hw1, hp]; exact Blk.new w _ _
  have p1 : w1.cell? ⟨p, 1, none⟩ = some (.int .i64 6) := BP.cell 1
  have p2 : w1.cell? ⟨p, 2, none⟩ = some (sv dn) := BP.cell 2
  have p12 : w1.cell? ⟨p, 12, none⟩ = some (.slice M1 M2 M3) := BP.cell 12
  have hS : ∀ wx, Ext w1 wx → wx.cell? ⟨p, 2, none⟩ = some (sv dn) ∧ wx.cell? ⟨p, 12, none⟩ = some (.slice M1 M2 M3) := fun wx x => ⟨(BP.mod x (fun h => h)).cell 2, (BP.mod x (fun h => h)).cell 12⟩
  have hl2 := hl
  rw [List.length_append] at hl2
  have hdl : dn.length ≤ 65536 := tlv_le (t := 4) (show (txB dn).length ≤ 65536 by omega)
  have hml : (K.flatMap mdB).length ≤ 65536 := tlv_le (t := 48) (l := K.flatMap mdB) (show (tlv 48 (K.flatMap mdB)).length ≤ 65536 by omega)
  have htx1 : ∀ wx, Calls Tryz.prog 97 #[sv dn] wx fun e w' => ∃ v', e = .returned v' ∧ Own w' 5 v' ((txB dn).map bv) ∧ Fresh wx.heap.size v' ∧ Ext wx w' := fun wx => rtext25_any (w := wx) dn hdl
  have htx2 : ∀ wx, Ext w wx → Calls Tryz.prog 101 #[.slice M1 M2 M3] wx fun e w' => ∃ v', e = .returned v' ∧ Own w' 5 v' ((tlv 48 (K.flatMap mdB)).map bv) ∧ Fresh wx.heap.size v' ∧ Ext wx w' := fun wx x => rmods25_any (hK.ext x) hkd hml
  generalize txB dn = P at *
  generalize tlv 48 (K.flatMap mdB) = Q at *
  have hf2 : [P, Q].flatten = P ++ Q := by simp
  have htag : ∀ (wx : World) (S : Nat → Prop) (y : Value), Rw wx S y [P, Q] → Calls Tryz.prog 72 #[.int .u8 102, y] wx fun e w' => ∃ v', e = .returned v' ∧ Own w' 5 v' ((Z).map bv) ∧ Fresh wx.heap.size v' ∧ Ext wx w' := fun wx S y hr => by
    have h := rtag25_any 102 hr (by rw [hf2]; exact hl)
    rw [hf2, ← hZ.out] at h
    exact h
  clear hl hl2 hdl hml hf2 hK hkd
  have q0 : Ext w1 w1.drew := (Mod.refl _ w1).drew
  replace hw1 := Lib.hid hw1
  replace hp := Lib.hid hp
  clear BP
  go_enter Tryz.func74, Tryz.ntmps74
  go_upto_region 1 with fail
  rw [← hw1.out, ← hp.out]
  clear hw1 hp
  go_wp2_with fail
  go_region_held3 (fun wx => wx.cell? ⟨p, 2, none⟩ = some (sv dn) ∧ wx.cell? ⟨p, 12, none⟩ = some (.slice M1 M2 M3)) (first | exact hS _ qd | exact hS _ qc | exact hS _ qb | exact hS _ qa | exact hS _ q0 | go_keep) (first
    | (go_at_call 97; (with_reducible refine (htx1 _).mono ?_); rintro e wa ⟨va, rfl, a1, a2, a3⟩; have qa := ext_trans q0 a3)
    | (go_at_call 101; (with_reducible refine (htx2 _ (ext_trans x1 qa)).mono ?_); rintro e wb ⟨vb, rfl, b1, b2, b3⟩; have qb := ext_trans qa b3; obtain ⟨Aa, ca, ea⟩ := a1.shape; obtain ⟨Ab, cb, eb⟩ := b1.shape; rw [List.length_map] at ea eb; subst ea eb; have hr := Rw.two 22 (a1.mod b3 (fun _ _ h => h)).sl b1.sl; have qc := ext_trans qb ((Mod.refl (fun _ => False) wb).alloc (.cells #[.slice Aa P.length ca, .slice Ab Q.length cb] 22)))
    | (go_at_call 72; (with_reducible refine (htag _ _ _ hr).mono ?_); rintro e wc ⟨vc, rfl, t1, t2, t3⟩; have qd := ext_trans qc t3))
  go_wp2_with fail
  go_ret
  exact ⟨_, rfl, t1, fresh_le t2 (ext_trans x1 qc).size, ext_trans x1 qd⟩
set_option maxHeartbeats 16000000 in
theorem rop8_any {w : World} {num scope limit fk which : Int} {dn pass ft fv rdn up avt avv : List UInt8} {keep above : Bool} {Y1 Z1 W1 M1 A1 : Option Addr} {Y2 Y3 Z2 Z3 W2 W3 M2 M3 A2 A3 : Nat} {K : List Att} (hK : Ats w (.slice A1 A2 A3) K) (hl : (txB dn ++ atsB K).length ≤ 65536) :
    Calls Tryz.prog 74 #[.agg #[.int .i64 num, .int .i64 8, sv dn, sv pass, .int .i64 scope, .int .i64 limit, .int .i64 fk, sv ft, sv fv, .slice Y1 Y2 Y3, .slice Z1 Z2 Z3, .slice W1 W2 W3, .slice M1 M2 M3, .slice A1 A2 A3, sv rdn, .bool keep, .bool above, sv up, sv avt, sv avv, .int .i64 which]] w fun e w' => ∃ v', e = .returned v' ∧ Own w' 5 v' ((tlv 104 (txB dn ++ atsB K)).map bv) ∧ Fresh w.heap.size v' ∧ Ext w w' := by
  obtain ⟨Z, hZ⟩ : ∃ Z, Z = tlv 104 (txB dn ++ atsB K) := ⟨_, rfl⟩
  rw [← hZ]
  replace hZ := Lib.hid hZ
  obtain ⟨w1, hw1⟩ : ∃ x, x = w.alloc (.cells #[.int .i64 num, .int .i64 8, sv dn, sv pass, .int .i64 scope, .int .i64 limit, .int .i64 fk, sv ft, sv fv, .slice Y1 Y2 Y3, .slice Z1 Z2 Z3, .slice W1 W2 W3, .slice M1 M2 M3, .slice A1 A2 A3, sv rdn, .bool keep, .bool above, sv up, sv avt, sv avv, .int .i64 which] 32) := ⟨_, rfl⟩
  obtain ⟨p, hp⟩ : ∃ p, p = w.heap.size := ⟨_, rfl⟩
  have x1 : Ext w w1 := by rw [hw1]; exact (Mod.refl _ w).alloc _
  have BP : Blk w1 p 32 #[.int .i64 num, .int .i64 8, sv dn, sv pass, .int .i64 scope, .int .i64 limit, .int .i64 fk, sv ft, sv fv, .slice Y1 Y2 Y3, .slice Z1 Z2 Z3, .slice W1 W2 W3, .slice M1 M2 M3, .slice A1 A2 A3, sv rdn, .bool keep, .bool above, sv up, sv avt, sv avv, .int .i64 which] := by rw [hw1, hp]; exact Blk.new w _ _
  have p1 : w1.cell? ⟨p, 1, none⟩ = some (.int .i64 8) := BP.cell 1
  have p2 : w1.cell? ⟨p, 2, none⟩ = some (sv dn) := BP.cell 2
  have p13 : w1.cell? ⟨p, 13, none⟩ = some (.slice A1 A2 A3) := BP.cell 13
  have hS : ∀ wx, Ext w1 wx → wx.cell? ⟨p, 2, none⟩ = some (sv dn) ∧ wx.cell? ⟨p, 13, none⟩ = some (.slice A1 A2 A3) := fun wx x => ⟨(BP.mod x (fun h => h)).cell 2, (BP.mod x (fun h => h)).cell 13⟩
  have hl2 := hl
  rw [List.length_append] at hl2
  have hdl : dn.length ≤ 65536 := tlv_le (t := 4) (show (txB dn).length ≤ 65536 by omega)
  have hml : (K.flatMap aB).length ≤ 65536 := tlv_le (t := 48) (l := K.flatMap aB) (show (atsB K).length ≤ 65536 by omega)
  have htx1 : ∀ wx, Calls Tryz.prog 97 #[sv dn] wx fun e w' => ∃ v', e = .returned v' ∧ Own w' 5 v' ((txB dn).map bv) ∧ Fresh wx.heap.size v' ∧ Ext wx w' := fun wx => rtext25_any (w := wx) dn hdl
  have htx2 : ∀ wx, Ext w wx → Calls Tryz.prog 102 #[.slice A1 A2 A3] wx fun e w' => ∃ v', e = .returned v' ∧ Own w' 5 v' ((atsB K).map bv) ∧ Fresh wx.heap.size v' ∧ Ext wx w' := fun wx x => rattrs25_any (hK.ext x) hml
  generalize txB dn = P at *
  generalize atsB K = Q at *
  have hf2 : [P, Q].flatten = P ++ Q := by simp
  have htag : ∀ (wx : World) (S : Nat → Prop) (y : Value), Rw wx S y [P, Q] → Calls Tryz.prog 72 #[.int .u8 104, y] wx fun e w' => ∃ v', e = .returned v' ∧ Own w' 5 v' ((Z).map bv) ∧ Fresh wx.heap.size v' ∧ Ext wx w' := fun wx S y hr => by
    have h := rtag25_any 104 hr (by rw [hf2]; exact hl)
    rw [hf2, ← hZ.out] at h
    exact h
  clear hl hl2 hdl hml hf2 hK
  have q0 : Ext w1 w1.drew := (Mod.refl _ w1).drew
  replace hw1 := Lib.hid hw1
  replace hp := Lib.hid hp
  clear BP
  go_enter Tryz.func74, Tryz.ntmps74
  go_upto_region 1 with fail
  rw [← hw1.out, ← hp.out]
  clear hw1 hp
  go_wp2_with fail
  go_region_held3 (fun wx => wx.cell? ⟨p, 2, none⟩ = some (sv dn) ∧ wx.cell? ⟨p, 13, none⟩ = some (.slice A1 A2 A3)) (first | exact hS _ qd | exact hS _ qc | exact hS _ qb | exact hS _ qa | exact hS _ q0 | go_keep) (first
    | (go_at_call 97; (with_reducible refine (htx1 _).mono ?_); rintro e wa ⟨va, rfl, a1, a2, a3⟩; have qa := ext_trans q0 a3)
    | (go_at_call 102; (with_reducible refine (htx2 _ (ext_trans x1 qa)).mono ?_); rintro e wb ⟨vb, rfl, b1, b2, b3⟩; have qb := ext_trans qa b3; obtain ⟨Aa, ca, ea⟩ := a1.shape; obtain ⟨Ab, cb, eb⟩ := b1.shape; rw [List.length_map] at ea eb; subst ea eb; have hr := Rw.two 22 (a1.mod b3 (fun _ _ h => h)).sl b1.sl; have qc := ext_trans qb ((Mod.refl (fun _ => False) wb).alloc (.cells #[.slice Aa P.length ca, .slice Ab Q.length cb] 22)))
    | (go_at_call 72; (with_reducible refine (htag _ _ _ hr).mono ?_); rintro e wc ⟨vc, rfl, t1, t2, t3⟩; have qd := ext_trans qc t3))
  go_wp2_with fail
  go_ret
  exact ⟨_, rfl, t1, fresh_le t2 (ext_trans x1 qc).size, ext_trans x1 qd⟩
set_option maxHeartbeats 16000000 in
theorem rop14_any {w : World} {num scope limit fk which : Int} {dn pass ft fv rdn up avt avv : List UInt8} {keep above : Bool} {Y1 Z1 W1 M1 A1 : Option Addr} {Y2 Y3 Z2 Z3 W2 W3 M2 M3 A2 A3 : Nat} (hl : (txB dn ++ tlv 48 (txB avt ++ txB avv)).length ≤ 65536) :
    Calls Tryz.prog 74 #[.agg #[.int .i64 num, .int .i64 14, sv dn, sv pass, .int .i64 scope, .int .i64 limit, .int .i64 fk, sv ft, sv fv, .slice Y1 Y2 Y3, .slice Z1 Z2 Z3, .slice W1 W2 W3, .slice M1 M2 M3, .slice A1 A2 A3, sv rdn, .bool keep, .bool above, sv up, sv avt, sv avv, .int .i64 which]] w fun e w' => ∃ v', e = .returned v' ∧ Own w' 5 v' ((tlv 110 (txB dn ++ tlv 48 (txB avt ++ txB avv))).map bv) ∧ Fresh w.heap.size v' ∧ Ext w w' := by
  obtain ⟨Z, hZ⟩ : ∃ Z, Z = tlv 110 (txB dn ++ tlv 48 (txB avt ++ txB avv)) := ⟨_, rfl⟩
  rw [← hZ]
  replace hZ := Lib.hid hZ
  obtain ⟨w1, hw1⟩ : ∃ x, x = w.alloc (.cells #[.int .i64 num, .int .i64 14, sv dn, sv pass, .int .i64 scope, .int .i64 limit, .int .i64 fk, sv ft, sv fv, .slice Y1 Y2 Y3, .slice Z1 Z2 Z3, .slice W1 W2 W3, .slice M1 M2 M3, .slice A1 A2 A3, sv rdn, .bool keep, .bool above, sv up, sv avt, sv avv, .int .i64 which] 32) := ⟨_, rfl⟩
  obtain ⟨p, hp⟩ : ∃ p, p = w.heap.size := ⟨_, rfl⟩
  have x1 : Ext w w1 := by rw [hw1]; exact (Mod.refl _ w).alloc _
  have BP : Blk w1 p 32 #[.int .i64 num, .int .i64 14, sv dn, sv pass, .int .i64 scope, .int .i64 limit, .int .i64 fk, sv ft, sv fv, .slice Y1 Y2 Y3, .slice Z1 Z2 Z3, .slice W1 W2 W3, .slice M1 M2 M3, .slice A1 A2 A3, sv rdn, .bool keep, .bool above, sv up, sv avt, sv avv, .int .i64 which] := by rw [hw1, hp]; exact Blk.new w _ _
  have p1 : w1.cell? ⟨p, 1, none⟩ = some (.int .i64 14) := BP.cell 1
  have p2 : w1.cell? ⟨p, 2, none⟩ = some (sv dn) := BP.cell 2
  have p18 : w1.cell? ⟨p, 18, none⟩ = some (sv avt) := BP.cell 18
  have p19 : w1.cell? ⟨p, 19, none⟩ = some (sv avv) := BP.cell 19
  have hS : ∀ wx, Ext w1 wx → wx.cell? ⟨p, 2, none⟩ = some (sv dn) ∧ wx.cell? ⟨p, 18, none⟩ = some (sv avt) ∧ wx.cell? ⟨p, 19, none⟩ = some (sv avv) := fun wx x => ⟨(BP.mod x (fun h => h)).cell 2, (BP.mod x (fun h => h)).cell 18, (BP.mod x (fun h => h)).cell 19⟩
  have hl2 := hl
  rw [List.length_append] at hl2
  have hdl : dn.length ≤ 65536 := tlv_le (t := 4) (show (txB dn).length ≤ 65536 by omega)
  have hl3 : (txB avt ++ txB avv).length ≤ 65536 := tlv_le (t := 48) (show (tlv 48 (txB avt ++ txB avv)).length ≤ 65536 by omega)
  have hl4 := hl3
  rw [List.length_append] at hl4
  have htl : avt.length ≤ 65536 := tlv_le (t := 4) (show (txB avt).length ≤ 65536 by omega)
  have hvl : avv.length ≤ 65536 := tlv_le (t := 4) (show (txB avv).length ≤ 65536 by omega)
  have htx1 : ∀ wx, Calls Tryz.prog 97 #[sv dn] wx fun e w' => ∃ v', e = .returned v' ∧ Own w' 5 v' ((txB dn).map bv) ∧ Fresh wx.heap.size v' ∧ Ext wx w' := fun wx => rtext25_any (w := wx) dn hdl
  have htx2 : ∀ wx, Calls Tryz.prog 97 #[sv avt] wx fun e w' => ∃ v', e = .returned v' ∧ Own w' 5 v' ((txB avt).map bv) ∧ Fresh wx.heap.size v' ∧ Ext wx w' := fun wx => rtext25_any (w := wx) avt htl
  have htx3 : ∀ wx, Calls Tryz.prog 97 #[sv avv] wx fun e w' => ∃ v', e = .returned v' ∧ Own w' 5 v' ((txB avv).map bv) ∧ Fresh wx.heap.size v' ∧ Ext wx w' := fun wx => rtext25_any (w := wx) avv hvl
  generalize txB dn = X at *
  generalize txB avt = P at *
  generalize txB avv = Q at *
  have hf2 : [P, Q].flatten = P ++ Q := by simp
  obtain ⟨D, hD⟩ : ∃ D, D = tlv 48 (P ++ Q) := ⟨_, rfl⟩
  have htag1 : ∀ (wx : World) (S : Nat → Prop) (y : Value), Rw wx S y [P, Q] → Calls Tryz.prog 72 #[.int .u8 48, y] wx fun e w' => ∃ v', e = .returned v' ∧ Own w' 5 v' ((D).map bv) ∧ Fresh wx.heap.size v' ∧ Ext wx w' := fun wx S y hr => by
    have h := rtag25_any 48 hr (by rw [hf2]; exact hl3)
    rw [hf2] at h
    rw [hD]
    exact h
  rw [← hD] at hl
  have hZ2 : Z = tlv 110 (X ++ D) := by rw [hZ.out, hD]
  have hf3 : [X, D].flatten = X ++ D := by simp
  have htag2 : ∀ (wx : World) (S : Nat → Prop) (y : Value), Rw wx S y [X, D] → Calls Tryz.prog 72 #[.int .u8 110, y] wx fun e w' => ∃ v', e = .returned v' ∧ Own w' 5 v' ((Z).map bv) ∧ Fresh wx.heap.size v' ∧ Ext wx w' := fun wx S y hr => by
    have h := rtag25_any 110 hr (by rw [hf3]; exact hl)
    rw [hf3] at h
    rw [hZ2]
    exact h
  clear hl hl2 hdl hl3 hl4 htl hvl hf2 hf3 hD hZ2 hZ
  have q0 : Ext w1 w1.drew := (Mod.refl _ w1).drew
  replace hw1 := Lib.hid hw1
  replace hp := Lib.hid hp
  clear BP
  go_enter Tryz.func74, Tryz.ntmps74
  go_upto_region 1 with fail
  rw [← hw1.out, ← hp.out]
  clear hw1 hp
  go_wp2_with fail
  go_region_held3 (fun wx => wx.cell? ⟨p, 2, none⟩ = some (sv dn) ∧ wx.cell? ⟨p, 18, none⟩ = some (sv avt) ∧ wx.cell? ⟨p, 19, none⟩ = some (sv avv)) (first | exact hS _ qg | exact hS _ qf | exact hS _ qe | exact hS _ qd | exact hS _ qc | exact hS _ qb | exact hS _ qa | exact hS _ q0 | go_keep) (first
    | (go_at_call 97; (with_reducible refine (htx1 _).mono ?_); rintro e wa ⟨va, rfl, a1, a2, a3⟩; have qa := ext_trans q0 a3)
    | (go_at_call 97; (with_reducible refine (htx2 _).mono ?_); rintro e wb ⟨vb, rfl, b1, b2, b3⟩; have qb := ext_trans qa b3)
    | (go_at_call 97; (with_reducible refine (htx3 _).mono ?_); rintro e wc ⟨vc, rfl, c1, c2, c3⟩; have qc := ext_trans qb c3; obtain ⟨Aa, ca, ea⟩ := a1.shape; obtain ⟨Ab, cb, eb⟩ := b1.shape; obtain ⟨Ac, cc, ec⟩ := c1.shape; rw [List.length_map] at ea eb ec; subst ea eb ec; have hr := Rw.two 22 (b1.mod c3 (fun _ _ h => h)).sl c1.sl; have q4 := (Mod.refl (fun _ => False) wc).alloc (.cells #[.slice Ab P.length cb, .slice Ac Q.length cc] 22); have qd := ext_trans qc q4)
    | (go_at_call 72; (with_reducible refine (htag1 _ _ _ hr).mono ?_); rintro e wd ⟨vd, rfl, d1, d2, d3⟩; have qe := ext_trans qd d3; obtain ⟨Ad, cd, ed⟩ := d1.shape; rw [List.length_map] at ed; subst ed; have hr2 := Rw.two 22 (a1.mod (ext_trans b3 (ext_trans c3 (ext_trans q4 d3))) (fun _ _ h => h)).sl d1.sl; have qf := ext_trans qe ((Mod.refl (fun _ => False) wd).alloc (.cells #[.slice Aa X.length ca, .slice Ad D.length cd] 22)))
    | (go_at_call 72; (with_reducible refine (htag2 _ _ _ hr2).mono ?_); rintro e we ⟨ve, rfl, t1, t2, t3⟩; have qg := ext_trans qf t3))
  go_wp2_with fail
  go_ret
  exact ⟨_, rfl, t1, fresh_le t2 (ext_trans x1 qf).size, ext_trans x1 qg⟩
end Go.Proofs.YtoockogceobfgaaGreat
namespace Go.Proofs.YtoockogceobfgaaGreat
open Go.RowKit
set_option maxRecDepth 100000

set_option maxHeartbeats 16000000 in
theorem rop12_any {w : World} {num scope limit fk which : Int} {dn pass ft fv rdn up avt avv : List UInt8} {keep above : Bool} {Y1 Z1 W1 M1 A1 : Option Addr} {Y2 Y3 Z2 Z3 W2 W3 M2 M3 A2 A3 : Nat} (hl : (txB dn ++ txB rdn ++ boB (!keep) ++ (if above then tlv 128 up else [])).length ≤ 65536) :
    Calls Tryz.prog 74 #[.agg #[.int .i64 num, .int .i64 12, sv dn, sv pass, .int .i64 scope, .int .i64 limit, .int .i64 fk, sv ft, sv fv, .slice Y1 Y2 Y3, .slice Z1 Z2 Z3, .slice W1 W2 W3, .slice M1 M2 M3, .slice A1 A2 A3, sv rdn, .bool keep, .bool above, sv up, sv avt, sv avv, .int .i64 which]] w fun e w' => ∃ v', e = .returned v' ∧ Own w' 5 v' ((tlv 108 (txB dn ++ txB rdn ++ boB (!keep) ++ (if above then tlv 128 up else []))).map bv) ∧ Fresh w.heap.size v' ∧ Ext w w' := by
  obtain ⟨Z, hZ⟩ : ∃ Z, Z = tlv 108 (txB dn ++ txB rdn ++ boB (!keep) ++ (if above then tlv 128 up else [])) := ⟨_, rfl⟩
  rw [← hZ]
  replace hZ := Lib.hid hZ
  obtain ⟨w1, hw1⟩ : ∃ x, x = w.alloc (.cells #[.int .i64 num, .int .i64 12, sv dn, sv pass, .int .i64 scope, .int .i64 limit, .int .i64 fk, sv ft, sv fv, .slice Y1 Y2 Y3, .slice Z1 Z2 Z3, .slice W1 W2 W3, .slice M1 M2 M3, .slice A1 A2 A3, sv rdn, .bool keep, .bool above, sv up, sv avt, sv avv, .int .i64 which] 32) := ⟨_, rfl⟩
  obtain ⟨p, hp⟩ : ∃ p, p = w.heap.size := ⟨_, rfl⟩
  have x1 : Ext w w1 := by rw [hw1]; exact (Mod.refl _ w).alloc _
  have BP : Blk w1 p 32 #[.int .i64 num, .int .i64 12, sv dn, sv pass, .int .i64 scope, .int .i64 limit, .int .i64 fk, sv ft, sv fv, .slice Y1 Y2 Y3, .slice Z1 Z2 Z3, .slice W1 W2 W3, .slice M1 M2 M3, .slice A1 A2 A3, sv rdn, .bool keep, .bool above, sv up, sv avt, sv avv, .int .i64 which] := by rw [hw1, hp]; exact Blk.new w _ _
  have p1 : w1.cell? ⟨p, 1, none⟩ = some (.int .i64 12) := BP.cell 1
  have p2 : w1.cell? ⟨p, 2, none⟩ = some (sv dn) := BP.cell 2
  have p14 : w1.cell? ⟨p, 14, none⟩ = some (sv rdn) := BP.cell 14
  have p15 : w1.cell? ⟨p, 15, none⟩ = some (.bool keep) := BP.cell 15
  have hS : ∀ wx, Ext w1 wx → wx.cell? ⟨p, 2, none⟩ = some (sv dn) ∧ wx.cell? ⟨p, 14, none⟩ = some (sv rdn) ∧ wx.cell? ⟨p, 15, none⟩ = some (.bool keep) := fun wx x => ⟨(BP.mod x (fun h => h)).cell 2, (BP.mod x (fun h => h)).cell 14, (BP.mod x (fun h => h)).cell 15⟩
  have hup : above = true → up.length ≤ 65536 := fun e => by
    rw [e, if_pos rfl, List.length_append] at hl
    exact tlv_le (t := 128) (show (tlv 128 up).length ≤ 65536 by omega)
  have hl2 : (txB dn).length + (txB rdn).length ≤ 65536 := by simp only [List.length_append] at hl ⊢; omega
  have hdl : dn.length ≤ 65536 := tlv_le (t := 4) (show (txB dn).length ≤ 65536 by omega)
  have hrl : rdn.length ≤ 65536 := tlv_le (t := 4) (show (txB rdn).length ≤ 65536 by omega)
  have htx1 : ∀ wx, Calls Tryz.prog 97 #[sv dn] wx fun e w' => ∃ v', e = .returned v' ∧ Own w' 5 v' ((txB dn).map bv) ∧ Fresh wx.heap.size v' ∧ Ext wx w' := fun wx => rtext25_any (w := wx) dn hdl
  have htx2 : ∀ wx, Calls Tryz.prog 97 #[sv rdn] wx fun e w' => ∃ v', e = .returned v' ∧ Own w' 5 v' ((txB rdn).map bv) ∧ Fresh wx.heap.size v' ∧ Ext wx w' := fun wx => rtext25_any (w := wx) rdn hrl
  have hbool := fun (wx : World) => rbool_any (w := wx) (!keep)
  have hbo : boB (!keep) = tlv 1 [if (!keep) = true then 255 else 0] := rfl
  rw [hbo] at hl
  replace hZ := hZ.out
  rw [hbo] at hZ
  clear hbo hl2
  generalize (if (!keep) = true then (255 : UInt8) else 0) = BB at *
  generalize txB dn = X at *
  generalize txB rdn = P at *
  obtain ⟨D, hD⟩ : ∃ D, D = tlv 1 [BB] := ⟨_, rfl⟩
  rw [← hD] at hl hZ
  have htag1 : ∀ (wx : World) (S : Nat → Prop) (y : Value), Rw wx S y [[BB]] → Calls Tryz.prog 72 #[.int .u8 1, y] wx fun e w' => ∃ v', e = .returned v' ∧ Own w' 5 v' ((D).map bv) ∧ Fresh wx.heap.size v' ∧ Ext wx w' := fun wx S y hr => by
    have h := rtag25_any 1 hr (by simp)
    rw [one_flat] at h
    rw [hD]
    exact h
  clear hD hdl hrl
  replace hZ := Lib.hid hZ
  have hc16 : ∀ wx, Ext w1 wx → wx.cell? ⟨p, 16, none⟩ = some (.bool above) := fun wx x => (BP.mod x (fun h => h)).cell 16
  have hc17 : ∀ wx, Ext w1 wx → wx.cell? ⟨p, 17, none⟩ = some (sv up) := fun wx x => (BP.mod x (fun h => h)).cell 17
  have q0 : Ext w1 w1.drew := (Mod.refl _ w1).drew
  replace hw1 := Lib.hid hw1
  replace hp := Lib.hid hp
  clear BP
  go_enter Tryz.func74, Tryz.ntmps74
  go_upto_region 1 with fail
  rw [← hw1.out, ← hp.out]
  clear hw1 hp
  go_wp2_with fail
  go_region_held3 (fun wx => wx.cell? ⟨p, 2, none⟩ = some (sv dn) ∧ wx.cell? ⟨p, 14, none⟩ = some (sv rdn) ∧ wx.cell? ⟨p, 15, none⟩ = some (.bool keep)) (first | exact hS _ qf | exact hS _ qe | exact hS _ qd | exact hS _ qc | exact hS _ qb | exact hS _ qa | exact hS _ q0 | go_keep) (first
    | (go_at_call 97; (with_reducible refine (htx1 _).mono ?_); rintro e wa ⟨va, rfl, a1, a2, a3⟩; have qa := ext_trans q0 a3)
    | (go_at_call 97; (with_reducible refine (htx2 _).mono ?_); rintro e wb ⟨vb, rfl, b1, b2, b3⟩; have qb := ext_trans qa b3)
    | (go_at_call 98; (with_reducible refine (hbool _).mono ?_); rintro e wc ⟨Ac, cc, rfl, c1, c3⟩; have qc := ext_trans qb c3; have hr := Rw.one 22 c1; have q4 := (Mod.refl (fun _ => False) wc).alloc (.cells #[.slice Ac 1 cc] 22); have qd := ext_trans qc q4)
    | (go_at_call 72; (with_reducible refine (htag1 _ _ _ hr).mono ?_); rintro e wd ⟨vd, rfl, d1, d2, d3⟩; have qe := ext_trans qd d3; obtain ⟨Aa, ca, ea⟩ := a1.shape; obtain ⟨Ab, cb, eb⟩ := b1.shape; obtain ⟨Ad, cd, ed⟩ := d1.shape; rw [List.length_map] at ea eb ed; subst ea eb ed; have ya := ext_trans b3 (ext_trans c3 (ext_trans q4 d3)); have yb := ext_trans c3 (ext_trans q4 d3); have l1 := (Mod.refl (fun _ => False) wd).alloc (.cells #[.slice Aa X.length ca, .slice Ab P.length cb, .slice Ad D.length cd] 22); have qf := ext_trans qe l1))
  have p16 := hc16 _ qf
  have zf := ext_trans x1 qf
  have ho : Orw (wd.alloc (.cells #[.slice Aa X.length ca, .slice Ab P.length cb, .slice Ad D.length cd] 22)) w1.heap.size (.slice (some ⟨wd.heap.size, 0, none⟩) 3 3) [.slice Aa X.length ca, .slice Ab P.length cb, .slice Ad D.length cd] [X, P, D] := by
    refine ⟨Own.lit wd 22 [.slice Aa X.length ca, .slice Ab P.length cb, .slice Ad D.length cd] (by simp [maxLen]), fun k hk => ?_, rfl, fun k x l hx hl => ?_⟩
    · have hk2 : wd.heap.size = k := Option.some.inj hk
      have := qe.size
      omega
    · match k, hx, hl with
      | 0, hx, hl =>
        simp only [List.getElem?_cons_zero, Option.some.injEq] at hx hl
        subst hx hl
        exact ⟨(a1.mod ya (fun _ _ h => h)).alloc _, fresh_le a2 q0.size⟩
      | 1, hx, hl =>
        simp only [List.getElem?_cons_succ, List.getElem?_cons_zero, Option.some.injEq] at hx hl
        subst hx hl
        exact ⟨(b1.mod yb (fun _ _ h => h)).alloc _, fresh_le b2 qa.size⟩
      | 2, hx, hl =>
        simp only [List.getElem?_cons_succ, List.getElem?_cons_zero, Option.some.injEq] at hx hl
        subst hx hl
        exact ⟨d1.alloc _, fresh_le d2 qd.size⟩
      | k + 3, hx, hl => simp at hx
  clear htx1 htx2 hbool htag1 hS a1 a2 a3 b1 b2 b3 c1 c3 d1 d2 d3 ya yb l1 qa qb qc qd qe q4 hr p2 p14 p15 p1
  cases above
  · rw [if_neg (by simp), List.append_nil] at hl
    have hZ2 := hZ.out
    rw [if_neg (by simp), List.append_nil] at hZ2
    replace hZ2 := Lib.hid hZ2
    have hfl : [X, P, D].flatten = X ++ P ++ D := by simp
    have hrw := ho.rw
    clear hZ hup hc16 hc17 ho
    go_wp2_with fail
    refine (rtag25_any 108 hrw (by rw [hfl]; exact hl)).mono ?_
    rintro e w9 ⟨v9, rfl, s1, s2, s3⟩
    rw [hfl] at s1
    go_wp2_with fail
    go_ret
    exact ⟨_, rfl, by rw [hZ2.out]; exact s1, fresh_le s2 zf.size, ext_trans zf s3⟩
  · rw [if_pos rfl] at hl
    have hZ2 := hZ.out
    rw [if_pos rfl] at hZ2
    have p17 := hc17 _ qf
    have hul := hup rfl
    obtain ⟨E, hE⟩ : ∃ E, E = tlv 128 up := ⟨_, rfl⟩
    rw [← hE] at hl hZ2
    replace hE := Lib.hid hE
    replace hZ2 := Lib.hid hZ2
    have hfl : [X, P, D, E].flatten = X ++ P ++ D ++ E := by simp
    have hzz : w1.heap.size ≤ (wd.alloc (.cells #[.slice Aa X.length ca, .slice Ab P.length cb, .slice Ad D.length cd] 22)).heap.size := qf.size
    clear hZ hup hc16 hc17
    go_upto_region 17 with fail
    obtain ⟨w5, hw5⟩ : ∃ y, y = wd.alloc (.cells #[.slice Aa X.length ca, .slice Ab P.length cb, .slice Ad D.length cd] 22) := ⟨_, rfl⟩
    rw [← hw5] at ho zf qf p16 p17 hzz ⊢
    clear hw5
    generalize wd.heap.size = g5 at *
    go_wp2_with ((with_reducible show wpList _ _ _ (⟨some 93, _, _, _, _, _⟩ :: _) _ _); refine wp_tob Tryz.underlying9 Tryz.underlying22 Tryz.underlying5 (l := up) (by omega) rfl (.tmp 92) rfl rfl ?_; intro cp w6 k1 k2 k3; clear k3)
    have hr := Rw.one 22 k1
    have hx2 := ext_trans k2 ((Mod.refl (fun _ => False) w6).alloc (.cells #[.slice (some ⟨w5.heap.size, 0, none⟩) up.length cp] 22))
    refine (rtag25_any 128 hr (by rw [one_flat]; exact hul)).mono ?_
    rintro e w7 ⟨v7, rfl, m1, m2, m3⟩
    rw [one_flat, ← hE.out] at m1
    obtain ⟨A7, c7, e7⟩ := m1.shape
    rw [List.length_map] at e7
    subst e7
    have y7 := ext_trans hx2 m3
    have ho7 := (ho.ext y7).ext ((Mod.refl (fun _ => False) w7).alloc (.cells #[.slice A7 E.length c7] 22))
    have m4 := m1.alloc (.cells #[.slice A7 E.length c7] 22)
    have hsl := Sl.one w7 22 (.slice A7 E.length c7)
    have m5 := fresh_le m2 (Nat.le_trans hzz hx2.size)
    have z7 := ext_trans qf (ext_trans y7 ((Mod.refl (fun _ => False) w7).alloc (.cells #[.slice A7 E.length c7] 22)))
    go_wp2_with ((with_reducible show wpList _ _ _ (⟨some 97, _, _, _, _, _⟩ :: _) _ _); refine wp_app tyR ho7.own hsl (one_ok _ rfl) rfl (.tmp 90) (.tmp 96) rfl rfl rfl (by simp) ?_; intro v8 w8 q1 q2 q3)
    have ho8 := ho7.snoc q1 q2 q3 m4 m5 z7.size
    have hx8 : Ext w1 w8 := z7.trans q2 (fun _ _ h => h) (fun b hb h => by have := ho7.fresh b h; omega)
    have hrw := ho8.rw
    refine (rtag25_any 108 hrw (by show ([X, P, D, E].flatten).length ≤ _; rw [hfl]; exact hl)).mono ?_
    rintro e w9 ⟨v9, rfl, s1, s2, s3⟩
    have hfl2 : ([X, P, D] ++ [E]).flatten = X ++ P ++ D ++ E := by simp
    rw [hfl2] at s1
    go_wp2_with fail
    go_ret
    exact ⟨_, rfl, by rw [hZ2.out]; exact s1, fresh_le s2 (ext_trans x1 hx8).size, ext_trans x1 (ext_trans hx8 s3)⟩
end Go.Proofs.YtoockogceobfgaaGreat
namespace Go.Proofs.YtoockogceobfgaaGreat
open Go.RowKit
set_option maxRecDepth 100000

set_option maxHeartbeats 16000000 in
theorem rop3_any {w : World} {num scope limit fk which : Int} {dn pass ft fv rdn up avt avv : List UInt8} {keep above : Bool} {Y1 Z1 W1 M1 A1 : Option Addr} {Y2 Y3 Z2 Z3 W2 W3 M2 M3 A2 A3 : Nat} {FB : List UInt8} {Wn : List (List UInt8)} (hfb : ∀ wx, Ext w wx → Calls Tryz.prog 99 #[.agg #[.int .i64 fk, sv ft, sv fv, .slice Y1 Y2 Y3, .slice Z1 Z2 Z3]] wx fun e w' => ∃ v', e = .returned v' ∧ Own w' 5 v' ((FB).map bv) ∧ Fresh wx.heap.size v' ∧ Ext wx w') (hw : Ss w AllE (.slice W1 W2 W3) Wn) (hs1 : -9223372036854775808 ≤ scope ∧ scope ≤ 9223372036854775807) (hs2 : -9223372036854775808 ≤ limit ∧ limit ≤ 9223372036854775807) (hl : (txB dn ++ nuB 10 scope ++ nuB 10 0 ++ nuB 2 limit ++ nuB 2 0 ++ boB false ++ FB ++ txsB 48 Wn).length ≤ 65536) :
    Calls Tryz.prog 74 #[.agg #[.int .i64 num, .int .i64 3, sv dn, sv pass, .int .i64 scope, .int .i64 limit, .int .i64 fk, sv ft, sv fv, .slice Y1 Y2 Y3, .slice Z1 Z2 Z3, .slice W1 W2 W3, .slice M1 M2 M3, .slice A1 A2 A3, sv rdn, .bool keep, .bool above, sv up, sv avt, sv avv, .int .i64 which]] w fun e w' => ∃ v', e = .returned v' ∧ Own w' 5 v' ((tlv 99 (txB dn ++ nuB 10 scope ++ nuB 10 0 ++ nuB 2 limit ++ nuB 2 0 ++ boB false ++ FB ++ txsB 48 Wn)).map bv) ∧ Fresh w.heap.size v' ∧ Ext w w' := by
  obtain ⟨Z, hZ⟩ : ∃ Z, Z = tlv 99 (txB dn ++ nuB 10 scope ++ nuB 10 0 ++ nuB 2 limit ++ nuB 2 0 ++ boB false ++ FB ++ txsB 48 Wn) := ⟨_, rfl⟩
  rw [← hZ]
  replace hZ := Lib.hid hZ
  obtain ⟨w1, hw1⟩ : ∃ x, x = w.alloc (.cells #[.int .i64 num, .int .i64 3, sv dn, sv pass, .int .i64 scope, .int .i64 limit, .int .i64 fk, sv ft, sv fv, .slice Y1 Y2 Y3, .slice Z1 Z2 Z3, .slice W1 W2 W3, .slice M1 M2 M3, .slice A1 A2 A3, sv rdn, .bool keep, .bool above, sv up, sv avt, sv avv, .int .i64 which] 32) := ⟨_, rfl⟩
  obtain ⟨p, hp⟩ : ∃ p, p = w.heap.size := ⟨_, rfl⟩
  have x1 : Ext w w1 := by rw [hw1]; exact (Mod.refl _ w).alloc _
  have BP : Blk w1 p 32 #[.int .i64 num, .int .i64 3, sv dn, sv pass, .int .i64 scope, .int .i64 limit, .int .i64 fk, sv ft, sv fv, .slice Y1 Y2 Y3, .slice Z1 Z2 Z3, .slice W1 W2 W3, .slice M1 M2 M3, .slice A1 A2 A3, sv rdn, .bool keep, .bool above, sv up, sv avt, sv avv, .int .i64 which] := by rw [hw1, hp]; exact Blk.new w _ _
  have p1 : w1.cell? ⟨p, 1, none⟩ = some (.int .i64 3) := BP.cell 1
  have p2 : w1.cell? ⟨p, 2, none⟩ = some (sv dn) := BP.cell 2
  have p4 : w1.cell? ⟨p, 4, none⟩ = some (.int .i64 scope) := BP.cell 4
  have p5 : w1.cell? ⟨p, 5, none⟩ = some (.int .i64 limit) := BP.cell 5
  have p6 : w1.cell? ⟨p, 6, none⟩ = some (.int .i64 fk) := BP.cell 6
  have p7 : w1.cell? ⟨p, 7, none⟩ = some (sv ft) := BP.cell 7
  have p8 : w1.cell? ⟨p, 8, none⟩ = some (sv fv) := BP.cell 8
  have p9 : w1.cell? ⟨p, 9, none⟩ = some (.slice Y1 Y2 Y3) := BP.cell 9
  have p10 : w1.cell? ⟨p, 10, none⟩ = some (.slice Z1 Z2 Z3) := BP.cell 10
  have p11 : w1.cell? ⟨p, 11, none⟩ = some (.slice W1 W2 W3) := BP.cell 11
  have hS : ∀ wx, Ext w1 wx → wx.cell? ⟨p, 2, none⟩ = some (sv dn) ∧ wx.cell? ⟨p, 4, none⟩ = some (.int .i64 scope) ∧ wx.cell? ⟨p, 5, none⟩ = some (.int .i64 limit) ∧ wx.cell? ⟨p, 6, none⟩ = some (.int .i64 fk) ∧ wx.cell? ⟨p, 7, none⟩ = some (sv ft) ∧ wx.cell? ⟨p, 8, none⟩ = some (sv fv) ∧ wx.cell? ⟨p, 9, none⟩ = some (.slice Y1 Y2 Y3) ∧ wx.cell? ⟨p, 10, none⟩ = some (.slice Z1 Z2 Z3) ∧ wx.cell? ⟨p, 11, none⟩ = some (.slice W1 W2 W3) := fun wx x => ⟨(BP.mod x (fun h => h)).cell 2, (BP.mod x (fun h => h)).cell 4, (BP.mod x (fun h => h)).cell 5, (BP.mod x (fun h => h)).cell 6, (BP.mod x (fun h => h)).cell 7, (BP.mod x (fun h => h)).cell 8, (BP.mod x (fun h => h)).cell 9, (BP.mod x (fun h => h)).cell 10, (BP.mod x (fun h => h)).cell 11⟩
  have hdl : dn.length ≤ 65536 := tlv_le (t := 4) (show (txB dn).length ≤ 65536 by simp only [List.length_append] at hl ⊢; omega)
  have htx0 : ∀ wx, Calls Tryz.prog 97 #[sv dn] wx fun e w' => ∃ v', e = .returned v' ∧ Own w' 5 v' ((txB dn).map bv) ∧ Fresh wx.heap.size v' ∧ Ext wx w' := fun wx => rtext25_any (w := wx) dn hdl
  have ha : ∀ wx, Calls Tryz.prog 73 #[.int .u8 10, .int .i64 scope] wx fun e w' => ∃ v', e = .returned v' ∧ Own w' 5 v' ((nuB 10 scope).map bv) ∧ Fresh wx.heap.size v' ∧ Ext wx w' := fun wx => rnum25_any (w := wx) 10 scope hs1.1 hs1.2
  have hb : ∀ wx, Calls Tryz.prog 73 #[.int .u8 10, .int .i64 0] wx fun e w' => ∃ v', e = .returned v' ∧ Own w' 5 v' ((nuB 10 0).map bv) ∧ Fresh wx.heap.size v' ∧ Ext wx w' := fun wx => rnum25_any (w := wx) 10 0 (by omega) (by omega)
  have hc : ∀ wx, Calls Tryz.prog 73 #[.int .u8 2, .int .i64 limit] wx fun e w' => ∃ v', e = .returned v' ∧ Own w' 5 v' ((nuB 2 limit).map bv) ∧ Fresh wx.heap.size v' ∧ Ext wx w' := fun wx => rnum25_any (w := wx) 2 limit hs2.1 hs2.2
  have hd : ∀ wx, Calls Tryz.prog 73 #[.int .u8 2, .int .i64 0] wx fun e w' => ∃ v', e = .returned v' ∧ Own w' 5 v' ((nuB 2 0).map bv) ∧ Fresh wx.heap.size v' ∧ Ext wx w' := fun wx => rnum25_any (w := wx) 2 0 (by omega) (by omega)
  have hbool := fun (wx : World) => rbool_any (w := wx) false
  have hbo : boB false = [1, 1, 0] := rfl
  rw [hbo] at hl
  replace hZ : Z = tlv 99 (txB dn ++ nuB 10 scope ++ nuB 10 0 ++ nuB 2 limit ++ nuB 2 0 ++ [1, 1, 0] ++ FB ++ txsB 48 Wn) := hZ.out
  obtain ⟨R, hR⟩ : ∃ R : List UInt8, R = [1, 1, 0] := ⟨_, rfl⟩
  have htag : ∀ (wx : World) (S : Nat → Prop) (y : Value), Rw wx S y [[0]] → Calls Tryz.prog 72 #[.int .u8 1, y] wx fun e w' => ∃ v', e = .returned v' ∧ Own w' 5 v' ((R).map bv) ∧ Fresh wx.heap.size v' ∧ Ext wx w' := fun wx S y hr => by
    have h := rtag25_any 1 hr (by simp)
    rw [hR]
    exact h
  have htl : (Wn.flatMap txB).length ≤ 65536 := tlv_le (t := 48) (show (txsB 48 Wn).length ≤ 65536 by simp only [List.length_append] at hl ⊢; omega)
  have htx : ∀ wx, Ext w wx → Calls Tryz.prog 100 #[.int .u8 48, .slice W1 W2 W3] wx fun e w' => ∃ v', e = .returned v' ∧ Own w' 5 v' ((txsB 48 Wn).map bv) ∧ Fresh wx.heap.size v' ∧ Ext wx w' := fun wx x => rrows_any (w := wx) 48 (Sl.mod hw x (fun _ _ _ h => h)) htl
  rw [← hR] at hl hZ
  generalize txB dn = X at *
  generalize nuB 10 scope = P1 at *
  generalize nuB 10 0 = P2 at *
  generalize nuB 2 limit = P3 at *
  generalize nuB 2 0 = P4 at *
  generalize txsB 48 Wn = WB at *
  have hfl : [X, P1, P2, P3, P4, R, FB, WB].flatten = X ++ P1 ++ P2 ++ P3 ++ P4 ++ R ++ FB ++ WB := by simp
  have hl9 : [X, P1, P2, P3, P4, R, FB, WB].flatten.length ≤ 65536 := by rw [hfl]; exact hl
  have htag9 : ∀ (wx : World) (S : Nat → Prop) (y : Value), Rw wx S y [X, P1, P2, P3, P4, R, FB, WB] → Calls Tryz.prog 72 #[.int .u8 99, y] wx fun e w' => ∃ v', e = .returned v' ∧ Own w' 5 v' ((Z).map bv) ∧ Fresh wx.heap.size v' ∧ Ext wx w' := fun wx S y hr => by
    have h := rtag25_any 99 hr hl9
    rw [hfl] at h
    rw [hZ]
    exact h
  clear hl hl9 hfl hbo htl hw hs1 hs2 hdl hR hZ
  have q0 : Ext w1 w1.drew := (Mod.refl _ w1).drew
  replace hw1 := Lib.hid hw1
  replace hp := Lib.hid hp
  clear BP
  go_enter Tryz.func74, Tryz.ntmps74
  go_upto_region 1 with fail
  rw [← hw1.out, ← hp.out]
  clear hw1 hp
  go_wp2_with fail
  go_region_held3 (fun wx => wx.cell? ⟨p, 2, none⟩ = some (sv dn) ∧ wx.cell? ⟨p, 4, none⟩ = some (.int .i64 scope) ∧ wx.cell? ⟨p, 5, none⟩ = some (.int .i64 limit) ∧ wx.cell? ⟨p, 6, none⟩ = some (.int .i64 fk) ∧ wx.cell? ⟨p, 7, none⟩ = some (sv ft) ∧ wx.cell? ⟨p, 8, none⟩ = some (sv fv) ∧ wx.cell? ⟨p, 9, none⟩ = some (.slice Y1 Y2 Y3) ∧ wx.cell? ⟨p, 10, none⟩ = some (.slice Z1 Z2 Z3) ∧ wx.cell? ⟨p, 11, none⟩ = some (.slice W1 W2 W3)) (first | exact hS _ qk | exact hS _ qj | exact hS _ qi | exact hS _ qh | exact hS _ qg | exact hS _ qf | exact hS _ qe | exact hS _ qd | exact hS _ qc | exact hS _ qb | exact hS _ qa | exact hS _ qz | exact hS _ q0 | go_keep) (first
    | (go_at_call 97; (with_reducible refine (htx0 _).mono ?_); rintro e wz ⟨vz, rfl, z1, z2, z3⟩; have qz := ext_trans q0 z3)
    | (go_at_call 73; (with_reducible refine (ha _).mono ?_); rintro e wa ⟨va, rfl, a1, a2, a3⟩; have qa := ext_trans qz a3)
    | (go_at_call 73; (with_reducible refine (hb _).mono ?_); rintro e wb ⟨vb, rfl, b1, b2, b3⟩; have qb := ext_trans qa b3)
    | (go_at_call 73; (with_reducible refine (hc _).mono ?_); rintro e wc ⟨vc, rfl, c1, c2, c3⟩; have qc := ext_trans qb c3)
    | (go_at_call 73; (with_reducible refine (hd _).mono ?_); rintro e wd ⟨vd, rfl, d1, d2, d3⟩; have qd := ext_trans qc d3)
    | (go_at_call 98; (with_reducible refine (hbool _).mono ?_); rintro e we ⟨Ae, ce, rfl, e1, e3⟩; have qe := ext_trans qd e3; have hr := Rw.one 22 e1; have e4 := (Mod.refl (fun _ => False) we).alloc (.cells #[.slice Ae 1 ce] 22); have qf := ext_trans qe e4)
    | (go_at_call 72; (with_reducible refine (htag _ _ _ hr).mono ?_); rintro e wg ⟨vg, rfl, g1, g2, g3⟩; have qg := ext_trans qf g3)
    | (go_at_call 99; (with_reducible refine (hfb _ (ext_trans x1 qg)).mono ?_); rintro e wh ⟨vh, rfl, h1, h2, h3⟩; have qh := ext_trans qg h3)
    | (go_at_call 100; (with_reducible refine (htx _ (ext_trans x1 qh)).mono ?_); rintro e wi ⟨vi, rfl, i1, i2, i3⟩; have qi := ext_trans qh i3; have yh := i3; have yg := ext_trans h3 yh; have yd := ext_trans e3 (ext_trans e4 (ext_trans g3 yg)); have yc := ext_trans d3 yd; have yb := ext_trans c3 yc; have ya := ext_trans b3 yb; have yz := ext_trans a3 ya; obtain ⟨Sz, kz, sz⟩ := z1.shape; rw [List.length_map] at sz; subst sz; obtain ⟨Sa, ka, sa⟩ := a1.shape; rw [List.length_map] at sa; subst sa; obtain ⟨Sb, kb, sb⟩ := b1.shape; rw [List.length_map] at sb; subst sb; obtain ⟨Sc, kc, sc⟩ := c1.shape; rw [List.length_map] at sc; subst sc; obtain ⟨Sd, kd, sd⟩ := d1.shape; rw [List.length_map] at sd; subst sd; obtain ⟨Sg, kg, sg⟩ := g1.shape; rw [List.length_map] at sg; subst sg; obtain ⟨Sh, kh, sh⟩ := h1.shape; rw [List.length_map] at sh; subst sh; obtain ⟨Si, ki, si⟩ := i1.shape; rw [List.length_map] at si; subst si; have hr2 := ((RwL.cons (z1.mod yz (fun _ _ h => h)).sl (RwL.cons (a1.mod ya (fun _ _ h => h)).sl (RwL.cons (b1.mod yb (fun _ _ h => h)).sl (RwL.cons (c1.mod yc (fun _ _ h => h)).sl (RwL.cons (d1.mod yd (fun _ _ h => h)).sl (RwL.cons (g1.mod yg (fun _ _ h => h)).sl (RwL.cons (h1.mod yh (fun _ _ h => h)).sl (RwL.cons i1.sl (RwL.nil wi)))))))))).made 22 (by simp [maxLen]); have qj := ext_trans qi ((Mod.refl (fun _ => False) wi).alloc (.cells #[.slice Sz X.length kz, .slice Sa P1.length ka, .slice Sb P2.length kb, .slice Sc P3.length kc, .slice Sd P4.length kd, .slice Sg R.length kg, .slice Sh FB.length kh, .slice Si WB.length ki] 22)))
    | (go_at_call 72; refine (htag9 _ _ _ hr2).mono ?_; rintro e wk ⟨vk, rfl, k1, k2, k3⟩; have qk := ext_trans qj k3))
  go_wp2_with fail
  go_ret
  exact ⟨_, rfl, k1, fresh_le k2 (ext_trans x1 qj).size, ext_trans x1 qk⟩
end Go.Proofs.YtoockogceobfgaaGreat
