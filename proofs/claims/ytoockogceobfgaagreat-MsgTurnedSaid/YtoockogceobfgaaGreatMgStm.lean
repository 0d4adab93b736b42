/- msg: bare, kind by kind. -/
import Derived.Test.YtoockogceobfgaaGreatMfCm
import Derived.Deep.RegionHeld3
import Derived.Test.YtoockogceobfgaaGreatDnGm
import Derived.Sort.Row
namespace Go.Proofs.YtoockogceobfgaaGreat
open Go.RowKit
set_option maxRecDepth 100000

set_option maxHeartbeats 16000000 in
theorem bareq2_any {w : World} {num scope limit fk which : Int} {dn pass ft fv rdn up avt avv : List UInt8} {keep above : Bool} {Y1 Z1 W1 M1 A1 : Option Addr} {Y2 Y3 Z2 Z3 W2 W3 M2 M3 A2 A3 : Nat} : Calls Tryz.prog 78 #[.agg #[.int .i64 num, .int .i64 2, sv dn, sv pass, .int .i64 scope, .int .i64 limit, .int .i64 fk, sv ft, sv fv, .slice Y1 Y2 Y3, .slice Z1 Z2 Z3, .slice W1 W2 W3, .slice M1 M2 M3, .slice A1 A2 A3, sv rdn, .bool keep, .bool above, sv up, sv avt, sv avv, .int .i64 which]] w fun e w' => e = .returned (.agg #[.int .i64 num, .int .i64 2, .string ⟨#[]⟩, .string ⟨#[]⟩, .int .i64 0, .int .i64 0, .int .i64 0, .string ⟨#[]⟩, .string ⟨#[]⟩, .slice none 0 0, .slice none 0 0, .slice none 0 0, .slice none 0 0, .slice none 0 0, .string ⟨#[]⟩, .bool false, .bool false, .string ⟨#[]⟩, .string ⟨#[]⟩, .string ⟨#[]⟩, .int .i64 0]) ∧ Ext w w' := by
  obtain ⟨x2a, x2b, x2⟩ := Blk.twoN w #[.int .i64 num, .int .i64 2, sv dn, sv pass, .int .i64 scope, .int .i64 limit, .int .i64 fk, sv ft, sv fv, .slice Y1 Y2 Y3, .slice Z1 Z2 Z3, .slice W1 W2 W3, .slice M1 M2 M3, .slice A1 A2 A3, sv rdn, .bool keep, .bool above, sv up, sv avt, sv avv, .int .i64 which] #[.int .i64 0, .int .i64 0, .string ⟨#[]⟩, .string ⟨#[]⟩, .int .i64 0, .int .i64 0, .int .i64 0, .string ⟨#[]⟩, .string ⟨#[]⟩, .slice none 0 0, .slice none 0 0, .slice none 0 0, .slice none 0 0, .slice none 0 0, .string ⟨#[]⟩, .bool false, .bool false, .string ⟨#[]⟩, .string ⟨#[]⟩, .string ⟨#[]⟩, .int .i64 0] 32 32
  obtain ⟨w2, hw2⟩ : ∃ x, x = (w.alloc (.cells #[.int .i64 num, .int .i64 2, sv dn, sv pass, .int .i64 scope, .int .i64 limit, .int .i64 fk, sv ft, sv fv, .slice Y1 Y2 Y3, .slice Z1 Z2 Z3, .slice W1 W2 W3, .slice M1 M2 M3, .slice A1 A2 A3, sv rdn, .bool keep, .bool above, sv up, sv avt, sv avv, .int .i64 which] 32)).alloc (.cells #[.int .i64 0, .int .i64 0, .string ⟨#[]⟩, .string ⟨#[]⟩, .int .i64 0, .int .i64 0, .int .i64 0, .string ⟨#[]⟩, .string ⟨#[]⟩, .slice none 0 0, .slice none 0 0, .slice none 0 0, .slice none 0 0, .slice none 0 0, .string ⟨#[]⟩, .bool false, .bool false, .string ⟨#[]⟩, .string ⟨#[]⟩, .string ⟨#[]⟩, .int .i64 0] 32) := ⟨_, rfl⟩
  rw [← hw2] at x2a x2b x2
  obtain ⟨q, hq⟩ : ∃ q, q = w.heap.size + 1 := ⟨_, rfl⟩
  have hqw : w.heap.size ≤ q := by omega
  rw [← hq] at x2b
  have B3a : Blk (w2.alloc (.cells #[.int .i64 0, .int .i64 0, .string ⟨#[]⟩, .string ⟨#[]⟩, .int .i64 0, .int .i64 0, .int .i64 0, .string ⟨#[]⟩, .string ⟨#[]⟩, .slice none 0 0, .slice none 0 0, .slice none 0 0, .slice none 0 0, .slice none 0 0, .string ⟨#[]⟩, .bool false, .bool false, .string ⟨#[]⟩, .string ⟨#[]⟩, .string ⟨#[]⟩, .int .i64 0] 32)) w2.heap.size 32 #[.int .i64 0, .int .i64 0, .string ⟨#[]⟩, .string ⟨#[]⟩, .int .i64 0, .int .i64 0, .int .i64 0, .string ⟨#[]⟩, .string ⟨#[]⟩, .slice none 0 0, .slice none 0 0, .slice none 0 0, .slice none 0 0, .slice none 0 0, .string ⟨#[]⟩, .bool false, .bool false, .string ⟨#[]⟩, .string ⟨#[]⟩, .string ⟨#[]⟩, .int .i64 0] := Blk.new w2 _ _
  obtain ⟨w3, hw3⟩ : ∃ x, x = (w2.alloc (.cells #[.int .i64 0, .int .i64 0, .string ⟨#[]⟩, .string ⟨#[]⟩, .int .i64 0, .int .i64 0, .int .i64 0, .string ⟨#[]⟩, .string ⟨#[]⟩, .slice none 0 0, .slice none 0 0, .slice none 0 0, .slice none 0 0, .slice none 0 0, .string ⟨#[]⟩, .bool false, .bool false, .string ⟨#[]⟩, .string ⟨#[]⟩, .string ⟨#[]⟩, .int .i64 0] 32)).setRow w2.heap.size #[.int .i64 num, .int .i64 2, .string ⟨#[]⟩, .string ⟨#[]⟩, .int .i64 0, .int .i64 0, .int .i64 0, .string ⟨#[]⟩, .string ⟨#[]⟩, .slice none 0 0, .slice none 0 0, .slice none 0 0, .slice none 0 0, .slice none 0 0, .string ⟨#[]⟩, .bool false, .bool false, .string ⟨#[]⟩, .string ⟨#[]⟩, .string ⟨#[]⟩, .int .i64 0] := ⟨_, rfl⟩
  obtain ⟨g, hg⟩ : ∃ q, q = w2.heap.size := ⟨_, rfl⟩
  have hpg : w.heap.size ≠ g := by have := x2a.lt; omega
  have hgp : g ≠ w.heap.size := fun h => hpg h.symm
  have hqg : q ≠ g := by have := x2b.lt; omega
  have hwg : w.heap.size ≤ g := by have := x2a.lt; omega
  have x3 : Ext w2 w3 := by rw [hw3]; exact ((Mod.refl _ w2).alloc _).setRow (fun h => by omega) _
  have B3 : Blk w3 g 32 #[.int .i64 num, .int .i64 2, .string ⟨#[]⟩, .string ⟨#[]⟩, .int .i64 0, .int .i64 0, .int .i64 0, .string ⟨#[]⟩, .string ⟨#[]⟩, .slice none 0 0, .slice none 0 0, .slice none 0 0, .slice none 0 0, .slice none 0 0, .string ⟨#[]⟩, .bool false, .bool false, .string ⟨#[]⟩, .string ⟨#[]⟩, .string ⟨#[]⟩, .int .i64 0] := by rw [hw3, hg]; exact B3a.setRow #[.int .i64 num, .int .i64 2, .string ⟨#[]⟩, .string ⟨#[]⟩, .int .i64 0, .int .i64 0, .int .i64 0, .string ⟨#[]⟩, .string ⟨#[]⟩, .slice none 0 0, .slice none 0 0, .slice none 0 0, .slice none 0 0, .slice none 0 0, .string ⟨#[]⟩, .bool false, .bool false, .string ⟨#[]⟩, .string ⟨#[]⟩, .string ⟨#[]⟩, .int .i64 0]
  have BR := x2b.mod x3 (fun h => h)
  have BP3 := x2a.mod x3 (fun h => h)
  have hp0 : w2.cell? ⟨w.heap.size, 0, none⟩ = some (.int .i64 num) := x2a.cell 0
  have hp1 : w2.cell? ⟨w.heap.size, 1, none⟩ = some (.int .i64 2) := x2a.cell 1
  have xx := ext_trans x2 x3
  have p31 : w3.cell? ⟨w.heap.size, 1, none⟩ = some (.int .i64 2) := BP3.cell 1
  replace hw2 := Lib.hid hw2
  replace hq := Lib.hid hq
  replace hw3 := Lib.hid hw3
  replace hg := Lib.hid hg
  go_enter Tryz.func78, Tryz.ntmps78
  go_upto_region 1 with fail
  rw [← hw2.out, ← hq.out]
  go_upto_region 2 with ((with_reducible show wpList _ _ _ (⟨none, .store 32 _ _, _, _, _, _⟩ :: _) _ _); refine wpList_store_row rfl 32 (.tmp 3) (.tmp 8) rfl w2.heap.size #[.int .i64 num, .int .i64 2, .string ⟨#[]⟩, .string ⟨#[]⟩, .int .i64 0, .int .i64 0, .int .i64 0, .string ⟨#[]⟩, .string ⟨#[]⟩, .slice none 0 0, .slice none 0 0, .slice none 0 0, .slice none 0 0, .slice none 0 0, .string ⟨#[]⟩, .bool false, .bool false, .string ⟨#[]⟩, .string ⟨#[]⟩, .string ⟨#[]⟩, .int .i64 0] rfl rfl _ _ B3a size21 rfl (by simp [Value.oneCell']) ?_)
  rw [← hw3.out, ← hg.out]
  clear hw2 hq hw3 hg hp0 hp1 B3a
  go_wp2_with (first
    | ((with_reducible show wpList _ _ _ (⟨some 13, _, _, _, _, _⟩ :: _) _ _); refine wpList_load_row rfl 32 (.tmp 3) rfl g rfl _ _ _ _ B3 Tryz.underlying32 rfl size21 ?_)
    | ((with_reducible show wpList _ _ _ (⟨none, .store 32 _ _, _, _, _, _⟩ :: _) _ _); refine wpList_store_row rfl 32 (.tmp 2) (.tmp 13) rfl q #[.int .i64 num, .int .i64 2, .string ⟨#[]⟩, .string ⟨#[]⟩, .int .i64 0, .int .i64 0, .int .i64 0, .string ⟨#[]⟩, .string ⟨#[]⟩, .slice none 0 0, .slice none 0 0, .slice none 0 0, .slice none 0 0, .slice none 0 0, .string ⟨#[]⟩, .bool false, .bool false, .string ⟨#[]⟩, .string ⟨#[]⟩, .string ⟨#[]⟩, .int .i64 0] rfl rfl _ _ BR size21 rfl (by simp [Value.oneCell']) ?_))
  refine bodyPost_ret (results_cell_row Tryz.results78 _ _ _ _ _ _ _ rfl (Blk.setRow BR #[.int .i64 num, .int .i64 2, .string ⟨#[]⟩, .string ⟨#[]⟩, .int .i64 0, .int .i64 0, .int .i64 0, .string ⟨#[]⟩, .string ⟨#[]⟩, .slice none 0 0, .slice none 0 0, .slice none 0 0, .slice none 0 0, .slice none 0 0, .string ⟨#[]⟩, .bool false, .bool false, .string ⟨#[]⟩, .string ⟨#[]⟩, .string ⟨#[]⟩, .int .i64 0]) Tryz.underlying32 rfl (by exact size21)) rfl ?_
  exact ⟨rfl, Mod.setRow xx (fun h => by omega) _⟩
set_option maxHeartbeats 16000000 in
theorem bareq16_any {w : World} {num scope limit fk which : Int} {dn pass ft fv rdn up avt avv : List UInt8} {keep above : Bool} {Y1 Z1 W1 M1 A1 : Option Addr} {Y2 Y3 Z2 Z3 W2 W3 M2 M3 A2 A3 : Nat} : Calls Tryz.prog 78 #[.agg #[.int .i64 num, .int .i64 16, sv dn, sv pass, .int .i64 scope, .int .i64 limit, .int .i64 fk, sv ft, sv fv, .slice Y1 Y2 Y3, .slice Z1 Z2 Z3, .slice W1 W2 W3, .slice M1 M2 M3, .slice A1 A2 A3, sv rdn, .bool keep, .bool above, sv up, sv avt, sv avv, .int .i64 which]] w fun e w' => e = .returned (.agg #[.int .i64 num, .int .i64 16, .string ⟨#[]⟩, .string ⟨#[]⟩, .int .i64 0, .int .i64 0, .int .i64 0, .string ⟨#[]⟩, .string ⟨#[]⟩, .slice none 0 0, .slice none 0 0, .slice none 0 0, .slice none 0 0, .slice none 0 0, .string ⟨#[]⟩, .bool false, .bool false, .string ⟨#[]⟩, .string ⟨#[]⟩, .string ⟨#[]⟩, .int .i64 which]) ∧ Ext w w' := by
  obtain ⟨x2a, x2b, x2⟩ := Blk.twoN w #[.int .i64 num, .int .i64 16, sv dn, sv pass, .int .i64 scope, .int .i64 limit, .int .i64 fk, sv ft, sv fv, .slice Y1 Y2 Y3, .slice Z1 Z2 Z3, .slice W1 W2 W3, .slice M1 M2 M3, .slice A1 A2 A3, sv rdn, .bool keep, .bool above, sv up, sv avt, sv avv, .int .i64 which] #[.int .i64 0, .int .i64 0, .string ⟨#[]⟩, .string ⟨#[]⟩, .int .i64 0, .int .i64 0, .int .i64 0, .string ⟨#[]⟩, .string ⟨#[]⟩, .slice none 0 0, .slice none 0 0, .slice none 0 0, .slice none 0 0, .slice none 0 0, .string ⟨#[]⟩, .bool false, .bool false, .string ⟨#[]⟩, .string ⟨#[]⟩, .string ⟨#[]⟩, .int .i64 0] 32 32
  obtain ⟨w2, hw2⟩ : ∃ x, x = (w.alloc (.cells #[.int .i64 num, .int .i64 16, sv dn, sv pass, .int .i64 scope, .int .i64 limit, .int .i64 fk, sv ft, sv fv, .slice Y1 Y2 Y3, .slice Z1 Z2 Z3, .slice W1 W2 W3, .slice M1 M2 M3, .slice A1 A2 A3, sv rdn, .bool keep, .bool above, sv up, sv avt, sv avv, .int .i64 which] 32)).alloc (.cells #[.int .i64 0, .int .i64 0, .string ⟨#[]⟩, .string ⟨#[]⟩, .int .i64 0, .int .i64 0, .int .i64 0, .string ⟨#[]⟩, .string ⟨#[]⟩, .slice none 0 0, .slice none 0 0, .slice none 0 0, .slice none 0 0, .slice none 0 0, .string ⟨#[]⟩, .bool false, .bool false, .string ⟨#[]⟩, .string ⟨#[]⟩, .string ⟨#[]⟩, .int .i64 0] 32) := ⟨_, rfl⟩
  rw [← hw2] at x2a x2b x2
  obtain ⟨q, hq⟩ : ∃ q, q = w.heap.size + 1 := ⟨_, rfl⟩
  have hqw : w.heap.size ≤ q := by omega
  rw [← hq] at x2b
  have B3a : Blk (w2.alloc (.cells #[.int .i64 0, .int .i64 0, .string ⟨#[]⟩, .string ⟨#[]⟩, .int .i64 0, .int .i64 0, .int .i64 0, .string ⟨#[]⟩, .string ⟨#[]⟩, .slice none 0 0, .slice none 0 0, .slice none 0 0, .slice none 0 0, .slice none 0 0, .string ⟨#[]⟩, .bool false, .bool false, .string ⟨#[]⟩, .string ⟨#[]⟩, .string ⟨#[]⟩, .int .i64 0] 32)) w2.heap.size 32 #[.int .i64 0, .int .i64 0, .string ⟨#[]⟩, .string ⟨#[]⟩, .int .i64 0, .int .i64 0, .int .i64 0, .string ⟨#[]⟩, .string ⟨#[]⟩, .slice none 0 0, .slice none 0 0, .slice none 0 0, .slice none 0 0, .slice none 0 0, .string ⟨#[]⟩, .bool false, .bool false, .string ⟨#[]⟩, .string ⟨#[]⟩, .string ⟨#[]⟩, .int .i64 0] := Blk.new w2 _ _
  obtain ⟨w3, hw3⟩ : ∃ x, x = (w2.alloc (.cells #[.int .i64 0, .int .i64 0, .string ⟨#[]⟩, .string ⟨#[]⟩, .int .i64 0, .int .i64 0, .int .i64 0, .string ⟨#[]⟩, .string ⟨#[]⟩, .slice none 0 0, .slice none 0 0, .slice none 0 0, .slice none 0 0, .slice none 0 0, .string ⟨#[]⟩, .bool false, .bool false, .string ⟨#[]⟩, .string ⟨#[]⟩, .string ⟨#[]⟩, .int .i64 0] 32)).setRow w2.heap.size #[.int .i64 num, .int .i64 16, .string ⟨#[]⟩, .string ⟨#[]⟩, .int .i64 0, .int .i64 0, .int .i64 0, .string ⟨#[]⟩, .string ⟨#[]⟩, .slice none 0 0, .slice none 0 0, .slice none 0 0, .slice none 0 0, .slice none 0 0, .string ⟨#[]⟩, .bool false, .bool false, .string ⟨#[]⟩, .string ⟨#[]⟩, .string ⟨#[]⟩, .int .i64 0] := ⟨_, rfl⟩
  obtain ⟨g, hg⟩ : ∃ q, q = w2.heap.size := ⟨_, rfl⟩
  have hpg : w.heap.size ≠ g := by have := x2a.lt; omega
  have hgp : g ≠ w.heap.size := fun h => hpg h.symm
  have hqg : q ≠ g := by have := x2b.lt; omega
  have hwg : w.heap.size ≤ g := by have := x2a.lt; omega
  have x3 : Ext w2 w3 := by rw [hw3]; exact ((Mod.refl _ w2).alloc _).setRow (fun h => by omega) _
  have B3 : Blk w3 g 32 #[.int .i64 num, .int .i64 16, .string ⟨#[]⟩, .string ⟨#[]⟩, .int .i64 0, .int .i64 0, .int .i64 0, .string ⟨#[]⟩, .string ⟨#[]⟩, .slice none 0 0, .slice none 0 0, .slice none 0 0, .slice none 0 0, .slice none 0 0, .string ⟨#[]⟩, .bool false, .bool false, .string ⟨#[]⟩, .string ⟨#[]⟩, .string ⟨#[]⟩, .int .i64 0] := by rw [hw3, hg]; exact B3a.setRow #[.int .i64 num, .int .i64 16, .string ⟨#[]⟩, .string ⟨#[]⟩, .int .i64 0, .int .i64 0, .int .i64 0, .string ⟨#[]⟩, .string ⟨#[]⟩, .slice none 0 0, .slice none 0 0, .slice none 0 0, .slice none 0 0, .slice none 0 0, .string ⟨#[]⟩, .bool false, .bool false, .string ⟨#[]⟩, .string ⟨#[]⟩, .string ⟨#[]⟩, .int .i64 0]
  have BR := x2b.mod x3 (fun h => h)
  have BP3 := x2a.mod x3 (fun h => h)
  have hp0 : w2.cell? ⟨w.heap.size, 0, none⟩ = some (.int .i64 num) := x2a.cell 0
  have hp1 : w2.cell? ⟨w.heap.size, 1, none⟩ = some (.int .i64 16) := x2a.cell 1
  have xx := ext_trans x2 x3
  have p31 : w3.cell? ⟨w.heap.size, 1, none⟩ = some (.int .i64 16) := BP3.cell 1
  have p320 : w3.cell? ⟨w.heap.size, 20, none⟩ = some (.int .i64 which) := BP3.cell 20
  have g320 : w3.cell? ⟨g, 20, none⟩ = some (.int .i64 0) := B3.cell 20
  have z320 : w3.frozen? ⟨g, 20, none⟩ = false := B3.frozen 20
  replace hw2 := Lib.hid hw2
  replace hq := Lib.hid hq
  replace hw3 := Lib.hid hw3
  replace hg := Lib.hid hg
  go_enter Tryz.func78, Tryz.ntmps78
  go_upto_region 1 with fail
  rw [← hw2.out, ← hq.out]
  go_upto_region 2 with ((with_reducible show wpList _ _ _ (⟨none, .store 32 _ _, _, _, _, _⟩ :: _) _ _); refine wpList_store_row rfl 32 (.tmp 3) (.tmp 8) rfl w2.heap.size #[.int .i64 num, .int .i64 16, .string ⟨#[]⟩, .string ⟨#[]⟩, .int .i64 0, .int .i64 0, .int .i64 0, .string ⟨#[]⟩, .string ⟨#[]⟩, .slice none 0 0, .slice none 0 0, .slice none 0 0, .slice none 0 0, .slice none 0 0, .string ⟨#[]⟩, .bool false, .bool false, .string ⟨#[]⟩, .string ⟨#[]⟩, .string ⟨#[]⟩, .int .i64 0] rfl rfl _ _ B3a size21 rfl (by simp [Value.oneCell']) ?_)
  rw [← hw3.out, ← hg.out]
  clear hw2 hq hw3 hg hp0 hp1 B3a
  have B5 : Blk (w3.setCell ⟨g, 20, none⟩ (.int .i64 which)) g 32 #[.int .i64 num, .int .i64 16, .string ⟨#[]⟩, .string ⟨#[]⟩, .int .i64 0, .int .i64 0, .int .i64 0, .string ⟨#[]⟩, .string ⟨#[]⟩, .slice none 0 0, .slice none 0 0, .slice none 0 0, .slice none 0 0, .slice none 0 0, .string ⟨#[]⟩, .bool false, .bool false, .string ⟨#[]⟩, .string ⟨#[]⟩, .string ⟨#[]⟩, .int .i64 which] := B3.set_ 20 _
  have BR5 : Blk (w3.setCell ⟨g, 20, none⟩ (.int .i64 which)) q 32 #[.int .i64 0, .int .i64 0, .string ⟨#[]⟩, .string ⟨#[]⟩, .int .i64 0, .int .i64 0, .int .i64 0, .string ⟨#[]⟩, .string ⟨#[]⟩, .slice none 0 0, .slice none 0 0, .slice none 0 0, .slice none 0 0, .slice none 0 0, .string ⟨#[]⟩, .bool false, .bool false, .string ⟨#[]⟩, .string ⟨#[]⟩, .string ⟨#[]⟩, .int .i64 0] := BR.far (p := ⟨g, 20, none⟩) hqg _
  have x5 : Ext w (w3.setCell ⟨g, 20, none⟩ (.int .i64 which)) := xx.setCell (p := ⟨g, 20, none⟩) (fun h => absurd h (Nat.not_lt.2 hwg)) _
  go_wp2_with (first
    | ((with_reducible show wpList _ _ _ (⟨some 19, _, _, _, _, _⟩ :: _) _ _); refine wpList_load_row rfl 32 (.tmp 3) rfl g rfl _ _ _ _ B5 Tryz.underlying32 rfl size21 ?_)
    | ((with_reducible show wpList _ _ _ (⟨none, .store 32 _ _, _, _, _, _⟩ :: _) _ _); refine wpList_store_row rfl 32 (.tmp 2) (.tmp 19) rfl q #[.int .i64 num, .int .i64 16, .string ⟨#[]⟩, .string ⟨#[]⟩, .int .i64 0, .int .i64 0, .int .i64 0, .string ⟨#[]⟩, .string ⟨#[]⟩, .slice none 0 0, .slice none 0 0, .slice none 0 0, .slice none 0 0, .slice none 0 0, .string ⟨#[]⟩, .bool false, .bool false, .string ⟨#[]⟩, .string ⟨#[]⟩, .string ⟨#[]⟩, .int .i64 which] rfl rfl _ _ BR5 size21 rfl (by simp [Value.oneCell']) ?_))
  refine bodyPost_ret (results_cell_row Tryz.results78 _ _ _ _ _ _ _ rfl (Blk.setRow BR5 #[.int .i64 num, .int .i64 16, .string ⟨#[]⟩, .string ⟨#[]⟩, .int .i64 0, .int .i64 0, .int .i64 0, .string ⟨#[]⟩, .string ⟨#[]⟩, .slice none 0 0, .slice none 0 0, .slice none 0 0, .slice none 0 0, .slice none 0 0, .string ⟨#[]⟩, .bool false, .bool false, .string ⟨#[]⟩, .string ⟨#[]⟩, .string ⟨#[]⟩, .int .i64 which]) Tryz.underlying32 rfl (by exact size21)) rfl ?_
  exact ⟨rfl, Mod.setRow x5 (fun h => by omega) _⟩
set_option maxHeartbeats 16000000 in
theorem bareq0_any {w : World} {num scope limit fk which : Int} {dn pass ft fv rdn up avt avv : List UInt8} {keep above : Bool} {Y1 Z1 W1 M1 A1 : Option Addr} {Y2 Y3 Z2 Z3 W2 W3 M2 M3 A2 A3 : Nat} : Calls Tryz.prog 78 #[.agg #[.int .i64 num, .int .i64 0, sv dn, sv pass, .int .i64 scope, .int .i64 limit, .int .i64 fk, sv ft, sv fv, .slice Y1 Y2 Y3, .slice Z1 Z2 Z3, .slice W1 W2 W3, .slice M1 M2 M3, .slice A1 A2 A3, sv rdn, .bool keep, .bool above, sv up, sv avt, sv avv, .int .i64 which]] w fun e w' => e = .returned (.agg #[.int .i64 num, .int .i64 0, sv dn, sv pass, .int .i64 0, .int .i64 0, .int .i64 0, .string ⟨#[]⟩, .string ⟨#[]⟩, .slice none 0 0, .slice none 0 0, .slice none 0 0, .slice none 0 0, .slice none 0 0, .string ⟨#[]⟩, .bool false, .bool false, .string ⟨#[]⟩, .string ⟨#[]⟩, .string ⟨#[]⟩, .int .i64 0]) ∧ Ext w w' := by
  obtain ⟨x2a, x2b, x2⟩ := Blk.twoN w #[.int .i64 num, .int .i64 0, sv dn, sv pass, .int .i64 scope, .int .i64 limit, .int .i64 fk, sv ft, sv fv, .slice Y1 Y2 Y3, .slice Z1 Z2 Z3, .slice W1 W2 W3, .slice M1 M2 M3, .slice A1 A2 A3, sv rdn, .bool keep, .bool above, sv up, sv avt, sv avv, .int .i64 which] #[.int .i64 0, .int .i64 0, .string ⟨#[]⟩, .string ⟨#[]⟩, .int .i64 0, .int .i64 0, .int .i64 0, .string ⟨#[]⟩, .string ⟨#[]⟩, .slice none 0 0, .slice none 0 0, .slice none 0 0, .slice none 0 0, .slice none 0 0, .string ⟨#[]⟩, .bool false, .bool false, .string ⟨#[]⟩, .string ⟨#[]⟩, .string ⟨#[]⟩, .int .i64 0] 32 32
  obtain ⟨w2, hw2⟩ : ∃ x, x = (w.alloc (.cells #[.int .i64 num, .int .i64 0, sv dn, sv pass, .int .i64 scope, .int .i64 limit, .int .i64 fk, sv ft, sv fv, .slice Y1 Y2 Y3, .slice Z1 Z2 Z3, .slice W1 W2 W3, .slice M1 M2 M3, .slice A1 A2 A3, sv rdn, .bool keep, .bool above, sv up, sv avt, sv avv, .int .i64 which] 32)).alloc (.cells #[.int .i64 0, .int .i64 0, .string ⟨#[]⟩, .string ⟨#[]⟩, .int .i64 0, .int .i64 0, .int .i64 0, .string ⟨#[]⟩, .string ⟨#[]⟩, .slice none 0 0, .slice none 0 0, .slice none 0 0, .slice none 0 0, .slice none 0 0, .string ⟨#[]⟩, .bool false, .bool false, .string ⟨#[]⟩, .string ⟨#[]⟩, .string ⟨#[]⟩, .int .i64 0] 32) := ⟨_, rfl⟩
  rw [← hw2] at x2a x2b x2
  obtain ⟨q, hq⟩ : ∃ q, q = w.heap.size + 1 := ⟨_, rfl⟩
  have hqw : w.heap.size ≤ q := by omega
  rw [← hq] at x2b
  have B3a : Blk (w2.alloc (.cells #[.int .i64 0, .int .i64 0, .string ⟨#[]⟩, .string ⟨#[]⟩, .int .i64 0, .int .i64 0, .int .i64 0, .string ⟨#[]⟩, .string ⟨#[]⟩, .slice none 0 0, .slice none 0 0, .slice none 0 0, .slice none 0 0, .slice none 0 0, .string ⟨#[]⟩, .bool false, .bool false, .string ⟨#[]⟩, .string ⟨#[]⟩, .string ⟨#[]⟩, .int .i64 0] 32)) w2.heap.size 32 #[.int .i64 0, .int .i64 0, .string ⟨#[]⟩, .string ⟨#[]⟩, .int .i64 0, .int .i64 0, .int .i64 0, .string ⟨#[]⟩, .string ⟨#[]⟩, .slice none 0 0, .slice none 0 0, .slice none 0 0, .slice none 0 0, .slice none 0 0, .string ⟨#[]⟩, .bool false, .bool false, .string ⟨#[]⟩, .string ⟨#[]⟩, .string ⟨#[]⟩, .int .i64 0] := Blk.new w2 _ _
  obtain ⟨w3, hw3⟩ : ∃ x, x = (w2.alloc (.cells #[.int .i64 0, .int .i64 0, .string ⟨#[]⟩, .string ⟨#[]⟩, .int .i64 0, .int .i64 0, .int .i64 0, .string ⟨#[]⟩, .string ⟨#[]⟩, .slice none 0 0, .slice none 0 0, .slice none 0 0, .slice none 0 0, .slice none 0 0, .string ⟨#[]⟩, .bool false, .bool false, .string ⟨#[]⟩, .string ⟨#[]⟩, .string ⟨#[]⟩, .int .i64 0] 32)).setRow w2.heap.size #[.int .i64 num, .int .i64 0, .string ⟨#[]⟩, .string ⟨#[]⟩, .int .i64 0, .int .i64 0, .int .i64 0, .string ⟨#[]⟩, .string ⟨#[]⟩, .slice none 0 0, .slice none 0 0, .slice none 0 0, .slice none 0 0, .slice none 0 0, .string ⟨#[]⟩, .bool false, .bool false, .string ⟨#[]⟩, .string ⟨#[]⟩, .string ⟨#[]⟩, .int .i64 0] := ⟨_, rfl⟩
  obtain ⟨g, hg⟩ : ∃ q, q = w2.heap.size := ⟨_, rfl⟩
  have hpg : w.heap.size ≠ g := by have := x2a.lt; omega
  have hgp : g ≠ w.heap.size := fun h => hpg h.symm
  have hqg : q ≠ g := by have := x2b.lt; omega
  have hwg : w.heap.size ≤ g := by have := x2a.lt; omega
  have x3 : Ext w2 w3 := by rw [hw3]; exact ((Mod.refl _ w2).alloc _).setRow (fun h => by omega) _
  have B3 : Blk w3 g 32 #[.int .i64 num, .int .i64 0, .string ⟨#[]⟩, .string ⟨#[]⟩, .int .i64 0, .int .i64 0, .int .i64 0, .string ⟨#[]⟩, .string ⟨#[]⟩, .slice none 0 0, .slice none 0 0, .slice none 0 0, .slice none 0 0, .slice none 0 0, .string ⟨#[]⟩, .bool false, .bool false, .string ⟨#[]⟩, .string ⟨#[]⟩, .string ⟨#[]⟩, .int .i64 0] := by rw [hw3, hg]; exact B3a.setRow #[.int .i64 num, .int .i64 0, .string ⟨#[]⟩, .string ⟨#[]⟩, .int .i64 0, .int .i64 0, .int .i64 0, .string ⟨#[]⟩, .string ⟨#[]⟩, .slice none 0 0, .slice none 0 0, .slice none 0 0, .slice none 0 0, .slice none 0 0, .string ⟨#[]⟩, .bool false, .bool false, .string ⟨#[]⟩, .string ⟨#[]⟩, .string ⟨#[]⟩, .int .i64 0]
  have BR := x2b.mod x3 (fun h => h)
  have BP3 := x2a.mod x3 (fun h => h)
  have hp0 : w2.cell? ⟨w.heap.size, 0, none⟩ = some (.int .i64 num) := x2a.cell 0
  have hp1 : w2.cell? ⟨w.heap.size, 1, none⟩ = some (.int .i64 0) := x2a.cell 1
  have xx := ext_trans x2 x3
  obtain ⟨w4, hw4⟩ : ∃ x, x = w3.setCell ⟨g, 2, none⟩ (sv dn) := ⟨_, rfl⟩
  have B4 : Blk w4 g 32 #[.int .i64 num, .int .i64 0, sv dn, .string ⟨#[]⟩, .int .i64 0, .int .i64 0, .int .i64 0, .string ⟨#[]⟩, .string ⟨#[]⟩, .slice none 0 0, .slice none 0 0, .slice none 0 0, .slice none 0 0, .slice none 0 0, .string ⟨#[]⟩, .bool false, .bool false, .string ⟨#[]⟩, .string ⟨#[]⟩, .string ⟨#[]⟩, .int .i64 0] := by rw [hw4]; exact B3.set_ 2 _
  have BR4 : Blk w4 q 32 #[.int .i64 0, .int .i64 0, .string ⟨#[]⟩, .string ⟨#[]⟩, .int .i64 0, .int .i64 0, .int .i64 0, .string ⟨#[]⟩, .string ⟨#[]⟩, .slice none 0 0, .slice none 0 0, .slice none 0 0, .slice none 0 0, .slice none 0 0, .string ⟨#[]⟩, .bool false, .bool false, .string ⟨#[]⟩, .string ⟨#[]⟩, .string ⟨#[]⟩, .int .i64 0] := by rw [hw4]; exact BR.far (p := ⟨g, 2, none⟩) hqg _
  have BP4 : Blk w4 w.heap.size 32 #[.int .i64 num, .int .i64 0, sv dn, sv pass, .int .i64 scope, .int .i64 limit, .int .i64 fk, sv ft, sv fv, .slice Y1 Y2 Y3, .slice Z1 Z2 Z3, .slice W1 W2 W3, .slice M1 M2 M3, .slice A1 A2 A3, sv rdn, .bool keep, .bool above, sv up, sv avt, sv avv, .int .i64 which] := by rw [hw4]; exact BP3.far (p := ⟨g, 2, none⟩) hpg _
  have x4 : Ext w w4 := by rw [hw4]; exact xx.setCell (p := ⟨g, 2, none⟩) (fun h => absurd h (Nat.not_lt.2 hwg)) _
  have p31 : w3.cell? ⟨w.heap.size, 1, none⟩ = some (.int .i64 0) := BP3.cell 1
  have p32 : w3.cell? ⟨w.heap.size, 2, none⟩ = some (sv dn) := BP3.cell 2
  have g32 : w3.cell? ⟨g, 2, none⟩ = some (.string ⟨#[]⟩) := B3.cell 2
  have z32 : w3.frozen? ⟨g, 2, none⟩ = false := B3.frozen 2
  have p41 : w4.cell? ⟨w.heap.size, 1, none⟩ = some (.int .i64 0) := BP4.cell 1
  have p43 : w4.cell? ⟨w.heap.size, 3, none⟩ = some (sv pass) := BP4.cell 3
  have g43 : w4.cell? ⟨g, 3, none⟩ = some (.string ⟨#[]⟩) := B4.cell 3
  have z43 : w4.frozen? ⟨g, 3, none⟩ = false := B4.frozen 3
  replace hw4 := Lib.hid hw4
  replace hw2 := Lib.hid hw2
  replace hq := Lib.hid hq
  replace hw3 := Lib.hid hw3
  replace hg := Lib.hid hg
  go_enter Tryz.func78, Tryz.ntmps78
  go_upto_region 1 with fail
  rw [← hw2.out, ← hq.out]
  go_upto_region 2 with ((with_reducible show wpList _ _ _ (⟨none, .store 32 _ _, _, _, _, _⟩ :: _) _ _); refine wpList_store_row rfl 32 (.tmp 3) (.tmp 8) rfl w2.heap.size #[.int .i64 num, .int .i64 0, .string ⟨#[]⟩, .string ⟨#[]⟩, .int .i64 0, .int .i64 0, .int .i64 0, .string ⟨#[]⟩, .string ⟨#[]⟩, .slice none 0 0, .slice none 0 0, .slice none 0 0, .slice none 0 0, .slice none 0 0, .string ⟨#[]⟩, .bool false, .bool false, .string ⟨#[]⟩, .string ⟨#[]⟩, .string ⟨#[]⟩, .int .i64 0] rfl rfl _ _ B3a size21 rfl (by simp [Value.oneCell']) ?_)
  rw [← hw3.out, ← hg.out]
  clear hw2 hq hw3 hg hp0 hp1 B3a
  go_upto_region 9 with fail
  rw [← hw4.out]
  clear hw4 p31 p32 g32 z32 BP3 B3 BR
  have B5 : Blk (w4.setCell ⟨g, 3, none⟩ (sv pass)) g 32 #[.int .i64 num, .int .i64 0, sv dn, sv pass, .int .i64 0, .int .i64 0, .int .i64 0, .string ⟨#[]⟩, .string ⟨#[]⟩, .slice none 0 0, .slice none 0 0, .slice none 0 0, .slice none 0 0, .slice none 0 0, .string ⟨#[]⟩, .bool false, .bool false, .string ⟨#[]⟩, .string ⟨#[]⟩, .string ⟨#[]⟩, .int .i64 0] := (B4.set_ 3 _)
  have BR5 : Blk (w4.setCell ⟨g, 3, none⟩ (sv pass)) q 32 #[.int .i64 0, .int .i64 0, .string ⟨#[]⟩, .string ⟨#[]⟩, .int .i64 0, .int .i64 0, .int .i64 0, .string ⟨#[]⟩, .string ⟨#[]⟩, .slice none 0 0, .slice none 0 0, .slice none 0 0, .slice none 0 0, .slice none 0 0, .string ⟨#[]⟩, .bool false, .bool false, .string ⟨#[]⟩, .string ⟨#[]⟩, .string ⟨#[]⟩, .int .i64 0] := (BR4.far (p := ⟨g, 3, none⟩) hqg _)
  have x5 : Ext w (w4.setCell ⟨g, 3, none⟩ (sv pass)) := (x4.setCell (p := ⟨g, 3, none⟩) (fun h => absurd h (Nat.not_lt.2 hwg)) _)
  go_wp2_with (first
    | ((with_reducible show wpList _ _ _ (⟨some 73, _, _, _, _, _⟩ :: _) _ _); refine wpList_load_row rfl 32 (.tmp 3) rfl g rfl _ _ _ _ B5 Tryz.underlying32 rfl size21 ?_)
    | ((with_reducible show wpList _ _ _ (⟨none, .store 32 _ _, _, _, _, _⟩ :: _) _ _); refine wpList_store_row rfl 32 (.tmp 2) (.tmp 73) rfl q #[.int .i64 num, .int .i64 0, sv dn, sv pass, .int .i64 0, .int .i64 0, .int .i64 0, .string ⟨#[]⟩, .string ⟨#[]⟩, .slice none 0 0, .slice none 0 0, .slice none 0 0, .slice none 0 0, .slice none 0 0, .string ⟨#[]⟩, .bool false, .bool false, .string ⟨#[]⟩, .string ⟨#[]⟩, .string ⟨#[]⟩, .int .i64 0] rfl rfl _ _ BR5 size21 rfl (by simp [Value.oneCell']) ?_))
  refine bodyPost_ret (results_cell_row Tryz.results78 _ _ _ _ _ _ _ rfl (Blk.setRow BR5 #[.int .i64 num, .int .i64 0, sv dn, sv pass, .int .i64 0, .int .i64 0, .int .i64 0, .string ⟨#[]⟩, .string ⟨#[]⟩, .slice none 0 0, .slice none 0 0, .slice none 0 0, .slice none 0 0, .slice none 0 0, .string ⟨#[]⟩, .bool false, .bool false, .string ⟨#[]⟩, .string ⟨#[]⟩, .string ⟨#[]⟩, .int .i64 0]) Tryz.underlying32 rfl (by exact size21)) rfl ?_
  exact ⟨rfl, Mod.setRow x5 (fun h => by omega) _⟩
set_option maxHeartbeats 16000000 in
theorem bareq6_any {w : World} {num scope limit fk which : Int} {dn pass ft fv rdn up avt avv : List UInt8} {keep above : Bool} {Y1 Z1 W1 M1 A1 : Option Addr} {Y2 Y3 Z2 Z3 W2 W3 M2 M3 A2 A3 : Nat} : Calls Tryz.prog 78 #[.agg #[.int .i64 num, .int .i64 6, sv dn, sv pass, .int .i64 scope, .int .i64 limit, .int .i64 fk, sv ft, sv fv, .slice Y1 Y2 Y3, .slice Z1 Z2 Z3, .slice W1 W2 W3, .slice M1 M2 M3, .slice A1 A2 A3, sv rdn, .bool keep, .bool above, sv up, sv avt, sv avv, .int .i64 which]] w fun e w' => e = .returned (.agg #[.int .i64 num, .int .i64 6, sv dn, .string ⟨#[]⟩, .int .i64 0, .int .i64 0, .int .i64 0, .string ⟨#[]⟩, .string ⟨#[]⟩, .slice none 0 0, .slice none 0 0, .slice none 0 0, .slice M1 M2 M3, .slice none 0 0, .string ⟨#[]⟩, .bool false, .bool false, .string ⟨#[]⟩, .string ⟨#[]⟩, .string ⟨#[]⟩, .int .i64 0]) ∧ Ext w w' := by
  obtain ⟨x2a, x2b, x2⟩ := Blk.twoN w #[.int .i64 num, .int .i64 6, sv dn, sv pass, .int .i64 scope, .int .i64 limit, .int .i64 fk, sv ft, sv fv, .slice Y1 Y2 Y3, .slice Z1 Z2 Z3, .slice W1 W2 W3, .slice M1 M2 M3, .slice A1 A2 A3, sv rdn, .bool keep, .bool above, sv up, sv avt, sv avv, .int .i64 which] #[.int .i64 0, .int .i64 0, .string ⟨#[]⟩, .string ⟨#[]⟩, .int .i64 0, .int .i64 0, .int .i64 0, .string ⟨#[]⟩, .string ⟨#[]⟩, .slice none 0 0, .slice none 0 0, .slice none 0 0, .slice none 0 0, .slice none 0 0, .string ⟨#[]⟩, .bool false, .bool false, .string ⟨#[]⟩, .string ⟨#[]⟩, .string ⟨#[]⟩, .int .i64 0] 32 32
  obtain ⟨w2, hw2⟩ : ∃ x, x = (w.alloc (.cells #[.int .i64 num, .int .i64 6, sv dn, sv pass, .int .i64 scope, .int .i64 limit, .int .i64 fk, sv ft, sv fv, .slice Y1 Y2 Y3, .slice Z1 Z2 Z3, .slice W1 W2 W3, .slice M1 M2 M3, .slice A1 A2 A3, sv rdn, .bool keep, .bool above, sv up, sv avt, sv avv, .int .i64 which] 32)).alloc (.cells #[.int .i64 0, .int .i64 0, .string ⟨#[]⟩, .string ⟨#[]⟩, .int .i64 0, .int .i64 0, .int .i64 0, .string ⟨#[]⟩, .string ⟨#[]⟩, .slice none 0 0, .slice none 0 0, .slice none 0 0, .slice none 0 0, .slice none 0 0, .string ⟨#[]⟩, .bool false, .bool false, .string ⟨#[]⟩, .string ⟨#[]⟩, .string ⟨#[]⟩, .int .i64 0] 32) := ⟨_, rfl⟩
  rw [← hw2] at x2a x2b x2
  obtain ⟨q, hq⟩ : ∃ q, q = w.heap.size + 1 := ⟨_, rfl⟩
  have hqw : w.heap.size ≤ q := by omega
  rw [← hq] at x2b
  have B3a : Blk (w2.alloc (.cells #[.int .i64 0, .int .i64 0, .string ⟨#[]⟩, .string ⟨#[]⟩, .int .i64 0, .int .i64 0, .int .i64 0, .string ⟨#[]⟩, .string ⟨#[]⟩, .slice none 0 0, .slice none 0 0, .slice none 0 0, .slice none 0 0, .slice none 0 0, .string ⟨#[]⟩, .bool false, .bool false, .string ⟨#[]⟩, .string ⟨#[]⟩, .string ⟨#[]⟩, .int .i64 0] 32)) w2.heap.size 32 #[.int .i64 0, .int .i64 0, .string ⟨#[]⟩, .string ⟨#[]⟩, .int .i64 0, .int .i64 0, .int .i64 0, .string ⟨#[]⟩, .string ⟨#[]⟩, .slice none 0 0, .slice none 0 0, .slice none 0 0, .slice none 0 0, .slice none 0 0, .string ⟨#[]⟩, .bool false, .bool false, .string ⟨#[]⟩, .string ⟨#[]⟩, .string ⟨#[]⟩, .int .i64 0] := Blk.new w2 _ _
  obtain ⟨w3, hw3⟩ : ∃ x, x = (w2.alloc (.cells #[.int .i64 0, .int .i64 0, .string ⟨#[]⟩, .string ⟨#[]⟩, .int .i64 0, .int .i64 0, .int .i64 0, .string ⟨#[]⟩, .string ⟨#[]⟩, .slice none 0 0, .slice none 0 0, .slice none 0 0, .slice none 0 0, .slice none 0 0, .string ⟨#[]⟩, .bool false, .bool false, .string ⟨#[]⟩, .string ⟨#[]⟩, .string ⟨#[]⟩, .int .i64 0] 32)).setRow w2.heap.size #[.int .i64 num, .int .i64 6, .string ⟨#[]⟩, .string ⟨#[]⟩, .int .i64 0, .int .i64 0, .int .i64 0, .string ⟨#[]⟩, .string ⟨#[]⟩, .slice none 0 0, .slice none 0 0, .slice none 0 0, .slice none 0 0, .slice none 0 0, .string ⟨#[]⟩, .bool false, .bool false, .string ⟨#[]⟩, .string ⟨#[]⟩, .string ⟨#[]⟩, .int .i64 0] := ⟨_, rfl⟩
  obtain ⟨g, hg⟩ : ∃ q, q = w2.heap.size := ⟨_, rfl⟩
  have hpg : w.heap.size ≠ g := by have := x2a.lt; omega
  have hgp : g ≠ w.heap.size := fun h => hpg h.symm
  have hqg : q ≠ g := by have := x2b.lt; omega
  have hwg : w.heap.size ≤ g := by have := x2a.lt; omega
  have x3 : Ext w2 w3 := by rw [hw3]; exact ((Mod.refl _ w2).alloc _).setRow (fun h => by omega) _
  have B3 : Blk w3 g 32 #[.int .i64 num, .int .i64 6, .string ⟨#[]⟩, .string ⟨#[]⟩, .int .i64 0, .int .i64 0, .int .i64 0, .string ⟨#[]⟩, .string ⟨#[]⟩, .slice none 0 0, .slice none 0 0, .slice none 0 0, .slice none 0 0, .slice none 0 0, .string ⟨#[]⟩, .bool false, .bool false, .string ⟨#[]⟩, .string ⟨#[]⟩, .string ⟨#[]⟩, .int .i64 0] := by rw [hw3, hg]; exact B3a.setRow #[.int .i64 num, .int .i64 6, .string ⟨#[]⟩, .string ⟨#[]⟩, .int .i64 0, .int .i64 0, .int .i64 0, .string ⟨#[]⟩, .string ⟨#[]⟩, .slice none 0 0, .slice none 0 0, .slice none 0 0, .slice none 0 0, .slice none 0 0, .string ⟨#[]⟩, .bool false, .bool false, .string ⟨#[]⟩, .string ⟨#[]⟩, .string ⟨#[]⟩, .int .i64 0]
  have BR := x2b.mod x3 (fun h => h)
  have BP3 := x2a.mod x3 (fun h => h)
  have hp0 : w2.cell? ⟨w.heap.size, 0, none⟩ = some (.int .i64 num) := x2a.cell 0
  have hp1 : w2.cell? ⟨w.heap.size, 1, none⟩ = some (.int .i64 6) := x2a.cell 1
  have xx := ext_trans x2 x3
  obtain ⟨w4, hw4⟩ : ∃ x, x = w3.setCell ⟨g, 2, none⟩ (sv dn) := ⟨_, rfl⟩
  have B4 : Blk w4 g 32 #[.int .i64 num, .int .i64 6, sv dn, .string ⟨#[]⟩, .int .i64 0, .int .i64 0, .int .i64 0, .string ⟨#[]⟩, .string ⟨#[]⟩, .slice none 0 0, .slice none 0 0, .slice none 0 0, .slice none 0 0, .slice none 0 0, .string ⟨#[]⟩, .bool false, .bool false, .string ⟨#[]⟩, .string ⟨#[]⟩, .string ⟨#[]⟩, .int .i64 0] := by rw [hw4]; exact B3.set_ 2 _
  have BR4 : Blk w4 q 32 #[.int .i64 0, .int .i64 0, .string ⟨#[]⟩, .string ⟨#[]⟩, .int .i64 0, .int .i64 0, .int .i64 0, .string ⟨#[]⟩, .string ⟨#[]⟩, .slice none 0 0, .slice none 0 0, .slice none 0 0, .slice none 0 0, .slice none 0 0, .string ⟨#[]⟩, .bool false, .bool false, .string ⟨#[]⟩, .string ⟨#[]⟩, .string ⟨#[]⟩, .int .i64 0] := by rw [hw4]; exact BR.far (p := ⟨g, 2, none⟩) hqg _
  have BP4 : Blk w4 w.heap.size 32 #[.int .i64 num, .int .i64 6, sv dn, sv pass, .int .i64 scope, .int .i64 limit, .int .i64 fk, sv ft, sv fv, .slice Y1 Y2 Y3, .slice Z1 Z2 Z3, .slice W1 W2 W3, .slice M1 M2 M3, .slice A1 A2 A3, sv rdn, .bool keep, .bool above, sv up, sv avt, sv avv, .int .i64 which] := by rw [hw4]; exact BP3.far (p := ⟨g, 2, none⟩) hpg _
  have x4 : Ext w w4 := by rw [hw4]; exact xx.setCell (p := ⟨g, 2, none⟩) (fun h => absurd h (Nat.not_lt.2 hwg)) _
  have p31 : w3.cell? ⟨w.heap.size, 1, none⟩ = some (.int .i64 6) := BP3.cell 1
  have p32 : w3.cell? ⟨w.heap.size, 2, none⟩ = some (sv dn) := BP3.cell 2
  have g32 : w3.cell? ⟨g, 2, none⟩ = some (.string ⟨#[]⟩) := B3.cell 2
  have z32 : w3.frozen? ⟨g, 2, none⟩ = false := B3.frozen 2
  have p41 : w4.cell? ⟨w.heap.size, 1, none⟩ = some (.int .i64 6) := BP4.cell 1
  have p412 : w4.cell? ⟨w.heap.size, 12, none⟩ = some (.slice M1 M2 M3) := BP4.cell 12
  have g412 : w4.cell? ⟨g, 12, none⟩ = some (.slice none 0 0) := B4.cell 12
  have z412 : w4.frozen? ⟨g, 12, none⟩ = false := B4.frozen 12
  replace hw4 := Lib.hid hw4
  replace hw2 := Lib.hid hw2
  replace hq := Lib.hid hq
  replace hw3 := Lib.hid hw3
  replace hg := Lib.hid hg
  go_enter Tryz.func78, Tryz.ntmps78
  go_upto_region 1 with fail
  rw [← hw2.out, ← hq.out]
  go_upto_region 2 with ((with_reducible show wpList _ _ _ (⟨none, .store 32 _ _, _, _, _, _⟩ :: _) _ _); refine wpList_store_row rfl 32 (.tmp 3) (.tmp 8) rfl w2.heap.size #[.int .i64 num, .int .i64 6, .string ⟨#[]⟩, .string ⟨#[]⟩, .int .i64 0, .int .i64 0, .int .i64 0, .string ⟨#[]⟩, .string ⟨#[]⟩, .slice none 0 0, .slice none 0 0, .slice none 0 0, .slice none 0 0, .slice none 0 0, .string ⟨#[]⟩, .bool false, .bool false, .string ⟨#[]⟩, .string ⟨#[]⟩, .string ⟨#[]⟩, .int .i64 0] rfl rfl _ _ B3a size21 rfl (by simp [Value.oneCell']) ?_)
  rw [← hw3.out, ← hg.out]
  clear hw2 hq hw3 hg hp0 hp1 B3a
  go_upto_region 9 with fail
  rw [← hw4.out]
  clear hw4 p31 p32 g32 z32 BP3 B3 BR
  have B5 : Blk (w4.setCell ⟨g, 12, none⟩ (.slice M1 M2 M3)) g 32 #[.int .i64 num, .int .i64 6, sv dn, .string ⟨#[]⟩, .int .i64 0, .int .i64 0, .int .i64 0, .string ⟨#[]⟩, .string ⟨#[]⟩, .slice none 0 0, .slice none 0 0, .slice none 0 0, .slice M1 M2 M3, .slice none 0 0, .string ⟨#[]⟩, .bool false, .bool false, .string ⟨#[]⟩, .string ⟨#[]⟩, .string ⟨#[]⟩, .int .i64 0] := (B4.set_ 12 _)
  have BR5 : Blk (w4.setCell ⟨g, 12, none⟩ (.slice M1 M2 M3)) q 32 #[.int .i64 0, .int .i64 0, .string ⟨#[]⟩, .string ⟨#[]⟩, .int .i64 0, .int .i64 0, .int .i64 0, .string ⟨#[]⟩, .string ⟨#[]⟩, .slice none 0 0, .slice none 0 0, .slice none 0 0, .slice none 0 0, .slice none 0 0, .string ⟨#[]⟩, .bool false, .bool false, .string ⟨#[]⟩, .string ⟨#[]⟩, .string ⟨#[]⟩, .int .i64 0] := (BR4.far (p := ⟨g, 12, none⟩) hqg _)
  have x5 : Ext w (w4.setCell ⟨g, 12, none⟩ (.slice M1 M2 M3)) := (x4.setCell (p := ⟨g, 12, none⟩) (fun h => absurd h (Nat.not_lt.2 hwg)) _)
  go_wp2_with (first
    | ((with_reducible show wpList _ _ _ (⟨some 73, _, _, _, _, _⟩ :: _) _ _); refine wpList_load_row rfl 32 (.tmp 3) rfl g rfl _ _ _ _ B5 Tryz.underlying32 rfl size21 ?_)
    | ((with_reducible show wpList _ _ _ (⟨none, .store 32 _ _, _, _, _, _⟩ :: _) _ _); refine wpList_store_row rfl 32 (.tmp 2) (.tmp 73) rfl q #[.int .i64 num, .int .i64 6, sv dn, .string ⟨#[]⟩, .int .i64 0, .int .i64 0, .int .i64 0, .string ⟨#[]⟩, .string ⟨#[]⟩, .slice none 0 0, .slice none 0 0, .slice none 0 0, .slice M1 M2 M3, .slice none 0 0, .string ⟨#[]⟩, .bool false, .bool false, .string ⟨#[]⟩, .string ⟨#[]⟩, .string ⟨#[]⟩, .int .i64 0] rfl rfl _ _ BR5 size21 rfl (by simp [Value.oneCell']) ?_))
  refine bodyPost_ret (results_cell_row Tryz.results78 _ _ _ _ _ _ _ rfl (Blk.setRow BR5 #[.int .i64 num, .int .i64 6, sv dn, .string ⟨#[]⟩, .int .i64 0, .int .i64 0, .int .i64 0, .string ⟨#[]⟩, .string ⟨#[]⟩, .slice none 0 0, .slice none 0 0, .slice none 0 0, .slice M1 M2 M3, .slice none 0 0, .string ⟨#[]⟩, .bool false, .bool false, .string ⟨#[]⟩, .string ⟨#[]⟩, .string ⟨#[]⟩, .int .i64 0]) Tryz.underlying32 rfl (by exact size21)) rfl ?_
  exact ⟨rfl, Mod.setRow x5 (fun h => by omega) _⟩
set_option maxHeartbeats 16000000 in
theorem bareq8_any {w : World} {num scope limit fk which : Int} {dn pass ft fv rdn up avt avv : List UInt8} {keep above : Bool} {Y1 Z1 W1 M1 A1 : Option Addr} {Y2 Y3 Z2 Z3 W2 W3 M2 M3 A2 A3 : Nat} : Calls Tryz.prog 78 #[.agg #[.int .i64 num, .int .i64 8, sv dn, sv pass, .int .i64 scope, .int .i64 limit, .int .i64 fk, sv ft, sv fv, .slice Y1 Y2 Y3, .slice Z1 Z2 Z3, .slice W1 W2 W3, .slice M1 M2 M3, .slice A1 A2 A3, sv rdn, .bool keep, .bool above, sv up, sv avt, sv avv, .int .i64 which]] w fun e w' => e = .returned (.agg #[.int .i64 num, .int .i64 8, sv dn, .string ⟨#[]⟩, .int .i64 0, .int .i64 0, .int .i64 0, .string ⟨#[]⟩, .string ⟨#[]⟩, .slice none 0 0, .slice none 0 0, .slice none 0 0, .slice none 0 0, .slice A1 A2 A3, .string ⟨#[]⟩, .bool false, .bool false, .string ⟨#[]⟩, .string ⟨#[]⟩, .string ⟨#[]⟩, .int .i64 0]) ∧ Ext w w' := by
  obtain ⟨x2a, x2b, x2⟩ := Blk.twoN w #[.int .i64 num, .int .i64 8, sv dn, sv pass, .int .i64 scope, .int .i64 limit, .int .i64 fk, sv ft, sv fv, .slice Y1 Y2 Y3, .slice Z1 Z2 Z3, .slice W1 W2 W3, .slice M1 M2 M3, .slice A1 A2 A3, sv rdn, .bool keep, .bool above, sv up, sv avt, sv avv, .int .i64 which] #[.int .i64 0, .int .i64 0, .string ⟨#[]⟩, .string ⟨#[]⟩, .int .i64 0, .int .i64 0, .int .i64 0, .string ⟨#[]⟩, .string ⟨#[]⟩, .slice none 0 0, .slice none 0 0, .slice none 0 0, .slice none 0 0, .slice none 0 0, .string ⟨#[]⟩, .bool false, .bool false, .string ⟨#[]⟩, .string ⟨#[]⟩, .string ⟨#[]⟩, .int .i64 0] 32 32
  obtain ⟨w2, hw2⟩ : ∃ x, x = (w.alloc (.cells #[.int .i64 num, .int .i64 8, sv dn, sv pass, .int .i64 scope, .int .i64 limit, .int .i64 fk, sv ft, sv fv, .slice Y1 Y2 Y3, .slice Z1 Z2 Z3, .slice W1 W2 W3, .slice M1 M2 M3, .slice A1 A2 A3, sv rdn, .bool keep, .bool above, sv up, sv avt, sv avv, .int .i64 which] 32)).alloc (.cells #[.int .i64 0, .int .i64 0, .string ⟨#[]⟩, .string ⟨#[]⟩, .int .i64 0, .int .i64 0, .int .i64 0, .string ⟨#[]⟩, .string ⟨#[]⟩, .slice none 0 0, .slice none 0 0, .slice none 0 0, .slice none 0 0, .slice none 0 0, .string ⟨#[]⟩, .bool false, .bool false, .string ⟨#[]⟩, .string ⟨#[]⟩, .string ⟨#[]⟩, .int .i64 0] 32) := ⟨_, rfl⟩
  rw [← hw2] at x2a x2b x2
  obtain ⟨q, hq⟩ : ∃ q, q = w.heap.size + 1 := ⟨_, rfl⟩
  have hqw : w.heap.size ≤ q := by omega
  rw [← hq] at x2b
  have B3a : Blk (w2.alloc (.cells #[.int .i64 0, .int .i64 0, .string ⟨#[]⟩, .string ⟨#[]⟩, .int .i64 0, .int .i64 0, .int .i64 0, .string ⟨#[]⟩, .string ⟨#[]⟩, .slice none 0 0, .slice none 0 0, .slice none 0 0, .slice none 0 0, .slice none 0 0, .string ⟨#[]⟩, .bool false, .bool false, .string ⟨#[]⟩, .string ⟨#[]⟩, .string ⟨#[]⟩, .int .i64 0] 32)) w2.heap.size 32 #[.int .i64 0, .int .i64 0, .string ⟨#[]⟩, .string ⟨#[]⟩, .int .i64 0, .int .i64 0, .int .i64 0, .string ⟨#[]⟩, .string ⟨#[]⟩, .slice none 0 0, .slice none 0 0, .slice none 0 0, .slice none 0 0, .slice none 0 0, .string ⟨#[]⟩, .bool false, .bool false, .string ⟨#[]⟩, .string ⟨#[]⟩, .string ⟨#[]⟩, .int .i64 0] := Blk.new w2 _ _
  obtain ⟨w3, hw3⟩ : ∃ x, x = (w2.alloc (.cells #[.int .i64 0, .int .i64 0, .string ⟨#[]⟩, .string ⟨#[]⟩, .int .i64 0, .int .i64 0, .int .i64 0, .string ⟨#[]⟩, .string ⟨#[]⟩, .slice none 0 0, .slice none 0 0, .slice none 0 0, .slice none 0 0, .slice none 0 0, .string ⟨#[]⟩, .bool false, .bool false, .string ⟨#[]⟩, .string ⟨#[]⟩, .string ⟨#[]⟩, .int .i64 0] 32)).setRow w2.heap.size #[.int .i64 num, .int .i64 8, .string ⟨#[]⟩, .string ⟨#[]⟩, .int .i64 0, .int .i64 0, .int .i64 0, .string ⟨#[]⟩, .string ⟨#[]⟩, .slice none 0 0, .slice none 0 0, .slice none 0 0, .slice none 0 0, .slice none 0 0, .string ⟨#[]⟩, .bool false, .bool false, .string ⟨#[]⟩, .string ⟨#[]⟩, .string ⟨#[]⟩, .int .i64 0] := ⟨_, rfl⟩
  obtain ⟨g, hg⟩ : ∃ q, q = w2.heap.size := ⟨_, rfl⟩
  have hpg : w.heap.size ≠ g := by have := x2a.lt; omega
  have hgp : g ≠ w.heap.size := fun h => hpg h.symm
  have hqg : q ≠ g := by have := x2b.lt; omega
  have hwg : w.heap.size ≤ g := by have := x2a.lt; omega
  have x3 : Ext w2 w3 := by rw [hw3]; exact ((Mod.refl _ w2).alloc _).setRow (fun h => by omega) _
  have B3 : Blk w3 g 32 #[.int .i64 num, .int .i64 8, .string ⟨#[]⟩, .string ⟨#[]⟩, .int .i64 0, .int .i64 0, .int .i64 0, .string ⟨#[]⟩, .string ⟨#[]⟩, .slice none 0 0, .slice none 0 0, .slice none 0 0, .slice none 0 0, .slice none 0 0, .string ⟨#[]⟩, .bool false, .bool false, .string ⟨#[]⟩, .string ⟨#[]⟩, .string ⟨#[]⟩, .int .i64 0] := by rw [hw3, hg]; exact B3a.setRow #[.int .i64 num, .int .i64 8, .string ⟨#[]⟩, .string ⟨#[]⟩, .int .i64 0, .int .i64 0, .int .i64 0, .string ⟨#[]⟩, .string ⟨#[]⟩, .slice none 0 0, .slice none 0 0, .slice none 0 0, .slice none 0 0, .slice none 0 0, .string ⟨#[]⟩, .bool false, .bool false, .string ⟨#[]⟩, .string ⟨#[]⟩, .string ⟨#[]⟩, .int .i64 0]
  have BR := x2b.mod x3 (fun h => h)
  have BP3 := x2a.mod x3 (fun h => h)
  have hp0 : w2.cell? ⟨w.heap.size, 0, none⟩ = some (.int .i64 num) := x2a.cell 0
  have hp1 : w2.cell? ⟨w.heap.size, 1, none⟩ = some (.int .i64 8) := x2a.cell 1
  have xx := ext_trans x2 x3
  obtain ⟨w4, hw4⟩ : ∃ x, x = w3.setCell ⟨g, 2, none⟩ (sv dn) := ⟨_, rfl⟩
  have B4 : Blk w4 g 32 #[.int .i64 num, .int .i64 8, sv dn, .string ⟨#[]⟩, .int .i64 0, .int .i64 0, .int .i64 0, .string ⟨#[]⟩, .string ⟨#[]⟩, .slice none 0 0, .slice none 0 0, .slice none 0 0, .slice none 0 0, .slice none 0 0, .string ⟨#[]⟩, .bool false, .bool false, .string ⟨#[]⟩, .string ⟨#[]⟩, .string ⟨#[]⟩, .int .i64 0] := by rw [hw4]; exact B3.set_ 2 _
  have BR4 : Blk w4 q 32 #[.int .i64 0, .int .i64 0, .string ⟨#[]⟩, .string ⟨#[]⟩, .int .i64 0, .int .i64 0, .int .i64 0, .string ⟨#[]⟩, .string ⟨#[]⟩, .slice none 0 0, .slice none 0 0, .slice none 0 0, .slice none 0 0, .slice none 0 0, .string ⟨#[]⟩, .bool false, .bool false, .string ⟨#[]⟩, .string ⟨#[]⟩, .string ⟨#[]⟩, .int .i64 0] := by rw [hw4]; exact BR.far (p := ⟨g, 2, none⟩) hqg _
  have BP4 : Blk w4 w.heap.size 32 #[.int .i64 num, .int .i64 8, sv dn, sv pass, .int .i64 scope, .int .i64 limit, .int .i64 fk, sv ft, sv fv, .slice Y1 Y2 Y3, .slice Z1 Z2 Z3, .slice W1 W2 W3, .slice M1 M2 M3, .slice A1 A2 A3, sv rdn, .bool keep, .bool above, sv up, sv avt, sv avv, .int .i64 which] := by rw [hw4]; exact BP3.far (p := ⟨g, 2, none⟩) hpg _
  have x4 : Ext w w4 := by rw [hw4]; exact xx.setCell (p := ⟨g, 2, none⟩) (fun h => absurd h (Nat.not_lt.2 hwg)) _
  have p31 : w3.cell? ⟨w.heap.size, 1, none⟩ = some (.int .i64 8) := BP3.cell 1
  have p32 : w3.cell? ⟨w.heap.size, 2, none⟩ = some (sv dn) := BP3.cell 2
  have g32 : w3.cell? ⟨g, 2, none⟩ = some (.string ⟨#[]⟩) := B3.cell 2
  have z32 : w3.frozen? ⟨g, 2, none⟩ = false := B3.frozen 2
  have p41 : w4.cell? ⟨w.heap.size, 1, none⟩ = some (.int .i64 8) := BP4.cell 1
  have p413 : w4.cell? ⟨w.heap.size, 13, none⟩ = some (.slice A1 A2 A3) := BP4.cell 13
  have g413 : w4.cell? ⟨g, 13, none⟩ = some (.slice none 0 0) := B4.cell 13
  have z413 : w4.frozen? ⟨g, 13, none⟩ = false := B4.frozen 13
  replace hw4 := Lib.hid hw4
  replace hw2 := Lib.hid hw2
  replace hq := Lib.hid hq
  replace hw3 := Lib.hid hw3
  replace hg := Lib.hid hg
  go_enter Tryz.func78, Tryz.ntmps78
  go_upto_region 1 with fail
  rw [← hw2.out, ← hq.out]
  go_upto_region 2 with ((with_reducible show wpList _ _ _ (⟨none, .store 32 _ _, _, _, _, _⟩ :: _) _ _); refine wpList_store_row rfl 32 (.tmp 3) (.tmp 8) rfl w2.heap.size #[.int .i64 num, .int .i64 8, .string ⟨#[]⟩, .string ⟨#[]⟩, .int .i64 0, .int .i64 0, .int .i64 0, .string ⟨#[]⟩, .string ⟨#[]⟩, .slice none 0 0, .slice none 0 0, .slice none 0 0, .slice none 0 0, .slice none 0 0, .string ⟨#[]⟩, .bool false, .bool false, .string ⟨#[]⟩, .string ⟨#[]⟩, .string ⟨#[]⟩, .int .i64 0] rfl rfl _ _ B3a size21 rfl (by simp [Value.oneCell']) ?_)
  rw [← hw3.out, ← hg.out]
  clear hw2 hq hw3 hg hp0 hp1 B3a
  go_upto_region 9 with fail
  rw [← hw4.out]
  clear hw4 p31 p32 g32 z32 BP3 B3 BR
  have B5 : Blk (w4.setCell ⟨g, 13, none⟩ (.slice A1 A2 A3)) g 32 #[.int .i64 num, .int .i64 8, sv dn, .string ⟨#[]⟩, .int .i64 0, .int .i64 0, .int .i64 0, .string ⟨#[]⟩, .string ⟨#[]⟩, .slice none 0 0, .slice none 0 0, .slice none 0 0, .slice none 0 0, .slice A1 A2 A3, .string ⟨#[]⟩, .bool false, .bool false, .string ⟨#[]⟩, .string ⟨#[]⟩, .string ⟨#[]⟩, .int .i64 0] := (B4.set_ 13 _)
  have BR5 : Blk (w4.setCell ⟨g, 13, none⟩ (.slice A1 A2 A3)) q 32 #[.int .i64 0, .int .i64 0, .string ⟨#[]⟩, .string ⟨#[]⟩, .int .i64 0, .int .i64 0, .int .i64 0, .string ⟨#[]⟩, .string ⟨#[]⟩, .slice none 0 0, .slice none 0 0, .slice none 0 0, .slice none 0 0, .slice none 0 0, .string ⟨#[]⟩, .bool false, .bool false, .string ⟨#[]⟩, .string ⟨#[]⟩, .string ⟨#[]⟩, .int .i64 0] := (BR4.far (p := ⟨g, 13, none⟩) hqg _)
  have x5 : Ext w (w4.setCell ⟨g, 13, none⟩ (.slice A1 A2 A3)) := (x4.setCell (p := ⟨g, 13, none⟩) (fun h => absurd h (Nat.not_lt.2 hwg)) _)
  go_wp2_with (first
    | ((with_reducible show wpList _ _ _ (⟨some 73, _, _, _, _, _⟩ :: _) _ _); refine wpList_load_row rfl 32 (.tmp 3) rfl g rfl _ _ _ _ B5 Tryz.underlying32 rfl size21 ?_)
    | ((with_reducible show wpList _ _ _ (⟨none, .store 32 _ _, _, _, _, _⟩ :: _) _ _); refine wpList_store_row rfl 32 (.tmp 2) (.tmp 73) rfl q #[.int .i64 num, .int .i64 8, sv dn, .string ⟨#[]⟩, .int .i64 0, .int .i64 0, .int .i64 0, .string ⟨#[]⟩, .string ⟨#[]⟩, .slice none 0 0, .slice none 0 0, .slice none 0 0, .slice none 0 0, .slice A1 A2 A3, .string ⟨#[]⟩, .bool false, .bool false, .string ⟨#[]⟩, .string ⟨#[]⟩, .string ⟨#[]⟩, .int .i64 0] rfl rfl _ _ BR5 size21 rfl (by simp [Value.oneCell']) ?_))
  refine bodyPost_ret (results_cell_row Tryz.results78 _ _ _ _ _ _ _ rfl (Blk.setRow BR5 #[.int .i64 num, .int .i64 8, sv dn, .string ⟨#[]⟩, .int .i64 0, .int .i64 0, .int .i64 0, .string ⟨#[]⟩, .string ⟨#[]⟩, .slice none 0 0, .slice none 0 0, .slice none 0 0, .slice none 0 0, .slice A1 A2 A3, .string ⟨#[]⟩, .bool false, .bool false, .string ⟨#[]⟩, .string ⟨#[]⟩, .string ⟨#[]⟩, .int .i64 0]) Tryz.underlying32 rfl (by exact size21)) rfl ?_
  exact ⟨rfl, Mod.setRow x5 (fun h => by omega) _⟩
set_option maxHeartbeats 16000000 in
theorem bareq10_any {w : World} {num scope limit fk which : Int} {dn pass ft fv rdn up avt avv : List UInt8} {keep above : Bool} {Y1 Z1 W1 M1 A1 : Option Addr} {Y2 Y3 Z2 Z3 W2 W3 M2 M3 A2 A3 : Nat} : Calls Tryz.prog 78 #[.agg #[.int .i64 num, .int .i64 10, sv dn, sv pass, .int .i64 scope, .int .i64 limit, .int .i64 fk, sv ft, sv fv, .slice Y1 Y2 Y3, .slice Z1 Z2 Z3, .slice W1 W2 W3, .slice M1 M2 M3, .slice A1 A2 A3, sv rdn, .bool keep, .bool above, sv up, sv avt, sv avv, .int .i64 which]] w fun e w' => e = .returned (.agg #[.int .i64 num, .int .i64 10, sv dn, .string ⟨#[]⟩, .int .i64 0, .int .i64 0, .int .i64 0, .string ⟨#[]⟩, .string ⟨#[]⟩, .slice none 0 0, .slice none 0 0, .slice none 0 0, .slice none 0 0, .slice none 0 0, .string ⟨#[]⟩, .bool false, .bool false, .string ⟨#[]⟩, .string ⟨#[]⟩, .string ⟨#[]⟩, .int .i64 0]) ∧ Ext w w' := by
  obtain ⟨x2a, x2b, x2⟩ := Blk.twoN w #[.int .i64 num, .int .i64 10, sv dn, sv pass, .int .i64 scope, .int .i64 limit, .int .i64 fk, sv ft, sv fv, .slice Y1 Y2 Y3, .slice Z1 Z2 Z3, .slice W1 W2 W3, .slice M1 M2 M3, .slice A1 A2 A3, sv rdn, .bool keep, .bool above, sv up, sv avt, sv avv, .int .i64 which] #[.int .i64 0, .int .i64 0, .string ⟨#[]⟩, .string ⟨#[]⟩, .int .i64 0, .int .i64 0, .int .i64 0, .string ⟨#[]⟩, .string ⟨#[]⟩, .slice none 0 0, .slice none 0 0, .slice none 0 0, .slice none 0 0, .slice none 0 0, .string ⟨#[]⟩, .bool false, .bool false, .string ⟨#[]⟩, .string ⟨#[]⟩, .string ⟨#[]⟩, .int .i64 0] 32 32
  obtain ⟨w2, hw2⟩ : ∃ x, x = (w.alloc (.cells #[.int .i64 num, .int .i64 10, sv dn, sv pass, .int .i64 scope, .int .i64 limit, .int .i64 fk, sv ft, sv fv, .slice Y1 Y2 Y3, .slice Z1 Z2 Z3, .slice W1 W2 W3, .slice M1 M2 M3, .slice A1 A2 A3, sv rdn, .bool keep, .bool above, sv up, sv avt, sv avv, .int .i64 which] 32)).alloc (.cells #[.int .i64 0, .int .i64 0, .string ⟨#[]⟩, .string ⟨#[]⟩, .int .i64 0, .int .i64 0, .int .i64 0, .string ⟨#[]⟩, .string ⟨#[]⟩, .slice none 0 0, .slice none 0 0, .slice none 0 0, .slice none 0 0, .slice none 0 0, .string ⟨#[]⟩, .bool false, .bool false, .string ⟨#[]⟩, .string ⟨#[]⟩, .string ⟨#[]⟩, .int .i64 0] 32) := ⟨_, rfl⟩
  rw [← hw2] at x2a x2b x2
  obtain ⟨q, hq⟩ : ∃ q, q = w.heap.size + 1 := ⟨_, rfl⟩
  have hqw : w.heap.size ≤ q := by omega
  rw [← hq] at x2b
  have B3a : Blk (w2.alloc (.cells #[.int .i64 0, .int .i64 0, .string ⟨#[]⟩, .string ⟨#[]⟩, .int .i64 0, .int .i64 0, .int .i64 0, .string ⟨#[]⟩, .string ⟨#[]⟩, .slice none 0 0, .slice none 0 0, .slice none 0 0, .slice none 0 0, .slice none 0 0, .string ⟨#[]⟩, .bool false, .bool false, .string ⟨#[]⟩, .string ⟨#[]⟩, .string ⟨#[]⟩, .int .i64 0] 32)) w2.heap.size 32 #[.int .i64 0, .int .i64 0, .string ⟨#[]⟩, .string ⟨#[]⟩, .int .i64 0, .int .i64 0, .int .i64 0, .string ⟨#[]⟩, .string ⟨#[]⟩, .slice none 0 0, .slice none 0 0, .slice none 0 0, .slice none 0 0, .slice none 0 0, .string ⟨#[]⟩, .bool false, .bool false, .string ⟨#[]⟩, .string ⟨#[]⟩, .string ⟨#[]⟩, .int .i64 0] := Blk.new w2 _ _
  obtain ⟨w3, hw3⟩ : ∃ x, x = (w2.alloc (.cells #[.int .i64 0, .int .i64 0, .string ⟨#[]⟩, .string ⟨#[]⟩, .int .i64 0, .int .i64 0, .int .i64 0, .string ⟨#[]⟩, .string ⟨#[]⟩, .slice none 0 0, .slice none 0 0, .slice none 0 0, .slice none 0 0, .slice none 0 0, .string ⟨#[]⟩, .bool false, .bool false, .string ⟨#[]⟩, .string ⟨#[]⟩, .string ⟨#[]⟩, .int .i64 0] 32)).setRow w2.heap.size #[.int .i64 num, .int .i64 10, .string ⟨#[]⟩, .string ⟨#[]⟩, .int .i64 0, .int .i64 0, .int .i64 0, .string ⟨#[]⟩, .string ⟨#[]⟩, .slice none 0 0, .slice none 0 0, .slice none 0 0, .slice none 0 0, .slice none 0 0, .string ⟨#[]⟩, .bool false, .bool false, .string ⟨#[]⟩, .string ⟨#[]⟩, .string ⟨#[]⟩, .int .i64 0] := ⟨_, rfl⟩
  obtain ⟨g, hg⟩ : ∃ q, q = w2.heap.size := ⟨_, rfl⟩
  have hpg : w.heap.size ≠ g := by have := x2a.lt; omega
  have hgp : g ≠ w.heap.size := fun h => hpg h.symm
  have hqg : q ≠ g := by have := x2b.lt; omega
  have hwg : w.heap.size ≤ g := by have := x2a.lt; omega
  have x3 : Ext w2 w3 := by rw [hw3]; exact ((Mod.refl _ w2).alloc _).setRow (fun h => by omega) _
  have B3 : Blk w3 g 32 #[.int .i64 num, .int .i64 10, .string ⟨#[]⟩, .string ⟨#[]⟩, .int .i64 0, .int .i64 0, .int .i64 0, .string ⟨#[]⟩, .string ⟨#[]⟩, .slice none 0 0, .slice none 0 0, .slice none 0 0, .slice none 0 0, .slice none 0 0, .string ⟨#[]⟩, .bool false, .bool false, .string ⟨#[]⟩, .string ⟨#[]⟩, .string ⟨#[]⟩, .int .i64 0] := by rw [hw3, hg]; exact B3a.setRow #[.int .i64 num, .int .i64 10, .string ⟨#[]⟩, .string ⟨#[]⟩, .int .i64 0, .int .i64 0, .int .i64 0, .string ⟨#[]⟩, .string ⟨#[]⟩, .slice none 0 0, .slice none 0 0, .slice none 0 0, .slice none 0 0, .slice none 0 0, .string ⟨#[]⟩, .bool false, .bool false, .string ⟨#[]⟩, .string ⟨#[]⟩, .string ⟨#[]⟩, .int .i64 0]
  have BR := x2b.mod x3 (fun h => h)
  have BP3 := x2a.mod x3 (fun h => h)
  have hp0 : w2.cell? ⟨w.heap.size, 0, none⟩ = some (.int .i64 num) := x2a.cell 0
  have hp1 : w2.cell? ⟨w.heap.size, 1, none⟩ = some (.int .i64 10) := x2a.cell 1
  have xx := ext_trans x2 x3
  obtain ⟨w4, hw4⟩ : ∃ x, x = w3.setCell ⟨g, 2, none⟩ (sv dn) := ⟨_, rfl⟩
  have B4 : Blk w4 g 32 #[.int .i64 num, .int .i64 10, sv dn, .string ⟨#[]⟩, .int .i64 0, .int .i64 0, .int .i64 0, .string ⟨#[]⟩, .string ⟨#[]⟩, .slice none 0 0, .slice none 0 0, .slice none 0 0, .slice none 0 0, .slice none 0 0, .string ⟨#[]⟩, .bool false, .bool false, .string ⟨#[]⟩, .string ⟨#[]⟩, .string ⟨#[]⟩, .int .i64 0] := by rw [hw4]; exact B3.set_ 2 _
  have BR4 : Blk w4 q 32 #[.int .i64 0, .int .i64 0, .string ⟨#[]⟩, .string ⟨#[]⟩, .int .i64 0, .int .i64 0, .int .i64 0, .string ⟨#[]⟩, .string ⟨#[]⟩, .slice none 0 0, .slice none 0 0, .slice none 0 0, .slice none 0 0, .slice none 0 0, .string ⟨#[]⟩, .bool false, .bool false, .string ⟨#[]⟩, .string ⟨#[]⟩, .string ⟨#[]⟩, .int .i64 0] := by rw [hw4]; exact BR.far (p := ⟨g, 2, none⟩) hqg _
  have BP4 : Blk w4 w.heap.size 32 #[.int .i64 num, .int .i64 10, sv dn, sv pass, .int .i64 scope, .int .i64 limit, .int .i64 fk, sv ft, sv fv, .slice Y1 Y2 Y3, .slice Z1 Z2 Z3, .slice W1 W2 W3, .slice M1 M2 M3, .slice A1 A2 A3, sv rdn, .bool keep, .bool above, sv up, sv avt, sv avv, .int .i64 which] := by rw [hw4]; exact BP3.far (p := ⟨g, 2, none⟩) hpg _
  have x4 : Ext w w4 := by rw [hw4]; exact xx.setCell (p := ⟨g, 2, none⟩) (fun h => absurd h (Nat.not_lt.2 hwg)) _
  have p31 : w3.cell? ⟨w.heap.size, 1, none⟩ = some (.int .i64 10) := BP3.cell 1
  have p32 : w3.cell? ⟨w.heap.size, 2, none⟩ = some (sv dn) := BP3.cell 2
  have g32 : w3.cell? ⟨g, 2, none⟩ = some (.string ⟨#[]⟩) := B3.cell 2
  have z32 : w3.frozen? ⟨g, 2, none⟩ = false := B3.frozen 2
  have p41 : w4.cell? ⟨w.heap.size, 1, none⟩ = some (.int .i64 10) := BP4.cell 1
  replace hw4 := Lib.hid hw4
  replace hw2 := Lib.hid hw2
  replace hq := Lib.hid hq
  replace hw3 := Lib.hid hw3
  replace hg := Lib.hid hg
  go_enter Tryz.func78, Tryz.ntmps78
  go_upto_region 1 with fail
  rw [← hw2.out, ← hq.out]
  go_upto_region 2 with ((with_reducible show wpList _ _ _ (⟨none, .store 32 _ _, _, _, _, _⟩ :: _) _ _); refine wpList_store_row rfl 32 (.tmp 3) (.tmp 8) rfl w2.heap.size #[.int .i64 num, .int .i64 10, .string ⟨#[]⟩, .string ⟨#[]⟩, .int .i64 0, .int .i64 0, .int .i64 0, .string ⟨#[]⟩, .string ⟨#[]⟩, .slice none 0 0, .slice none 0 0, .slice none 0 0, .slice none 0 0, .slice none 0 0, .string ⟨#[]⟩, .bool false, .bool false, .string ⟨#[]⟩, .string ⟨#[]⟩, .string ⟨#[]⟩, .int .i64 0] rfl rfl _ _ B3a size21 rfl (by simp [Value.oneCell']) ?_)
  rw [← hw3.out, ← hg.out]
  clear hw2 hq hw3 hg hp0 hp1 B3a
  go_upto_region 9 with fail
  rw [← hw4.out]
  clear hw4 p31 p32 g32 z32 BP3 B3 BR
  have B5 : Blk w4 g 32 #[.int .i64 num, .int .i64 10, sv dn, .string ⟨#[]⟩, .int .i64 0, .int .i64 0, .int .i64 0, .string ⟨#[]⟩, .string ⟨#[]⟩, .slice none 0 0, .slice none 0 0, .slice none 0 0, .slice none 0 0, .slice none 0 0, .string ⟨#[]⟩, .bool false, .bool false, .string ⟨#[]⟩, .string ⟨#[]⟩, .string ⟨#[]⟩, .int .i64 0] := B4
  have BR5 : Blk w4 q 32 #[.int .i64 0, .int .i64 0, .string ⟨#[]⟩, .string ⟨#[]⟩, .int .i64 0, .int .i64 0, .int .i64 0, .string ⟨#[]⟩, .string ⟨#[]⟩, .slice none 0 0, .slice none 0 0, .slice none 0 0, .slice none 0 0, .slice none 0 0, .string ⟨#[]⟩, .bool false, .bool false, .string ⟨#[]⟩, .string ⟨#[]⟩, .string ⟨#[]⟩, .int .i64 0] := BR4
  have x5 : Ext w w4 := x4
  go_wp2_with (first
    | ((with_reducible show wpList _ _ _ (⟨some 73, _, _, _, _, _⟩ :: _) _ _); refine wpList_load_row rfl 32 (.tmp 3) rfl g rfl _ _ _ _ B5 Tryz.underlying32 rfl size21 ?_)
    | ((with_reducible show wpList _ _ _ (⟨none, .store 32 _ _, _, _, _, _⟩ :: _) _ _); refine wpList_store_row rfl 32 (.tmp 2) (.tmp 73) rfl q #[.int .i64 num, .int .i64 10, sv dn, .string ⟨#[]⟩, .int .i64 0, .int .i64 0, .int .i64 0, .string ⟨#[]⟩, .string ⟨#[]⟩, .slice none 0 0, .slice none 0 0, .slice none 0 0, .slice none 0 0, .slice none 0 0, .string ⟨#[]⟩, .bool false, .bool false, .string ⟨#[]⟩, .string ⟨#[]⟩, .string ⟨#[]⟩, .int .i64 0] rfl rfl _ _ BR5 size21 rfl (by simp [Value.oneCell']) ?_))
  refine bodyPost_ret (results_cell_row Tryz.results78 _ _ _ _ _ _ _ rfl (Blk.setRow BR5 #[.int .i64 num, .int .i64 10, sv dn, .string ⟨#[]⟩, .int .i64 0, .int .i64 0, .int .i64 0, .string ⟨#[]⟩, .string ⟨#[]⟩, .slice none 0 0, .slice none 0 0, .slice none 0 0, .slice none 0 0, .slice none 0 0, .string ⟨#[]⟩, .bool false, .bool false, .string ⟨#[]⟩, .string ⟨#[]⟩, .string ⟨#[]⟩, .int .i64 0]) Tryz.underlying32 rfl (by exact size21)) rfl ?_
  exact ⟨rfl, Mod.setRow x5 (fun h => by omega) _⟩
set_option maxHeartbeats 16000000 in
theorem bareq14_any {w : World} {num scope limit fk which : Int} {dn pass ft fv rdn up avt avv : List UInt8} {keep above : Bool} {Y1 Z1 W1 M1 A1 : Option Addr} {Y2 Y3 Z2 Z3 W2 W3 M2 M3 A2 A3 : Nat} : Calls Tryz.prog 78 #[.agg #[.int .i64 num, .int .i64 14, sv dn, sv pass, .int .i64 scope, .int .i64 limit, .int .i64 fk, sv ft, sv fv, .slice Y1 Y2 Y3, .slice Z1 Z2 Z3, .slice W1 W2 W3, .slice M1 M2 M3, .slice A1 A2 A3, sv rdn, .bool keep, .bool above, sv up, sv avt, sv avv, .int .i64 which]] w fun e w' => e = .returned (.agg #[.int .i64 num, .int .i64 14, sv dn, .string ⟨#[]⟩, .int .i64 0, .int .i64 0, .int .i64 0, .string ⟨#[]⟩, .string ⟨#[]⟩, .slice none 0 0, .slice none 0 0, .slice none 0 0, .slice none 0 0, .slice none 0 0, .string ⟨#[]⟩, .bool false, .bool false, .string ⟨#[]⟩, sv avt, sv avv, .int .i64 0]) ∧ Ext w w' := by
  obtain ⟨x2a, x2b, x2⟩ := Blk.twoN w #[.int .i64 num, .int .i64 14, sv dn, sv pass, .int .i64 scope, .int .i64 limit, .int .i64 fk, sv ft, sv fv, .slice Y1 Y2 Y3, .slice Z1 Z2 Z3, .slice W1 W2 W3, .slice M1 M2 M3, .slice A1 A2 A3, sv rdn, .bool keep, .bool above, sv up, sv avt, sv avv, .int .i64 which] #[.int .i64 0, .int .i64 0, .string ⟨#[]⟩, .string ⟨#[]⟩, .int .i64 0, .int .i64 0, .int .i64 0, .string ⟨#[]⟩, .string ⟨#[]⟩, .slice none 0 0, .slice none 0 0, .slice none 0 0, .slice none 0 0, .slice none 0 0, .string ⟨#[]⟩, .bool false, .bool false, .string ⟨#[]⟩, .string ⟨#[]⟩, .string ⟨#[]⟩, .int .i64 0] 32 32
  obtain ⟨w2, hw2⟩ : ∃ x, x = (w.alloc (.cells #[.int .i64 num, .int .i64 14, sv dn, sv pass, .int .i64 scope, .int .i64 limit, .int .i64 fk, sv ft, sv fv, .slice Y1 Y2 Y3, .slice Z1 Z2 Z3, .slice W1 W2 W3, .slice M1 M2 M3, .slice A1 A2 A3, sv rdn, .bool keep, .bool above, sv up, sv avt, sv avv, .int .i64 which] 32)).alloc (.cells #[.int .i64 0, .int .i64 0, .string ⟨#[]⟩, .string ⟨#[]⟩, .int .i64 0, .int .i64 0, .int .i64 0, .string ⟨#[]⟩, .string ⟨#[]⟩, .slice none 0 0, .slice none 0 0, .slice none 0 0, .slice none 0 0, .slice none 0 0, .string ⟨#[]⟩, .bool false, .bool false, .string ⟨#[]⟩, .string ⟨#[]⟩, .string ⟨#[]⟩, .int .i64 0] 32) := ⟨_, rfl⟩
  rw [← hw2] at x2a x2b x2
  obtain ⟨q, hq⟩ : ∃ q, q = w.heap.size + 1 := ⟨_, rfl⟩
  have hqw : w.heap.size ≤ q := by omega
  rw [← hq] at x2b
  have B3a : Blk (w2.alloc (.cells #[.int .i64 0, .int .i64 0, .string ⟨#[]⟩, .string ⟨#[]⟩, .int .i64 0, .int .i64 0, .int .i64 0, .string ⟨#[]⟩, .string ⟨#[]⟩, .slice none 0 0, .slice none 0 0, .slice none 0 0, .slice none 0 0, .slice none 0 0, .string ⟨#[]⟩, .bool false, .bool false, .string ⟨#[]⟩, .string ⟨#[]⟩, .string ⟨#[]⟩, .int .i64 0] 32)) w2.heap.size 32 #[.int .i64 0, .int .i64 0, .string ⟨#[]⟩, .string ⟨#[]⟩, .int .i64 0, .int .i64 0, .int .i64 0, .string ⟨#[]⟩, .string ⟨#[]⟩, .slice none 0 0, .slice none 0 0, .slice none 0 0, .slice none 0 0, .slice none 0 0, .string ⟨#[]⟩, .bool false, .bool false, .string ⟨#[]⟩, .string ⟨#[]⟩, .string ⟨#[]⟩, .int .i64 0] := Blk.new w2 _ _
  obtain ⟨w3, hw3⟩ : ∃ x, x = (w2.alloc (.cells #[.int .i64 0, .int .i64 0, .string ⟨#[]⟩, .string ⟨#[]⟩, .int .i64 0, .int .i64 0, .int .i64 0, .string ⟨#[]⟩, .string ⟨#[]⟩, .slice none 0 0, .slice none 0 0, .slice none 0 0, .slice none 0 0, .slice none 0 0, .string ⟨#[]⟩, .bool false, .bool false, .string ⟨#[]⟩, .string ⟨#[]⟩, .string ⟨#[]⟩, .int .i64 0] 32)).setRow w2.heap.size #[.int .i64 num, .int .i64 14, .string ⟨#[]⟩, .string ⟨#[]⟩, .int .i64 0, .int .i64 0, .int .i64 0, .string ⟨#[]⟩, .string ⟨#[]⟩, .slice none 0 0, .slice none 0 0, .slice none 0 0, .slice none 0 0, .slice none 0 0, .string ⟨#[]⟩, .bool false, .bool false, .string ⟨#[]⟩, .string ⟨#[]⟩, .string ⟨#[]⟩, .int .i64 0] := ⟨_, rfl⟩
  obtain ⟨g, hg⟩ : ∃ q, q = w2.heap.size := ⟨_, rfl⟩
  have hpg : w.heap.size ≠ g := by have := x2a.lt; omega
  have hgp : g ≠ w.heap.size := fun h => hpg h.symm
  have hqg : q ≠ g := by have := x2b.lt; omega
  have hwg : w.heap.size ≤ g := by have := x2a.lt; omega
  have x3 : Ext w2 w3 := by rw [hw3]; exact ((Mod.refl _ w2).alloc _).setRow (fun h => by omega) _
  have B3 : Blk w3 g 32 #[.int .i64 num, .int .i64 14, .string ⟨#[]⟩, .string ⟨#[]⟩, .int .i64 0, .int .i64 0, .int .i64 0, .string ⟨#[]⟩, .string ⟨#[]⟩, .slice none 0 0, .slice none 0 0, .slice none 0 0, .slice none 0 0, .slice none 0 0, .string ⟨#[]⟩, .bool false, .bool false, .string ⟨#[]⟩, .string ⟨#[]⟩, .string ⟨#[]⟩, .int .i64 0] := by rw [hw3, hg]; exact B3a.setRow #[.int .i64 num, .int .i64 14, .string ⟨#[]⟩, .string ⟨#[]⟩, .int .i64 0, .int .i64 0, .int .i64 0, .string ⟨#[]⟩, .string ⟨#[]⟩, .slice none 0 0, .slice none 0 0, .slice none 0 0, .slice none 0 0, .slice none 0 0, .string ⟨#[]⟩, .bool false, .bool false, .string ⟨#[]⟩, .string ⟨#[]⟩, .string ⟨#[]⟩, .int .i64 0]
  have BR := x2b.mod x3 (fun h => h)
  have BP3 := x2a.mod x3 (fun h => h)
  have hp0 : w2.cell? ⟨w.heap.size, 0, none⟩ = some (.int .i64 num) := x2a.cell 0
  have hp1 : w2.cell? ⟨w.heap.size, 1, none⟩ = some (.int .i64 14) := x2a.cell 1
  have xx := ext_trans x2 x3
  obtain ⟨w4, hw4⟩ : ∃ x, x = w3.setCell ⟨g, 2, none⟩ (sv dn) := ⟨_, rfl⟩
  have B4 : Blk w4 g 32 #[.int .i64 num, .int .i64 14, sv dn, .string ⟨#[]⟩, .int .i64 0, .int .i64 0, .int .i64 0, .string ⟨#[]⟩, .string ⟨#[]⟩, .slice none 0 0, .slice none 0 0, .slice none 0 0, .slice none 0 0, .slice none 0 0, .string ⟨#[]⟩, .bool false, .bool false, .string ⟨#[]⟩, .string ⟨#[]⟩, .string ⟨#[]⟩, .int .i64 0] := by rw [hw4]; exact B3.set_ 2 _
  have BR4 : Blk w4 q 32 #[.int .i64 0, .int .i64 0, .string ⟨#[]⟩, .string ⟨#[]⟩, .int .i64 0, .int .i64 0, .int .i64 0, .string ⟨#[]⟩, .string ⟨#[]⟩, .slice none 0 0, .slice none 0 0, .slice none 0 0, .slice none 0 0, .slice none 0 0, .string ⟨#[]⟩, .bool false, .bool false, .string ⟨#[]⟩, .string ⟨#[]⟩, .string ⟨#[]⟩, .int .i64 0] := by rw [hw4]; exact BR.far (p := ⟨g, 2, none⟩) hqg _
  have BP4 : Blk w4 w.heap.size 32 #[.int .i64 num, .int .i64 14, sv dn, sv pass, .int .i64 scope, .int .i64 limit, .int .i64 fk, sv ft, sv fv, .slice Y1 Y2 Y3, .slice Z1 Z2 Z3, .slice W1 W2 W3, .slice M1 M2 M3, .slice A1 A2 A3, sv rdn, .bool keep, .bool above, sv up, sv avt, sv avv, .int .i64 which] := by rw [hw4]; exact BP3.far (p := ⟨g, 2, none⟩) hpg _
  have x4 : Ext w w4 := by rw [hw4]; exact xx.setCell (p := ⟨g, 2, none⟩) (fun h => absurd h (Nat.not_lt.2 hwg)) _
  have p31 : w3.cell? ⟨w.heap.size, 1, none⟩ = some (.int .i64 14) := BP3.cell 1
  have p32 : w3.cell? ⟨w.heap.size, 2, none⟩ = some (sv dn) := BP3.cell 2
  have g32 : w3.cell? ⟨g, 2, none⟩ = some (.string ⟨#[]⟩) := B3.cell 2
  have z32 : w3.frozen? ⟨g, 2, none⟩ = false := B3.frozen 2
  have p41 : w4.cell? ⟨w.heap.size, 1, none⟩ = some (.int .i64 14) := BP4.cell 1
  have p418 : w4.cell? ⟨w.heap.size, 18, none⟩ = some (sv avt) := BP4.cell 18
  have g418 : w4.cell? ⟨g, 18, none⟩ = some (.string ⟨#[]⟩) := B4.cell 18
  have z418 : w4.frozen? ⟨g, 18, none⟩ = false := B4.frozen 18
  have p419 : w4.cell? ⟨w.heap.size, 19, none⟩ = some (sv avv) := BP4.cell 19
  have g419 : w4.cell? ⟨g, 19, none⟩ = some (.string ⟨#[]⟩) := B4.cell 19
  have z419 : w4.frozen? ⟨g, 19, none⟩ = false := B4.frozen 19
  replace hw4 := Lib.hid hw4
  replace hw2 := Lib.hid hw2
  replace hq := Lib.hid hq
  replace hw3 := Lib.hid hw3
  replace hg := Lib.hid hg
  go_enter Tryz.func78, Tryz.ntmps78
  go_upto_region 1 with fail
  rw [← hw2.out, ← hq.out]
  go_upto_region 2 with ((with_reducible show wpList _ _ _ (⟨none, .store 32 _ _, _, _, _, _⟩ :: _) _ _); refine wpList_store_row rfl 32 (.tmp 3) (.tmp 8) rfl w2.heap.size #[.int .i64 num, .int .i64 14, .string ⟨#[]⟩, .string ⟨#[]⟩, .int .i64 0, .int .i64 0, .int .i64 0, .string ⟨#[]⟩, .string ⟨#[]⟩, .slice none 0 0, .slice none 0 0, .slice none 0 0, .slice none 0 0, .slice none 0 0, .string ⟨#[]⟩, .bool false, .bool false, .string ⟨#[]⟩, .string ⟨#[]⟩, .string ⟨#[]⟩, .int .i64 0] rfl rfl _ _ B3a size21 rfl (by simp [Value.oneCell']) ?_)
  rw [← hw3.out, ← hg.out]
  clear hw2 hq hw3 hg hp0 hp1 B3a
  go_upto_region 9 with fail
  rw [← hw4.out]
  clear hw4 p31 p32 g32 z32 BP3 B3 BR
  have B5 : Blk ((w4.setCell ⟨g, 18, none⟩ (sv avt)).setCell ⟨g, 19, none⟩ (sv avv)) g 32 #[.int .i64 num, .int .i64 14, sv dn, .string ⟨#[]⟩, .int .i64 0, .int .i64 0, .int .i64 0, .string ⟨#[]⟩, .string ⟨#[]⟩, .slice none 0 0, .slice none 0 0, .slice none 0 0, .slice none 0 0, .slice none 0 0, .string ⟨#[]⟩, .bool false, .bool false, .string ⟨#[]⟩, sv avt, sv avv, .int .i64 0] := ((B4.set_ 18 _).set_ 19 _)
  have BR5 : Blk ((w4.setCell ⟨g, 18, none⟩ (sv avt)).setCell ⟨g, 19, none⟩ (sv avv)) q 32 #[.int .i64 0, .int .i64 0, .string ⟨#[]⟩, .string ⟨#[]⟩, .int .i64 0, .int .i64 0, .int .i64 0, .string ⟨#[]⟩, .string ⟨#[]⟩, .slice none 0 0, .slice none 0 0, .slice none 0 0, .slice none 0 0, .slice none 0 0, .string ⟨#[]⟩, .bool false, .bool false, .string ⟨#[]⟩, .string ⟨#[]⟩, .string ⟨#[]⟩, .int .i64 0] := ((BR4.far (p := ⟨g, 18, none⟩) hqg _).far (p := ⟨g, 19, none⟩) hqg _)
  have x5 : Ext w ((w4.setCell ⟨g, 18, none⟩ (sv avt)).setCell ⟨g, 19, none⟩ (sv avv)) := ((x4.setCell (p := ⟨g, 18, none⟩) (fun h => absurd h (Nat.not_lt.2 hwg)) _).setCell (p := ⟨g, 19, none⟩) (fun h => absurd h (Nat.not_lt.2 hwg)) _)
  go_wp2_with (first
    | ((with_reducible show wpList _ _ _ (⟨some 73, _, _, _, _, _⟩ :: _) _ _); refine wpList_load_row rfl 32 (.tmp 3) rfl g rfl _ _ _ _ B5 Tryz.underlying32 rfl size21 ?_)
    | ((with_reducible show wpList _ _ _ (⟨none, .store 32 _ _, _, _, _, _⟩ :: _) _ _); refine wpList_store_row rfl 32 (.tmp 2) (.tmp 73) rfl q #[.int .i64 num, .int .i64 14, sv dn, .string ⟨#[]⟩, .int .i64 0, .int .i64 0, .int .i64 0, .string ⟨#[]⟩, .string ⟨#[]⟩, .slice none 0 0, .slice none 0 0, .slice none 0 0, .slice none 0 0, .slice none 0 0, .string ⟨#[]⟩, .bool false, .bool false, .string ⟨#[]⟩, sv avt, sv avv, .int .i64 0] rfl rfl _ _ BR5 size21 rfl (by simp [Value.oneCell']) ?_))
  refine bodyPost_ret (results_cell_row Tryz.results78 _ _ _ _ _ _ _ rfl (Blk.setRow BR5 #[.int .i64 num, .int .i64 14, sv dn, .string ⟨#[]⟩, .int .i64 0, .int .i64 0, .int .i64 0, .string ⟨#[]⟩, .string ⟨#[]⟩, .slice none 0 0, .slice none 0 0, .slice none 0 0, .slice none 0 0, .slice none 0 0, .string ⟨#[]⟩, .bool false, .bool false, .string ⟨#[]⟩, sv avt, sv avv, .int .i64 0]) Tryz.underlying32 rfl (by exact size21)) rfl ?_
  exact ⟨rfl, Mod.setRow x5 (fun h => by omega) _⟩
end Go.Proofs.YtoockogceobfgaaGreat
namespace Go.Proofs.YtoockogceobfgaaGreat
open Go.RowKit
set_option maxRecDepth 100000

theorem setCell_swap (w : World) (g i j : Nat) (u v : Value) (h : i ≠ j) : (w.setCell ⟨g, i, none⟩ u).setCell ⟨g, j, none⟩ v = (w.setCell ⟨g, j, none⟩ v).setCell ⟨g, i, none⟩ u := by
  rw [Go.Sort.setCell_eq, Go.Sort.setCell_eq, Go.Sort.mapBlock_mapBlock, Go.Sort.setCell_eq, Go.Sort.setCell_eq, Go.Sort.mapBlock_mapBlock]
  congr 1
  funext c
  exact Array.setIfInBounds_comm _ _ h
/-- These cells of block g are set. -/
def wrs (g : Nat) (l : List (Nat × Value)) (w : World) : World := l.foldl (fun w x => w.setCell ⟨g, x.1, none⟩ x.2) w
theorem wrs_one (g : Nat) : ∀ (l : List (Nat × Value)) (o : Nat) (v : Value) (w : World), o ∉ l.map (·.1) → wrs g l (w.setCell ⟨g, o, none⟩ v) = (wrs g l w).setCell ⟨g, o, none⟩ v
  | [], _, _, _, _ => rfl
  | x :: l, o, v, w, h => by
    have h1 : o ≠ x.1 := fun e => h (by rw [e]; simp)
    have h2 : o ∉ l.map (·.1) := fun e => h (by rw [List.map_cons]; exact List.mem_cons_of_mem _ e)
    show wrs g l ((w.setCell ⟨g, o, none⟩ v).setCell ⟨g, x.1, none⟩ x.2) = (wrs g l (w.setCell ⟨g, x.1, none⟩ x.2)).setCell ⟨g, o, none⟩ v
    rw [setCell_swap w g o x.1 v x.2 h1, wrs_one g l o v _ h2]
theorem wrs_comm (g : Nat) : ∀ (l m : List (Nat × Value)) (w : World), (∀ o ∈ l.map (·.1), o ∉ m.map (·.1)) → wrs g m (wrs g l w) = wrs g l (wrs g m w)
  | [], _, _, _ => rfl
  | x :: l, m, w, h => by
    show wrs g m (wrs g l (w.setCell ⟨g, x.1, none⟩ x.2)) = wrs g l ((wrs g m w).setCell ⟨g, x.1, none⟩ x.2)
    rw [wrs_comm g l m _ (fun o ho => h o (by rw [List.map_cons]; exact List.mem_cons_of_mem _ ho)), wrs_one g m x.1 x.2 w (h x.1 (by simp))]
theorem Blk.wrs {g : Nat} {t : TypeId} : ∀ (l : List (Nat × Value)) (w : World) (c : Array Value), Blk w g t c → ∃ c', Blk (wrs g l w) g t c' ∧ c'.size = c.size
  | [], _, c, h => ⟨c, h, rfl⟩
  | x :: l, w, c, h => by
    obtain ⟨c', h1, h2⟩ := Blk.wrs l _ _ (h.set_ x.1 x.2)
    exact ⟨c', h1, by rw [h2]; simp⟩
theorem keep_wrs {g : Nat} {S : World → Prop} (hS : ∀ w o v, S w → S (w.setCell ⟨g, o, none⟩ v)) : ∀ (l : List (Nat × Value)) (w : World), S w → S (wrs g l w)
  | [], _, h => h
  | x :: l, _, h => keep_wrs hS l _ (hS _ x.1 x.2 h)
theorem stores_fold (f : Nat → World → World) : ∀ (L : List Nat) (i : Nat) (w : World), (∀ j ∈ L, ∀ w, f i (f j w) = f j (f i w)) → L.foldr f (f i w) = f i (L.foldr f w)
  | [], _, _, _ => rfl
  | j :: L, i, w, h => by
    rw [List.foldr_cons, List.foldr_cons, stores_fold f L i w (fun k hk => h k (List.mem_cons_of_mem _ hk)), h j List.mem_cons_self]
theorem stores_erase (f : Nat → World → World) : ∀ (L : List Nat) (i : Nat) (w : World), i ∈ L → (∀ j ∈ L, ∀ k ∈ L, ∀ w, f j (f k w) = f k (f j w)) → (L.erase i).foldr f (f i w) = L.foldr f w
  | j :: L, i, w, hi, h => by
    by_cases e : j = i
    · subst e
      rw [List.erase_cons_head, stores_fold f L j w (fun k hk => h j List.mem_cons_self k (List.mem_cons_of_mem _ hk))]
      rfl
    · have hi2 : i ∈ L := (List.mem_cons.1 hi).resolve_left (fun g => e g.symm)
      rw [List.erase_cons_tail (by simpa using e), List.foldr_cons, List.foldr_cons, stores_erase f L i w hi2 (fun a ha b hb => h a (List.mem_cons_of_mem _ ha) b (List.mem_cons_of_mem _ hb))]
theorem wpAnyH_stores_n {P : Program} {md : Region.Mode} {ops : Array Oper} {Q : Exit → Act → World → Prop} {S : World → Prop} {a : Act} (f : Nat → World → World) (Inv : World → Prop) (rem0 : List Nat)
    (hIS : ∀ w, Inv w → S w) (hIf : ∀ i w, Inv w → Inv (f i w)) (hc : ∀ i ∈ rem0, ∀ j ∈ rem0, ∀ w, f i (f j w) = f j (f i w))
    (hop : ∀ i ∈ rem0, ∀ w, Inv w → ∀ K : Act → World → Prop, K a (f i w) → wpOp P ops Q i K a w) :
    ∀ (n : Nat) (rem : List Nat) (listed : Array Bool) (w : World), rem.length = n → rem.Nodup → (∀ i ∈ rem, i ∈ rem0) → (∀ i ∈ rem, i ∈ Region.ready md ops listed) → (∀ j, listed.getD j true = false → j ∈ rem) → Inv w → Q .normal a (rem.foldr f w) →
      ∀ fuel, n ≤ fuel → wpAnyH P md ops Q S fuel listed a w := by
  intro n
  induction n with
  | zero =>
    intro rem listed w hn _ _ _ hl _ hq fuel _
    have : rem = [] := List.length_eq_zero_iff.1 hn
    subst this
    refine wpAnyH_done ?_ hq fuel
    cases hr : Region.ready md ops listed with
    | nil => rfl
    | cons j l =>
      have hj : j ∈ Region.ready md ops listed := by rw [hr]; exact List.mem_cons_self
      have := hl j (mem_ready.1 hj).1
      cases this
  | succ n ih =>
    intro rem listed w hn hd h0 hr hl hI hq fuel hf
    obtain ⟨k, rfl⟩ : ∃ k, fuel = k + 1 := ⟨fuel - 1, by omega⟩
    refine ⟨fun h => ?_, fun i hi => ?_⟩
    · cases rem with
      | nil => simp at hn
      | cons j l =>
        have := hr j List.mem_cons_self
        rw [h] at this
        cases this
    · have hm : i ∈ rem := hl i (mem_ready.1 hi).1
      have hlt : i < listed.size := by
        have h1 := (mem_ready.1 hi).1
        rcases Nat.lt_or_ge i listed.size with h' | h'
        · exact h'
        · simp [Array.getElem?_eq_none h'] at h1
      refine hop i (h0 i hm) w hI _ ⟨hIS _ (hIf i w hI), ih (rem.erase i) (listed.setIfInBounds i true) (f i w) (by rw [List.length_erase_of_mem hm, hn]; rfl) (hd.erase i) (fun j hj => h0 j (List.mem_of_mem_erase hj)) (fun j hj => ?_) (fun j hj => ?_) (hIf i w hI) ?_ k (by omega)⟩
      · obtain ⟨h1, h2⟩ := (hd.mem_erase_iff).1 hj
        exact ready_mono (hr j h2) h1
      · by_cases e : i = j
        · subst e
          simp [hlt] at hj
        · rw [getD_set_ne true e] at hj
          exact (hd.mem_erase_iff).2 ⟨fun g => e g.symm, hl j hj⟩
      · rw [stores_erase f rem i w hm (fun a ha b hb w => hc a (h0 a ha) b (h0 b hb) w)]
        exact hq
theorem wpAnyH_stores {P : Program} {md : Region.Mode} {ops : Array Oper} {Q : Exit → Act → World → Prop} {S : World → Prop} {a : Act} {w : World} {listed : Array Bool} {fuel : Nat} (g : Nat) (t : TypeId) (m : Nat) (tab : Nat → List (Nat × Value)) (rem : List Nat)
    (hk : ∀ w o v, S w → S (w.setCell ⟨g, o, none⟩ v)) (hB : ∃ c, Blk w g t c ∧ c.size = m) (hS : S w)
    (hd : rem.Nodup) (hr : rem.all (fun i => (Region.ready md ops listed).contains i) = true) (hl : (List.range listed.size).all (fun j => listed.getD j true || rem.contains j) = true) (hf : Nat.ble rem.length fuel = true)
    (hc : rem.all (fun i => rem.all fun j => i == j || ((tab i).map (·.1)).all fun o => !((tab j).map (·.1)).contains o) = true)
    (hop : ∀ i ∈ rem, ∀ w, S w → ∀ c, Blk w g t c → c.size = m → ∀ K : Act → World → Prop, Shut (K a (wrs g (tab i) w)) → wpOp P ops Q i K a w)
    (hq : ∀ w', w' = rem.foldr (fun i w => wrs g (tab i) w) w → Q .normal a w') : wpAnyH P md ops Q S fuel listed a w := by
  refine wpAnyH_stores_n (fun i w => wrs g (tab i) w) (fun w => (∃ c, Blk w g t c ∧ c.size = m) ∧ S w) rem (fun _ h => h.2) (fun i w h => ?_) (fun i hi j hj w => ?_) (fun i hi w h K hK => ?_) rem.length rem listed w rfl hd (fun i h => h) (fun i hi => ?_) (fun j hj => ?_) ⟨hB, hS⟩ (hq _ rfl) fuel (Nat.le_of_ble_eq_true hf)
  · obtain ⟨⟨c, h1, h2⟩, h3⟩ := h
    obtain ⟨c', h4, h5⟩ := Blk.wrs (tab i) w c h1
    exact ⟨⟨c', h4, by rw [h5, h2]⟩, keep_wrs hk _ _ h3⟩
  · have h1 := List.all_eq_true.1 (List.all_eq_true.1 hc i hi) j hj
    rw [Bool.or_eq_true, beq_iff_eq] at h1
    rcases h1 with h1 | h1
    · rw [h1]
    · refine (wrs_comm g (tab i) (tab j) w (fun o ho => ?_)).symm
      have := List.all_eq_true.1 h1 o ho
      simpa using this
  · obtain ⟨⟨c, h1, h2⟩, h3⟩ := h
    exact hop i hi w h3 c h1 h2 K hK
  · have := List.all_eq_true.1 hr i hi
    simpa using this
  · rcases Nat.lt_or_ge j listed.size with h' | h'
    · have := List.all_eq_true.1 hl j (List.mem_range.2 h')
      rw [hj] at this
      simpa using this
    · simp [Array.getElem?_eq_none h'] at hj
end Go.Proofs.YtoockogceobfgaaGreat
