/- msg: bare of a search. -/
import Derived.Test.YtoockogceobfgaaGreatMfCm
import Derived.Test.YtoockogceobfgaaGreatMgStm
import Derived.Deep.RegionHeld3
import Derived.Test.YtoockogceobfgaaGreatFlB
namespace Go.Proofs.YtoockogceobfgaaGreat
open Go.RowKit
set_option maxRecDepth 100000

set_option maxHeartbeats 16000000 in
theorem bareq3_any {w : World} {num scope limit fk which : Int} {dn pass ft fv rdn up avt avv : List UInt8} {keep above : Bool} {Y1 Z1 W1 M1 A1 : Option Addr} {Y2 Y3 Z2 Z3 W2 W3 M2 M3 A2 A3 : Nat} : Calls Tryz.prog 78 #[.agg #[.int .i64 num, .int .i64 3, sv dn, sv pass, .int .i64 scope, .int .i64 limit, .int .i64 fk, sv ft, sv fv, .slice Y1 Y2 Y3, .slice Z1 Z2 Z3, .slice W1 W2 W3, .slice M1 M2 M3, .slice A1 A2 A3, sv rdn, .bool keep, .bool above, sv up, sv avt, sv avv, .int .i64 which]] w fun e w' => e = .returned (.agg #[.int .i64 num, .int .i64 3, sv dn, .string ⟨#[]⟩, .int .i64 scope, .int .i64 limit, .int .i64 fk, sv ft, sv fv, .slice Y1 Y2 Y3, .slice Z1 Z2 Z3, .slice W1 W2 W3, .slice none 0 0, .slice none 0 0, .string ⟨#[]⟩, .bool false, .bool false, .string ⟨#[]⟩, .string ⟨#[]⟩, .string ⟨#[]⟩, .int .i64 0]) ∧ Ext w w' := by
  obtain ⟨x2a, x2b, x2⟩ := Blk.twoN w #[.int .i64 num, .int .i64 3, sv dn, sv pass, .int .i64 scope, .int .i64 limit, .int .i64 fk, sv ft, sv fv, .slice Y1 Y2 Y3, .slice Z1 Z2 Z3, .slice W1 W2 W3, .slice M1 M2 M3, .slice A1 A2 A3, sv rdn, .bool keep, .bool above, sv up, sv avt, sv avv, .int .i64 which] #[.int .i64 0, .int .i64 0, .string ⟨#[]⟩, .string ⟨#[]⟩, .int .i64 0, .int .i64 0, .int .i64 0, .string ⟨#[]⟩, .string ⟨#[]⟩, .slice none 0 0, .slice none 0 0, .slice none 0 0, .slice none 0 0, .slice none 0 0, .string ⟨#[]⟩, .bool false, .bool false, .string ⟨#[]⟩, .string ⟨#[]⟩, .string ⟨#[]⟩, .int .i64 0] 32 32
  obtain ⟨w2, hw2⟩ : ∃ x, x = (w.alloc (.cells #[.int .i64 num, .int .i64 3, sv dn, sv pass, .int .i64 scope, .int .i64 limit, .int .i64 fk, sv ft, sv fv, .slice Y1 Y2 Y3, .slice Z1 Z2 Z3, .slice W1 W2 W3, .slice M1 M2 M3, .slice A1 A2 A3, sv rdn, .bool keep, .bool above, sv up, sv avt, sv avv, .int .i64 which] 32)).alloc (.cells #[.int .i64 0, .int .i64 0, .string ⟨#[]⟩, .string ⟨#[]⟩, .int .i64 0, .int .i64 0, .int .i64 0, .string ⟨#[]⟩, .string ⟨#[]⟩, .slice none 0 0, .slice none 0 0, .slice none 0 0, .slice none 0 0, .slice none 0 0, .string ⟨#[]⟩, .bool false, .bool false, .string ⟨#[]⟩, .string ⟨#[]⟩, .string ⟨#[]⟩, .int .i64 0] 32) := ⟨_, rfl⟩
  rw [← hw2] at x2a x2b x2
  obtain ⟨q, hq⟩ : ∃ q, q = w.heap.size + 1 := ⟨_, rfl⟩
  have hqw : w.heap.size ≤ q := by omega
  rw [← hq] at x2b
  have B3a : Blk (w2.alloc (.cells #[.int .i64 0, .int .i64 0, .string ⟨#[]⟩, .string ⟨#[]⟩, .int .i64 0, .int .i64 0, .int .i64 0, .string ⟨#[]⟩, .string ⟨#[]⟩, .slice none 0 0, .slice none 0 0, .slice none 0 0, .slice none 0 0, .slice none 0 0, .string ⟨#[]⟩, .bool false, .bool false, .string ⟨#[]⟩, .string ⟨#[]⟩, .string ⟨#[]⟩, .int .i64 0] 32)) w2.heap.size 32 #[.int .i64 0, .int .i64 0, .string ⟨#[]⟩, .string ⟨#[]⟩, .int .i64 0, .int .i64 0, .int .i64 0, .string ⟨#[]⟩, .string ⟨#[]⟩, .slice none 0 0, .slice none 0 0, .slice none 0 0, .slice none 0 0, .slice none 0 0, .string ⟨#[]⟩, .bool false, .bool false, .string ⟨#[]⟩, .string ⟨#[]⟩, .string ⟨#[]⟩, .int .i64 0] := Blk.new w2 _ _
  obtain ⟨w3, hw3⟩ : ∃ x, x = (w2.alloc (.cells #[.int .i64 0, .int .i64 0, .string ⟨#[]⟩, .string ⟨#[]⟩, .int .i64 0, .int .i64 0, .int .i64 0, .string ⟨#[]⟩, .string ⟨#[]⟩, .slice none 0 0, .slice none 0 0, .slice none 0 0, .slice none 0 0, .slice none 0 0, .string ⟨#[]⟩, .bool false, .bool false, .string ⟨#[]⟩, .string ⟨#[]⟩, .string ⟨#[]⟩, .int .i64 0] 32)).setRow w2.heap.size #[.int .i64 num, .int .i64 3, .string ⟨#[]⟩, .string ⟨#[]⟩, .int .i64 0, .int .i64 0, .int .i64 0, .string ⟨#[]⟩, .string ⟨#[]⟩, .slice none 0 0, .slice none 0 0, .slice none 0 0, .slice none 0 0, .slice none 0 0, .string ⟨#[]⟩, .bool false, .bool false, .string ⟨#[]⟩, .string ⟨#[]⟩, .string ⟨#[]⟩, .int .i64 0] := ⟨_, rfl⟩
  obtain ⟨g, hg⟩ : ∃ q, q = w2.heap.size := ⟨_, rfl⟩
  have hpg : w.heap.size ≠ g := by have := x2a.lt; omega
  have hgp : g ≠ w.heap.size := fun h => hpg h.symm
  have hqg : q ≠ g := by have := x2b.lt; omega
  have hwg : w.heap.size ≤ g := by have := x2a.lt; omega
  have x3 : Ext w2 w3 := by rw [hw3]; exact ((Mod.refl _ w2).alloc _).setRow (fun h => by omega) _
  have B3 : Blk w3 g 32 #[.int .i64 num, .int .i64 3, .string ⟨#[]⟩, .string ⟨#[]⟩, .int .i64 0, .int .i64 0, .int .i64 0, .string ⟨#[]⟩, .string ⟨#[]⟩, .slice none 0 0, .slice none 0 0, .slice none 0 0, .slice none 0 0, .slice none 0 0, .string ⟨#[]⟩, .bool false, .bool false, .string ⟨#[]⟩, .string ⟨#[]⟩, .string ⟨#[]⟩, .int .i64 0] := by rw [hw3, hg]; exact B3a.setRow #[.int .i64 num, .int .i64 3, .string ⟨#[]⟩, .string ⟨#[]⟩, .int .i64 0, .int .i64 0, .int .i64 0, .string ⟨#[]⟩, .string ⟨#[]⟩, .slice none 0 0, .slice none 0 0, .slice none 0 0, .slice none 0 0, .slice none 0 0, .string ⟨#[]⟩, .bool false, .bool false, .string ⟨#[]⟩, .string ⟨#[]⟩, .string ⟨#[]⟩, .int .i64 0]
  have BR := x2b.mod x3 (fun h => h)
  have BP3 := x2a.mod x3 (fun h => h)
  have hp0 : w2.cell? ⟨w.heap.size, 0, none⟩ = some (.int .i64 num) := x2a.cell 0
  have hp1 : w2.cell? ⟨w.heap.size, 1, none⟩ = some (.int .i64 3) := x2a.cell 1
  have xx := ext_trans x2 x3
  obtain ⟨w4, hw4⟩ : ∃ x, x = w3.setCell ⟨g, 2, none⟩ (sv dn) := ⟨_, rfl⟩
  have B4 : Blk w4 g 32 #[.int .i64 num, .int .i64 3, sv dn, .string ⟨#[]⟩, .int .i64 0, .int .i64 0, .int .i64 0, .string ⟨#[]⟩, .string ⟨#[]⟩, .slice none 0 0, .slice none 0 0, .slice none 0 0, .slice none 0 0, .slice none 0 0, .string ⟨#[]⟩, .bool false, .bool false, .string ⟨#[]⟩, .string ⟨#[]⟩, .string ⟨#[]⟩, .int .i64 0] := by rw [hw4]; exact B3.set_ 2 _
  have BR4 : Blk w4 q 32 #[.int .i64 0, .int .i64 0, .string ⟨#[]⟩, .string ⟨#[]⟩, .int .i64 0, .int .i64 0, .int .i64 0, .string ⟨#[]⟩, .string ⟨#[]⟩, .slice none 0 0, .slice none 0 0, .slice none 0 0, .slice none 0 0, .slice none 0 0, .string ⟨#[]⟩, .bool false, .bool false, .string ⟨#[]⟩, .string ⟨#[]⟩, .string ⟨#[]⟩, .int .i64 0] := by rw [hw4]; exact BR.far (p := ⟨g, 2, none⟩) hqg _
  have BP4 : Blk w4 w.heap.size 32 #[.int .i64 num, .int .i64 3, sv dn, sv pass, .int .i64 scope, .int .i64 limit, .int .i64 fk, sv ft, sv fv, .slice Y1 Y2 Y3, .slice Z1 Z2 Z3, .slice W1 W2 W3, .slice M1 M2 M3, .slice A1 A2 A3, sv rdn, .bool keep, .bool above, sv up, sv avt, sv avv, .int .i64 which] := by rw [hw4]; exact BP3.far (p := ⟨g, 2, none⟩) hpg _
  have x4 : Ext w w4 := by rw [hw4]; exact xx.setCell (p := ⟨g, 2, none⟩) (fun h => absurd h (Nat.not_lt.2 hwg)) _
  have p31 : w3.cell? ⟨w.heap.size, 1, none⟩ = some (.int .i64 3) := BP3.cell 1
  have p32 : w3.cell? ⟨w.heap.size, 2, none⟩ = some (sv dn) := BP3.cell 2
  have g32 : w3.cell? ⟨g, 2, none⟩ = some (.string ⟨#[]⟩) := B3.cell 2
  have z32 : w3.frozen? ⟨g, 2, none⟩ = false := B3.frozen 2
  have p41 : w4.cell? ⟨w.heap.size, 1, none⟩ = some (.int .i64 3) := BP4.cell 1
  have p44 : w4.cell? ⟨w.heap.size, 4, none⟩ = some (.int .i64 scope) := BP4.cell 4
  have g44 : w4.cell? ⟨g, 4, none⟩ = some (.int .i64 0) := B4.cell 4
  have z44 : w4.frozen? ⟨g, 4, none⟩ = false := B4.frozen 4
  have p45 : w4.cell? ⟨w.heap.size, 5, none⟩ = some (.int .i64 limit) := BP4.cell 5
  have g45 : w4.cell? ⟨g, 5, none⟩ = some (.int .i64 0) := B4.cell 5
  have z45 : w4.frozen? ⟨g, 5, none⟩ = false := B4.frozen 5
  have p46 : w4.cell? ⟨w.heap.size, 6, none⟩ = some (.int .i64 fk) := BP4.cell 6
  have g46 : w4.cell? ⟨g, 6, none⟩ = some (.int .i64 0) := B4.cell 6
  have z46 : w4.frozen? ⟨g, 6, none⟩ = false := B4.frozen 6
  have p47 : w4.cell? ⟨w.heap.size, 7, none⟩ = some (sv ft) := BP4.cell 7
  have g47 : w4.cell? ⟨g, 7, none⟩ = some (.string ⟨#[]⟩) := B4.cell 7
  have z47 : w4.frozen? ⟨g, 7, none⟩ = false := B4.frozen 7
  have p48 : w4.cell? ⟨w.heap.size, 8, none⟩ = some (sv fv) := BP4.cell 8
  have g48 : w4.cell? ⟨g, 8, none⟩ = some (.string ⟨#[]⟩) := B4.cell 8
  have z48 : w4.frozen? ⟨g, 8, none⟩ = false := B4.frozen 8
  have p49 : w4.cell? ⟨w.heap.size, 9, none⟩ = some (.slice Y1 Y2 Y3) := BP4.cell 9
  have g49 : w4.cell? ⟨g, 9, none⟩ = some (.slice none 0 0) := B4.cell 9
  have z49 : w4.frozen? ⟨g, 9, none⟩ = false := B4.frozen 9
  have p410 : w4.cell? ⟨w.heap.size, 10, none⟩ = some (.slice Z1 Z2 Z3) := BP4.cell 10
  have g410 : w4.cell? ⟨g, 10, none⟩ = some (.slice none 0 0) := B4.cell 10
  have z410 : w4.frozen? ⟨g, 10, none⟩ = false := B4.frozen 10
  have p411 : w4.cell? ⟨w.heap.size, 11, none⟩ = some (.slice W1 W2 W3) := BP4.cell 11
  have g411 : w4.cell? ⟨g, 11, none⟩ = some (.slice none 0 0) := B4.cell 11
  have z411 : w4.frozen? ⟨g, 11, none⟩ = false := B4.frozen 11
  replace hw4 := Lib.hid hw4
  replace hw2 := Lib.hid hw2
  replace hq := Lib.hid hq
  replace hw3 := Lib.hid hw3
  replace hg := Lib.hid hg
  go_enter Tryz.func78, Tryz.ntmps78
  go_upto_region 1 with fail
  rw [← hw2.out, ← hq.out]
  go_upto_region 2 with ((with_reducible show wpList _ _ _ (⟨none, .store 32 _ _, _, _, _, _⟩ :: _) _ _); refine wpList_store_row rfl 32 (.tmp 3) (.tmp 8) rfl w2.heap.size #[.int .i64 num, .int .i64 3, .string ⟨#[]⟩, .string ⟨#[]⟩, .int .i64 0, .int .i64 0, .int .i64 0, .string ⟨#[]⟩, .string ⟨#[]⟩, .slice none 0 0, .slice none 0 0, .slice none 0 0, .slice none 0 0, .slice none 0 0, .string ⟨#[]⟩, .bool false, .bool false, .string ⟨#[]⟩, .string ⟨#[]⟩, .string ⟨#[]⟩, .int .i64 0] rfl rfl _ _ B3a size21 rfl (by simp [Value.oneCell']) ?_)
  rw [← hw3.out, ← hg.out]
  clear hw2 hq hw3 hg hp0 hp1 B3a
  go_upto_region 9 with fail
  rw [← hw4.out]
  clear hw4 p31 p32 g32 z32 BP3 B3 BR
  go_upto_region 13 with fail
  have hS4 : w4.cell? ⟨w.heap.size, 4, none⟩ = some (.int .i64 scope) ∧ w4.cell? ⟨w.heap.size, 5, none⟩ = some (.int .i64 limit) ∧ w4.cell? ⟨w.heap.size, 6, none⟩ = some (.int .i64 fk) ∧ w4.cell? ⟨w.heap.size, 7, none⟩ = some (sv ft) ∧ w4.cell? ⟨w.heap.size, 8, none⟩ = some (sv fv) ∧ w4.cell? ⟨w.heap.size, 9, none⟩ = some (.slice Y1 Y2 Y3) ∧ w4.cell? ⟨w.heap.size, 10, none⟩ = some (.slice Z1 Z2 Z3) ∧ w4.cell? ⟨w.heap.size, 11, none⟩ = some (.slice W1 W2 W3) := ⟨p44, p45, p46, p47, p48, p49, p410, p411⟩
  have hk : ∀ (wx : World) (o : Nat) (v : Value), (wx.cell? ⟨w.heap.size, 4, none⟩ = some (.int .i64 scope) ∧ wx.cell? ⟨w.heap.size, 5, none⟩ = some (.int .i64 limit) ∧ wx.cell? ⟨w.heap.size, 6, none⟩ = some (.int .i64 fk) ∧ wx.cell? ⟨w.heap.size, 7, none⟩ = some (sv ft) ∧ wx.cell? ⟨w.heap.size, 8, none⟩ = some (sv fv) ∧ wx.cell? ⟨w.heap.size, 9, none⟩ = some (.slice Y1 Y2 Y3) ∧ wx.cell? ⟨w.heap.size, 10, none⟩ = some (.slice Z1 Z2 Z3) ∧ wx.cell? ⟨w.heap.size, 11, none⟩ = some (.slice W1 W2 W3)) → ((wx.setCell ⟨g, o, none⟩ v).cell? ⟨w.heap.size, 4, none⟩ = some (.int .i64 scope) ∧ (wx.setCell ⟨g, o, none⟩ v).cell? ⟨w.heap.size, 5, none⟩ = some (.int .i64 limit) ∧ (wx.setCell ⟨g, o, none⟩ v).cell? ⟨w.heap.size, 6, none⟩ = some (.int .i64 fk) ∧ (wx.setCell ⟨g, o, none⟩ v).cell? ⟨w.heap.size, 7, none⟩ = some (sv ft) ∧ (wx.setCell ⟨g, o, none⟩ v).cell? ⟨w.heap.size, 8, none⟩ = some (sv fv) ∧ (wx.setCell ⟨g, o, none⟩ v).cell? ⟨w.heap.size, 9, none⟩ = some (.slice Y1 Y2 Y3) ∧ (wx.setCell ⟨g, o, none⟩ v).cell? ⟨w.heap.size, 10, none⟩ = some (.slice Z1 Z2 Z3) ∧ (wx.setCell ⟨g, o, none⟩ v).cell? ⟨w.heap.size, 11, none⟩ = some (.slice W1 W2 W3)) := fun wx o v h => by
    have e : ∀ i, (wx.setCell ⟨g, o, none⟩ v).cell? ⟨w.heap.size, i, none⟩ = wx.cell? ⟨w.heap.size, i, none⟩ := fun i => World.cell?_setCell_far wx _ _ v hgp
    simp only [e]
    exact h
  have hd : ∀ wx : World, (wx.cell? ⟨w.heap.size, 4, none⟩ = some (.int .i64 scope) ∧ wx.cell? ⟨w.heap.size, 5, none⟩ = some (.int .i64 limit) ∧ wx.cell? ⟨w.heap.size, 6, none⟩ = some (.int .i64 fk) ∧ wx.cell? ⟨w.heap.size, 7, none⟩ = some (sv ft) ∧ wx.cell? ⟨w.heap.size, 8, none⟩ = some (sv fv) ∧ wx.cell? ⟨w.heap.size, 9, none⟩ = some (.slice Y1 Y2 Y3) ∧ wx.cell? ⟨w.heap.size, 10, none⟩ = some (.slice Z1 Z2 Z3) ∧ wx.cell? ⟨w.heap.size, 11, none⟩ = some (.slice W1 W2 W3)) → (wx.drew.cell? ⟨w.heap.size, 4, none⟩ = some (.int .i64 scope) ∧ wx.drew.cell? ⟨w.heap.size, 5, none⟩ = some (.int .i64 limit) ∧ wx.drew.cell? ⟨w.heap.size, 6, none⟩ = some (.int .i64 fk) ∧ wx.drew.cell? ⟨w.heap.size, 7, none⟩ = some (sv ft) ∧ wx.drew.cell? ⟨w.heap.size, 8, none⟩ = some (sv fv) ∧ wx.drew.cell? ⟨w.heap.size, 9, none⟩ = some (.slice Y1 Y2 Y3) ∧ wx.drew.cell? ⟨w.heap.size, 10, none⟩ = some (.slice Z1 Z2 Z3) ∧ wx.drew.cell? ⟨w.heap.size, 11, none⟩ = some (.slice W1 W2 W3)) := fun wx h => h
  have hdB : ∀ (wx : World) (g : Nat) (t : TypeId) (cs : Array Value), Blk wx g t cs → Blk wx.drew g t cs := fun wx g t cs h => h
  refine wp_region_held_drew (S := fun wx => wx.cell? ⟨w.heap.size, 4, none⟩ = some (.int .i64 scope) ∧ wx.cell? ⟨w.heap.size, 5, none⟩ = some (.int .i64 limit) ∧ wx.cell? ⟨w.heap.size, 6, none⟩ = some (.int .i64 fk) ∧ wx.cell? ⟨w.heap.size, 7, none⟩ = some (sv ft) ∧ wx.cell? ⟨w.heap.size, 8, none⟩ = some (sv fv) ∧ wx.cell? ⟨w.heap.size, 9, none⟩ = some (.slice Y1 Y2 Y3) ∧ wx.cell? ⟨w.heap.size, 10, none⟩ = some (.slice Z1 Z2 Z3) ∧ wx.cell? ⟨w.heap.size, 11, none⟩ = some (.slice W1 W2 W3)) (by kernel_rfl) (hd _ hS4) (fun hH => ?_)
  (refine wpAnyH_take (i := 0) (oi := ⟨_, _, _, _, _, _⟩) (v := ?_) rfl (by kernel_rfl) (by kernel_rfl) (by kernel_rfl) (fun _ _ _ h => h) (Or.inl ⟨by kernel_rfl, ?_⟩) hH ?_; rotate_left; focus (intro wx hSw; (try dsimp only at hSw); go_simp; try with_reducible rfl)); try simp only [Act.put, List.setIfInBounds_toArray, List.set_cons_zero, List.set_cons_succ]; try simp only [List.getElem_toArray, List.getElem_cons_succ, List.getElem_cons_zero]
  (refine wpAnyH_take (i := 1) (oi := ⟨_, _, _, _, _, _⟩) (v := ?_) rfl (by kernel_rfl) (by kernel_rfl) (by kernel_rfl) (fun _ _ _ h => h) (Or.inl ⟨by kernel_rfl, ?_⟩) hH ?_; rotate_left; focus (intro wx hSw; (try dsimp only at hSw); go_simp; try with_reducible rfl)); try simp only [Act.put, List.setIfInBounds_toArray, List.set_cons_zero, List.set_cons_succ]; try simp only [List.getElem_toArray, List.getElem_cons_succ, List.getElem_cons_zero]
  (refine wpAnyH_take (i := 2) (oi := ⟨_, _, _, _, _, _⟩) (v := ?_) rfl (by kernel_rfl) (by kernel_rfl) (by kernel_rfl) (fun _ _ _ h => h) (Or.inl ⟨by kernel_rfl, ?_⟩) hH ?_; rotate_left; focus (intro wx hSw; (try dsimp only at hSw); go_simp; try with_reducible rfl)); try simp only [Act.put, List.setIfInBounds_toArray, List.set_cons_zero, List.set_cons_succ]; try simp only [List.getElem_toArray, List.getElem_cons_succ, List.getElem_cons_zero]
  (refine wpAnyH_take (i := 3) (oi := ⟨_, _, _, _, _, _⟩) (v := ?_) rfl (by kernel_rfl) (by kernel_rfl) (by kernel_rfl) (fun _ _ _ h => h) (Or.inl ⟨by kernel_rfl, ?_⟩) hH ?_; rotate_left; focus (intro wx hSw; (try dsimp only at hSw); go_simp; try with_reducible rfl)); try simp only [Act.put, List.setIfInBounds_toArray, List.set_cons_zero, List.set_cons_succ]; try simp only [List.getElem_toArray, List.getElem_cons_succ, List.getElem_cons_zero]
  (refine wpAnyH_take (i := 4) (oi := ⟨_, _, _, _, _, _⟩) (v := ?_) rfl (by kernel_rfl) (by kernel_rfl) (by kernel_rfl) (fun _ _ _ h => h) (Or.inl ⟨by kernel_rfl, ?_⟩) hH ?_; rotate_left; focus (intro wx hSw; (try dsimp only at hSw); go_simp; try with_reducible rfl)); try simp only [Act.put, List.setIfInBounds_toArray, List.set_cons_zero, List.set_cons_succ]; try simp only [List.getElem_toArray, List.getElem_cons_succ, List.getElem_cons_zero]
  (refine wpAnyH_take (i := 5) (oi := ⟨_, _, _, _, _, _⟩) (v := ?_) rfl (by kernel_rfl) (by kernel_rfl) (by kernel_rfl) (fun _ _ _ h => h) (Or.inl ⟨by kernel_rfl, ?_⟩) hH ?_; rotate_left; focus (intro wx hSw; (try dsimp only at hSw); go_simp; try with_reducible rfl)); try simp only [Act.put, List.setIfInBounds_toArray, List.set_cons_zero, List.set_cons_succ]; try simp only [List.getElem_toArray, List.getElem_cons_succ, List.getElem_cons_zero]
  (refine wpAnyH_take (i := 6) (oi := ⟨_, _, _, _, _, _⟩) (v := ?_) rfl (by kernel_rfl) (by kernel_rfl) (by kernel_rfl) (fun _ _ _ h => h) (Or.inl ⟨by kernel_rfl, ?_⟩) hH ?_; rotate_left; focus (intro wx hSw; (try dsimp only at hSw); go_simp; try with_reducible rfl)); try simp only [Act.put, List.setIfInBounds_toArray, List.set_cons_zero, List.set_cons_succ]; try simp only [List.getElem_toArray, List.getElem_cons_succ, List.getElem_cons_zero]
  (refine wpAnyH_take (i := 7) (oi := ⟨_, _, _, _, _, _⟩) (v := ?_) rfl (by kernel_rfl) (by kernel_rfl) (by kernel_rfl) (fun _ _ _ h => h) (Or.inl ⟨by kernel_rfl, ?_⟩) hH ?_; rotate_left; focus (intro wx hSw; (try dsimp only at hSw); go_simp; try with_reducible rfl)); try simp only [Act.put, List.setIfInBounds_toArray, List.set_cons_zero, List.set_cons_succ]; try simp only [List.getElem_toArray, List.getElem_cons_succ, List.getElem_cons_zero]
  (refine wpAnyH_take (i := 8) (oi := ⟨_, _, _, _, _, _⟩) (v := ?_) rfl (by kernel_rfl) (by kernel_rfl) (by kernel_rfl) (fun _ _ _ h => h) (Or.inl ⟨by kernel_rfl, ?_⟩) hH ?_; rotate_left; focus (intro wx hSw; (try dsimp only at hSw); go_simp; try with_reducible rfl)); try simp only [Act.put, List.setIfInBounds_toArray, List.set_cons_zero, List.set_cons_succ]; try simp only [List.getElem_toArray, List.getElem_cons_succ, List.getElem_cons_zero]
  (refine wpAnyH_ready (rs := [9]) (by kernel_rfl) (by simp) ?_; refine AllReadyH.cons rfl (fun K' hK => ?_) AllReadyH.nil); go_simp
  (refine hK.out _ _ (hd _ (hk _ 4 (.int .i64 scope) hS4)) (fun hH => ?_); clear hK K'; try simp only [Act.put, List.setIfInBounds_toArray, List.set_cons_zero, List.set_cons_succ]; try simp only [List.getElem_toArray, List.getElem_cons_succ, List.getElem_cons_zero])
  (refine wpAnyH_take (i := 10) (oi := ⟨_, _, _, _, _, _⟩) (v := ?_) rfl (by kernel_rfl) (by kernel_rfl) (by kernel_rfl) (fun _ _ _ h => h) (Or.inl ⟨by kernel_rfl, ?_⟩) hH ?_; rotate_left; focus (intro wx hSw; (try dsimp only at hSw); go_simp; try with_reducible rfl)); try simp only [Act.put, List.setIfInBounds_toArray, List.set_cons_zero, List.set_cons_succ]; try simp only [List.getElem_toArray, List.getElem_cons_succ, List.getElem_cons_zero]
  (refine wpAnyH_ready (rs := [11]) (by kernel_rfl) (by simp) ?_; refine AllReadyH.cons rfl (fun K' hK => ?_) AllReadyH.nil); go_simp
  (refine hK.out _ _ (hd _ (hk _ 5 (.int .i64 limit) (hk _ 4 (.int .i64 scope) hS4))) (fun hH => ?_); clear hK K'; try simp only [Act.put, List.setIfInBounds_toArray, List.set_cons_zero, List.set_cons_succ]; try simp only [List.getElem_toArray, List.getElem_cons_succ, List.getElem_cons_zero])
  (refine wpAnyH_take (i := 12) (oi := ⟨_, _, _, _, _, _⟩) (v := ?_) rfl (by kernel_rfl) (by kernel_rfl) (by kernel_rfl) (fun _ _ _ h => h) (Or.inl ⟨by kernel_rfl, ?_⟩) hH ?_; rotate_left; focus (intro wx hSw; (try dsimp only at hSw); go_simp; try with_reducible rfl)); try simp only [Act.put, List.setIfInBounds_toArray, List.set_cons_zero, List.set_cons_succ]; try simp only [List.getElem_toArray, List.getElem_cons_succ, List.getElem_cons_zero]
  (refine wpAnyH_ready (rs := [13]) (by kernel_rfl) (by simp) ?_; refine AllReadyH.cons rfl (fun K' hK => ?_) AllReadyH.nil); go_simp
  (refine hK.out _ _ (hd _ (hk _ 10 (.slice Z1 Z2 Z3) (hk _ 9 (.slice Y1 Y2 Y3) (hk _ 8 (sv fv) (hk _ 7 (sv ft) (hk _ 6 (.int .i64 fk) (hk _ 5 (.int .i64 limit) (hk _ 4 (.int .i64 scope) hS4)))))))) (fun hH => ?_); clear hK K'; try simp only [Act.put, List.setIfInBounds_toArray, List.set_cons_zero, List.set_cons_succ]; try simp only [List.getElem_toArray, List.getElem_cons_succ, List.getElem_cons_zero])
  (refine wpAnyH_take (i := 14) (oi := ⟨_, _, _, _, _, _⟩) (v := ?_) rfl (by kernel_rfl) (by kernel_rfl) (by kernel_rfl) (fun _ _ _ h => h) (Or.inl ⟨by kernel_rfl, ?_⟩) hH ?_; rotate_left; focus (intro wx hSw; (try dsimp only at hSw); go_simp; try with_reducible rfl)); try simp only [Act.put, List.setIfInBounds_toArray, List.set_cons_zero, List.set_cons_succ]; try simp only [List.getElem_toArray, List.getElem_cons_succ, List.getElem_cons_zero]
  (refine wpAnyH_ready (rs := [15]) (by kernel_rfl) (by simp) ?_; refine AllReadyH.cons rfl (fun K' hK => ?_) AllReadyH.nil); go_simp
  (refine hK.out _ _ (hd _ (hk _ 11 (.slice W1 W2 W3) (hk _ 10 (.slice Z1 Z2 Z3) (hk _ 9 (.slice Y1 Y2 Y3) (hk _ 8 (sv fv) (hk _ 7 (sv ft) (hk _ 6 (.int .i64 fk) (hk _ 5 (.int .i64 limit) (hk _ 4 (.int .i64 scope) hS4))))))))) (fun hH => ?_); clear hK K'; try simp only [Act.put, List.setIfInBounds_toArray, List.set_cons_zero, List.set_cons_succ]; try simp only [List.getElem_toArray, List.getElem_cons_succ, List.getElem_cons_zero])
  refine wpAnyH_done (by kernel_rfl) ?_ _
  have b4_ : Blk (w4.setCell ⟨g, 4, none⟩ (.int .i64 scope)) g 32 #[.int .i64 num, .int .i64 3, sv dn, .string ⟨#[]⟩, .int .i64 scope, .int .i64 0, .int .i64 0, .string ⟨#[]⟩, .string ⟨#[]⟩, .slice none 0 0, .slice none 0 0, .slice none 0 0, .slice none 0 0, .slice none 0 0, .string ⟨#[]⟩, .bool false, .bool false, .string ⟨#[]⟩, .string ⟨#[]⟩, .string ⟨#[]⟩, .int .i64 0] := B4.set_ 4 (.int .i64 scope)
  have b5_ : Blk ((w4.setCell ⟨g, 4, none⟩ (.int .i64 scope)).setCell ⟨g, 5, none⟩ (.int .i64 limit)) g 32 #[.int .i64 num, .int .i64 3, sv dn, .string ⟨#[]⟩, .int .i64 scope, .int .i64 limit, .int .i64 0, .string ⟨#[]⟩, .string ⟨#[]⟩, .slice none 0 0, .slice none 0 0, .slice none 0 0, .slice none 0 0, .slice none 0 0, .string ⟨#[]⟩, .bool false, .bool false, .string ⟨#[]⟩, .string ⟨#[]⟩, .string ⟨#[]⟩, .int .i64 0] := b4_.set_ 5 (.int .i64 limit)
  have b6_ : Blk (((w4.setCell ⟨g, 4, none⟩ (.int .i64 scope)).setCell ⟨g, 5, none⟩ (.int .i64 limit)).setCell ⟨g, 6, none⟩ (.int .i64 fk)) g 32 #[.int .i64 num, .int .i64 3, sv dn, .string ⟨#[]⟩, .int .i64 scope, .int .i64 limit, .int .i64 fk, .string ⟨#[]⟩, .string ⟨#[]⟩, .slice none 0 0, .slice none 0 0, .slice none 0 0, .slice none 0 0, .slice none 0 0, .string ⟨#[]⟩, .bool false, .bool false, .string ⟨#[]⟩, .string ⟨#[]⟩, .string ⟨#[]⟩, .int .i64 0] := b5_.set_ 6 (.int .i64 fk)
  have b7_ : Blk ((((w4.setCell ⟨g, 4, none⟩ (.int .i64 scope)).setCell ⟨g, 5, none⟩ (.int .i64 limit)).setCell ⟨g, 6, none⟩ (.int .i64 fk)).setCell ⟨g, 7, none⟩ (sv ft)) g 32 #[.int .i64 num, .int .i64 3, sv dn, .string ⟨#[]⟩, .int .i64 scope, .int .i64 limit, .int .i64 fk, sv ft, .string ⟨#[]⟩, .slice none 0 0, .slice none 0 0, .slice none 0 0, .slice none 0 0, .slice none 0 0, .string ⟨#[]⟩, .bool false, .bool false, .string ⟨#[]⟩, .string ⟨#[]⟩, .string ⟨#[]⟩, .int .i64 0] := b6_.set_ 7 (sv ft)
  have b8_ : Blk (((((w4.setCell ⟨g, 4, none⟩ (.int .i64 scope)).setCell ⟨g, 5, none⟩ (.int .i64 limit)).setCell ⟨g, 6, none⟩ (.int .i64 fk)).setCell ⟨g, 7, none⟩ (sv ft)).setCell ⟨g, 8, none⟩ (sv fv)) g 32 #[.int .i64 num, .int .i64 3, sv dn, .string ⟨#[]⟩, .int .i64 scope, .int .i64 limit, .int .i64 fk, sv ft, sv fv, .slice none 0 0, .slice none 0 0, .slice none 0 0, .slice none 0 0, .slice none 0 0, .string ⟨#[]⟩, .bool false, .bool false, .string ⟨#[]⟩, .string ⟨#[]⟩, .string ⟨#[]⟩, .int .i64 0] := b7_.set_ 8 (sv fv)
  have b9_ : Blk ((((((w4.setCell ⟨g, 4, none⟩ (.int .i64 scope)).setCell ⟨g, 5, none⟩ (.int .i64 limit)).setCell ⟨g, 6, none⟩ (.int .i64 fk)).setCell ⟨g, 7, none⟩ (sv ft)).setCell ⟨g, 8, none⟩ (sv fv)).setCell ⟨g, 9, none⟩ (.slice Y1 Y2 Y3)) g 32 #[.int .i64 num, .int .i64 3, sv dn, .string ⟨#[]⟩, .int .i64 scope, .int .i64 limit, .int .i64 fk, sv ft, sv fv, .slice Y1 Y2 Y3, .slice none 0 0, .slice none 0 0, .slice none 0 0, .slice none 0 0, .string ⟨#[]⟩, .bool false, .bool false, .string ⟨#[]⟩, .string ⟨#[]⟩, .string ⟨#[]⟩, .int .i64 0] := b8_.set_ 9 (.slice Y1 Y2 Y3)
  have b10_ : Blk (((((((w4.setCell ⟨g, 4, none⟩ (.int .i64 scope)).setCell ⟨g, 5, none⟩ (.int .i64 limit)).setCell ⟨g, 6, none⟩ (.int .i64 fk)).setCell ⟨g, 7, none⟩ (sv ft)).setCell ⟨g, 8, none⟩ (sv fv)).setCell ⟨g, 9, none⟩ (.slice Y1 Y2 Y3)).setCell ⟨g, 10, none⟩ (.slice Z1 Z2 Z3)) g 32 #[.int .i64 num, .int .i64 3, sv dn, .string ⟨#[]⟩, .int .i64 scope, .int .i64 limit, .int .i64 fk, sv ft, sv fv, .slice Y1 Y2 Y3, .slice Z1 Z2 Z3, .slice none 0 0, .slice none 0 0, .slice none 0 0, .string ⟨#[]⟩, .bool false, .bool false, .string ⟨#[]⟩, .string ⟨#[]⟩, .string ⟨#[]⟩, .int .i64 0] := b9_.set_ 10 (.slice Z1 Z2 Z3)
  have b11_ : Blk ((((((((w4.setCell ⟨g, 4, none⟩ (.int .i64 scope)).setCell ⟨g, 5, none⟩ (.int .i64 limit)).setCell ⟨g, 6, none⟩ (.int .i64 fk)).setCell ⟨g, 7, none⟩ (sv ft)).setCell ⟨g, 8, none⟩ (sv fv)).setCell ⟨g, 9, none⟩ (.slice Y1 Y2 Y3)).setCell ⟨g, 10, none⟩ (.slice Z1 Z2 Z3)).setCell ⟨g, 11, none⟩ (.slice W1 W2 W3)) g 32 #[.int .i64 num, .int .i64 3, sv dn, .string ⟨#[]⟩, .int .i64 scope, .int .i64 limit, .int .i64 fk, sv ft, sv fv, .slice Y1 Y2 Y3, .slice Z1 Z2 Z3, .slice W1 W2 W3, .slice none 0 0, .slice none 0 0, .string ⟨#[]⟩, .bool false, .bool false, .string ⟨#[]⟩, .string ⟨#[]⟩, .string ⟨#[]⟩, .int .i64 0] := b10_.set_ 11 (.slice W1 W2 W3)
  have B5 : Blk ((((((((w4.setCell ⟨g, 4, none⟩ (.int .i64 scope)).setCell ⟨g, 5, none⟩ (.int .i64 limit)).setCell ⟨g, 6, none⟩ (.int .i64 fk)).setCell ⟨g, 7, none⟩ (sv ft)).setCell ⟨g, 8, none⟩ (sv fv)).setCell ⟨g, 9, none⟩ (.slice Y1 Y2 Y3)).setCell ⟨g, 10, none⟩ (.slice Z1 Z2 Z3)).setCell ⟨g, 11, none⟩ (.slice W1 W2 W3)).drew g 32 #[.int .i64 num, .int .i64 3, sv dn, .string ⟨#[]⟩, .int .i64 scope, .int .i64 limit, .int .i64 fk, sv ft, sv fv, .slice Y1 Y2 Y3, .slice Z1 Z2 Z3, .slice W1 W2 W3, .slice none 0 0, .slice none 0 0, .string ⟨#[]⟩, .bool false, .bool false, .string ⟨#[]⟩, .string ⟨#[]⟩, .string ⟨#[]⟩, .int .i64 0] := hdB _ _ _ _ b11_
  have BR5 : Blk ((((((((w4.setCell ⟨g, 4, none⟩ (.int .i64 scope)).setCell ⟨g, 5, none⟩ (.int .i64 limit)).setCell ⟨g, 6, none⟩ (.int .i64 fk)).setCell ⟨g, 7, none⟩ (sv ft)).setCell ⟨g, 8, none⟩ (sv fv)).setCell ⟨g, 9, none⟩ (.slice Y1 Y2 Y3)).setCell ⟨g, 10, none⟩ (.slice Z1 Z2 Z3)).setCell ⟨g, 11, none⟩ (.slice W1 W2 W3)).drew q 32 #[.int .i64 0, .int .i64 0, .string ⟨#[]⟩, .string ⟨#[]⟩, .int .i64 0, .int .i64 0, .int .i64 0, .string ⟨#[]⟩, .string ⟨#[]⟩, .slice none 0 0, .slice none 0 0, .slice none 0 0, .slice none 0 0, .slice none 0 0, .string ⟨#[]⟩, .bool false, .bool false, .string ⟨#[]⟩, .string ⟨#[]⟩, .string ⟨#[]⟩, .int .i64 0] := hdB _ _ _ _ ((((((((BR4.far (p := ⟨g, 4, none⟩) hqg (.int .i64 scope)).far (p := ⟨g, 5, none⟩) hqg (.int .i64 limit)).far (p := ⟨g, 6, none⟩) hqg (.int .i64 fk)).far (p := ⟨g, 7, none⟩) hqg (sv ft)).far (p := ⟨g, 8, none⟩) hqg (sv fv)).far (p := ⟨g, 9, none⟩) hqg (.slice Y1 Y2 Y3)).far (p := ⟨g, 10, none⟩) hqg (.slice Z1 Z2 Z3)).far (p := ⟨g, 11, none⟩) hqg (.slice W1 W2 W3))
  have x5 : Ext w ((((((((w4.setCell ⟨g, 4, none⟩ (.int .i64 scope)).setCell ⟨g, 5, none⟩ (.int .i64 limit)).setCell ⟨g, 6, none⟩ (.int .i64 fk)).setCell ⟨g, 7, none⟩ (sv ft)).setCell ⟨g, 8, none⟩ (sv fv)).setCell ⟨g, 9, none⟩ (.slice Y1 Y2 Y3)).setCell ⟨g, 10, none⟩ (.slice Z1 Z2 Z3)).setCell ⟨g, 11, none⟩ (.slice W1 W2 W3)).drew := ((((((((x4.setCell (p := ⟨g, 4, none⟩) (fun h => absurd h (Nat.not_lt.2 hwg)) (.int .i64 scope)).setCell (p := ⟨g, 5, none⟩) (fun h => absurd h (Nat.not_lt.2 hwg)) (.int .i64 limit)).setCell (p := ⟨g, 6, none⟩) (fun h => absurd h (Nat.not_lt.2 hwg)) (.int .i64 fk)).setCell (p := ⟨g, 7, none⟩) (fun h => absurd h (Nat.not_lt.2 hwg)) (sv ft)).setCell (p := ⟨g, 8, none⟩) (fun h => absurd h (Nat.not_lt.2 hwg)) (sv fv)).setCell (p := ⟨g, 9, none⟩) (fun h => absurd h (Nat.not_lt.2 hwg)) (.slice Y1 Y2 Y3)).setCell (p := ⟨g, 10, none⟩) (fun h => absurd h (Nat.not_lt.2 hwg)) (.slice Z1 Z2 Z3)).setCell (p := ⟨g, 11, none⟩) (fun h => absurd h (Nat.not_lt.2 hwg)) (.slice W1 W2 W3)).drew
  clear b4_ b5_ b6_ b7_ b8_ b9_ b10_ b11_ hS4 hk hd hdB hH B4 BR4 BP4 x4 p44 g44 z44 p45 g45 z45 p46 g46 z46 p47 g47 z47 p48 g48 z48 p49 g49 z49 p410 g410 z410 p411 g411 z411 p41
  go_wp2_with (first
    | ((with_reducible show wpList _ _ _ (⟨some 73, _, _, _, _, _⟩ :: _) _ _); refine wpList_load_row rfl 32 (.tmp 3) rfl g rfl _ _ _ _ B5 Tryz.underlying32 rfl size21 ?_)
    | ((with_reducible show wpList _ _ _ (⟨none, .store 32 _ _, _, _, _, _⟩ :: _) _ _); refine wpList_store_row rfl 32 (.tmp 2) (.tmp 73) rfl q #[.int .i64 num, .int .i64 3, sv dn, .string ⟨#[]⟩, .int .i64 scope, .int .i64 limit, .int .i64 fk, sv ft, sv fv, .slice Y1 Y2 Y3, .slice Z1 Z2 Z3, .slice W1 W2 W3, .slice none 0 0, .slice none 0 0, .string ⟨#[]⟩, .bool false, .bool false, .string ⟨#[]⟩, .string ⟨#[]⟩, .string ⟨#[]⟩, .int .i64 0] rfl rfl _ _ BR5 size21 rfl (by simp [Value.oneCell']) ?_))
  refine bodyPost_ret (results_cell_row Tryz.results78 _ _ _ _ _ _ _ rfl (Blk.setRow BR5 #[.int .i64 num, .int .i64 3, sv dn, .string ⟨#[]⟩, .int .i64 scope, .int .i64 limit, .int .i64 fk, sv ft, sv fv, .slice Y1 Y2 Y3, .slice Z1 Z2 Z3, .slice W1 W2 W3, .slice none 0 0, .slice none 0 0, .string ⟨#[]⟩, .bool false, .bool false, .string ⟨#[]⟩, .string ⟨#[]⟩, .string ⟨#[]⟩, .int .i64 0]) Tryz.underlying32 rfl (by exact size21)) rfl ?_
  exact ⟨rfl, Mod.setRow x5 (fun h => by omega) _⟩
end Go.Proofs.YtoockogceobfgaaGreat
namespace Go.Proofs.YtoockogceobfgaaGreat
open Go.RowKit
set_option maxRecDepth 100000

set_option maxHeartbeats 16000000 in
theorem bareq12_any {w : World} {num scope limit fk which : Int} {dn pass ft fv rdn up avt avv : List UInt8} {keep above : Bool} {Y1 Z1 W1 M1 A1 : Option Addr} {Y2 Y3 Z2 Z3 W2 W3 M2 M3 A2 A3 : Nat} : Calls Tryz.prog 78 #[.agg #[.int .i64 num, .int .i64 12, sv dn, sv pass, .int .i64 scope, .int .i64 limit, .int .i64 fk, sv ft, sv fv, .slice Y1 Y2 Y3, .slice Z1 Z2 Z3, .slice W1 W2 W3, .slice M1 M2 M3, .slice A1 A2 A3, sv rdn, .bool keep, .bool above, sv up, sv avt, sv avv, .int .i64 which]] w fun e w' => e = .returned (.agg #[.int .i64 num, .int .i64 12, sv dn, .string ⟨#[]⟩, .int .i64 0, .int .i64 0, .int .i64 0, .string ⟨#[]⟩, .string ⟨#[]⟩, .slice none 0 0, .slice none 0 0, .slice none 0 0, .slice none 0 0, .slice none 0 0, sv rdn, .bool keep, .bool above, sv up, .string ⟨#[]⟩, .string ⟨#[]⟩, .int .i64 0]) ∧ Ext w w' := by
  obtain ⟨x2a, x2b, x2⟩ := Blk.twoN w #[.int .i64 num, .int .i64 12, sv dn, sv pass, .int .i64 scope, .int .i64 limit, .int .i64 fk, sv ft, sv fv, .slice Y1 Y2 Y3, .slice Z1 Z2 Z3, .slice W1 W2 W3, .slice M1 M2 M3, .slice A1 A2 A3, sv rdn, .bool keep, .bool above, sv up, sv avt, sv avv, .int .i64 which] #[.int .i64 0, .int .i64 0, .string ⟨#[]⟩, .string ⟨#[]⟩, .int .i64 0, .int .i64 0, .int .i64 0, .string ⟨#[]⟩, .string ⟨#[]⟩, .slice none 0 0, .slice none 0 0, .slice none 0 0, .slice none 0 0, .slice none 0 0, .string ⟨#[]⟩, .bool false, .bool false, .string ⟨#[]⟩, .string ⟨#[]⟩, .string ⟨#[]⟩, .int .i64 0] 32 32
  obtain ⟨w2, hw2⟩ : ∃ x, x = (w.alloc (.cells #[.int .i64 num, .int .i64 12, sv dn, sv pass, .int .i64 scope, .int .i64 limit, .int .i64 fk, sv ft, sv fv, .slice Y1 Y2 Y3, .slice Z1 Z2 Z3, .slice W1 W2 W3, .slice M1 M2 M3, .slice A1 A2 A3, sv rdn, .bool keep, .bool above, sv up, sv avt, sv avv, .int .i64 which] 32)).alloc (.cells #[.int .i64 0, .int .i64 0, .string ⟨#[]⟩, .string ⟨#[]⟩, .int .i64 0, .int .i64 0, .int .i64 0, .string ⟨#[]⟩, .string ⟨#[]⟩, .slice none 0 0, .slice none 0 0, .slice none 0 0, .slice none 0 0, .slice none 0 0, .string ⟨#[]⟩, .bool false, .bool false, .string ⟨#[]⟩, .string ⟨#[]⟩, .string ⟨#[]⟩, .int .i64 0] 32) := ⟨_, rfl⟩
  rw [← hw2] at x2a x2b x2
  obtain ⟨q, hq⟩ : ∃ q, q = w.heap.size + 1 := ⟨_, rfl⟩
  have hqw : w.heap.size ≤ q := by omega
  rw [← hq] at x2b
  have B3a : Blk (w2.alloc (.cells #[.int .i64 0, .int .i64 0, .string ⟨#[]⟩, .string ⟨#[]⟩, .int .i64 0, .int .i64 0, .int .i64 0, .string ⟨#[]⟩, .string ⟨#[]⟩, .slice none 0 0, .slice none 0 0, .slice none 0 0, .slice none 0 0, .slice none 0 0, .string ⟨#[]⟩, .bool false, .bool false, .string ⟨#[]⟩, .string ⟨#[]⟩, .string ⟨#[]⟩, .int .i64 0] 32)) w2.heap.size 32 #[.int .i64 0, .int .i64 0, .string ⟨#[]⟩, .string ⟨#[]⟩, .int .i64 0, .int .i64 0, .int .i64 0, .string ⟨#[]⟩, .string ⟨#[]⟩, .slice none 0 0, .slice none 0 0, .slice none 0 0, .slice none 0 0, .slice none 0 0, .string ⟨#[]⟩, .bool false, .bool false, .string ⟨#[]⟩, .string ⟨#[]⟩, .string ⟨#[]⟩, .int .i64 0] := Blk.new w2 _ _
  obtain ⟨w3, hw3⟩ : ∃ x, x = (w2.alloc (.cells #[.int .i64 0, .int .i64 0, .string ⟨#[]⟩, .string ⟨#[]⟩, .int .i64 0, .int .i64 0, .int .i64 0, .string ⟨#[]⟩, .string ⟨#[]⟩, .slice none 0 0, .slice none 0 0, .slice none 0 0, .slice none 0 0, .slice none 0 0, .string ⟨#[]⟩, .bool false, .bool false, .string ⟨#[]⟩, .string ⟨#[]⟩, .string ⟨#[]⟩, .int .i64 0] 32)).setRow w2.heap.size #[.int .i64 num, .int .i64 12, .string ⟨#[]⟩, .string ⟨#[]⟩, .int .i64 0, .int .i64 0, .int .i64 0, .string ⟨#[]⟩, .string ⟨#[]⟩, .slice none 0 0, .slice none 0 0, .slice none 0 0, .slice none 0 0, .slice none 0 0, .string ⟨#[]⟩, .bool false, .bool false, .string ⟨#[]⟩, .string ⟨#[]⟩, .string ⟨#[]⟩, .int .i64 0] := ⟨_, rfl⟩
  obtain ⟨g, hg⟩ : ∃ q, q = w2.heap.size := ⟨_, rfl⟩
  have hpg : w.heap.size ≠ g := by have := x2a.lt; omega
  have hgp : g ≠ w.heap.size := fun h => hpg h.symm
  have hqg : q ≠ g := by have := x2b.lt; omega
  have hwg : w.heap.size ≤ g := by have := x2a.lt; omega
  have x3 : Ext w2 w3 := by rw [hw3]; exact ((Mod.refl _ w2).alloc _).setRow (fun h => by omega) _
  have B3 : Blk w3 g 32 #[.int .i64 num, .int .i64 12, .string ⟨#[]⟩, .string ⟨#[]⟩, .int .i64 0, .int .i64 0, .int .i64 0, .string ⟨#[]⟩, .string ⟨#[]⟩, .slice none 0 0, .slice none 0 0, .slice none 0 0, .slice none 0 0, .slice none 0 0, .string ⟨#[]⟩, .bool false, .bool false, .string ⟨#[]⟩, .string ⟨#[]⟩, .string ⟨#[]⟩, .int .i64 0] := by rw [hw3, hg]; exact B3a.setRow #[.int .i64 num, .int .i64 12, .string ⟨#[]⟩, .string ⟨#[]⟩, .int .i64 0, .int .i64 0, .int .i64 0, .string ⟨#[]⟩, .string ⟨#[]⟩, .slice none 0 0, .slice none 0 0, .slice none 0 0, .slice none 0 0, .slice none 0 0, .string ⟨#[]⟩, .bool false, .bool false, .string ⟨#[]⟩, .string ⟨#[]⟩, .string ⟨#[]⟩, .int .i64 0]
  have BR := x2b.mod x3 (fun h => h)
  have BP3 := x2a.mod x3 (fun h => h)
  have hp0 : w2.cell? ⟨w.heap.size, 0, none⟩ = some (.int .i64 num) := x2a.cell 0
  have hp1 : w2.cell? ⟨w.heap.size, 1, none⟩ = some (.int .i64 12) := x2a.cell 1
  have xx := ext_trans x2 x3
  obtain ⟨w4, hw4⟩ : ∃ x, x = w3.setCell ⟨g, 2, none⟩ (sv dn) := ⟨_, rfl⟩
  have B4 : Blk w4 g 32 #[.int .i64 num, .int .i64 12, sv dn, .string ⟨#[]⟩, .int .i64 0, .int .i64 0, .int .i64 0, .string ⟨#[]⟩, .string ⟨#[]⟩, .slice none 0 0, .slice none 0 0, .slice none 0 0, .slice none 0 0, .slice none 0 0, .string ⟨#[]⟩, .bool false, .bool false, .string ⟨#[]⟩, .string ⟨#[]⟩, .string ⟨#[]⟩, .int .i64 0] := by rw [hw4]; exact B3.set_ 2 _
  have BR4 : Blk w4 q 32 #[.int .i64 0, .int .i64 0, .string ⟨#[]⟩, .string ⟨#[]⟩, .int .i64 0, .int .i64 0, .int .i64 0, .string ⟨#[]⟩, .string ⟨#[]⟩, .slice none 0 0, .slice none 0 0, .slice none 0 0, .slice none 0 0, .slice none 0 0, .string ⟨#[]⟩, .bool false, .bool false, .string ⟨#[]⟩, .string ⟨#[]⟩, .string ⟨#[]⟩, .int .i64 0] := by rw [hw4]; exact BR.far (p := ⟨g, 2, none⟩) hqg _
  have BP4 : Blk w4 w.heap.size 32 #[.int .i64 num, .int .i64 12, sv dn, sv pass, .int .i64 scope, .int .i64 limit, .int .i64 fk, sv ft, sv fv, .slice Y1 Y2 Y3, .slice Z1 Z2 Z3, .slice W1 W2 W3, .slice M1 M2 M3, .slice A1 A2 A3, sv rdn, .bool keep, .bool above, sv up, sv avt, sv avv, .int .i64 which] := by rw [hw4]; exact BP3.far (p := ⟨g, 2, none⟩) hpg _
  have x4 : Ext w w4 := by rw [hw4]; exact xx.setCell (p := ⟨g, 2, none⟩) (fun h => absurd h (Nat.not_lt.2 hwg)) _
  have p31 : w3.cell? ⟨w.heap.size, 1, none⟩ = some (.int .i64 12) := BP3.cell 1
  have p32 : w3.cell? ⟨w.heap.size, 2, none⟩ = some (sv dn) := BP3.cell 2
  have g32 : w3.cell? ⟨g, 2, none⟩ = some (.string ⟨#[]⟩) := B3.cell 2
  have z32 : w3.frozen? ⟨g, 2, none⟩ = false := B3.frozen 2
  have p41 : w4.cell? ⟨w.heap.size, 1, none⟩ = some (.int .i64 12) := BP4.cell 1
  have p414 : w4.cell? ⟨w.heap.size, 14, none⟩ = some (sv rdn) := BP4.cell 14
  have g414 : w4.cell? ⟨g, 14, none⟩ = some (.string ⟨#[]⟩) := B4.cell 14
  have z414 : w4.frozen? ⟨g, 14, none⟩ = false := B4.frozen 14
  have p415 : w4.cell? ⟨w.heap.size, 15, none⟩ = some (.bool keep) := BP4.cell 15
  have g415 : w4.cell? ⟨g, 15, none⟩ = some (.bool false) := B4.cell 15
  have z415 : w4.frozen? ⟨g, 15, none⟩ = false := B4.frozen 15
  have p416 : w4.cell? ⟨w.heap.size, 16, none⟩ = some (.bool above) := BP4.cell 16
  have g416 : w4.cell? ⟨g, 16, none⟩ = some (.bool false) := B4.cell 16
  have z416 : w4.frozen? ⟨g, 16, none⟩ = false := B4.frozen 16
  have p417 : w4.cell? ⟨w.heap.size, 17, none⟩ = some (sv up) := BP4.cell 17
  have g417 : w4.cell? ⟨g, 17, none⟩ = some (.string ⟨#[]⟩) := B4.cell 17
  have z417 : w4.frozen? ⟨g, 17, none⟩ = false := B4.frozen 17
  replace hw4 := Lib.hid hw4
  replace hw2 := Lib.hid hw2
  replace hq := Lib.hid hq
  replace hw3 := Lib.hid hw3
  replace hg := Lib.hid hg
  go_enter Tryz.func78, Tryz.ntmps78
  go_upto_region 1 with fail
  rw [← hw2.out, ← hq.out]
  go_upto_region 2 with ((with_reducible show wpList _ _ _ (⟨none, .store 32 _ _, _, _, _, _⟩ :: _) _ _); refine wpList_store_row rfl 32 (.tmp 3) (.tmp 8) rfl w2.heap.size #[.int .i64 num, .int .i64 12, .string ⟨#[]⟩, .string ⟨#[]⟩, .int .i64 0, .int .i64 0, .int .i64 0, .string ⟨#[]⟩, .string ⟨#[]⟩, .slice none 0 0, .slice none 0 0, .slice none 0 0, .slice none 0 0, .slice none 0 0, .string ⟨#[]⟩, .bool false, .bool false, .string ⟨#[]⟩, .string ⟨#[]⟩, .string ⟨#[]⟩, .int .i64 0] rfl rfl _ _ B3a size21 rfl (by simp [Value.oneCell']) ?_)
  rw [← hw3.out, ← hg.out]
  clear hw2 hq hw3 hg hp0 hp1 B3a
  go_upto_region 9 with fail
  rw [← hw4.out]
  clear hw4 p31 p32 g32 z32 BP3 B3 BR
  go_upto_region 19 with fail
  have hS4 : w4.cell? ⟨w.heap.size, 14, none⟩ = some (sv rdn) ∧ w4.cell? ⟨w.heap.size, 15, none⟩ = some (.bool keep) ∧ w4.cell? ⟨w.heap.size, 16, none⟩ = some (.bool above) ∧ w4.cell? ⟨w.heap.size, 17, none⟩ = some (sv up) := ⟨p414, p415, p416, p417⟩
  have hk : ∀ (wx : World) (o : Nat) (v : Value), (wx.cell? ⟨w.heap.size, 14, none⟩ = some (sv rdn) ∧ wx.cell? ⟨w.heap.size, 15, none⟩ = some (.bool keep) ∧ wx.cell? ⟨w.heap.size, 16, none⟩ = some (.bool above) ∧ wx.cell? ⟨w.heap.size, 17, none⟩ = some (sv up)) → ((wx.setCell ⟨g, o, none⟩ v).cell? ⟨w.heap.size, 14, none⟩ = some (sv rdn) ∧ (wx.setCell ⟨g, o, none⟩ v).cell? ⟨w.heap.size, 15, none⟩ = some (.bool keep) ∧ (wx.setCell ⟨g, o, none⟩ v).cell? ⟨w.heap.size, 16, none⟩ = some (.bool above) ∧ (wx.setCell ⟨g, o, none⟩ v).cell? ⟨w.heap.size, 17, none⟩ = some (sv up)) := fun wx o v h => by
    have e : ∀ i, (wx.setCell ⟨g, o, none⟩ v).cell? ⟨w.heap.size, i, none⟩ = wx.cell? ⟨w.heap.size, i, none⟩ := fun i => World.cell?_setCell_far wx _ _ v hgp
    simp only [e]
    exact h
  refine wp_region_held_drew (S := fun wx => wx.cell? ⟨w.heap.size, 14, none⟩ = some (sv rdn) ∧ wx.cell? ⟨w.heap.size, 15, none⟩ = some (.bool keep) ∧ wx.cell? ⟨w.heap.size, 16, none⟩ = some (.bool above) ∧ wx.cell? ⟨w.heap.size, 17, none⟩ = some (sv up)) (by kernel_rfl) hS4 (fun hH => ?_)
  (refine wpAnyH_take (i := 0) (oi := ⟨_, _, _, _, _, _⟩) (v := ?_) rfl (by kernel_rfl) (by kernel_rfl) (by kernel_rfl) (fun _ _ _ h => h) (Or.inl ⟨by kernel_rfl, ?_⟩) hH ?_; rotate_left; focus (intro wx hSw; (try dsimp only at hSw); go_simp; try with_reducible rfl)); try simp only [Act.put, List.setIfInBounds_toArray, List.set_cons_zero, List.set_cons_succ]; try simp only [List.getElem_toArray, List.getElem_cons_succ, List.getElem_cons_zero]
  (refine wpAnyH_take (i := 1) (oi := ⟨_, _, _, _, _, _⟩) (v := ?_) rfl (by kernel_rfl) (by kernel_rfl) (by kernel_rfl) (fun _ _ _ h => h) (Or.inl ⟨by kernel_rfl, ?_⟩) hH ?_; rotate_left; focus (intro wx hSw; (try dsimp only at hSw); go_simp; try with_reducible rfl)); try simp only [Act.put, List.setIfInBounds_toArray, List.set_cons_zero, List.set_cons_succ]; try simp only [List.getElem_toArray, List.getElem_cons_succ, List.getElem_cons_zero]
  (refine wpAnyH_take (i := 2) (oi := ⟨_, _, _, _, _, _⟩) (v := ?_) rfl (by kernel_rfl) (by kernel_rfl) (by kernel_rfl) (fun _ _ _ h => h) (Or.inl ⟨by kernel_rfl, ?_⟩) hH ?_; rotate_left; focus (intro wx hSw; (try dsimp only at hSw); go_simp; try with_reducible rfl)); try simp only [Act.put, List.setIfInBounds_toArray, List.set_cons_zero, List.set_cons_succ]; try simp only [List.getElem_toArray, List.getElem_cons_succ, List.getElem_cons_zero]
  (refine wpAnyH_take (i := 3) (oi := ⟨_, _, _, _, _, _⟩) (v := ?_) rfl (by kernel_rfl) (by kernel_rfl) (by kernel_rfl) (fun _ _ _ h => h) (Or.inl ⟨by kernel_rfl, ?_⟩) hH ?_; rotate_left; focus (intro wx hSw; (try dsimp only at hSw); go_simp; try with_reducible rfl)); try simp only [Act.put, List.setIfInBounds_toArray, List.set_cons_zero, List.set_cons_succ]; try simp only [List.getElem_toArray, List.getElem_cons_succ, List.getElem_cons_zero]
  (refine wpAnyH_take (i := 4) (oi := ⟨_, _, _, _, _, _⟩) (v := ?_) rfl (by kernel_rfl) (by kernel_rfl) (by kernel_rfl) (fun _ _ _ h => h) (Or.inl ⟨by kernel_rfl, ?_⟩) hH ?_; rotate_left; focus (intro wx hSw; (try dsimp only at hSw); go_simp; try with_reducible rfl)); try simp only [Act.put, List.setIfInBounds_toArray, List.set_cons_zero, List.set_cons_succ]; try simp only [List.getElem_toArray, List.getElem_cons_succ, List.getElem_cons_zero]
  (refine wpAnyH_take (i := 5) (oi := ⟨_, _, _, _, _, _⟩) (v := ?_) rfl (by kernel_rfl) (by kernel_rfl) (by kernel_rfl) (fun _ _ _ h => h) (Or.inl ⟨by kernel_rfl, ?_⟩) hH ?_; rotate_left; focus (intro wx hSw; (try dsimp only at hSw); go_simp; try with_reducible rfl)); try simp only [Act.put, List.setIfInBounds_toArray, List.set_cons_zero, List.set_cons_succ]; try simp only [List.getElem_toArray, List.getElem_cons_succ, List.getElem_cons_zero]
  (refine wpAnyH_take (i := 6) (oi := ⟨_, _, _, _, _, _⟩) (v := ?_) rfl (by kernel_rfl) (by kernel_rfl) (by kernel_rfl) (fun _ _ _ h => h) (Or.inl ⟨by kernel_rfl, ?_⟩) hH ?_; rotate_left; focus (intro wx hSw; (try dsimp only at hSw); go_simp; try with_reducible rfl)); try simp only [Act.put, List.setIfInBounds_toArray, List.set_cons_zero, List.set_cons_succ]; try simp only [List.getElem_toArray, List.getElem_cons_succ, List.getElem_cons_zero]
  (refine wpAnyH_take (i := 7) (oi := ⟨_, _, _, _, _, _⟩) (v := ?_) rfl (by kernel_rfl) (by kernel_rfl) (by kernel_rfl) (fun _ _ _ h => h) (Or.inl ⟨by kernel_rfl, ?_⟩) hH ?_; rotate_left; focus (intro wx hSw; (try dsimp only at hSw); go_simp; try with_reducible rfl)); try simp only [Act.put, List.setIfInBounds_toArray, List.set_cons_zero, List.set_cons_succ]; try simp only [List.getElem_toArray, List.getElem_cons_succ, List.getElem_cons_zero]
  (refine wpAnyH_take (i := 8) (oi := ⟨_, _, _, _, _, _⟩) (v := ?_) rfl (by kernel_rfl) (by kernel_rfl) (by kernel_rfl) (fun _ _ _ h => h) (Or.inl ⟨by kernel_rfl, ?_⟩) hH ?_; rotate_left; focus (intro wx hSw; (try dsimp only at hSw); go_simp; try with_reducible rfl)); try simp only [Act.put, List.setIfInBounds_toArray, List.set_cons_zero, List.set_cons_succ]; try simp only [List.getElem_toArray, List.getElem_cons_succ, List.getElem_cons_zero]
  (refine wpAnyH_ready (rs := [9]) (by kernel_rfl) (by simp) ?_; refine AllReadyH.cons rfl (fun K' hK => ?_) AllReadyH.nil); go_simp
  (refine hK.out _ _ (hk _ 14 (sv rdn) hS4) (fun hH => ?_); clear hK K'; try simp only [Act.put, List.setIfInBounds_toArray, List.set_cons_zero, List.set_cons_succ]; try simp only [List.getElem_toArray, List.getElem_cons_succ, List.getElem_cons_zero])
  (refine wpAnyH_take (i := 10) (oi := ⟨_, _, _, _, _, _⟩) (v := ?_) rfl (by kernel_rfl) (by kernel_rfl) (by kernel_rfl) (fun _ _ _ h => h) (Or.inl ⟨by kernel_rfl, ?_⟩) hH ?_; rotate_left; focus (intro wx hSw; (try dsimp only at hSw); go_simp; try with_reducible rfl)); try simp only [Act.put, List.setIfInBounds_toArray, List.set_cons_zero, List.set_cons_succ]; try simp only [List.getElem_toArray, List.getElem_cons_succ, List.getElem_cons_zero]
  (refine wpAnyH_ready (rs := [11]) (by kernel_rfl) (by simp) ?_; refine AllReadyH.cons rfl (fun K' hK => ?_) AllReadyH.nil); go_simp
  (refine hK.out _ _ (hk _ 15 (.bool keep) (hk _ 14 (sv rdn) hS4)) (fun hH => ?_); clear hK K'; try simp only [Act.put, List.setIfInBounds_toArray, List.set_cons_zero, List.set_cons_succ]; try simp only [List.getElem_toArray, List.getElem_cons_succ, List.getElem_cons_zero])
  (refine wpAnyH_take (i := 12) (oi := ⟨_, _, _, _, _, _⟩) (v := ?_) rfl (by kernel_rfl) (by kernel_rfl) (by kernel_rfl) (fun _ _ _ h => h) (Or.inl ⟨by kernel_rfl, ?_⟩) hH ?_; rotate_left; focus (intro wx hSw; (try dsimp only at hSw); go_simp; try with_reducible rfl)); try simp only [Act.put, List.setIfInBounds_toArray, List.set_cons_zero, List.set_cons_succ]; try simp only [List.getElem_toArray, List.getElem_cons_succ, List.getElem_cons_zero]
  (refine wpAnyH_ready (rs := [13]) (by kernel_rfl) (by simp) ?_; refine AllReadyH.cons rfl (fun K' hK => ?_) AllReadyH.nil); go_simp
  (refine hK.out _ _ (hk _ 16 (.bool above) (hk _ 15 (.bool keep) (hk _ 14 (sv rdn) hS4))) (fun hH => ?_); clear hK K'; try simp only [Act.put, List.setIfInBounds_toArray, List.set_cons_zero, List.set_cons_succ]; try simp only [List.getElem_toArray, List.getElem_cons_succ, List.getElem_cons_zero])
  (refine wpAnyH_take (i := 14) (oi := ⟨_, _, _, _, _, _⟩) (v := ?_) rfl (by kernel_rfl) (by kernel_rfl) (by kernel_rfl) (fun _ _ _ h => h) (Or.inl ⟨by kernel_rfl, ?_⟩) hH ?_; rotate_left; focus (intro wx hSw; (try dsimp only at hSw); go_simp; try with_reducible rfl)); try simp only [Act.put, List.setIfInBounds_toArray, List.set_cons_zero, List.set_cons_succ]; try simp only [List.getElem_toArray, List.getElem_cons_succ, List.getElem_cons_zero]
  (refine wpAnyH_ready (rs := [15]) (by kernel_rfl) (by simp) ?_; refine AllReadyH.cons rfl (fun K' hK => ?_) AllReadyH.nil); go_simp
  (refine hK.out _ _ (hk _ 17 (sv up) (hk _ 16 (.bool above) (hk _ 15 (.bool keep) (hk _ 14 (sv rdn) hS4)))) (fun hH => ?_); clear hK K'; try simp only [Act.put, List.setIfInBounds_toArray, List.set_cons_zero, List.set_cons_succ]; try simp only [List.getElem_toArray, List.getElem_cons_succ, List.getElem_cons_zero])
  refine wpAnyH_done (by kernel_rfl) ?_ _
  have B5 : Blk ((((w4.setCell ⟨g, 14, none⟩ (sv rdn)).setCell ⟨g, 15, none⟩ (.bool keep)).setCell ⟨g, 16, none⟩ (.bool above)).setCell ⟨g, 17, none⟩ (sv up)).drew g 32 #[.int .i64 num, .int .i64 12, sv dn, .string ⟨#[]⟩, .int .i64 0, .int .i64 0, .int .i64 0, .string ⟨#[]⟩, .string ⟨#[]⟩, .slice none 0 0, .slice none 0 0, .slice none 0 0, .slice none 0 0, .slice none 0 0, sv rdn, .bool keep, .bool above, sv up, .string ⟨#[]⟩, .string ⟨#[]⟩, .int .i64 0] := ((((B4.set_ 14 (sv rdn)).set_ 15 (.bool keep)).set_ 16 (.bool above)).set_ 17 (sv up))
  have BR5 : Blk ((((w4.setCell ⟨g, 14, none⟩ (sv rdn)).setCell ⟨g, 15, none⟩ (.bool keep)).setCell ⟨g, 16, none⟩ (.bool above)).setCell ⟨g, 17, none⟩ (sv up)).drew q 32 #[.int .i64 0, .int .i64 0, .string ⟨#[]⟩, .string ⟨#[]⟩, .int .i64 0, .int .i64 0, .int .i64 0, .string ⟨#[]⟩, .string ⟨#[]⟩, .slice none 0 0, .slice none 0 0, .slice none 0 0, .slice none 0 0, .slice none 0 0, .string ⟨#[]⟩, .bool false, .bool false, .string ⟨#[]⟩, .string ⟨#[]⟩, .string ⟨#[]⟩, .int .i64 0] := ((((BR4.far (p := ⟨g, 14, none⟩) hqg (sv rdn)).far (p := ⟨g, 15, none⟩) hqg (.bool keep)).far (p := ⟨g, 16, none⟩) hqg (.bool above)).far (p := ⟨g, 17, none⟩) hqg (sv up))
  have x5 : Ext w ((((w4.setCell ⟨g, 14, none⟩ (sv rdn)).setCell ⟨g, 15, none⟩ (.bool keep)).setCell ⟨g, 16, none⟩ (.bool above)).setCell ⟨g, 17, none⟩ (sv up)).drew := ((((x4.setCell (p := ⟨g, 14, none⟩) (fun h => absurd h (Nat.not_lt.2 hwg)) (sv rdn)).setCell (p := ⟨g, 15, none⟩) (fun h => absurd h (Nat.not_lt.2 hwg)) (.bool keep)).setCell (p := ⟨g, 16, none⟩) (fun h => absurd h (Nat.not_lt.2 hwg)) (.bool above)).setCell (p := ⟨g, 17, none⟩) (fun h => absurd h (Nat.not_lt.2 hwg)) (sv up)).drew
  clear hS4 hk hH B4 BR4 BP4 x4 p414 g414 z414 p415 g415 z415 p416 g416 z416 p417 g417 z417 p41
  go_wp2_with (first
    | ((with_reducible show wpList _ _ _ (⟨some 73, _, _, _, _, _⟩ :: _) _ _); refine wpList_load_row rfl 32 (.tmp 3) rfl g rfl _ _ _ _ B5 Tryz.underlying32 rfl size21 ?_)
    | ((with_reducible show wpList _ _ _ (⟨none, .store 32 _ _, _, _, _, _⟩ :: _) _ _); refine wpList_store_row rfl 32 (.tmp 2) (.tmp 73) rfl q #[.int .i64 num, .int .i64 12, sv dn, .string ⟨#[]⟩, .int .i64 0, .int .i64 0, .int .i64 0, .string ⟨#[]⟩, .string ⟨#[]⟩, .slice none 0 0, .slice none 0 0, .slice none 0 0, .slice none 0 0, .slice none 0 0, sv rdn, .bool keep, .bool above, sv up, .string ⟨#[]⟩, .string ⟨#[]⟩, .int .i64 0] rfl rfl _ _ BR5 size21 rfl (by simp [Value.oneCell']) ?_))
  refine bodyPost_ret (results_cell_row Tryz.results78 _ _ _ _ _ _ _ rfl (Blk.setRow BR5 #[.int .i64 num, .int .i64 12, sv dn, .string ⟨#[]⟩, .int .i64 0, .int .i64 0, .int .i64 0, .string ⟨#[]⟩, .string ⟨#[]⟩, .slice none 0 0, .slice none 0 0, .slice none 0 0, .slice none 0 0, .slice none 0 0, sv rdn, .bool keep, .bool above, sv up, .string ⟨#[]⟩, .string ⟨#[]⟩, .int .i64 0]) Tryz.underlying32 rfl (by exact size21)) rfl ?_
  exact ⟨rfl, Mod.setRow x5 (fun h => by omega) _⟩
end Go.Proofs.YtoockogceobfgaaGreat
namespace Go.Proofs.YtoockogceobfgaaGreat
open Go.RowKit
set_option maxRecDepth 100000

set_option maxHeartbeats 8000000 in
theorem badMd_any {w : World} {kd : Int} {t : List UInt8} {A : Option Addr} {n c : Nat} : Calls Tryz.prog 105 #[.agg #[.int .i64 kd, sv t, .slice A n c]] w fun e w' => e = .returned (.bool (!decide (0 ≤ kd ∧ kd ≤ 2 ∧ n ≤ 64))) ∧ Ext w w' := by
  obtain ⟨w1, hw1⟩ : ∃ x, x = w.alloc (.cells #[.int .i64 kd, sv t, .slice A n c] 86) := ⟨_, rfl⟩
  obtain ⟨p, hp⟩ : ∃ p, p = w.heap.size := ⟨_, rfl⟩
  have x1 : Ext w w1 := by rw [hw1]; exact (Mod.refl _ w).alloc _
  have BP : Blk w1 p 86 #[.int .i64 kd, sv t, .slice A n c] := by rw [hw1, hp]; exact Blk.new w _ _
  have p0 : w1.cell? ⟨p, 0, none⟩ = some (.int .i64 kd) := BP.cell 0
  have p2 : w1.cell? ⟨p, 2, none⟩ = some (.slice A n c) := BP.cell 2
  replace hw1 := Lib.hid hw1
  replace hp := Lib.hid hp
  clear BP
  by_cases h0 : 0 ≤ kd
  rotate_left
  · have b0 : decide (kd < 0) = true := dtrue (by omega)
    rw [dfalse (fun h => h0 h.1)]
    go_enter Tryz.func105, Tryz.ntmps105
    go_upto_region 1 with fail
    rw [← hw1.out, ← hp.out]
    clear hw1 hp
    go_wp2_with fail
    go_ret
    exact ⟨rfl, x1⟩
  have b0 : decide (kd < 0) = false := dfalse (by omega)
  by_cases h1 : kd ≤ 2
  rotate_left
  · have b1 : decide (kd > 2) = true := dtrue (by omega)
    have b1' : decide (2 < kd) = true := dtrue (by omega)
    rw [dfalse (fun h => h1 h.2.1)]
    go_enter Tryz.func105, Tryz.ntmps105
    go_upto_region 1 with fail
    rw [← hw1.out, ← hp.out]
    clear hw1 hp
    go_wp2_with fail
    go_ret
    exact ⟨rfl, x1⟩
  have b1 : decide (kd > 2) = false := dfalse (by omega)
  have b1' : decide (2 < kd) = false := dfalse (by omega)
  by_cases h2 : n ≤ 64
  · have b2 : decide ((n : Int) > 64) = false := dfalse (by omega)
    have b2' : decide ((64 : Int) < (n : Int)) = false := dfalse (by omega)
    have b3 : decide (64 < n) = false := dfalse (by omega)
    rw [dtrue ⟨h0, h1, h2⟩]
    clear h0 h1 h2
    go_enter Tryz.func105, Tryz.ntmps105
    go_upto_region 1 with fail
    rw [← hw1.out, ← hp.out]
    clear hw1 hp
    go_wp2_with fail
    go_ret
    exact ⟨rfl, x1⟩
  · have b2 : decide ((n : Int) > 64) = true := dtrue (by omega)
    have b2' : decide ((64 : Int) < (n : Int)) = true := dtrue (by omega)
    have b3 : decide (64 < n) = true := dtrue (by omega)
    rw [dfalse (fun h => h2 h.2.2)]
    clear h0 h1 h2
    go_enter Tryz.func105, Tryz.ntmps105
    go_upto_region 1 with fail
    rw [← hw1.out, ← hp.out]
    clear hw1 hp
    go_wp2_with fail
    go_ret
    exact ⟨rfl, x1⟩
set_option maxHeartbeats 8000000 in
theorem badAt_any {w : World} {t : List UInt8} {A : Option Addr} {n c : Nat} : Calls Tryz.prog 107 #[.agg #[sv t, .slice A n c]] w fun e w' => e = .returned (.bool (!decide (n ≤ 64))) ∧ Ext w w' := by
  obtain ⟨w1, hw1⟩ : ∃ x, x = w.alloc (.cells #[sv t, .slice A n c] 88) := ⟨_, rfl⟩
  obtain ⟨p, hp⟩ : ∃ p, p = w.heap.size := ⟨_, rfl⟩
  have x1 : Ext w w1 := by rw [hw1]; exact (Mod.refl _ w).alloc _
  have BP : Blk w1 p 88 #[sv t, .slice A n c] := by rw [hw1, hp]; exact Blk.new w _ _
  have p1 : w1.cell? ⟨p, 1, none⟩ = some (.slice A n c) := BP.cell 1
  replace hw1 := Lib.hid hw1
  replace hp := Lib.hid hp
  clear BP
  by_cases h2 : n ≤ 64
  · have b2 : decide ((n : Int) > 64) = false := dfalse (by omega)
    have b2' : decide ((64 : Int) < (n : Int)) = false := dfalse (by omega)
    have b3 : decide (64 < n) = false := dfalse (by omega)
    rw [dtrue h2]
    clear h2
    go_enter Tryz.func107, Tryz.ntmps107
    go_upto_region 1 with fail
    rw [← hw1.out, ← hp.out]
    clear hw1 hp
    go_wp2_with fail
    go_ret
    exact ⟨rfl, x1⟩
  · have b2 : decide ((n : Int) > 64) = true := dtrue (by omega)
    have b2' : decide ((64 : Int) < (n : Int)) = true := dtrue (by omega)
    have b3 : decide (64 < n) = true := dtrue (by omega)
    rw [dfalse h2]
    clear h2
    go_enter Tryz.func107, Tryz.ntmps107
    go_upto_region 1 with fail
    rw [← hw1.out, ← hp.out]
    clear hw1 hp
    go_wp2_with fail
    go_ret
    exact ⟨rfl, x1⟩
theorem all_nextQ {α : Type} (f : α → Bool) {L : List α} {k : Nat} (h : k < L.length) : (L.take (k + 1)).all f = ((L.take k).all f && f L[k]) := by
  rw [List.take_succ_eq_append_getElem h, List.all_append]; simp
theorem all_noQ {α : Type} (f : α → Bool) {L : List α} {k : Nat} (h : k < L.length) (hf : f L[k] = false) : L.all f = false := by
  rw [List.all_eq_false]; exact ⟨L[k], List.getElem_mem h, by simp [hf]⟩
theorem Mds.bound_ {w : World} {v : Value} {L : List Md} (h : Mds w v L) : L.length ≤ 9223372036854775807 := by
  obtain ⟨rs, h1, h2, _⟩ := h
  obtain ⟨A, c, _, h3, h4, _⟩ := h1.open_ mdc_len
  omega
set_option maxHeartbeats 8000000 in
theorem idxMd_any {w : World} {v : Value} {K : List Md} (h : Mds w v K) :
    Calls Tryz.prog 132 #[v, .func (.func 105) #[] #[]] w fun e w' => ∃ i : Int, e = .returned (.int .i64 i) ∧ decide (0 ≤ i) = !(K.all mdQ) ∧ Ext w w' := by
  have hkl := h.bound_
  obtain ⟨A, ca, ek, -⟩ := h.open_
  have hop := fun {wx : World} (x : Ext w wx) => (h.ext x).open_
  obtain ⟨R, hR⟩ : ∃ R, R = K.all mdQ := ⟨_, rfl⟩
  rw [← hR]
  obtain ⟨q, hq⟩ : ∃ m, m = K.length := ⟨_, rfl⟩
  rw [← hq] at ek hkl
  subst ek
  replace hq := Lib.hid hq
  replace hR := Lib.hid hR
  clear h
  go_enter Tryz.func132, Tryz.ntmps132
  go_wp2_with fail
  go_loopw [8] (fun i wr => ∃ k : Nat, k ≤ q ∧ i = .int .i64 k ∧ Hid ((K.take k).all mdQ = true) ∧ Ext w wr) (fun i _ => q - (intOf i).toNat)
  case atStart => exact ⟨0, Nat.zero_le _, rfl, Lib.hid (by simp), Mod.refl _ _⟩
  case round =>
    obtain ⟨k, hkq, rfl, hal, hx⟩ := hrel
    by_cases hlt : k < q
    case neg =>
      have hbl : decide ((k : Int) < (q : Int)) = false := dfalse (by omega)
      have hbn : decide (k < q) = false := dfalse (by omega)
      have hr2 : Hid (R = true) := Lib.hid (by
        have h1 := hal.out
        rw [List.take_of_length_le (by have := hq.out; omega)] at h1
        rw [hR.out, h1])
      clear hal hR hop
      go_wp2_with fail
      go_ret
      exact ⟨-1, rfl, by rw [hr2.out]; rfl, hx⟩
    have hbl : decide ((k : Int) < (q : Int)) = true := dtrue (by omega)
    have hbn : decide (k < q) = true := dtrue (by omega)
    have hi0 : (0 : Int) ≤ (k : Int) := by omega
    have hi1 : (k : Int) < (q : Int) := by omega
    have hkK : k < K.length := by have := hq.out; omega
    obtain ⟨A', ca', g1, h5⟩ := hop hx
    rw [← hq.out] at g1
    injection g1 with g1 _ g3
    subst g1
    subst g3
    obtain ⟨ag, y1, e2, a0, a1, a2, hF⟩ := h5 k hkK
    subst e2
    obtain ⟨A3, c3, ey⟩ : ∃ A c, y1 = .slice A K[k].vals.length c := by obtain ⟨A, c, e, _⟩ := hF.open_; exact ⟨A, c, e⟩
    have hsn := all_nextQ mdQ hkK
    have hno := all_noQ mdQ hkK
    generalize K[k] = xF at *
    obtain ⟨m3, hm3⟩ : ∃ m, m = xF.vals.length := ⟨_, rfl⟩
    rw [← hm3] at ey
    subst ey
    have hcall := badMd_any (w := wr) (kd := xF.kind) (t := xF.typ) (A := A3) (n := m3) (c := c3)
    have hpq : mdQ xF = decide (0 ≤ xF.kind ∧ xF.kind ≤ 2 ∧ m3 ≤ 64) := by rw [hm3]
    rw [← hpq] at hcall
    replace hm3 := Lib.hid hm3
    clear hF hop hkK h5 hpq
    cases hqv : mdQ xF
    · have hr2 : Hid (R = false) := Lib.hid (by rw [hR.out]; exact hno hqv)
      rw [hqv] at hcall
      replace hcall := Lib.hid hcall
      clear hsn hno hal hR hqv hm3
      go_wp2_with fail
      refine hcall.out.mono ?_
      rintro e w3 ⟨rfl, x3⟩
      go_wp2_with fail
      go_ret
      exact ⟨k, rfl, by rw [hr2.out]; exact dtrue (by omega), ext_trans hx x3⟩
    · have hal2 : Hid ((K.take (k + 1)).all mdQ = true) := Lib.hid (by rw [hsn, hal.out, hqv]; rfl)
      rw [hqv] at hcall
      replace hcall := Lib.hid hcall
      clear hsn hno hal hqv hm3
      go_wp2_with fail
      refine hcall.out.mono ?_
      rintro e w3 ⟨rfl, x3⟩
      have x4 := ext_trans hx x3
      clear hx x3
      go_wp2_with fail
      exact ⟨⟨k + 1, by omega, by go_num, hal2, x4⟩, by simp [intOf] <;> omega⟩
theorem hasMd_any {w : World} {v : Value} {K : List Md} (h : Mds w v K) :
    Calls Tryz.prog 104 #[v, .func (.func 105) #[] #[]] w fun e w' => e = .returned (.bool (!(K.all mdQ))) ∧ Ext w w' := by
  have hc := Lib.hid (idxMd_any h)
  obtain ⟨A1, n1, c1, rfl⟩ : ∃ A n c, v = .slice A n c := by obtain ⟨A, c, e, _⟩ := h.open_; exact ⟨A, _, c, e⟩
  obtain ⟨R, hR⟩ : ∃ R, R = !(K.all mdQ) := ⟨_, rfl⟩
  rw [← hR] at hc ⊢
  clear hR h
  go_enter Tryz.func104, Tryz.ntmps104
  go_wp2_with fail
  refine hc.out.mono ?_
  rintro e w1 ⟨i, rfl, hi, x1⟩
  have hi2 : decide (i ≥ 0) = R := hi
  go_wp2_with fail
  go_ret
  exact ⟨by first | rfl | rw [hi], x1⟩
theorem Ats.bound_ {w : World} {v : Value} {L : List Att} (h : Ats w v L) : L.length ≤ 9223372036854775807 := by
  obtain ⟨rs, h1, h2, _⟩ := h
  obtain ⟨A, c, _, h3, h4, _⟩ := h1.open_ atc_len
  omega
set_option maxHeartbeats 8000000 in
theorem idxAt_any {w : World} {v : Value} {K : List Att} (h : Ats w v K) :
    Calls Tryz.prog 133 #[v, .func (.func 107) #[] #[]] w fun e w' => ∃ i : Int, e = .returned (.int .i64 i) ∧ decide (0 ≤ i) = !(K.all atQ) ∧ Ext w w' := by
  have hkl := h.bound_
  obtain ⟨A, ca, ek, -⟩ := h.open_
  have hop := fun {wx : World} (x : Ext w wx) => (h.ext x).open_
  obtain ⟨R, hR⟩ : ∃ R, R = K.all atQ := ⟨_, rfl⟩
  rw [← hR]
  obtain ⟨q, hq⟩ : ∃ m, m = K.length := ⟨_, rfl⟩
  rw [← hq] at ek hkl
  subst ek
  replace hq := Lib.hid hq
  replace hR := Lib.hid hR
  clear h
  go_enter Tryz.func133, Tryz.ntmps133
  go_wp2_with fail
  go_loopw [8] (fun i wr => ∃ k : Nat, k ≤ q ∧ i = .int .i64 k ∧ Hid ((K.take k).all atQ = true) ∧ Ext w wr) (fun i _ => q - (intOf i).toNat)
  case atStart => exact ⟨0, Nat.zero_le _, rfl, Lib.hid (by simp), Mod.refl _ _⟩
  case round =>
    obtain ⟨k, hkq, rfl, hal, hx⟩ := hrel
    by_cases hlt : k < q
    case neg =>
      have hbl : decide ((k : Int) < (q : Int)) = false := dfalse (by omega)
      have hbn : decide (k < q) = false := dfalse (by omega)
      have hr2 : Hid (R = true) := Lib.hid (by
        have h1 := hal.out
        rw [List.take_of_length_le (by have := hq.out; omega)] at h1
        rw [hR.out, h1])
      clear hal hR hop
      go_wp2_with fail
      go_ret
      exact ⟨-1, rfl, by rw [hr2.out]; rfl, hx⟩
    have hbl : decide ((k : Int) < (q : Int)) = true := dtrue (by omega)
    have hbn : decide (k < q) = true := dtrue (by omega)
    have hi0 : (0 : Int) ≤ (k : Int) := by omega
    have hi1 : (k : Int) < (q : Int) := by omega
    have hkK : k < K.length := by have := hq.out; omega
    obtain ⟨A', ca', g1, h5⟩ := hop hx
    rw [← hq.out] at g1
    injection g1 with g1 _ g3
    subst g1
    subst g3
    obtain ⟨ag, y1, e2, a0, a1, hF⟩ := h5 k hkK
    subst e2
    obtain ⟨A3, c3, ey⟩ : ∃ A c, y1 = .slice A K[k].vals.length c := by obtain ⟨A, c, e, _⟩ := hF.open_; exact ⟨A, c, e⟩
    have hsn := all_nextQ atQ hkK
    have hno := all_noQ atQ hkK
    generalize K[k] = xF at *
    obtain ⟨m3, hm3⟩ : ∃ m, m = xF.vals.length := ⟨_, rfl⟩
    rw [← hm3] at ey
    subst ey
    have hcall := badAt_any (w := wr) (t := xF.typ) (A := A3) (n := m3) (c := c3)
    have hpq : atQ xF = decide (m3 ≤ 64) := by rw [hm3]
    rw [← hpq] at hcall
    replace hm3 := Lib.hid hm3
    clear hF hop hkK h5 hpq
    cases hqv : atQ xF
    · have hr2 : Hid (R = false) := Lib.hid (by rw [hR.out]; exact hno hqv)
      rw [hqv] at hcall
      replace hcall := Lib.hid hcall
      clear hsn hno hal hR hqv hm3
      go_wp2_with fail
      refine hcall.out.mono ?_
      rintro e w3 ⟨rfl, x3⟩
      go_wp2_with fail
      go_ret
      exact ⟨k, rfl, by rw [hr2.out]; exact dtrue (by omega), ext_trans hx x3⟩
    · have hal2 : Hid ((K.take (k + 1)).all atQ = true) := Lib.hid (by rw [hsn, hal.out, hqv]; rfl)
      rw [hqv] at hcall
      replace hcall := Lib.hid hcall
      clear hsn hno hal hqv hm3
      go_wp2_with fail
      refine hcall.out.mono ?_
      rintro e w3 ⟨rfl, x3⟩
      have x4 := ext_trans hx x3
      clear hx x3
      go_wp2_with fail
      exact ⟨⟨k + 1, by omega, by go_num, hal2, x4⟩, by simp [intOf] <;> omega⟩
theorem hasAt_any {w : World} {v : Value} {K : List Att} (h : Ats w v K) :
    Calls Tryz.prog 106 #[v, .func (.func 107) #[] #[]] w fun e w' => e = .returned (.bool (!(K.all atQ))) ∧ Ext w w' := by
  have hc := Lib.hid (idxAt_any h)
  obtain ⟨A1, n1, c1, rfl⟩ : ∃ A n c, v = .slice A n c := by obtain ⟨A, c, e, _⟩ := h.open_; exact ⟨A, _, c, e⟩
  obtain ⟨R, hR⟩ : ∃ R, R = !(K.all atQ) := ⟨_, rfl⟩
  rw [← hR] at hc ⊢
  clear hR h
  go_enter Tryz.func106, Tryz.ntmps106
  go_wp2_with fail
  refine hc.out.mono ?_
  rintro e w1 ⟨i, rfl, hi, x1⟩
  have hi2 : decide (i ≥ 0) = R := hi
  go_wp2_with fail
  go_ret
  exact ⟨by first | rfl | rw [hi], x1⟩
set_option maxHeartbeats 16000000 in
theorem fits0_any {w : World} {num scope limit fk which : Int} {dn pass ft fv rdn up avt avv : List UInt8} {keep above : Bool} {Y1 Z1 W1 M1 A1 : Option Addr} {Y2 Y3 Z2 Z3 W2 W3 M2 M3 A2 A3 : Nat} : Calls Tryz.prog 76 #[.agg #[.int .i64 num, .int .i64 0, sv dn, sv pass, .int .i64 scope, .int .i64 limit, .int .i64 fk, sv ft, sv fv, .slice Y1 Y2 Y3, .slice Z1 Z2 Z3, .slice W1 W2 W3, .slice M1 M2 M3, .slice A1 A2 A3, sv rdn, .bool keep, .bool above, sv up, sv avt, sv avv, .int .i64 which]] w fun e w' => e = .returned (.bool (true)) ∧ Ext w w' := by
  obtain ⟨w1, hw1⟩ : ∃ x, x = w.alloc (.cells #[.int .i64 num, .int .i64 0, sv dn, sv pass, .int .i64 scope, .int .i64 limit, .int .i64 fk, sv ft, sv fv, .slice Y1 Y2 Y3, .slice Z1 Z2 Z3, .slice W1 W2 W3, .slice M1 M2 M3, .slice A1 A2 A3, sv rdn, .bool keep, .bool above, sv up, sv avt, sv avv, .int .i64 which] 32) := ⟨_, rfl⟩
  obtain ⟨p, hp⟩ : ∃ p, p = w.heap.size := ⟨_, rfl⟩
  have x1 : Ext w w1 := by rw [hw1]; exact (Mod.refl _ w).alloc _
  have BP : Blk w1 p 32 #[.int .i64 num, .int .i64 0, sv dn, sv pass, .int .i64 scope, .int .i64 limit, .int .i64 fk, sv ft, sv fv, .slice Y1 Y2 Y3, .slice Z1 Z2 Z3, .slice W1 W2 W3, .slice M1 M2 M3, .slice A1 A2 A3, sv rdn, .bool keep, .bool above, sv up, sv avt, sv avv, .int .i64 which] := by rw [hw1, hp]; exact Blk.new w _ _
  have p1 : w1.cell? ⟨p, 1, none⟩ = some (.int .i64 0) := BP.cell 1
  replace hw1 := Lib.hid hw1
  replace hp := Lib.hid hp
  clear BP
  go_enter Tryz.func76, Tryz.ntmps76
  go_upto_region 1 with fail
  rw [← hw1.out, ← hp.out]
  clear hw1 hp
  go_wp2_with fail
  go_ret
  exact ⟨rfl, x1⟩
set_option maxHeartbeats 16000000 in
theorem fits2_any {w : World} {num scope limit fk which : Int} {dn pass ft fv rdn up avt avv : List UInt8} {keep above : Bool} {Y1 Z1 W1 M1 A1 : Option Addr} {Y2 Y3 Z2 Z3 W2 W3 M2 M3 A2 A3 : Nat} : Calls Tryz.prog 76 #[.agg #[.int .i64 num, .int .i64 2, sv dn, sv pass, .int .i64 scope, .int .i64 limit, .int .i64 fk, sv ft, sv fv, .slice Y1 Y2 Y3, .slice Z1 Z2 Z3, .slice W1 W2 W3, .slice M1 M2 M3, .slice A1 A2 A3, sv rdn, .bool keep, .bool above, sv up, sv avt, sv avv, .int .i64 which]] w fun e w' => e = .returned (.bool (true)) ∧ Ext w w' := by
  obtain ⟨w1, hw1⟩ : ∃ x, x = w.alloc (.cells #[.int .i64 num, .int .i64 2, sv dn, sv pass, .int .i64 scope, .int .i64 limit, .int .i64 fk, sv ft, sv fv, .slice Y1 Y2 Y3, .slice Z1 Z2 Z3, .slice W1 W2 W3, .slice M1 M2 M3, .slice A1 A2 A3, sv rdn, .bool keep, .bool above, sv up, sv avt, sv avv, .int .i64 which] 32) := ⟨_, rfl⟩
  obtain ⟨p, hp⟩ : ∃ p, p = w.heap.size := ⟨_, rfl⟩
  have x1 : Ext w w1 := by rw [hw1]; exact (Mod.refl _ w).alloc _
  have BP : Blk w1 p 32 #[.int .i64 num, .int .i64 2, sv dn, sv pass, .int .i64 scope, .int .i64 limit, .int .i64 fk, sv ft, sv fv, .slice Y1 Y2 Y3, .slice Z1 Z2 Z3, .slice W1 W2 W3, .slice M1 M2 M3, .slice A1 A2 A3, sv rdn, .bool keep, .bool above, sv up, sv avt, sv avv, .int .i64 which] := by rw [hw1, hp]; exact Blk.new w _ _
  have p1 : w1.cell? ⟨p, 1, none⟩ = some (.int .i64 2) := BP.cell 1
  replace hw1 := Lib.hid hw1
  replace hp := Lib.hid hp
  clear BP
  go_enter Tryz.func76, Tryz.ntmps76
  go_upto_region 1 with fail
  rw [← hw1.out, ← hp.out]
  clear hw1 hp
  go_wp2_with fail
  go_ret
  exact ⟨rfl, x1⟩
set_option maxHeartbeats 16000000 in
theorem fits10_any {w : World} {num scope limit fk which : Int} {dn pass ft fv rdn up avt avv : List UInt8} {keep above : Bool} {Y1 Z1 W1 M1 A1 : Option Addr} {Y2 Y3 Z2 Z3 W2 W3 M2 M3 A2 A3 : Nat} : Calls Tryz.prog 76 #[.agg #[.int .i64 num, .int .i64 10, sv dn, sv pass, .int .i64 scope, .int .i64 limit, .int .i64 fk, sv ft, sv fv, .slice Y1 Y2 Y3, .slice Z1 Z2 Z3, .slice W1 W2 W3, .slice M1 M2 M3, .slice A1 A2 A3, sv rdn, .bool keep, .bool above, sv up, sv avt, sv avv, .int .i64 which]] w fun e w' => e = .returned (.bool (true)) ∧ Ext w w' := by
  obtain ⟨w1, hw1⟩ : ∃ x, x = w.alloc (.cells #[.int .i64 num, .int .i64 10, sv dn, sv pass, .int .i64 scope, .int .i64 limit, .int .i64 fk, sv ft, sv fv, .slice Y1 Y2 Y3, .slice Z1 Z2 Z3, .slice W1 W2 W3, .slice M1 M2 M3, .slice A1 A2 A3, sv rdn, .bool keep, .bool above, sv up, sv avt, sv avv, .int .i64 which] 32) := ⟨_, rfl⟩
  obtain ⟨p, hp⟩ : ∃ p, p = w.heap.size := ⟨_, rfl⟩
  have x1 : Ext w w1 := by rw [hw1]; exact (Mod.refl _ w).alloc _
  have BP : Blk w1 p 32 #[.int .i64 num, .int .i64 10, sv dn, sv pass, .int .i64 scope, .int .i64 limit, .int .i64 fk, sv ft, sv fv, .slice Y1 Y2 Y3, .slice Z1 Z2 Z3, .slice W1 W2 W3, .slice M1 M2 M3, .slice A1 A2 A3, sv rdn, .bool keep, .bool above, sv up, sv avt, sv avv, .int .i64 which] := by rw [hw1, hp]; exact Blk.new w _ _
  have p1 : w1.cell? ⟨p, 1, none⟩ = some (.int .i64 10) := BP.cell 1
  replace hw1 := Lib.hid hw1
  replace hp := Lib.hid hp
  clear BP
  go_enter Tryz.func76, Tryz.ntmps76
  go_upto_region 1 with fail
  rw [← hw1.out, ← hp.out]
  clear hw1 hp
  go_wp2_with fail
  go_ret
  exact ⟨rfl, x1⟩
set_option maxHeartbeats 16000000 in
theorem fits14_any {w : World} {num scope limit fk which : Int} {dn pass ft fv rdn up avt avv : List UInt8} {keep above : Bool} {Y1 Z1 W1 M1 A1 : Option Addr} {Y2 Y3 Z2 Z3 W2 W3 M2 M3 A2 A3 : Nat} : Calls Tryz.prog 76 #[.agg #[.int .i64 num, .int .i64 14, sv dn, sv pass, .int .i64 scope, .int .i64 limit, .int .i64 fk, sv ft, sv fv, .slice Y1 Y2 Y3, .slice Z1 Z2 Z3, .slice W1 W2 W3, .slice M1 M2 M3, .slice A1 A2 A3, sv rdn, .bool keep, .bool above, sv up, sv avt, sv avv, .int .i64 which]] w fun e w' => e = .returned (.bool (true)) ∧ Ext w w' := by
  obtain ⟨w1, hw1⟩ : ∃ x, x = w.alloc (.cells #[.int .i64 num, .int .i64 14, sv dn, sv pass, .int .i64 scope, .int .i64 limit, .int .i64 fk, sv ft, sv fv, .slice Y1 Y2 Y3, .slice Z1 Z2 Z3, .slice W1 W2 W3, .slice M1 M2 M3, .slice A1 A2 A3, sv rdn, .bool keep, .bool above, sv up, sv avt, sv avv, .int .i64 which] 32) := ⟨_, rfl⟩
  obtain ⟨p, hp⟩ : ∃ p, p = w.heap.size := ⟨_, rfl⟩
  have x1 : Ext w w1 := by rw [hw1]; exact (Mod.refl _ w).alloc _
  have BP : Blk w1 p 32 #[.int .i64 num, .int .i64 14, sv dn, sv pass, .int .i64 scope, .int .i64 limit, .int .i64 fk, sv ft, sv fv, .slice Y1 Y2 Y3, .slice Z1 Z2 Z3, .slice W1 W2 W3, .slice M1 M2 M3, .slice A1 A2 A3, sv rdn, .bool keep, .bool above, sv up, sv avt, sv avv, .int .i64 which] := by rw [hw1, hp]; exact Blk.new w _ _
  have p1 : w1.cell? ⟨p, 1, none⟩ = some (.int .i64 14) := BP.cell 1
  replace hw1 := Lib.hid hw1
  replace hp := Lib.hid hp
  clear BP
  go_enter Tryz.func76, Tryz.ntmps76
  go_upto_region 1 with fail
  rw [← hw1.out, ← hp.out]
  clear hw1 hp
  go_wp2_with fail
  go_ret
  exact ⟨rfl, x1⟩
set_option maxHeartbeats 16000000 in
theorem fits16_any {w : World} {num scope limit fk which : Int} {dn pass ft fv rdn up avt avv : List UInt8} {keep above : Bool} {Y1 Z1 W1 M1 A1 : Option Addr} {Y2 Y3 Z2 Z3 W2 W3 M2 M3 A2 A3 : Nat} : Calls Tryz.prog 76 #[.agg #[.int .i64 num, .int .i64 16, sv dn, sv pass, .int .i64 scope, .int .i64 limit, .int .i64 fk, sv ft, sv fv, .slice Y1 Y2 Y3, .slice Z1 Z2 Z3, .slice W1 W2 W3, .slice M1 M2 M3, .slice A1 A2 A3, sv rdn, .bool keep, .bool above, sv up, sv avt, sv avv, .int .i64 which]] w fun e w' => e = .returned (.bool (numQ which)) ∧ Ext w w' := by
  obtain ⟨w1, hw1⟩ : ∃ x, x = w.alloc (.cells #[.int .i64 num, .int .i64 16, sv dn, sv pass, .int .i64 scope, .int .i64 limit, .int .i64 fk, sv ft, sv fv, .slice Y1 Y2 Y3, .slice Z1 Z2 Z3, .slice W1 W2 W3, .slice M1 M2 M3, .slice A1 A2 A3, sv rdn, .bool keep, .bool above, sv up, sv avt, sv avv, .int .i64 which] 32) := ⟨_, rfl⟩
  obtain ⟨p, hp⟩ : ∃ p, p = w.heap.size := ⟨_, rfl⟩
  have x1 : Ext w w1 := by rw [hw1]; exact (Mod.refl _ w).alloc _
  have BP : Blk w1 p 32 #[.int .i64 num, .int .i64 16, sv dn, sv pass, .int .i64 scope, .int .i64 limit, .int .i64 fk, sv ft, sv fv, .slice Y1 Y2 Y3, .slice Z1 Z2 Z3, .slice W1 W2 W3, .slice M1 M2 M3, .slice A1 A2 A3, sv rdn, .bool keep, .bool above, sv up, sv avt, sv avv, .int .i64 which] := by rw [hw1, hp]; exact Blk.new w _ _
  have p1 : w1.cell? ⟨p, 1, none⟩ = some (.int .i64 16) := BP.cell 1
  have p20 : w1.cell? ⟨p, 20, none⟩ = some (.int .i64 which) := BP.cell 20
  replace hw1 := Lib.hid hw1
  replace hp := Lib.hid hp
  clear BP
  have hN2 := isNum_any (w := w1) which
  obtain ⟨T, hT⟩ : ∃ T, T = numQ which := ⟨_, rfl⟩
  rw [← hT]
  rw [show decide (0 ≤ which ∧ which ≤ 2147483647) = T from hT.symm] at hN2
  clear hT
  replace hN2 := Lib.hid hN2
  go_enter Tryz.func76, Tryz.ntmps76
  go_upto_region 1 with fail
  rw [← hw1.out, ← hp.out]
  clear hw1 hp
  go_wp2_with fail
  refine hN2.out.mono ?_
  rintro e w2 ⟨rfl, rfl⟩
  go_wp2_with fail
  go_ret
  exact ⟨rfl, x1⟩
set_option maxHeartbeats 16000000 in
theorem fits12_any {w : World} {num scope limit fk which : Int} {dn pass ft fv rdn up avt avv : List UInt8} {keep above : Bool} {Y1 Z1 W1 M1 A1 : Option Addr} {Y2 Y3 Z2 Z3 W2 W3 M2 M3 A2 A3 : Nat} : Calls Tryz.prog 76 #[.agg #[.int .i64 num, .int .i64 12, sv dn, sv pass, .int .i64 scope, .int .i64 limit, .int .i64 fk, sv ft, sv fv, .slice Y1 Y2 Y3, .slice Z1 Z2 Z3, .slice W1 W2 W3, .slice M1 M2 M3, .slice A1 A2 A3, sv rdn, .bool keep, .bool above, sv up, sv avt, sv avv, .int .i64 which]] w fun e w' => e = .returned (.bool (above || decide (up = []))) ∧ Ext w w' := by
  obtain ⟨w1, hw1⟩ : ∃ x, x = w.alloc (.cells #[.int .i64 num, .int .i64 12, sv dn, sv pass, .int .i64 scope, .int .i64 limit, .int .i64 fk, sv ft, sv fv, .slice Y1 Y2 Y3, .slice Z1 Z2 Z3, .slice W1 W2 W3, .slice M1 M2 M3, .slice A1 A2 A3, sv rdn, .bool keep, .bool above, sv up, sv avt, sv avv, .int .i64 which] 32) := ⟨_, rfl⟩
  obtain ⟨p, hp⟩ : ∃ p, p = w.heap.size := ⟨_, rfl⟩
  have x1 : Ext w w1 := by rw [hw1]; exact (Mod.refl _ w).alloc _
  have BP : Blk w1 p 32 #[.int .i64 num, .int .i64 12, sv dn, sv pass, .int .i64 scope, .int .i64 limit, .int .i64 fk, sv ft, sv fv, .slice Y1 Y2 Y3, .slice Z1 Z2 Z3, .slice W1 W2 W3, .slice M1 M2 M3, .slice A1 A2 A3, sv rdn, .bool keep, .bool above, sv up, sv avt, sv avv, .int .i64 which] := by rw [hw1, hp]; exact Blk.new w _ _
  have p1 : w1.cell? ⟨p, 1, none⟩ = some (.int .i64 12) := BP.cell 1
  have p16 : w1.cell? ⟨p, 16, none⟩ = some (.bool above) := BP.cell 16
  have p17 : w1.cell? ⟨p, 17, none⟩ = some (sv up) := BP.cell 17
  replace hw1 := Lib.hid hw1
  replace hp := Lib.hid hp
  clear BP
  cases above
  rotate_left
  · go_enter Tryz.func76, Tryz.ntmps76
    go_upto_region 1 with fail
    rw [← hw1.out, ← hp.out]
    clear hw1 hp
    go_wp2_with fail
    go_ret
    exact ⟨rfl, x1⟩
  by_cases hu : up = []
  · subst hu
    go_enter Tryz.func76, Tryz.ntmps76
    go_upto_region 1 with fail
    rw [← hw1.out, ← hp.out]
    clear hw1 hp
    go_wp2_with fail
    go_ret
    exact ⟨rfl, x1⟩
  · have h1 : up.isEmpty = false := by cases up <;> first | exact absurd rfl hu | rfl
    have h3 : (up == []) = false := by cases up <;> first | exact absurd rfl hu | rfl
    rw [dfalse hu]
    clear hu
    go_enter Tryz.func76, Tryz.ntmps76
    go_upto_region 1 with fail
    rw [← hw1.out, ← hp.out]
    clear hw1 hp
    go_wp2_with fail
    go_ret
    exact ⟨rfl, x1⟩
set_option maxHeartbeats 16000000 in
theorem fits3_any {w : World} {num scope limit which : Int} {dn pass rdn up avt avv : List UInt8} {keep above : Bool} {Y1 Z1 W1 M1 A1 : Option Addr} {Y2 Y3 Z2 Z3 W2 W3 M2 M3 A2 A3 : Nat} {n : Nat} {F : Fi} (h : FilN n w F (.slice Y1 Y2 Y3) (.slice Z1 Z2 Z3)) : Calls Tryz.prog 76 #[.agg #[.int .i64 num, .int .i64 3, sv dn, sv pass, .int .i64 scope, .int .i64 limit, .int .i64 F.kind, sv F.typ, sv F.val, .slice Y1 Y2 Y3, .slice Z1 Z2 Z3, .slice W1 W2 W3, .slice M1 M2 M3, .slice A1 A2 A3, sv rdn, .bool keep, .bool above, sv up, sv avt, sv avv, .int .i64 which]] w fun e w' => e = .returned (.bool (decide (0 ≤ scope) && (decide (scope ≤ 2) && (numQ limit && (isN n F && decide (W2 ≤ 64)))))) ∧ Ext w w' := by
  obtain ⟨w1, hw1⟩ : ∃ x, x = w.alloc (.cells #[.int .i64 num, .int .i64 3, sv dn, sv pass, .int .i64 scope, .int .i64 limit, .int .i64 F.kind, sv F.typ, sv F.val, .slice Y1 Y2 Y3, .slice Z1 Z2 Z3, .slice W1 W2 W3, .slice M1 M2 M3, .slice A1 A2 A3, sv rdn, .bool keep, .bool above, sv up, sv avt, sv avv, .int .i64 which] 32) := ⟨_, rfl⟩
  obtain ⟨p, hp⟩ : ∃ p, p = w.heap.size := ⟨_, rfl⟩
  have x1 : Ext w w1 := by rw [hw1]; exact (Mod.refl _ w).alloc _
  have BP : Blk w1 p 32 #[.int .i64 num, .int .i64 3, sv dn, sv pass, .int .i64 scope, .int .i64 limit, .int .i64 F.kind, sv F.typ, sv F.val, .slice Y1 Y2 Y3, .slice Z1 Z2 Z3, .slice W1 W2 W3, .slice M1 M2 M3, .slice A1 A2 A3, sv rdn, .bool keep, .bool above, sv up, sv avt, sv avv, .int .i64 which] := by rw [hw1, hp]; exact Blk.new w _ _
  have p1 : w1.cell? ⟨p, 1, none⟩ = some (.int .i64 3) := BP.cell 1
  have p4 : w1.cell? ⟨p, 4, none⟩ = some (.int .i64 scope) := BP.cell 4
  have p5 : w1.cell? ⟨p, 5, none⟩ = some (.int .i64 limit) := BP.cell 5
  have p6 : w1.cell? ⟨p, 6, none⟩ = some (.int .i64 F.kind) := BP.cell 6
  have p7 : w1.cell? ⟨p, 7, none⟩ = some (sv F.typ) := BP.cell 7
  have p8 : w1.cell? ⟨p, 8, none⟩ = some (sv F.val) := BP.cell 8
  have p9 : w1.cell? ⟨p, 9, none⟩ = some (.slice Y1 Y2 Y3) := BP.cell 9
  have p10 : w1.cell? ⟨p, 10, none⟩ = some (.slice Z1 Z2 Z3) := BP.cell 10
  have p11 : w1.cell? ⟨p, 11, none⟩ = some (.slice W1 W2 W3) := BP.cell 11
  replace hw1 := Lib.hid hw1
  replace hp := Lib.hid hp
  have hc11 : ∀ {wx : World}, Ext w1 wx → wx.cell? ⟨p, 11, none⟩ = some (.slice W1 W2 W3) := fun x => (BP.mod x (fun h => h)).cell 11
  have hI := Lib.hid (IsF_any (h.ext x1))
  obtain ⟨I, hIe⟩ : ∃ I, I = isN n F := ⟨_, rfl⟩
  rw [← hIe] at hI ⊢
  clear hIe BP h
  generalize F.kind = fk at *
  generalize F.typ = ft at *
  generalize F.val = fv at *
  by_cases h0 : 0 ≤ scope
  rotate_left
  · have b0 : decide (scope ≥ 0) = false := dfalse h0
    have b0' : decide (0 ≤ scope) = false := dfalse h0
    rw [b0']
    clear hI hc11
    go_enter Tryz.func76, Tryz.ntmps76
    go_upto_region 1 with fail
    rw [← hw1.out, ← hp.out]
    clear hw1 hp
    go_wp2_with fail
    go_ret
    exact ⟨rfl, x1⟩
  have b0 : decide (scope ≥ 0) = true := dtrue h0
  have b0' : decide (0 ≤ scope) = true := dtrue h0
  by_cases h1 : scope ≤ 2
  rotate_left
  · have b1 : decide (scope ≤ 2) = false := dfalse h1
    rw [b1, b0']
    clear hI hc11
    go_enter Tryz.func76, Tryz.ntmps76
    go_upto_region 1 with fail
    rw [← hw1.out, ← hp.out]
    clear hw1 hp
    go_wp2_with fail
    go_ret
    exact ⟨rfl, x1⟩
  have b1 : decide (scope ≤ 2) = true := dtrue h1
  rw [b1, b0']
  clear h0 h1
  have hN2 := isNum_any (w := w1) limit
  obtain ⟨T, hT⟩ : ∃ T, T = numQ limit := ⟨_, rfl⟩
  rw [← hT]
  rw [show decide (0 ≤ limit ∧ limit ≤ 2147483647) = T from hT.symm] at hN2
  clear hT
  replace hN2 := Lib.hid hN2
  cases T
  · clear hI hc11
    go_enter Tryz.func76, Tryz.ntmps76
    go_upto_region 1 with fail
    rw [← hw1.out, ← hp.out]
    clear hw1 hp
    go_wp2_with fail
    refine hN2.out.mono ?_
    rintro e w2 ⟨rfl, rfl⟩
    go_wp2_with fail
    go_ret
    exact ⟨rfl, x1⟩
  cases I
  · clear hc11
    go_enter Tryz.func76, Tryz.ntmps76
    go_upto_region 1 with fail
    rw [← hw1.out, ← hp.out]
    clear hw1 hp
    go_wp2_with fail
    refine hN2.out.mono ?_
    rintro e w2 ⟨rfl, rfl⟩
    clear hN2
    go_wp2_with fail
    refine hI.out.mono ?_
    rintro e w3 ⟨rfl, x3⟩
    clear hI p1 p4 p5 p6 p7 p8 p9 p10 p11
    go_wp2_with fail
    go_ret
    exact ⟨rfl, ext_trans x1 x3⟩
  by_cases h2 : W2 ≤ 64
  · have b2 : decide ((W2 : Int) ≤ 64) = true := dtrue (by omega)
    have b2' : decide (W2 ≤ 64) = true := dtrue (by omega)
    rw [b2']
    clear h2
    go_enter Tryz.func76, Tryz.ntmps76
    go_upto_region 1 with fail
    rw [← hw1.out, ← hp.out]
    clear hw1 hp
    go_wp2_with fail
    refine hN2.out.mono ?_
    rintro e w2 ⟨rfl, rfl⟩
    clear hN2
    go_wp2_with fail
    refine hI.out.mono ?_
    rintro e w3 ⟨rfl, x3⟩
    have q11 := hc11 x3
    clear hI hc11 p1 p4 p5 p6 p7 p8 p9 p10 p11
    have x4 := ext_trans x1 x3
    clear x1 x3
    go_wp2_with fail
    go_ret
    exact ⟨rfl, x4⟩
  · have b2 : decide ((W2 : Int) ≤ 64) = false := dfalse (by omega)
    have b2' : decide (W2 ≤ 64) = false := dfalse (by omega)
    rw [b2']
    clear h2
    go_enter Tryz.func76, Tryz.ntmps76
    go_upto_region 1 with fail
    rw [← hw1.out, ← hp.out]
    clear hw1 hp
    go_wp2_with fail
    refine hN2.out.mono ?_
    rintro e w2 ⟨rfl, rfl⟩
    clear hN2
    go_wp2_with fail
    refine hI.out.mono ?_
    rintro e w3 ⟨rfl, x3⟩
    have q11 := hc11 x3
    clear hI hc11 p1 p4 p5 p6 p7 p8 p9 p10 p11
    have x4 := ext_trans x1 x3
    clear x1 x3
    go_wp2_with fail
    go_ret
    exact ⟨rfl, x4⟩
set_option maxHeartbeats 16000000 in
theorem fits6_any {w : World} {num scope limit fk which : Int} {dn pass ft fv rdn up avt avv : List UInt8} {keep above : Bool} {Y1 Z1 W1 M1 A1 : Option Addr} {Y2 Y3 Z2 Z3 W2 W3 M2 M3 A2 A3 : Nat} {K : List Md} (h : Mds w (.slice M1 M2 M3) K) : Calls Tryz.prog 76 #[.agg #[.int .i64 num, .int .i64 6, sv dn, sv pass, .int .i64 scope, .int .i64 limit, .int .i64 fk, sv ft, sv fv, .slice Y1 Y2 Y3, .slice Z1 Z2 Z3, .slice W1 W2 W3, .slice M1 M2 M3, .slice A1 A2 A3, sv rdn, .bool keep, .bool above, sv up, sv avt, sv avv, .int .i64 which]] w fun e w' => e = .returned (.bool (decide (M2 ≤ 64) && K.all mdQ)) ∧ Ext w w' := by
  obtain ⟨w1, hw1⟩ : ∃ x, x = w.alloc (.cells #[.int .i64 num, .int .i64 6, sv dn, sv pass, .int .i64 scope, .int .i64 limit, .int .i64 fk, sv ft, sv fv, .slice Y1 Y2 Y3, .slice Z1 Z2 Z3, .slice W1 W2 W3, .slice M1 M2 M3, .slice A1 A2 A3, sv rdn, .bool keep, .bool above, sv up, sv avt, sv avv, .int .i64 which] 32) := ⟨_, rfl⟩
  obtain ⟨p, hp⟩ : ∃ p, p = w.heap.size := ⟨_, rfl⟩
  have x1 : Ext w w1 := by rw [hw1]; exact (Mod.refl _ w).alloc _
  have BP : Blk w1 p 32 #[.int .i64 num, .int .i64 6, sv dn, sv pass, .int .i64 scope, .int .i64 limit, .int .i64 fk, sv ft, sv fv, .slice Y1 Y2 Y3, .slice Z1 Z2 Z3, .slice W1 W2 W3, .slice M1 M2 M3, .slice A1 A2 A3, sv rdn, .bool keep, .bool above, sv up, sv avt, sv avv, .int .i64 which] := by rw [hw1, hp]; exact Blk.new w _ _
  have p1 : w1.cell? ⟨p, 1, none⟩ = some (.int .i64 6) := BP.cell 1
  have p12 : w1.cell? ⟨p, 12, none⟩ = some (.slice M1 M2 M3) := BP.cell 12
  replace hw1 := Lib.hid hw1
  replace hp := Lib.hid hp
  have hI := Lib.hid (hasMd_any (h.ext x1))
  obtain ⟨I, hIe⟩ : ∃ I, I = K.all mdQ := ⟨_, rfl⟩
  rw [← hIe] at hI ⊢
  clear hIe BP h
  by_cases h2 : M2 ≤ 64
  · have b2 : decide ((M2 : Int) ≤ 64) = true := dtrue (by omega)
    have b2' : decide (M2 ≤ 64) = true := dtrue (by omega)
    rw [b2']
    clear h2
    go_enter Tryz.func76, Tryz.ntmps76
    go_upto_region 1 with fail
    rw [← hw1.out, ← hp.out]
    clear hw1 hp
    go_wp2_with fail
    refine hI.out.mono ?_
    rintro e w2 ⟨rfl, x2⟩
    go_wp2_with fail
    go_ret
    exact ⟨by simp, ext_trans x1 x2⟩
  · have b2 : decide ((M2 : Int) ≤ 64) = false := dfalse (by omega)
    have b2' : decide (M2 ≤ 64) = false := dfalse (by omega)
    rw [b2']
    clear h2 hI
    go_enter Tryz.func76, Tryz.ntmps76
    go_upto_region 1 with fail
    rw [← hw1.out, ← hp.out]
    clear hw1 hp
    go_wp2_with fail
    go_ret
    exact ⟨rfl, x1⟩
set_option maxHeartbeats 16000000 in
theorem fits8_any {w : World} {num scope limit fk which : Int} {dn pass ft fv rdn up avt avv : List UInt8} {keep above : Bool} {Y1 Z1 W1 M1 A1 : Option Addr} {Y2 Y3 Z2 Z3 W2 W3 M2 M3 A2 A3 : Nat} {K : List Att} (h : Ats w (.slice A1 A2 A3) K) : Calls Tryz.prog 76 #[.agg #[.int .i64 num, .int .i64 8, sv dn, sv pass, .int .i64 scope, .int .i64 limit, .int .i64 fk, sv ft, sv fv, .slice Y1 Y2 Y3, .slice Z1 Z2 Z3, .slice W1 W2 W3, .slice M1 M2 M3, .slice A1 A2 A3, sv rdn, .bool keep, .bool above, sv up, sv avt, sv avv, .int .i64 which]] w fun e w' => e = .returned (.bool (decide (A2 ≤ 64) && K.all atQ)) ∧ Ext w w' := by
  obtain ⟨w1, hw1⟩ : ∃ x, x = w.alloc (.cells #[.int .i64 num, .int .i64 8, sv dn, sv pass, .int .i64 scope, .int .i64 limit, .int .i64 fk, sv ft, sv fv, .slice Y1 Y2 Y3, .slice Z1 Z2 Z3, .slice W1 W2 W3, .slice M1 M2 M3, .slice A1 A2 A3, sv rdn, .bool keep, .bool above, sv up, sv avt, sv avv, .int .i64 which] 32) := ⟨_, rfl⟩
  obtain ⟨p, hp⟩ : ∃ p, p = w.heap.size := ⟨_, rfl⟩
  have x1 : Ext w w1 := by rw [hw1]; exact (Mod.refl _ w).alloc _
  have BP : Blk w1 p 32 #[.int .i64 num, .int .i64 8, sv dn, sv pass, .int .i64 scope, .int .i64 limit, .int .i64 fk, sv ft, sv fv, .slice Y1 Y2 Y3, .slice Z1 Z2 Z3, .slice W1 W2 W3, .slice M1 M2 M3, .slice A1 A2 A3, sv rdn, .bool keep, .bool above, sv up, sv avt, sv avv, .int .i64 which] := by rw [hw1, hp]; exact Blk.new w _ _
  have p1 : w1.cell? ⟨p, 1, none⟩ = some (.int .i64 8) := BP.cell 1
  have p13 : w1.cell? ⟨p, 13, none⟩ = some (.slice A1 A2 A3) := BP.cell 13
  replace hw1 := Lib.hid hw1
  replace hp := Lib.hid hp
  have hI := Lib.hid (hasAt_any (h.ext x1))
  obtain ⟨I, hIe⟩ : ∃ I, I = K.all atQ := ⟨_, rfl⟩
  rw [← hIe] at hI ⊢
  clear hIe BP h
  by_cases h2 : A2 ≤ 64
  · have b2 : decide ((A2 : Int) ≤ 64) = true := dtrue (by omega)
    have b2' : decide (A2 ≤ 64) = true := dtrue (by omega)
    rw [b2']
    clear h2
    go_enter Tryz.func76, Tryz.ntmps76
    go_upto_region 1 with fail
    rw [← hw1.out, ← hp.out]
    clear hw1 hp
    go_wp2_with fail
    refine hI.out.mono ?_
    rintro e w2 ⟨rfl, x2⟩
    go_wp2_with fail
    go_ret
    exact ⟨by simp, ext_trans x1 x2⟩
  · have b2 : decide ((A2 : Int) ≤ 64) = false := dfalse (by omega)
    have b2' : decide (A2 ≤ 64) = false := dfalse (by omega)
    rw [b2']
    clear h2 hI
    go_enter Tryz.func76, Tryz.ntmps76
    go_upto_region 1 with fail
    rw [← hw1.out, ← hp.out]
    clear hw1 hp
    go_wp2_with fail
    go_ret
    exact ⟨rfl, x1⟩
set_option maxHeartbeats 16000000 in
theorem fitsno_any {w : World} {num scope limit fk which : Int} {dn pass ft fv rdn up avt avv : List UInt8} {keep above : Bool} {Y1 Z1 W1 M1 A1 : Option Addr} {Y2 Y3 Z2 Z3 W2 W3 M2 M3 A2 A3 : Nat} {kd : Int} (h0 : kd ≠ 0) (h2 : kd ≠ 2) (h3 : kd ≠ 3) (h6 : kd ≠ 6) (h8 : kd ≠ 8) (h10 : kd ≠ 10) (h12 : kd ≠ 12) (h14 : kd ≠ 14) (h16 : kd ≠ 16) : Calls Tryz.prog 76 #[.agg #[.int .i64 num, .int .i64 kd, sv dn, sv pass, .int .i64 scope, .int .i64 limit, .int .i64 fk, sv ft, sv fv, .slice Y1 Y2 Y3, .slice Z1 Z2 Z3, .slice W1 W2 W3, .slice M1 M2 M3, .slice A1 A2 A3, sv rdn, .bool keep, .bool above, sv up, sv avt, sv avv, .int .i64 which]] w fun e w' => e = .returned (.bool (false)) ∧ Ext w w' := by
  obtain ⟨w1, hw1⟩ : ∃ x, x = w.alloc (.cells #[.int .i64 num, .int .i64 kd, sv dn, sv pass, .int .i64 scope, .int .i64 limit, .int .i64 fk, sv ft, sv fv, .slice Y1 Y2 Y3, .slice Z1 Z2 Z3, .slice W1 W2 W3, .slice M1 M2 M3, .slice A1 A2 A3, sv rdn, .bool keep, .bool above, sv up, sv avt, sv avv, .int .i64 which] 32) := ⟨_, rfl⟩
  obtain ⟨p, hp⟩ : ∃ p, p = w.heap.size := ⟨_, rfl⟩
  have x1 : Ext w w1 := by rw [hw1]; exact (Mod.refl _ w).alloc _
  have BP : Blk w1 p 32 #[.int .i64 num, .int .i64 kd, sv dn, sv pass, .int .i64 scope, .int .i64 limit, .int .i64 fk, sv ft, sv fv, .slice Y1 Y2 Y3, .slice Z1 Z2 Z3, .slice W1 W2 W3, .slice M1 M2 M3, .slice A1 A2 A3, sv rdn, .bool keep, .bool above, sv up, sv avt, sv avv, .int .i64 which] := by rw [hw1, hp]; exact Blk.new w _ _
  have p1 : w1.cell? ⟨p, 1, none⟩ = some (.int .i64 kd) := BP.cell 1
  replace hw1 := Lib.hid hw1
  replace hp := Lib.hid hp
  clear BP
  have b0 : (kd == 0) = false := beq_eq_false_iff_ne.2 h0
  have b2 : (kd == 2) = false := beq_eq_false_iff_ne.2 h2
  have b3 : (kd == 3) = false := beq_eq_false_iff_ne.2 h3
  have b6 : (kd == 6) = false := beq_eq_false_iff_ne.2 h6
  have b8 : (kd == 8) = false := beq_eq_false_iff_ne.2 h8
  have b10 : (kd == 10) = false := beq_eq_false_iff_ne.2 h10
  have b12 : (kd == 12) = false := beq_eq_false_iff_ne.2 h12
  have b14 : (kd == 14) = false := beq_eq_false_iff_ne.2 h14
  have b16 : (kd == 16) = false := beq_eq_false_iff_ne.2 h16
  clear h0 h2 h3 h6 h8 h10 h12 h14 h16
  go_enter Tryz.func76, Tryz.ntmps76
  go_upto_region 1 with fail
  rw [← hw1.out, ← hp.out]
  clear hw1 hp
  go_wp2_with fail
  go_ret
  exact ⟨rfl, x1⟩
end Go.Proofs.YtoockogceobfgaaGreat
