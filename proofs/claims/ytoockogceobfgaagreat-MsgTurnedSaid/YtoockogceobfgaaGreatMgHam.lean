/- msg: the document's blank of a search. -/
import Derived.Test.YtoockogceobfgaaGreatMfCm
import Derived.Deep.RegionHeld3
import Derived.Test.YtoockogceobfgaaGreatMgStm
import Derived.Test.YtoockogceobfgaaGreatMgWm
import Derived.Test.YtoockogceobfgaaGreatMgZa
import Derived.Laws.BitsLemmas
namespace Go.Proofs.YtoockogceobfgaaGreat
open Go.RowKit
set_option maxRecDepth 100000

set_option maxHeartbeats 16000000 in
theorem blank3_any {w : World} {num scope limit fk which : Int} {dn pass ft fv rdn up avt avv : List UInt8} {keep above : Bool} {Y1 Z1 W1 M1 A1 : Option Addr} {Y2 Y3 Z2 Z3 W2 W3 M2 M3 A2 A3 : Nat} : Calls Tryz.prog 45 #[.agg #[.int .i64 num, .int .i64 3, sv dn, sv pass, .int .i64 scope, .int .i64 limit, .int .i64 fk, sv ft, sv fv, .slice Y1 Y2 Y3, .slice Z1 Z2 Z3, .slice W1 W2 W3, .slice M1 M2 M3, .slice A1 A2 A3, sv rdn, .bool keep, .bool above, sv up, sv avt, sv avv, .int .i64 which]] w fun e w' => e = .returned (.agg #[.int .i64 num, .int .i64 3, sv dn, .string ⟨#[]⟩, .int .i64 scope, .int .i64 limit, .int .i64 fk, sv ft, sv fv, .slice Y1 Y2 Y3, .slice Z1 Z2 Z3, .slice W1 W2 W3, .slice none 0 0, .slice none 0 0, .string ⟨#[]⟩, .bool false, .bool false, .string ⟨#[]⟩, .string ⟨#[]⟩, .string ⟨#[]⟩, .int .i64 0]) ∧ Ext w w' := by
  obtain ⟨x2a, x2b, x2⟩ := Blk.twoN w #[.int .i64 num, .int .i64 3, sv dn, sv pass, .int .i64 scope, .int .i64 limit, .int .i64 fk, sv ft, sv fv, .slice Y1 Y2 Y3, .slice Z1 Z2 Z3, .slice W1 W2 W3, .slice M1 M2 M3, .slice A1 A2 A3, sv rdn, .bool keep, .bool above, sv up, sv avt, sv avv, .int .i64 which] #[.int .i64 0, .int .i64 0, .string ⟨#[]⟩, .string ⟨#[]⟩, .int .i64 0, .int .i64 0, .int .i64 0, .string ⟨#[]⟩, .string ⟨#[]⟩, .slice none 0 0, .slice none 0 0, .slice none 0 0, .slice none 0 0, .slice none 0 0, .string ⟨#[]⟩, .bool false, .bool false, .string ⟨#[]⟩, .string ⟨#[]⟩, .string ⟨#[]⟩, .int .i64 0] 32 32
  obtain ⟨w2, hw2⟩ : ∃ x, x = (w.alloc (.cells #[.int .i64 num, .int .i64 3, sv dn, sv pass, .int .i64 scope, .int .i64 limit, .int .i64 fk, sv ft, sv fv, .slice Y1 Y2 Y3, .slice Z1 Z2 Z3, .slice W1 W2 W3, .slice M1 M2 M3, .slice A1 A2 A3, sv rdn, .bool keep, .bool above, sv up, sv avt, sv avv, .int .i64 which] 32)).alloc (.cells #[.int .i64 0, .int .i64 0, .string ⟨#[]⟩, .string ⟨#[]⟩, .int .i64 0, .int .i64 0, .int .i64 0, .string ⟨#[]⟩, .string ⟨#[]⟩, .slice none 0 0, .slice none 0 0, .slice none 0 0, .slice none 0 0, .slice none 0 0, .string ⟨#[]⟩, .bool false, .bool false, .string ⟨#[]⟩, .string ⟨#[]⟩, .string ⟨#[]⟩, .int .i64 0] 32) := ⟨_, rfl⟩
  rw [← hw2] at x2a x2b x2
  obtain ⟨q, hq⟩ : ∃ q, q = w.heap.size + 1 := ⟨_, rfl⟩
  have hqw : w.heap.size ≤ q := by omega
  rw [← hq] at x2b
  have B3a : Blk (w2.alloc (.cells #[.int .i64 0, .int .i64 0, .string ⟨#[]⟩, .string ⟨#[]⟩, .int .i64 0, .int .i64 0, .int .i64 0, .string ⟨#[]⟩, .string ⟨#[]⟩, .slice none 0 0, .slice none 0 0, .slice none 0 0, .slice none 0 0, .slice none 0 0, .string ⟨#[]⟩, .bool false, .bool false, .string ⟨#[]⟩, .string ⟨#[]⟩, .string ⟨#[]⟩, .int .i64 0] 32)) w2.heap.size 32 #[.int .i64 0, .int .i64 0, .string ⟨#[]⟩, .string ⟨#[]⟩, .int .i64 0, .int .i64 0, .int .i64 0, .string ⟨#[]⟩, .string ⟨#[]⟩, .slice none 0 0, .slice none 0 0, .slice none 0 0, .slice none 0 0, .slice none 0 0, .string ⟨#[]⟩, .bool false, .bool false, .string ⟨#[]⟩, .string ⟨#[]⟩, .string ⟨#[]⟩, .int .i64 0] := Blk.new w2 _ _
  obtain ⟨w3, hw3⟩ : ∃ x, x = (w2.alloc (.cells #[.int .i64 0, .int .i64 0, .string ⟨#[]⟩, .string ⟨#[]⟩, .int .i64 0, .int .i64 0, .int .i64 0, .string ⟨#[]⟩, .string ⟨#[]⟩, .slice none 0 0, .slice none 0 0, .slice none 0 0, .slice none 0 0, .slice none 0 0, .string ⟨#[]⟩, .bool false, .bool false, .string ⟨#[]⟩, .string ⟨#[]⟩, .string ⟨#[]⟩, .int .i64 0] 32)).setRow w2.heap.size #[.int .i64 num, .int .i64 3, .string ⟨#[]⟩, .string ⟨#[]⟩, .int .i64 0, .int .i64 0, .int .i64 0, .string ⟨#[]⟩, .string ⟨#[]⟩, .slice none 0 0, .slice none 0 0, .slice none 0 0, .slice none 0 0, .slice none 0 0, .string ⟨#[]⟩, .bool false, .bool false, .string ⟨#[]⟩, .string ⟨#[]⟩, .string ⟨#[]⟩, .int .i64 0] := ⟨_, rfl⟩
  obtain ⟨g, hg⟩ : ∃ q, q = w2.heap.size := ⟨_, rfl⟩
  have hpg : w.heap.size ≠ g := by have := x2a.lt; omega
  have hgp : g ≠ w.heap.size := fun h => hpg h.symm
  have hqg : q ≠ g := by have := x2b.lt; omega
  have hwg : w.heap.size ≤ g := by have := x2a.lt; omega
  have x3 : Ext w2 w3 := by rw [hw3]; exact ((Mod.refl _ w2).alloc _).setRow (fun h => by omega) _
  have B3 : Blk w3 g 32 #[.int .i64 num, .int .i64 3, .string ⟨#[]⟩, .string ⟨#[]⟩, .int .i64 0, .int .i64 0, .int .i64 0, .string ⟨#[]⟩, .string ⟨#[]⟩, .slice none 0 0, .slice none 0 0, .slice none 0 0, .slice none 0 0, .slice none 0 0, .string ⟨#[]⟩, .bool false, .bool false, .string ⟨#[]⟩, .string ⟨#[]⟩, .string ⟨#[]⟩, .int .i64 0] := by rw [hw3, hg]; exact B3a.setRow #[.int .i64 num, .int .i64 3, .string ⟨#[]⟩, .string ⟨#[]⟩, .int .i64 0, .int .i64 0, .int .i64 0, .string ⟨#[]⟩, .string ⟨#[]⟩, .slice none 0 0, .slice none 0 0, .slice none 0 0, .slice none 0 0, .slice none 0 0, .string ⟨#[]⟩, .bool false, .bool false, .string ⟨#[]⟩, .string ⟨#[]⟩, .string ⟨#[]⟩, .int .i64 0]
  have BR := x2b.mod x3 (fun h => h)
  have BP3 := x2a.mod x3 (fun h => h)
  have hp0 : w2.cell? ⟨w.heap.size, 0, none⟩ = some (.int .i64 num) := x2a.cell 0
  have hp1 : w2.cell? ⟨w.heap.size, 1, none⟩ = some (.int .i64 3) := x2a.cell 1
  have xx := ext_trans x2 x3
  have p31 : w3.cell? ⟨w.heap.size, 1, none⟩ = some (.int .i64 3) := BP3.cell 1
  have p32 : w3.cell? ⟨w.heap.size, 2, none⟩ = some (sv dn) := BP3.cell 2
  have g32 : w3.cell? ⟨g, 2, none⟩ = some (.string ⟨#[]⟩) := B3.cell 2
  have z32 : w3.frozen? ⟨g, 2, none⟩ = false := B3.frozen 2
  have p34 : w3.cell? ⟨w.heap.size, 4, none⟩ = some (.int .i64 scope) := BP3.cell 4
  have g34 : w3.cell? ⟨g, 4, none⟩ = some (.int .i64 0) := B3.cell 4
  have z34 : w3.frozen? ⟨g, 4, none⟩ = false := B3.frozen 4
  have p35 : w3.cell? ⟨w.heap.size, 5, none⟩ = some (.int .i64 limit) := BP3.cell 5
  have g35 : w3.cell? ⟨g, 5, none⟩ = some (.int .i64 0) := B3.cell 5
  have z35 : w3.frozen? ⟨g, 5, none⟩ = false := B3.frozen 5
  have p36 : w3.cell? ⟨w.heap.size, 6, none⟩ = some (.int .i64 fk) := BP3.cell 6
  have g36 : w3.cell? ⟨g, 6, none⟩ = some (.int .i64 0) := B3.cell 6
  have z36 : w3.frozen? ⟨g, 6, none⟩ = false := B3.frozen 6
  have p37 : w3.cell? ⟨w.heap.size, 7, none⟩ = some (sv ft) := BP3.cell 7
  have g37 : w3.cell? ⟨g, 7, none⟩ = some (.string ⟨#[]⟩) := B3.cell 7
  have z37 : w3.frozen? ⟨g, 7, none⟩ = false := B3.frozen 7
  have p38 : w3.cell? ⟨w.heap.size, 8, none⟩ = some (sv fv) := BP3.cell 8
  have g38 : w3.cell? ⟨g, 8, none⟩ = some (.string ⟨#[]⟩) := B3.cell 8
  have z38 : w3.frozen? ⟨g, 8, none⟩ = false := B3.frozen 8
  have p39 : w3.cell? ⟨w.heap.size, 9, none⟩ = some (.slice Y1 Y2 Y3) := BP3.cell 9
  have g39 : w3.cell? ⟨g, 9, none⟩ = some (.slice none 0 0) := B3.cell 9
  have z39 : w3.frozen? ⟨g, 9, none⟩ = false := B3.frozen 9
  have p310 : w3.cell? ⟨w.heap.size, 10, none⟩ = some (.slice Z1 Z2 Z3) := BP3.cell 10
  have g310 : w3.cell? ⟨g, 10, none⟩ = some (.slice none 0 0) := B3.cell 10
  have z310 : w3.frozen? ⟨g, 10, none⟩ = false := B3.frozen 10
  have p311 : w3.cell? ⟨w.heap.size, 11, none⟩ = some (.slice W1 W2 W3) := BP3.cell 11
  have g311 : w3.cell? ⟨g, 11, none⟩ = some (.slice none 0 0) := B3.cell 11
  have z311 : w3.frozen? ⟨g, 11, none⟩ = false := B3.frozen 11
  replace hw2 := Lib.hid hw2
  replace hq := Lib.hid hq
  replace hw3 := Lib.hid hw3
  replace hg := Lib.hid hg
  go_enter Tryz.func45, Tryz.ntmps45
  go_upto_region 1 with fail
  rw [← hw2.out, ← hq.out]
  go_upto_region 2 with ((with_reducible show wpList _ _ _ (⟨none, .store 32 _ _, _, _, _, _⟩ :: _) _ _); refine wpList_store_row rfl 32 (.tmp 3) (.tmp 8) rfl w2.heap.size #[.int .i64 num, .int .i64 3, .string ⟨#[]⟩, .string ⟨#[]⟩, .int .i64 0, .int .i64 0, .int .i64 0, .string ⟨#[]⟩, .string ⟨#[]⟩, .slice none 0 0, .slice none 0 0, .slice none 0 0, .slice none 0 0, .slice none 0 0, .string ⟨#[]⟩, .bool false, .bool false, .string ⟨#[]⟩, .string ⟨#[]⟩, .string ⟨#[]⟩, .int .i64 0] rfl rfl _ _ B3a size21 rfl (by simp [Value.oneCell']) ?_)
  rw [← hw3.out, ← hg.out]
  clear hw2 hq hw3 hg hp0 hp1 B3a
  go_upto_region 6 with fail
  have hS4 : w3.cell? ⟨w.heap.size, 2, none⟩ = some (sv dn) ∧ w3.cell? ⟨w.heap.size, 4, none⟩ = some (.int .i64 scope) ∧ w3.cell? ⟨w.heap.size, 5, none⟩ = some (.int .i64 limit) ∧ w3.cell? ⟨w.heap.size, 6, none⟩ = some (.int .i64 fk) ∧ w3.cell? ⟨w.heap.size, 7, none⟩ = some (sv ft) ∧ w3.cell? ⟨w.heap.size, 8, none⟩ = some (sv fv) ∧ w3.cell? ⟨w.heap.size, 9, none⟩ = some (.slice Y1 Y2 Y3) ∧ w3.cell? ⟨w.heap.size, 10, none⟩ = some (.slice Z1 Z2 Z3) ∧ w3.cell? ⟨w.heap.size, 11, none⟩ = some (.slice W1 W2 W3) := ⟨p32, p34, p35, p36, p37, p38, p39, p310, p311⟩
  have hk : ∀ (wx : World) (o : Nat) (v : Value), (wx.cell? ⟨w.heap.size, 2, none⟩ = some (sv dn) ∧ wx.cell? ⟨w.heap.size, 4, none⟩ = some (.int .i64 scope) ∧ wx.cell? ⟨w.heap.size, 5, none⟩ = some (.int .i64 limit) ∧ wx.cell? ⟨w.heap.size, 6, none⟩ = some (.int .i64 fk) ∧ wx.cell? ⟨w.heap.size, 7, none⟩ = some (sv ft) ∧ wx.cell? ⟨w.heap.size, 8, none⟩ = some (sv fv) ∧ wx.cell? ⟨w.heap.size, 9, none⟩ = some (.slice Y1 Y2 Y3) ∧ wx.cell? ⟨w.heap.size, 10, none⟩ = some (.slice Z1 Z2 Z3) ∧ wx.cell? ⟨w.heap.size, 11, none⟩ = some (.slice W1 W2 W3)) → ((wx.setCell ⟨g, o, none⟩ v).cell? ⟨w.heap.size, 2, none⟩ = some (sv dn) ∧ (wx.setCell ⟨g, o, none⟩ v).cell? ⟨w.heap.size, 4, none⟩ = some (.int .i64 scope) ∧ (wx.setCell ⟨g, o, none⟩ v).cell? ⟨w.heap.size, 5, none⟩ = some (.int .i64 limit) ∧ (wx.setCell ⟨g, o, none⟩ v).cell? ⟨w.heap.size, 6, none⟩ = some (.int .i64 fk) ∧ (wx.setCell ⟨g, o, none⟩ v).cell? ⟨w.heap.size, 7, none⟩ = some (sv ft) ∧ (wx.setCell ⟨g, o, none⟩ v).cell? ⟨w.heap.size, 8, none⟩ = some (sv fv) ∧ (wx.setCell ⟨g, o, none⟩ v).cell? ⟨w.heap.size, 9, none⟩ = some (.slice Y1 Y2 Y3) ∧ (wx.setCell ⟨g, o, none⟩ v).cell? ⟨w.heap.size, 10, none⟩ = some (.slice Z1 Z2 Z3) ∧ (wx.setCell ⟨g, o, none⟩ v).cell? ⟨w.heap.size, 11, none⟩ = some (.slice W1 W2 W3)) := fun wx o v h => by
    have e : ∀ i, (wx.setCell ⟨g, o, none⟩ v).cell? ⟨w.heap.size, i, none⟩ = wx.cell? ⟨w.heap.size, i, none⟩ := fun i => World.cell?_setCell_far wx _ _ v hgp
    simp only [e]
    exact h
  have hd : ∀ wx : World, (wx.cell? ⟨w.heap.size, 2, none⟩ = some (sv dn) ∧ wx.cell? ⟨w.heap.size, 4, none⟩ = some (.int .i64 scope) ∧ wx.cell? ⟨w.heap.size, 5, none⟩ = some (.int .i64 limit) ∧ wx.cell? ⟨w.heap.size, 6, none⟩ = some (.int .i64 fk) ∧ wx.cell? ⟨w.heap.size, 7, none⟩ = some (sv ft) ∧ wx.cell? ⟨w.heap.size, 8, none⟩ = some (sv fv) ∧ wx.cell? ⟨w.heap.size, 9, none⟩ = some (.slice Y1 Y2 Y3) ∧ wx.cell? ⟨w.heap.size, 10, none⟩ = some (.slice Z1 Z2 Z3) ∧ wx.cell? ⟨w.heap.size, 11, none⟩ = some (.slice W1 W2 W3)) → (wx.drew.cell? ⟨w.heap.size, 2, none⟩ = some (sv dn) ∧ wx.drew.cell? ⟨w.heap.size, 4, none⟩ = some (.int .i64 scope) ∧ wx.drew.cell? ⟨w.heap.size, 5, none⟩ = some (.int .i64 limit) ∧ wx.drew.cell? ⟨w.heap.size, 6, none⟩ = some (.int .i64 fk) ∧ wx.drew.cell? ⟨w.heap.size, 7, none⟩ = some (sv ft) ∧ wx.drew.cell? ⟨w.heap.size, 8, none⟩ = some (sv fv) ∧ wx.drew.cell? ⟨w.heap.size, 9, none⟩ = some (.slice Y1 Y2 Y3) ∧ wx.drew.cell? ⟨w.heap.size, 10, none⟩ = some (.slice Z1 Z2 Z3) ∧ wx.drew.cell? ⟨w.heap.size, 11, none⟩ = some (.slice W1 W2 W3)) := fun wx h => h
  have hdB : ∀ (wx : World) (g : Nat) (t : TypeId) (cs : Array Value), Blk wx g t cs → Blk wx.drew g t cs := fun wx g t cs h => h
  refine wp_region_held_drew (S := fun wx => wx.cell? ⟨w.heap.size, 2, none⟩ = some (sv dn) ∧ wx.cell? ⟨w.heap.size, 4, none⟩ = some (.int .i64 scope) ∧ wx.cell? ⟨w.heap.size, 5, none⟩ = some (.int .i64 limit) ∧ wx.cell? ⟨w.heap.size, 6, none⟩ = some (.int .i64 fk) ∧ wx.cell? ⟨w.heap.size, 7, none⟩ = some (sv ft) ∧ wx.cell? ⟨w.heap.size, 8, none⟩ = some (sv fv) ∧ wx.cell? ⟨w.heap.size, 9, none⟩ = some (.slice Y1 Y2 Y3) ∧ wx.cell? ⟨w.heap.size, 10, none⟩ = some (.slice Z1 Z2 Z3) ∧ wx.cell? ⟨w.heap.size, 11, none⟩ = some (.slice W1 W2 W3)) (by kernel_rfl) (hd _ hS4) (fun hH => ?_)
  (refine wpAnyH_take (i := 0) (oi := ⟨_, _, _, _, _, _⟩) (v := ?_) rfl (by kernel_rfl) (by kernel_rfl) (by kernel_rfl) (fun _ _ _ h => h) (Or.inl ⟨by kernel_rfl, ?_⟩) hH ?_; rotate_left; focus (intro wx hSw; (try dsimp only at hSw); go_simp; try with_reducible rfl)); try simp only [Act.put, List.setIfInBounds_toArray, List.set_cons_zero, List.set_cons_succ]; try simp only [List.getElem_toArray, List.getElem_cons_succ, List.getElem_cons_zero]
  (refine wpAnyH_take (i := 1) (oi := ⟨_, _, _, _, _, _⟩) (v := ?_) rfl (by kernel_rfl) (by kernel_rfl) (by kernel_rfl) (fun _ _ _ h => h) (Or.inl ⟨by kernel_rfl, ?_⟩) hH ?_; rotate_left; focus (intro wx hSw; (try dsimp only at hSw); go_simp; try with_reducible rfl)); try simp only [Act.put, List.setIfInBounds_toArray, List.set_cons_zero, List.set_cons_succ]; try simp only [List.getElem_toArray, List.getElem_cons_succ, List.getElem_cons_zero]
  (refine wpAnyH_take (i := 2) (oi := ⟨_, _, _, _, _, _⟩) (v := ?_) rfl (by kernel_rfl) (by kernel_rfl) (by kernel_rfl) (fun _ _ _ h => h) (Or.inl ⟨by kernel_rfl, ?_⟩) hH ?_; rotate_left; focus (intro wx hSw; (try dsimp only at hSw); go_simp; try with_reducible rfl)); try simp only [Act.put, List.setIfInBounds_toArray, List.set_cons_zero, List.set_cons_succ]; try simp only [List.getElem_toArray, List.getElem_cons_succ, List.getElem_cons_zero]
  (refine wpAnyH_take (i := 3) (oi := ⟨_, _, _, _, _, _⟩) (v := ?_) rfl (by kernel_rfl) (by kernel_rfl) (by kernel_rfl) (fun _ _ _ h => h) (Or.inl ⟨by kernel_rfl, ?_⟩) hH ?_; rotate_left; focus (intro wx hSw; (try dsimp only at hSw); go_simp; try with_reducible rfl)); try simp only [Act.put, List.setIfInBounds_toArray, List.set_cons_zero, List.set_cons_succ]; try simp only [List.getElem_toArray, List.getElem_cons_succ, List.getElem_cons_zero]
  (refine wpAnyH_take (i := 4) (oi := ⟨_, _, _, _, _, _⟩) (v := ?_) rfl (by kernel_rfl) (by kernel_rfl) (by kernel_rfl) (fun _ _ _ h => h) (Or.inl ⟨by kernel_rfl, ?_⟩) hH ?_; rotate_left; focus (intro wx hSw; (try dsimp only at hSw); go_simp; try with_reducible rfl)); try simp only [Act.put, List.setIfInBounds_toArray, List.set_cons_zero, List.set_cons_succ]; try simp only [List.getElem_toArray, List.getElem_cons_succ, List.getElem_cons_zero]
  (refine wpAnyH_take (i := 5) (oi := ⟨_, _, _, _, _, _⟩) (v := ?_) rfl (by kernel_rfl) (by kernel_rfl) (by kernel_rfl) (fun _ _ _ h => h) (Or.inl ⟨by kernel_rfl, ?_⟩) hH ?_; rotate_left; focus (intro wx hSw; (try dsimp only at hSw); go_simp; try with_reducible rfl)); try simp only [Act.put, List.setIfInBounds_toArray, List.set_cons_zero, List.set_cons_succ]; try simp only [List.getElem_toArray, List.getElem_cons_succ, List.getElem_cons_zero]
  (refine wpAnyH_take (i := 6) (oi := ⟨_, _, _, _, _, _⟩) (v := ?_) rfl (by kernel_rfl) (by kernel_rfl) (by kernel_rfl) (fun _ _ _ h => h) (Or.inl ⟨by kernel_rfl, ?_⟩) hH ?_; rotate_left; focus (intro wx hSw; (try dsimp only at hSw); go_simp; try with_reducible rfl)); try simp only [Act.put, List.setIfInBounds_toArray, List.set_cons_zero, List.set_cons_succ]; try simp only [List.getElem_toArray, List.getElem_cons_succ, List.getElem_cons_zero]
  (refine wpAnyH_take (i := 7) (oi := ⟨_, _, _, _, _, _⟩) (v := ?_) rfl (by kernel_rfl) (by kernel_rfl) (by kernel_rfl) (fun _ _ _ h => h) (Or.inl ⟨by kernel_rfl, ?_⟩) hH ?_; rotate_left; focus (intro wx hSw; (try dsimp only at hSw); go_simp; try with_reducible rfl)); try simp only [Act.put, List.setIfInBounds_toArray, List.set_cons_zero, List.set_cons_succ]; try simp only [List.getElem_toArray, List.getElem_cons_succ, List.getElem_cons_zero]
  (refine wpAnyH_take (i := 8) (oi := ⟨_, _, _, _, _, _⟩) (v := ?_) rfl (by kernel_rfl) (by kernel_rfl) (by kernel_rfl) (fun _ _ _ h => h) (Or.inl ⟨by kernel_rfl, ?_⟩) hH ?_; rotate_left; focus (intro wx hSw; (try dsimp only at hSw); go_simp; try with_reducible rfl)); try simp only [Act.put, List.setIfInBounds_toArray, List.set_cons_zero, List.set_cons_succ]; try simp only [List.getElem_toArray, List.getElem_cons_succ, List.getElem_cons_zero]
  (refine wpAnyH_take (i := 9) (oi := ⟨_, _, _, _, _, _⟩) (v := ?_) rfl (by kernel_rfl) (by kernel_rfl) (by kernel_rfl) (fun _ _ _ h => h) (Or.inl ⟨by kernel_rfl, ?_⟩) hH ?_; rotate_left; focus (intro wx hSw; (try dsimp only at hSw); go_simp; try with_reducible rfl)); try simp only [Act.put, List.setIfInBounds_toArray, List.set_cons_zero, List.set_cons_succ]; try simp only [List.getElem_toArray, List.getElem_cons_succ, List.getElem_cons_zero]
  (refine wpAnyH_take (i := 10) (oi := ⟨_, _, _, _, _, _⟩) (v := ?_) rfl (by kernel_rfl) (by kernel_rfl) (by kernel_rfl) (fun _ _ _ h => h) (Or.inl ⟨by kernel_rfl, ?_⟩) hH ?_; rotate_left; focus (intro wx hSw; (try dsimp only at hSw); go_simp; try with_reducible rfl)); try simp only [Act.put, List.setIfInBounds_toArray, List.set_cons_zero, List.set_cons_succ]; try simp only [List.getElem_toArray, List.getElem_cons_succ, List.getElem_cons_zero]
  (refine wpAnyH_ready (rs := [11]) (by kernel_rfl) (by simp) ?_; refine AllReadyH.cons rfl (fun K' hK => ?_) AllReadyH.nil); go_simp
  (refine hK.out _ _ (hd _ (hk _ 2 (sv dn) hS4)) (fun hH => ?_); clear hK K'; try simp only [Act.put, List.setIfInBounds_toArray, List.set_cons_zero, List.set_cons_succ]; try simp only [List.getElem_toArray, List.getElem_cons_succ, List.getElem_cons_zero])
  (refine wpAnyH_take (i := 12) (oi := ⟨_, _, _, _, _, _⟩) (v := ?_) rfl (by kernel_rfl) (by kernel_rfl) (by kernel_rfl) (fun _ _ _ h => h) (Or.inl ⟨by kernel_rfl, ?_⟩) hH ?_; rotate_left; focus (intro wx hSw; (try dsimp only at hSw); go_simp; try with_reducible rfl)); try simp only [Act.put, List.setIfInBounds_toArray, List.set_cons_zero, List.set_cons_succ]; try simp only [List.getElem_toArray, List.getElem_cons_succ, List.getElem_cons_zero]
  (refine wpAnyH_ready (rs := [13]) (by kernel_rfl) (by simp) ?_; refine AllReadyH.cons rfl (fun K' hK => ?_) AllReadyH.nil); go_simp
  (refine hK.out _ _ (hd _ (hk _ 4 (.int .i64 scope) (hk _ 2 (sv dn) hS4))) (fun hH => ?_); clear hK K'; try simp only [Act.put, List.setIfInBounds_toArray, List.set_cons_zero, List.set_cons_succ]; try simp only [List.getElem_toArray, List.getElem_cons_succ, List.getElem_cons_zero])
  (refine wpAnyH_take (i := 14) (oi := ⟨_, _, _, _, _, _⟩) (v := ?_) rfl (by kernel_rfl) (by kernel_rfl) (by kernel_rfl) (fun _ _ _ h => h) (Or.inl ⟨by kernel_rfl, ?_⟩) hH ?_; rotate_left; focus (intro wx hSw; (try dsimp only at hSw); go_simp; try with_reducible rfl)); try simp only [Act.put, List.setIfInBounds_toArray, List.set_cons_zero, List.set_cons_succ]; try simp only [List.getElem_toArray, List.getElem_cons_succ, List.getElem_cons_zero]
  (refine wpAnyH_ready (rs := [15]) (by kernel_rfl) (by simp) ?_; refine AllReadyH.cons rfl (fun K' hK => ?_) AllReadyH.nil); go_simp
  (refine hK.out _ _ (hd _ (hk _ 5 (.int .i64 limit) (hk _ 4 (.int .i64 scope) (hk _ 2 (sv dn) hS4)))) (fun hH => ?_); clear hK K'; try simp only [Act.put, List.setIfInBounds_toArray, List.set_cons_zero, List.set_cons_succ]; try simp only [List.getElem_toArray, List.getElem_cons_succ, List.getElem_cons_zero])
  (refine wpAnyH_take (i := 16) (oi := ⟨_, _, _, _, _, _⟩) (v := ?_) rfl (by kernel_rfl) (by kernel_rfl) (by kernel_rfl) (fun _ _ _ h => h) (Or.inl ⟨by kernel_rfl, ?_⟩) hH ?_; rotate_left; focus (intro wx hSw; (try dsimp only at hSw); go_simp; try with_reducible rfl)); try simp only [Act.put, List.setIfInBounds_toArray, List.set_cons_zero, List.set_cons_succ]; try simp only [List.getElem_toArray, List.getElem_cons_succ, List.getElem_cons_zero]
  (refine wpAnyH_ready (rs := [17]) (by kernel_rfl) (by simp) ?_; refine AllReadyH.cons rfl (fun K' hK => ?_) AllReadyH.nil); go_simp
  (refine hK.out _ _ (hd _ (hk _ 10 (.slice Z1 Z2 Z3) (hk _ 9 (.slice Y1 Y2 Y3) (hk _ 8 (sv fv) (hk _ 7 (sv ft) (hk _ 6 (.int .i64 fk) (hk _ 5 (.int .i64 limit) (hk _ 4 (.int .i64 scope) (hk _ 2 (sv dn) hS4))))))))) (fun hH => ?_); clear hK K'; try simp only [Act.put, List.setIfInBounds_toArray, List.set_cons_zero, List.set_cons_succ]; try simp only [List.getElem_toArray, List.getElem_cons_succ, List.getElem_cons_zero])
  (refine wpAnyH_take (i := 18) (oi := ⟨_, _, _, _, _, _⟩) (v := ?_) rfl (by kernel_rfl) (by kernel_rfl) (by kernel_rfl) (fun _ _ _ h => h) (Or.inl ⟨by kernel_rfl, ?_⟩) hH ?_; rotate_left; focus (intro wx hSw; (try dsimp only at hSw); go_simp; try with_reducible rfl)); try simp only [Act.put, List.setIfInBounds_toArray, List.set_cons_zero, List.set_cons_succ]; try simp only [List.getElem_toArray, List.getElem_cons_succ, List.getElem_cons_zero]
  (refine wpAnyH_ready (rs := [19]) (by kernel_rfl) (by simp) ?_; refine AllReadyH.cons rfl (fun K' hK => ?_) AllReadyH.nil); go_simp
  (refine hK.out _ _ (hd _ (hk _ 11 (.slice W1 W2 W3) (hk _ 10 (.slice Z1 Z2 Z3) (hk _ 9 (.slice Y1 Y2 Y3) (hk _ 8 (sv fv) (hk _ 7 (sv ft) (hk _ 6 (.int .i64 fk) (hk _ 5 (.int .i64 limit) (hk _ 4 (.int .i64 scope) (hk _ 2 (sv dn) hS4)))))))))) (fun hH => ?_); clear hK K'; try simp only [Act.put, List.setIfInBounds_toArray, List.set_cons_zero, List.set_cons_succ]; try simp only [List.getElem_toArray, List.getElem_cons_succ, List.getElem_cons_zero])
  refine wpAnyH_done (by kernel_rfl) ?_ _
  have b2_ : Blk (w3.setCell ⟨g, 2, none⟩ (sv dn)) g 32 #[.int .i64 num, .int .i64 3, sv dn, .string ⟨#[]⟩, .int .i64 0, .int .i64 0, .int .i64 0, .string ⟨#[]⟩, .string ⟨#[]⟩, .slice none 0 0, .slice none 0 0, .slice none 0 0, .slice none 0 0, .slice none 0 0, .string ⟨#[]⟩, .bool false, .bool false, .string ⟨#[]⟩, .string ⟨#[]⟩, .string ⟨#[]⟩, .int .i64 0] := B3.set_ 2 (sv dn)
  have b4_ : Blk ((w3.setCell ⟨g, 2, none⟩ (sv dn)).setCell ⟨g, 4, none⟩ (.int .i64 scope)) g 32 #[.int .i64 num, .int .i64 3, sv dn, .string ⟨#[]⟩, .int .i64 scope, .int .i64 0, .int .i64 0, .string ⟨#[]⟩, .string ⟨#[]⟩, .slice none 0 0, .slice none 0 0, .slice none 0 0, .slice none 0 0, .slice none 0 0, .string ⟨#[]⟩, .bool false, .bool false, .string ⟨#[]⟩, .string ⟨#[]⟩, .string ⟨#[]⟩, .int .i64 0] := b2_.set_ 4 (.int .i64 scope)
  have b5_ : Blk (((w3.setCell ⟨g, 2, none⟩ (sv dn)).setCell ⟨g, 4, none⟩ (.int .i64 scope)).setCell ⟨g, 5, none⟩ (.int .i64 limit)) g 32 #[.int .i64 num, .int .i64 3, sv dn, .string ⟨#[]⟩, .int .i64 scope, .int .i64 limit, .int .i64 0, .string ⟨#[]⟩, .string ⟨#[]⟩, .slice none 0 0, .slice none 0 0, .slice none 0 0, .slice none 0 0, .slice none 0 0, .string ⟨#[]⟩, .bool false, .bool false, .string ⟨#[]⟩, .string ⟨#[]⟩, .string ⟨#[]⟩, .int .i64 0] := b4_.set_ 5 (.int .i64 limit)
  have b6_ : Blk ((((w3.setCell ⟨g, 2, none⟩ (sv dn)).setCell ⟨g, 4, none⟩ (.int .i64 scope)).setCell ⟨g, 5, none⟩ (.int .i64 limit)).setCell ⟨g, 6, none⟩ (.int .i64 fk)) g 32 #[.int .i64 num, .int .i64 3, sv dn, .string ⟨#[]⟩, .int .i64 scope, .int .i64 limit, .int .i64 fk, .string ⟨#[]⟩, .string ⟨#[]⟩, .slice none 0 0, .slice none 0 0, .slice none 0 0, .slice none 0 0, .slice none 0 0, .string ⟨#[]⟩, .bool false, .bool false, .string ⟨#[]⟩, .string ⟨#[]⟩, .string ⟨#[]⟩, .int .i64 0] := b5_.set_ 6 (.int .i64 fk)
  have b7_ : Blk (((((w3.setCell ⟨g, 2, none⟩ (sv dn)).setCell ⟨g, 4, none⟩ (.int .i64 scope)).setCell ⟨g, 5, none⟩ (.int .i64 limit)).setCell ⟨g, 6, none⟩ (.int .i64 fk)).setCell ⟨g, 7, none⟩ (sv ft)) g 32 #[.int .i64 num, .int .i64 3, sv dn, .string ⟨#[]⟩, .int .i64 scope, .int .i64 limit, .int .i64 fk, sv ft, .string ⟨#[]⟩, .slice none 0 0, .slice none 0 0, .slice none 0 0, .slice none 0 0, .slice none 0 0, .string ⟨#[]⟩, .bool false, .bool false, .string ⟨#[]⟩, .string ⟨#[]⟩, .string ⟨#[]⟩, .int .i64 0] := b6_.set_ 7 (sv ft)
  have b8_ : Blk ((((((w3.setCell ⟨g, 2, none⟩ (sv dn)).setCell ⟨g, 4, none⟩ (.int .i64 scope)).setCell ⟨g, 5, none⟩ (.int .i64 limit)).setCell ⟨g, 6, none⟩ (.int .i64 fk)).setCell ⟨g, 7, none⟩ (sv ft)).setCell ⟨g, 8, none⟩ (sv fv)) g 32 #[.int .i64 num, .int .i64 3, sv dn, .string ⟨#[]⟩, .int .i64 scope, .int .i64 limit, .int .i64 fk, sv ft, sv fv, .slice none 0 0, .slice none 0 0, .slice none 0 0, .slice none 0 0, .slice none 0 0, .string ⟨#[]⟩, .bool false, .bool false, .string ⟨#[]⟩, .string ⟨#[]⟩, .string ⟨#[]⟩, .int .i64 0] := b7_.set_ 8 (sv fv)
  have b9_ : Blk (((((((w3.setCell ⟨g, 2, none⟩ (sv dn)).setCell ⟨g, 4, none⟩ (.int .i64 scope)).setCell ⟨g, 5, none⟩ (.int .i64 limit)).setCell ⟨g, 6, none⟩ (.int .i64 fk)).setCell ⟨g, 7, none⟩ (sv ft)).setCell ⟨g, 8, none⟩ (sv fv)).setCell ⟨g, 9, none⟩ (.slice Y1 Y2 Y3)) g 32 #[.int .i64 num, .int .i64 3, sv dn, .string ⟨#[]⟩, .int .i64 scope, .int .i64 limit, .int .i64 fk, sv ft, sv fv, .slice Y1 Y2 Y3, .slice none 0 0, .slice none 0 0, .slice none 0 0, .slice none 0 0, .string ⟨#[]⟩, .bool false, .bool false, .string ⟨#[]⟩, .string ⟨#[]⟩, .string ⟨#[]⟩, .int .i64 0] := b8_.set_ 9 (.slice Y1 Y2 Y3)
  have b10_ : Blk ((((((((w3.setCell ⟨g, 2, none⟩ (sv dn)).setCell ⟨g, 4, none⟩ (.int .i64 scope)).setCell ⟨g, 5, none⟩ (.int .i64 limit)).setCell ⟨g, 6, none⟩ (.int .i64 fk)).setCell ⟨g, 7, none⟩ (sv ft)).setCell ⟨g, 8, none⟩ (sv fv)).setCell ⟨g, 9, none⟩ (.slice Y1 Y2 Y3)).setCell ⟨g, 10, none⟩ (.slice Z1 Z2 Z3)) g 32 #[.int .i64 num, .int .i64 3, sv dn, .string ⟨#[]⟩, .int .i64 scope, .int .i64 limit, .int .i64 fk, sv ft, sv fv, .slice Y1 Y2 Y3, .slice Z1 Z2 Z3, .slice none 0 0, .slice none 0 0, .slice none 0 0, .string ⟨#[]⟩, .bool false, .bool false, .string ⟨#[]⟩, .string ⟨#[]⟩, .string ⟨#[]⟩, .int .i64 0] := b9_.set_ 10 (.slice Z1 Z2 Z3)
  have b11_ : Blk (((((((((w3.setCell ⟨g, 2, none⟩ (sv dn)).setCell ⟨g, 4, none⟩ (.int .i64 scope)).setCell ⟨g, 5, none⟩ (.int .i64 limit)).setCell ⟨g, 6, none⟩ (.int .i64 fk)).setCell ⟨g, 7, none⟩ (sv ft)).setCell ⟨g, 8, none⟩ (sv fv)).setCell ⟨g, 9, none⟩ (.slice Y1 Y2 Y3)).setCell ⟨g, 10, none⟩ (.slice Z1 Z2 Z3)).setCell ⟨g, 11, none⟩ (.slice W1 W2 W3)) g 32 #[.int .i64 num, .int .i64 3, sv dn, .string ⟨#[]⟩, .int .i64 scope, .int .i64 limit, .int .i64 fk, sv ft, sv fv, .slice Y1 Y2 Y3, .slice Z1 Z2 Z3, .slice W1 W2 W3, .slice none 0 0, .slice none 0 0, .string ⟨#[]⟩, .bool false, .bool false, .string ⟨#[]⟩, .string ⟨#[]⟩, .string ⟨#[]⟩, .int .i64 0] := b10_.set_ 11 (.slice W1 W2 W3)
  have B5 : Blk (((((((((w3.setCell ⟨g, 2, none⟩ (sv dn)).setCell ⟨g, 4, none⟩ (.int .i64 scope)).setCell ⟨g, 5, none⟩ (.int .i64 limit)).setCell ⟨g, 6, none⟩ (.int .i64 fk)).setCell ⟨g, 7, none⟩ (sv ft)).setCell ⟨g, 8, none⟩ (sv fv)).setCell ⟨g, 9, none⟩ (.slice Y1 Y2 Y3)).setCell ⟨g, 10, none⟩ (.slice Z1 Z2 Z3)).setCell ⟨g, 11, none⟩ (.slice W1 W2 W3)).drew g 32 #[.int .i64 num, .int .i64 3, sv dn, .string ⟨#[]⟩, .int .i64 scope, .int .i64 limit, .int .i64 fk, sv ft, sv fv, .slice Y1 Y2 Y3, .slice Z1 Z2 Z3, .slice W1 W2 W3, .slice none 0 0, .slice none 0 0, .string ⟨#[]⟩, .bool false, .bool false, .string ⟨#[]⟩, .string ⟨#[]⟩, .string ⟨#[]⟩, .int .i64 0] := hdB _ _ _ _ b11_
  have BR5 : Blk (((((((((w3.setCell ⟨g, 2, none⟩ (sv dn)).setCell ⟨g, 4, none⟩ (.int .i64 scope)).setCell ⟨g, 5, none⟩ (.int .i64 limit)).setCell ⟨g, 6, none⟩ (.int .i64 fk)).setCell ⟨g, 7, none⟩ (sv ft)).setCell ⟨g, 8, none⟩ (sv fv)).setCell ⟨g, 9, none⟩ (.slice Y1 Y2 Y3)).setCell ⟨g, 10, none⟩ (.slice Z1 Z2 Z3)).setCell ⟨g, 11, none⟩ (.slice W1 W2 W3)).drew q 32 #[.int .i64 0, .int .i64 0, .string ⟨#[]⟩, .string ⟨#[]⟩, .int .i64 0, .int .i64 0, .int .i64 0, .string ⟨#[]⟩, .string ⟨#[]⟩, .slice none 0 0, .slice none 0 0, .slice none 0 0, .slice none 0 0, .slice none 0 0, .string ⟨#[]⟩, .bool false, .bool false, .string ⟨#[]⟩, .string ⟨#[]⟩, .string ⟨#[]⟩, .int .i64 0] := hdB _ _ _ _ (((((((((BR.far (p := ⟨g, 2, none⟩) hqg (sv dn)).far (p := ⟨g, 4, none⟩) hqg (.int .i64 scope)).far (p := ⟨g, 5, none⟩) hqg (.int .i64 limit)).far (p := ⟨g, 6, none⟩) hqg (.int .i64 fk)).far (p := ⟨g, 7, none⟩) hqg (sv ft)).far (p := ⟨g, 8, none⟩) hqg (sv fv)).far (p := ⟨g, 9, none⟩) hqg (.slice Y1 Y2 Y3)).far (p := ⟨g, 10, none⟩) hqg (.slice Z1 Z2 Z3)).far (p := ⟨g, 11, none⟩) hqg (.slice W1 W2 W3))
  have x5 : Ext w (((((((((w3.setCell ⟨g, 2, none⟩ (sv dn)).setCell ⟨g, 4, none⟩ (.int .i64 scope)).setCell ⟨g, 5, none⟩ (.int .i64 limit)).setCell ⟨g, 6, none⟩ (.int .i64 fk)).setCell ⟨g, 7, none⟩ (sv ft)).setCell ⟨g, 8, none⟩ (sv fv)).setCell ⟨g, 9, none⟩ (.slice Y1 Y2 Y3)).setCell ⟨g, 10, none⟩ (.slice Z1 Z2 Z3)).setCell ⟨g, 11, none⟩ (.slice W1 W2 W3)).drew := (((((((((xx.setCell (p := ⟨g, 2, none⟩) (fun h => absurd h (Nat.not_lt.2 hwg)) (sv dn)).setCell (p := ⟨g, 4, none⟩) (fun h => absurd h (Nat.not_lt.2 hwg)) (.int .i64 scope)).setCell (p := ⟨g, 5, none⟩) (fun h => absurd h (Nat.not_lt.2 hwg)) (.int .i64 limit)).setCell (p := ⟨g, 6, none⟩) (fun h => absurd h (Nat.not_lt.2 hwg)) (.int .i64 fk)).setCell (p := ⟨g, 7, none⟩) (fun h => absurd h (Nat.not_lt.2 hwg)) (sv ft)).setCell (p := ⟨g, 8, none⟩) (fun h => absurd h (Nat.not_lt.2 hwg)) (sv fv)).setCell (p := ⟨g, 9, none⟩) (fun h => absurd h (Nat.not_lt.2 hwg)) (.slice Y1 Y2 Y3)).setCell (p := ⟨g, 10, none⟩) (fun h => absurd h (Nat.not_lt.2 hwg)) (.slice Z1 Z2 Z3)).setCell (p := ⟨g, 11, none⟩) (fun h => absurd h (Nat.not_lt.2 hwg)) (.slice W1 W2 W3)).drew
  clear b2_ b4_ b5_ b6_ b7_ b8_ b9_ b10_ b11_ hS4 hk hd hdB hH B3 BR BP3 xx x3 p32 g32 z32 p34 g34 z34 p35 g35 z35 p36 g36 z36 p37 g37 z37 p38 g38 z38 p39 g39 z39 p310 g310 z310 p311 g311 z311 p31
  go_wp2_with (first
    | ((with_reducible show wpList _ _ _ (⟨some 87, _, _, _, _, _⟩ :: _) _ _); refine wpList_load_row rfl 32 (.tmp 3) rfl g rfl _ _ _ _ B5 Tryz.underlying32 rfl size21 ?_)
    | ((with_reducible show wpList _ _ _ (⟨none, .store 32 _ _, _, _, _, _⟩ :: _) _ _); refine wpList_store_row rfl 32 (.tmp 2) (.tmp 87) rfl q #[.int .i64 num, .int .i64 3, sv dn, .string ⟨#[]⟩, .int .i64 scope, .int .i64 limit, .int .i64 fk, sv ft, sv fv, .slice Y1 Y2 Y3, .slice Z1 Z2 Z3, .slice W1 W2 W3, .slice none 0 0, .slice none 0 0, .string ⟨#[]⟩, .bool false, .bool false, .string ⟨#[]⟩, .string ⟨#[]⟩, .string ⟨#[]⟩, .int .i64 0] rfl rfl _ _ BR5 size21 rfl (by simp [Value.oneCell']) ?_))
  refine bodyPost_ret (results_cell_row Tryz.results45 _ _ _ _ _ _ _ rfl (Blk.setRow BR5 #[.int .i64 num, .int .i64 3, sv dn, .string ⟨#[]⟩, .int .i64 scope, .int .i64 limit, .int .i64 fk, sv ft, sv fv, .slice Y1 Y2 Y3, .slice Z1 Z2 Z3, .slice W1 W2 W3, .slice none 0 0, .slice none 0 0, .string ⟨#[]⟩, .bool false, .bool false, .string ⟨#[]⟩, .string ⟨#[]⟩, .string ⟨#[]⟩, .int .i64 0]) Tryz.underlying32 rfl (by exact size21)) rfl ?_
  exact ⟨rfl, Mod.setRow x5 (fun h => by omega) _⟩
end Go.Proofs.YtoockogceobfgaaGreat
namespace Go.Proofs.YtoockogceobfgaaGreat
open Go.RowKit
set_option maxRecDepth 100000

set_option maxHeartbeats 16000000 in
theorem blank12_any {w : World} {num scope limit fk which : Int} {dn pass ft fv rdn up avt avv : List UInt8} {keep above : Bool} {Y1 Z1 W1 M1 A1 : Option Addr} {Y2 Y3 Z2 Z3 W2 W3 M2 M3 A2 A3 : Nat} : Calls Tryz.prog 45 #[.agg #[.int .i64 num, .int .i64 12, sv dn, sv pass, .int .i64 scope, .int .i64 limit, .int .i64 fk, sv ft, sv fv, .slice Y1 Y2 Y3, .slice Z1 Z2 Z3, .slice W1 W2 W3, .slice M1 M2 M3, .slice A1 A2 A3, sv rdn, .bool keep, .bool above, sv up, sv avt, sv avv, .int .i64 which]] w fun e w' => e = .returned (.agg #[.int .i64 num, .int .i64 12, sv dn, .string ⟨#[]⟩, .int .i64 0, .int .i64 0, .int .i64 0, .string ⟨#[]⟩, .string ⟨#[]⟩, .slice none 0 0, .slice none 0 0, .slice none 0 0, .slice none 0 0, .slice none 0 0, sv rdn, .bool keep, .bool above, sv up, .string ⟨#[]⟩, .string ⟨#[]⟩, .int .i64 0]) ∧ Ext w w' := by
  obtain ⟨x2a, x2b, x2⟩ := Blk.twoN w #[.int .i64 num, .int .i64 12, sv dn, sv pass, .int .i64 scope, .int .i64 limit, .int .i64 fk, sv ft, sv fv, .slice Y1 Y2 Y3, .slice Z1 Z2 Z3, .slice W1 W2 W3, .slice M1 M2 M3, .slice A1 A2 A3, sv rdn, .bool keep, .bool above, sv up, sv avt, sv avv, .int .i64 which] #[.int .i64 0, .int .i64 0, .string ⟨#[]⟩, .string ⟨#[]⟩, .int .i64 0, .int .i64 0, .int .i64 0, .string ⟨#[]⟩, .string ⟨#[]⟩, .slice none 0 0, .slice none 0 0, .slice none 0 0, .slice none 0 0, .slice none 0 0, .string ⟨#[]⟩, .bool false, .bool false, .string ⟨#[]⟩, .string ⟨#[]⟩, .string ⟨#[]⟩, .int .i64 0] 32 32
  obtain ⟨w2, hw2⟩ : ∃ x, x = (w.alloc (.cells #[.int .i64 num, .int .i64 12, sv dn, sv pass, .int .i64 scope, .int .i64 limit, .int .i64 fk, sv ft, sv fv, .slice Y1 Y2 Y3, .slice Z1 Z2 Z3, .slice W1 W2 W3, .slice M1 M2 M3, .slice A1 A2 A3, sv rdn, .bool keep, .bool above, sv up, sv avt, sv avv, .int .i64 which] 32)).alloc (.cells #[.int .i64 0, .int .i64 0, .string ⟨#[]⟩, .string ⟨#[]⟩, .int .i64 0, .int .i64 0, .int .i64 0, .string ⟨#[]⟩, .string ⟨#[]⟩, .slice none 0 0, .slice none 0 0, .slice none 0 0, .slice none 0 0, .slice none 0 0, .string ⟨#[]⟩, .bool false, .bool false, .string ⟨#[]⟩, .string ⟨#[]⟩, .string ⟨#[]⟩, .int .i64 0] 32) := ⟨_, rfl⟩
  rw [← hw2] at x2a x2b x2
  obtain ⟨q, hq⟩ : ∃ q, q = w.heap.size + 1 := ⟨_, rfl⟩
  have hqw : w.heap.size ≤ q := by omega
  rw [← hq] at x2b
  have B3a : Blk (w2.alloc (.cells #[.int .i64 0, .int .i64 0, .string ⟨#[]⟩, .string ⟨#[]⟩, .int .i64 0, .int .i64 0, .int .i64 0, .string ⟨#[]⟩, .string ⟨#[]⟩, .slice none 0 0, .slice none 0 0, .slice none 0 0, .slice none 0 0, .slice none 0 0, .string ⟨#[]⟩, .bool false, .bool false, .string ⟨#[]⟩, .string ⟨#[]⟩, .string ⟨#[]⟩, .int .i64 0] 32)) w2.heap.size 32 #[.int .i64 0, .int .i64 0, .string ⟨#[]⟩, .string ⟨#[]⟩, .int .i64 0, .int .i64 0, .int .i64 0, .string ⟨#[]⟩, .string ⟨#[]⟩, .slice none 0 0, .slice none 0 0, .slice none 0 0, .slice none 0 0, .slice none 0 0, .string ⟨#[]⟩, .bool false, .bool false, .string ⟨#[]⟩, .string ⟨#[]⟩, .string ⟨#[]⟩, .int .i64 0] := Blk.new w2 _ _
  obtain ⟨w3, hw3⟩ : ∃ x, x = (w2.alloc (.cells #[.int .i64 0, .int .i64 0, .string ⟨#[]⟩, .string ⟨#[]⟩, .int .i64 0, .int .i64 0, .int .i64 0, .string ⟨#[]⟩, .string ⟨#[]⟩, .slice none 0 0, .slice none 0 0, .slice none 0 0, .slice none 0 0, .slice none 0 0, .string ⟨#[]⟩, .bool false, .bool false, .string ⟨#[]⟩, .string ⟨#[]⟩, .string ⟨#[]⟩, .int .i64 0] 32)).setRow w2.heap.size #[.int .i64 num, .int .i64 12, .string ⟨#[]⟩, .string ⟨#[]⟩, .int .i64 0, .int .i64 0, .int .i64 0, .string ⟨#[]⟩, .string ⟨#[]⟩, .slice none 0 0, .slice none 0 0, .slice none 0 0, .slice none 0 0, .slice none 0 0, .string ⟨#[]⟩, .bool false, .bool false, .string ⟨#[]⟩, .string ⟨#[]⟩, .string ⟨#[]⟩, .int .i64 0] := ⟨_, rfl⟩
  obtain ⟨g, hg⟩ : ∃ q, q = w2.heap.size := ⟨_, rfl⟩
  have hpg : w.heap.size ≠ g := by have := x2a.lt; omega
  have hgp : g ≠ w.heap.size := fun h => hpg h.symm
  have hqg : q ≠ g := by have := x2b.lt; omega
  have hwg : w.heap.size ≤ g := by have := x2a.lt; omega
  have x3 : Ext w2 w3 := by rw [hw3]; exact ((Mod.refl _ w2).alloc _).setRow (fun h => by omega) _
  have B3 : Blk w3 g 32 #[.int .i64 num, .int .i64 12, .string ⟨#[]⟩, .string ⟨#[]⟩, .int .i64 0, .int .i64 0, .int .i64 0, .string ⟨#[]⟩, .string ⟨#[]⟩, .slice none 0 0, .slice none 0 0, .slice none 0 0, .slice none 0 0, .slice none 0 0, .string ⟨#[]⟩, .bool false, .bool false, .string ⟨#[]⟩, .string ⟨#[]⟩, .string ⟨#[]⟩, .int .i64 0] := by rw [hw3, hg]; exact B3a.setRow #[.int .i64 num, .int .i64 12, .string ⟨#[]⟩, .string ⟨#[]⟩, .int .i64 0, .int .i64 0, .int .i64 0, .string ⟨#[]⟩, .string ⟨#[]⟩, .slice none 0 0, .slice none 0 0, .slice none 0 0, .slice none 0 0, .slice none 0 0, .string ⟨#[]⟩, .bool false, .bool false, .string ⟨#[]⟩, .string ⟨#[]⟩, .string ⟨#[]⟩, .int .i64 0]
  have BR := x2b.mod x3 (fun h => h)
  have BP3 := x2a.mod x3 (fun h => h)
  have hp0 : w2.cell? ⟨w.heap.size, 0, none⟩ = some (.int .i64 num) := x2a.cell 0
  have hp1 : w2.cell? ⟨w.heap.size, 1, none⟩ = some (.int .i64 12) := x2a.cell 1
  have xx := ext_trans x2 x3
  have p31 : w3.cell? ⟨w.heap.size, 1, none⟩ = some (.int .i64 12) := BP3.cell 1
  have p32 : w3.cell? ⟨w.heap.size, 2, none⟩ = some (sv dn) := BP3.cell 2
  have g32 : w3.cell? ⟨g, 2, none⟩ = some (.string ⟨#[]⟩) := B3.cell 2
  have z32 : w3.frozen? ⟨g, 2, none⟩ = false := B3.frozen 2
  have p314 : w3.cell? ⟨w.heap.size, 14, none⟩ = some (sv rdn) := BP3.cell 14
  have g314 : w3.cell? ⟨g, 14, none⟩ = some (.string ⟨#[]⟩) := B3.cell 14
  have z314 : w3.frozen? ⟨g, 14, none⟩ = false := B3.frozen 14
  have p315 : w3.cell? ⟨w.heap.size, 15, none⟩ = some (.bool keep) := BP3.cell 15
  have g315 : w3.cell? ⟨g, 15, none⟩ = some (.bool false) := B3.cell 15
  have z315 : w3.frozen? ⟨g, 15, none⟩ = false := B3.frozen 15
  have p316 : w3.cell? ⟨w.heap.size, 16, none⟩ = some (.bool above) := BP3.cell 16
  have g316 : w3.cell? ⟨g, 16, none⟩ = some (.bool false) := B3.cell 16
  have z316 : w3.frozen? ⟨g, 16, none⟩ = false := B3.frozen 16
  have p317 : w3.cell? ⟨w.heap.size, 17, none⟩ = some (sv up) := BP3.cell 17
  have g317 : w3.cell? ⟨g, 17, none⟩ = some (.string ⟨#[]⟩) := B3.cell 17
  have z317 : w3.frozen? ⟨g, 17, none⟩ = false := B3.frozen 17
  replace hw2 := Lib.hid hw2
  replace hq := Lib.hid hq
  replace hw3 := Lib.hid hw3
  replace hg := Lib.hid hg
  go_enter Tryz.func45, Tryz.ntmps45
  go_upto_region 1 with fail
  rw [← hw2.out, ← hq.out]
  go_upto_region 2 with ((with_reducible show wpList _ _ _ (⟨none, .store 32 _ _, _, _, _, _⟩ :: _) _ _); refine wpList_store_row rfl 32 (.tmp 3) (.tmp 8) rfl w2.heap.size #[.int .i64 num, .int .i64 12, .string ⟨#[]⟩, .string ⟨#[]⟩, .int .i64 0, .int .i64 0, .int .i64 0, .string ⟨#[]⟩, .string ⟨#[]⟩, .slice none 0 0, .slice none 0 0, .slice none 0 0, .slice none 0 0, .slice none 0 0, .string ⟨#[]⟩, .bool false, .bool false, .string ⟨#[]⟩, .string ⟨#[]⟩, .string ⟨#[]⟩, .int .i64 0] rfl rfl _ _ B3a size21 rfl (by simp [Value.oneCell']) ?_)
  rw [← hw3.out, ← hg.out]
  clear hw2 hq hw3 hg hp0 hp1 B3a
  go_upto_region 14 with fail
  have hS4 : w3.cell? ⟨w.heap.size, 2, none⟩ = some (sv dn) ∧ w3.cell? ⟨w.heap.size, 14, none⟩ = some (sv rdn) ∧ w3.cell? ⟨w.heap.size, 15, none⟩ = some (.bool keep) ∧ w3.cell? ⟨w.heap.size, 16, none⟩ = some (.bool above) ∧ w3.cell? ⟨w.heap.size, 17, none⟩ = some (sv up) := ⟨p32, p314, p315, p316, p317⟩
  have hk : ∀ (wx : World) (o : Nat) (v : Value), (wx.cell? ⟨w.heap.size, 2, none⟩ = some (sv dn) ∧ wx.cell? ⟨w.heap.size, 14, none⟩ = some (sv rdn) ∧ wx.cell? ⟨w.heap.size, 15, none⟩ = some (.bool keep) ∧ wx.cell? ⟨w.heap.size, 16, none⟩ = some (.bool above) ∧ wx.cell? ⟨w.heap.size, 17, none⟩ = some (sv up)) → ((wx.setCell ⟨g, o, none⟩ v).cell? ⟨w.heap.size, 2, none⟩ = some (sv dn) ∧ (wx.setCell ⟨g, o, none⟩ v).cell? ⟨w.heap.size, 14, none⟩ = some (sv rdn) ∧ (wx.setCell ⟨g, o, none⟩ v).cell? ⟨w.heap.size, 15, none⟩ = some (.bool keep) ∧ (wx.setCell ⟨g, o, none⟩ v).cell? ⟨w.heap.size, 16, none⟩ = some (.bool above) ∧ (wx.setCell ⟨g, o, none⟩ v).cell? ⟨w.heap.size, 17, none⟩ = some (sv up)) := fun wx o v h => by
    have e : ∀ i, (wx.setCell ⟨g, o, none⟩ v).cell? ⟨w.heap.size, i, none⟩ = wx.cell? ⟨w.heap.size, i, none⟩ := fun i => World.cell?_setCell_far wx _ _ v hgp
    simp only [e]
    exact h
  have hd : ∀ wx : World, (wx.cell? ⟨w.heap.size, 2, none⟩ = some (sv dn) ∧ wx.cell? ⟨w.heap.size, 14, none⟩ = some (sv rdn) ∧ wx.cell? ⟨w.heap.size, 15, none⟩ = some (.bool keep) ∧ wx.cell? ⟨w.heap.size, 16, none⟩ = some (.bool above) ∧ wx.cell? ⟨w.heap.size, 17, none⟩ = some (sv up)) → (wx.drew.cell? ⟨w.heap.size, 2, none⟩ = some (sv dn) ∧ wx.drew.cell? ⟨w.heap.size, 14, none⟩ = some (sv rdn) ∧ wx.drew.cell? ⟨w.heap.size, 15, none⟩ = some (.bool keep) ∧ wx.drew.cell? ⟨w.heap.size, 16, none⟩ = some (.bool above) ∧ wx.drew.cell? ⟨w.heap.size, 17, none⟩ = some (sv up)) := fun wx h => h
  have hdB : ∀ (wx : World) (g : Nat) (t : TypeId) (cs : Array Value), Blk wx g t cs → Blk wx.drew g t cs := fun wx g t cs h => h
  refine wp_region_held_drew (S := fun wx => wx.cell? ⟨w.heap.size, 2, none⟩ = some (sv dn) ∧ wx.cell? ⟨w.heap.size, 14, none⟩ = some (sv rdn) ∧ wx.cell? ⟨w.heap.size, 15, none⟩ = some (.bool keep) ∧ wx.cell? ⟨w.heap.size, 16, none⟩ = some (.bool above) ∧ wx.cell? ⟨w.heap.size, 17, none⟩ = some (sv up)) (by kernel_rfl) (hd _ hS4) (fun hH => ?_)
  (refine wpAnyH_take (i := 0) (oi := ⟨_, _, _, _, _, _⟩) (v := ?_) rfl (by kernel_rfl) (by kernel_rfl) (by kernel_rfl) (fun _ _ _ h => h) (Or.inl ⟨by kernel_rfl, ?_⟩) hH ?_; rotate_left; focus (intro wx hSw; (try dsimp only at hSw); go_simp; try with_reducible rfl)); try simp only [Act.put, List.setIfInBounds_toArray, List.set_cons_zero, List.set_cons_succ]; try simp only [List.getElem_toArray, List.getElem_cons_succ, List.getElem_cons_zero]
  (refine wpAnyH_take (i := 1) (oi := ⟨_, _, _, _, _, _⟩) (v := ?_) rfl (by kernel_rfl) (by kernel_rfl) (by kernel_rfl) (fun _ _ _ h => h) (Or.inl ⟨by kernel_rfl, ?_⟩) hH ?_; rotate_left; focus (intro wx hSw; (try dsimp only at hSw); go_simp; try with_reducible rfl)); try simp only [Act.put, List.setIfInBounds_toArray, List.set_cons_zero, List.set_cons_succ]; try simp only [List.getElem_toArray, List.getElem_cons_succ, List.getElem_cons_zero]
  (refine wpAnyH_take (i := 2) (oi := ⟨_, _, _, _, _, _⟩) (v := ?_) rfl (by kernel_rfl) (by kernel_rfl) (by kernel_rfl) (fun _ _ _ h => h) (Or.inl ⟨by kernel_rfl, ?_⟩) hH ?_; rotate_left; focus (intro wx hSw; (try dsimp only at hSw); go_simp; try with_reducible rfl)); try simp only [Act.put, List.setIfInBounds_toArray, List.set_cons_zero, List.set_cons_succ]; try simp only [List.getElem_toArray, List.getElem_cons_succ, List.getElem_cons_zero]
  (refine wpAnyH_take (i := 3) (oi := ⟨_, _, _, _, _, _⟩) (v := ?_) rfl (by kernel_rfl) (by kernel_rfl) (by kernel_rfl) (fun _ _ _ h => h) (Or.inl ⟨by kernel_rfl, ?_⟩) hH ?_; rotate_left; focus (intro wx hSw; (try dsimp only at hSw); go_simp; try with_reducible rfl)); try simp only [Act.put, List.setIfInBounds_toArray, List.set_cons_zero, List.set_cons_succ]; try simp only [List.getElem_toArray, List.getElem_cons_succ, List.getElem_cons_zero]
  (refine wpAnyH_take (i := 4) (oi := ⟨_, _, _, _, _, _⟩) (v := ?_) rfl (by kernel_rfl) (by kernel_rfl) (by kernel_rfl) (fun _ _ _ h => h) (Or.inl ⟨by kernel_rfl, ?_⟩) hH ?_; rotate_left; focus (intro wx hSw; (try dsimp only at hSw); go_simp; try with_reducible rfl)); try simp only [Act.put, List.setIfInBounds_toArray, List.set_cons_zero, List.set_cons_succ]; try simp only [List.getElem_toArray, List.getElem_cons_succ, List.getElem_cons_zero]
  (refine wpAnyH_take (i := 5) (oi := ⟨_, _, _, _, _, _⟩) (v := ?_) rfl (by kernel_rfl) (by kernel_rfl) (by kernel_rfl) (fun _ _ _ h => h) (Or.inl ⟨by kernel_rfl, ?_⟩) hH ?_; rotate_left; focus (intro wx hSw; (try dsimp only at hSw); go_simp; try with_reducible rfl)); try simp only [Act.put, List.setIfInBounds_toArray, List.set_cons_zero, List.set_cons_succ]; try simp only [List.getElem_toArray, List.getElem_cons_succ, List.getElem_cons_zero]
  (refine wpAnyH_take (i := 6) (oi := ⟨_, _, _, _, _, _⟩) (v := ?_) rfl (by kernel_rfl) (by kernel_rfl) (by kernel_rfl) (fun _ _ _ h => h) (Or.inl ⟨by kernel_rfl, ?_⟩) hH ?_; rotate_left; focus (intro wx hSw; (try dsimp only at hSw); go_simp; try with_reducible rfl)); try simp only [Act.put, List.setIfInBounds_toArray, List.set_cons_zero, List.set_cons_succ]; try simp only [List.getElem_toArray, List.getElem_cons_succ, List.getElem_cons_zero]
  (refine wpAnyH_take (i := 7) (oi := ⟨_, _, _, _, _, _⟩) (v := ?_) rfl (by kernel_rfl) (by kernel_rfl) (by kernel_rfl) (fun _ _ _ h => h) (Or.inl ⟨by kernel_rfl, ?_⟩) hH ?_; rotate_left; focus (intro wx hSw; (try dsimp only at hSw); go_simp; try with_reducible rfl)); try simp only [Act.put, List.setIfInBounds_toArray, List.set_cons_zero, List.set_cons_succ]; try simp only [List.getElem_toArray, List.getElem_cons_succ, List.getElem_cons_zero]
  (refine wpAnyH_take (i := 8) (oi := ⟨_, _, _, _, _, _⟩) (v := ?_) rfl (by kernel_rfl) (by kernel_rfl) (by kernel_rfl) (fun _ _ _ h => h) (Or.inl ⟨by kernel_rfl, ?_⟩) hH ?_; rotate_left; focus (intro wx hSw; (try dsimp only at hSw); go_simp; try with_reducible rfl)); try simp only [Act.put, List.setIfInBounds_toArray, List.set_cons_zero, List.set_cons_succ]; try simp only [List.getElem_toArray, List.getElem_cons_succ, List.getElem_cons_zero]
  (refine wpAnyH_take (i := 9) (oi := ⟨_, _, _, _, _, _⟩) (v := ?_) rfl (by kernel_rfl) (by kernel_rfl) (by kernel_rfl) (fun _ _ _ h => h) (Or.inl ⟨by kernel_rfl, ?_⟩) hH ?_; rotate_left; focus (intro wx hSw; (try dsimp only at hSw); go_simp; try with_reducible rfl)); try simp only [Act.put, List.setIfInBounds_toArray, List.set_cons_zero, List.set_cons_succ]; try simp only [List.getElem_toArray, List.getElem_cons_succ, List.getElem_cons_zero]
  (refine wpAnyH_take (i := 10) (oi := ⟨_, _, _, _, _, _⟩) (v := ?_) rfl (by kernel_rfl) (by kernel_rfl) (by kernel_rfl) (fun _ _ _ h => h) (Or.inl ⟨by kernel_rfl, ?_⟩) hH ?_; rotate_left; focus (intro wx hSw; (try dsimp only at hSw); go_simp; try with_reducible rfl)); try simp only [Act.put, List.setIfInBounds_toArray, List.set_cons_zero, List.set_cons_succ]; try simp only [List.getElem_toArray, List.getElem_cons_succ, List.getElem_cons_zero]
  (refine wpAnyH_ready (rs := [11]) (by kernel_rfl) (by simp) ?_; refine AllReadyH.cons rfl (fun K' hK => ?_) AllReadyH.nil); go_simp
  (refine hK.out _ _ (hd _ (hk _ 2 (sv dn) hS4)) (fun hH => ?_); clear hK K'; try simp only [Act.put, List.setIfInBounds_toArray, List.set_cons_zero, List.set_cons_succ]; try simp only [List.getElem_toArray, List.getElem_cons_succ, List.getElem_cons_zero])
  (refine wpAnyH_take (i := 12) (oi := ⟨_, _, _, _, _, _⟩) (v := ?_) rfl (by kernel_rfl) (by kernel_rfl) (by kernel_rfl) (fun _ _ _ h => h) (Or.inl ⟨by kernel_rfl, ?_⟩) hH ?_; rotate_left; focus (intro wx hSw; (try dsimp only at hSw); go_simp; try with_reducible rfl)); try simp only [Act.put, List.setIfInBounds_toArray, List.set_cons_zero, List.set_cons_succ]; try simp only [List.getElem_toArray, List.getElem_cons_succ, List.getElem_cons_zero]
  (refine wpAnyH_ready (rs := [13]) (by kernel_rfl) (by simp) ?_; refine AllReadyH.cons rfl (fun K' hK => ?_) AllReadyH.nil); go_simp
  (refine hK.out _ _ (hd _ (hk _ 14 (sv rdn) (hk _ 2 (sv dn) hS4))) (fun hH => ?_); clear hK K'; try simp only [Act.put, List.setIfInBounds_toArray, List.set_cons_zero, List.set_cons_succ]; try simp only [List.getElem_toArray, List.getElem_cons_succ, List.getElem_cons_zero])
  (refine wpAnyH_take (i := 14) (oi := ⟨_, _, _, _, _, _⟩) (v := ?_) rfl (by kernel_rfl) (by kernel_rfl) (by kernel_rfl) (fun _ _ _ h => h) (Or.inl ⟨by kernel_rfl, ?_⟩) hH ?_; rotate_left; focus (intro wx hSw; (try dsimp only at hSw); go_simp; try with_reducible rfl)); try simp only [Act.put, List.setIfInBounds_toArray, List.set_cons_zero, List.set_cons_succ]; try simp only [List.getElem_toArray, List.getElem_cons_succ, List.getElem_cons_zero]
  (refine wpAnyH_ready (rs := [15]) (by kernel_rfl) (by simp) ?_; refine AllReadyH.cons rfl (fun K' hK => ?_) AllReadyH.nil); go_simp
  (refine hK.out _ _ (hd _ (hk _ 15 (.bool keep) (hk _ 14 (sv rdn) (hk _ 2 (sv dn) hS4)))) (fun hH => ?_); clear hK K'; try simp only [Act.put, List.setIfInBounds_toArray, List.set_cons_zero, List.set_cons_succ]; try simp only [List.getElem_toArray, List.getElem_cons_succ, List.getElem_cons_zero])
  (refine wpAnyH_take (i := 16) (oi := ⟨_, _, _, _, _, _⟩) (v := ?_) rfl (by kernel_rfl) (by kernel_rfl) (by kernel_rfl) (fun _ _ _ h => h) (Or.inl ⟨by kernel_rfl, ?_⟩) hH ?_; rotate_left; focus (intro wx hSw; (try dsimp only at hSw); go_simp; try with_reducible rfl)); try simp only [Act.put, List.setIfInBounds_toArray, List.set_cons_zero, List.set_cons_succ]; try simp only [List.getElem_toArray, List.getElem_cons_succ, List.getElem_cons_zero]
  (refine wpAnyH_ready (rs := [17]) (by kernel_rfl) (by simp) ?_; refine AllReadyH.cons rfl (fun K' hK => ?_) AllReadyH.nil); go_simp
  (refine hK.out _ _ (hd _ (hk _ 16 (.bool above) (hk _ 15 (.bool keep) (hk _ 14 (sv rdn) (hk _ 2 (sv dn) hS4))))) (fun hH => ?_); clear hK K'; try simp only [Act.put, List.setIfInBounds_toArray, List.set_cons_zero, List.set_cons_succ]; try simp only [List.getElem_toArray, List.getElem_cons_succ, List.getElem_cons_zero])
  (refine wpAnyH_take (i := 18) (oi := ⟨_, _, _, _, _, _⟩) (v := ?_) rfl (by kernel_rfl) (by kernel_rfl) (by kernel_rfl) (fun _ _ _ h => h) (Or.inl ⟨by kernel_rfl, ?_⟩) hH ?_; rotate_left; focus (intro wx hSw; (try dsimp only at hSw); go_simp; try with_reducible rfl)); try simp only [Act.put, List.setIfInBounds_toArray, List.set_cons_zero, List.set_cons_succ]; try simp only [List.getElem_toArray, List.getElem_cons_succ, List.getElem_cons_zero]
  (refine wpAnyH_ready (rs := [19]) (by kernel_rfl) (by simp) ?_; refine AllReadyH.cons rfl (fun K' hK => ?_) AllReadyH.nil); go_simp
  (refine hK.out _ _ (hd _ (hk _ 17 (sv up) (hk _ 16 (.bool above) (hk _ 15 (.bool keep) (hk _ 14 (sv rdn) (hk _ 2 (sv dn) hS4)))))) (fun hH => ?_); clear hK K'; try simp only [Act.put, List.setIfInBounds_toArray, List.set_cons_zero, List.set_cons_succ]; try simp only [List.getElem_toArray, List.getElem_cons_succ, List.getElem_cons_zero])
  refine wpAnyH_done (by kernel_rfl) ?_ _
  have b2_ : Blk (w3.setCell ⟨g, 2, none⟩ (sv dn)) g 32 #[.int .i64 num, .int .i64 12, sv dn, .string ⟨#[]⟩, .int .i64 0, .int .i64 0, .int .i64 0, .string ⟨#[]⟩, .string ⟨#[]⟩, .slice none 0 0, .slice none 0 0, .slice none 0 0, .slice none 0 0, .slice none 0 0, .string ⟨#[]⟩, .bool false, .bool false, .string ⟨#[]⟩, .string ⟨#[]⟩, .string ⟨#[]⟩, .int .i64 0] := B3.set_ 2 (sv dn)
  have b14_ : Blk ((w3.setCell ⟨g, 2, none⟩ (sv dn)).setCell ⟨g, 14, none⟩ (sv rdn)) g 32 #[.int .i64 num, .int .i64 12, sv dn, .string ⟨#[]⟩, .int .i64 0, .int .i64 0, .int .i64 0, .string ⟨#[]⟩, .string ⟨#[]⟩, .slice none 0 0, .slice none 0 0, .slice none 0 0, .slice none 0 0, .slice none 0 0, sv rdn, .bool false, .bool false, .string ⟨#[]⟩, .string ⟨#[]⟩, .string ⟨#[]⟩, .int .i64 0] := b2_.set_ 14 (sv rdn)
  have b15_ : Blk (((w3.setCell ⟨g, 2, none⟩ (sv dn)).setCell ⟨g, 14, none⟩ (sv rdn)).setCell ⟨g, 15, none⟩ (.bool keep)) g 32 #[.int .i64 num, .int .i64 12, sv dn, .string ⟨#[]⟩, .int .i64 0, .int .i64 0, .int .i64 0, .string ⟨#[]⟩, .string ⟨#[]⟩, .slice none 0 0, .slice none 0 0, .slice none 0 0, .slice none 0 0, .slice none 0 0, sv rdn, .bool keep, .bool false, .string ⟨#[]⟩, .string ⟨#[]⟩, .string ⟨#[]⟩, .int .i64 0] := b14_.set_ 15 (.bool keep)
  have b16_ : Blk ((((w3.setCell ⟨g, 2, none⟩ (sv dn)).setCell ⟨g, 14, none⟩ (sv rdn)).setCell ⟨g, 15, none⟩ (.bool keep)).setCell ⟨g, 16, none⟩ (.bool above)) g 32 #[.int .i64 num, .int .i64 12, sv dn, .string ⟨#[]⟩, .int .i64 0, .int .i64 0, .int .i64 0, .string ⟨#[]⟩, .string ⟨#[]⟩, .slice none 0 0, .slice none 0 0, .slice none 0 0, .slice none 0 0, .slice none 0 0, sv rdn, .bool keep, .bool above, .string ⟨#[]⟩, .string ⟨#[]⟩, .string ⟨#[]⟩, .int .i64 0] := b15_.set_ 16 (.bool above)
  have b17_ : Blk (((((w3.setCell ⟨g, 2, none⟩ (sv dn)).setCell ⟨g, 14, none⟩ (sv rdn)).setCell ⟨g, 15, none⟩ (.bool keep)).setCell ⟨g, 16, none⟩ (.bool above)).setCell ⟨g, 17, none⟩ (sv up)) g 32 #[.int .i64 num, .int .i64 12, sv dn, .string ⟨#[]⟩, .int .i64 0, .int .i64 0, .int .i64 0, .string ⟨#[]⟩, .string ⟨#[]⟩, .slice none 0 0, .slice none 0 0, .slice none 0 0, .slice none 0 0, .slice none 0 0, sv rdn, .bool keep, .bool above, sv up, .string ⟨#[]⟩, .string ⟨#[]⟩, .int .i64 0] := b16_.set_ 17 (sv up)
  have B5 : Blk (((((w3.setCell ⟨g, 2, none⟩ (sv dn)).setCell ⟨g, 14, none⟩ (sv rdn)).setCell ⟨g, 15, none⟩ (.bool keep)).setCell ⟨g, 16, none⟩ (.bool above)).setCell ⟨g, 17, none⟩ (sv up)).drew g 32 #[.int .i64 num, .int .i64 12, sv dn, .string ⟨#[]⟩, .int .i64 0, .int .i64 0, .int .i64 0, .string ⟨#[]⟩, .string ⟨#[]⟩, .slice none 0 0, .slice none 0 0, .slice none 0 0, .slice none 0 0, .slice none 0 0, sv rdn, .bool keep, .bool above, sv up, .string ⟨#[]⟩, .string ⟨#[]⟩, .int .i64 0] := hdB _ _ _ _ b17_
  have BR5 : Blk (((((w3.setCell ⟨g, 2, none⟩ (sv dn)).setCell ⟨g, 14, none⟩ (sv rdn)).setCell ⟨g, 15, none⟩ (.bool keep)).setCell ⟨g, 16, none⟩ (.bool above)).setCell ⟨g, 17, none⟩ (sv up)).drew q 32 #[.int .i64 0, .int .i64 0, .string ⟨#[]⟩, .string ⟨#[]⟩, .int .i64 0, .int .i64 0, .int .i64 0, .string ⟨#[]⟩, .string ⟨#[]⟩, .slice none 0 0, .slice none 0 0, .slice none 0 0, .slice none 0 0, .slice none 0 0, .string ⟨#[]⟩, .bool false, .bool false, .string ⟨#[]⟩, .string ⟨#[]⟩, .string ⟨#[]⟩, .int .i64 0] := hdB _ _ _ _ (((((BR.far (p := ⟨g, 2, none⟩) hqg (sv dn)).far (p := ⟨g, 14, none⟩) hqg (sv rdn)).far (p := ⟨g, 15, none⟩) hqg (.bool keep)).far (p := ⟨g, 16, none⟩) hqg (.bool above)).far (p := ⟨g, 17, none⟩) hqg (sv up))
  have x5 : Ext w (((((w3.setCell ⟨g, 2, none⟩ (sv dn)).setCell ⟨g, 14, none⟩ (sv rdn)).setCell ⟨g, 15, none⟩ (.bool keep)).setCell ⟨g, 16, none⟩ (.bool above)).setCell ⟨g, 17, none⟩ (sv up)).drew := (((((xx.setCell (p := ⟨g, 2, none⟩) (fun h => absurd h (Nat.not_lt.2 hwg)) (sv dn)).setCell (p := ⟨g, 14, none⟩) (fun h => absurd h (Nat.not_lt.2 hwg)) (sv rdn)).setCell (p := ⟨g, 15, none⟩) (fun h => absurd h (Nat.not_lt.2 hwg)) (.bool keep)).setCell (p := ⟨g, 16, none⟩) (fun h => absurd h (Nat.not_lt.2 hwg)) (.bool above)).setCell (p := ⟨g, 17, none⟩) (fun h => absurd h (Nat.not_lt.2 hwg)) (sv up)).drew
  clear b2_ b14_ b15_ b16_ b17_ hS4 hk hd hdB hH B3 BR BP3 xx x3 p32 g32 z32 p314 g314 z314 p315 g315 z315 p316 g316 z316 p317 g317 z317 p31
  go_wp2_with (first
    | ((with_reducible show wpList _ _ _ (⟨some 87, _, _, _, _, _⟩ :: _) _ _); refine wpList_load_row rfl 32 (.tmp 3) rfl g rfl _ _ _ _ B5 Tryz.underlying32 rfl size21 ?_)
    | ((with_reducible show wpList _ _ _ (⟨none, .store 32 _ _, _, _, _, _⟩ :: _) _ _); refine wpList_store_row rfl 32 (.tmp 2) (.tmp 87) rfl q #[.int .i64 num, .int .i64 12, sv dn, .string ⟨#[]⟩, .int .i64 0, .int .i64 0, .int .i64 0, .string ⟨#[]⟩, .string ⟨#[]⟩, .slice none 0 0, .slice none 0 0, .slice none 0 0, .slice none 0 0, .slice none 0 0, sv rdn, .bool keep, .bool above, sv up, .string ⟨#[]⟩, .string ⟨#[]⟩, .int .i64 0] rfl rfl _ _ BR5 size21 rfl (by simp [Value.oneCell']) ?_))
  refine bodyPost_ret (results_cell_row Tryz.results45 _ _ _ _ _ _ _ rfl (Blk.setRow BR5 #[.int .i64 num, .int .i64 12, sv dn, .string ⟨#[]⟩, .int .i64 0, .int .i64 0, .int .i64 0, .string ⟨#[]⟩, .string ⟨#[]⟩, .slice none 0 0, .slice none 0 0, .slice none 0 0, .slice none 0 0, .slice none 0 0, sv rdn, .bool keep, .bool above, sv up, .string ⟨#[]⟩, .string ⟨#[]⟩, .int .i64 0]) Tryz.underlying32 rfl (by exact size21)) rfl ?_
  exact ⟨rfl, Mod.setRow x5 (fun h => by omega) _⟩
end Go.Proofs.YtoockogceobfgaaGreat
namespace Go.Proofs.YtoockogceobfgaaGreat
open Go.RowKit
set_option maxRecDepth 100000

theorem ss_nil (w : World) (S : Nat → Prop) : Ss w S (.slice none 0 0) [] := Sl.nil w S
theorem Mds.nil (w : World) : Mds w (.slice none 0 0) [] := ⟨[], Rc.nil mdc 3 w _, rfl, fun k r a hr => by simp at hr⟩
theorem Ats.nil25 (w : World) : Ats w (.slice none 0 0) [] := ⟨[], Rc.nil atc 2 w _, rfl, fun k r a hr => by simp at hr⟩
theorem fi0_in (m : Nat) (w : World) : FilN (m + 1) w fi0 (.slice none 0 0) (.slice none 0 0) :=
  ⟨⟨by decide, by decide, by decide, by decide, by simp [Fi.subs], by decide⟩, ss_nil w _, [], Rc.nil fic 5 w _, rfl, by simp⟩
theorem RqAt.lens {n : Nat} {w : World} {r : Rq} {vs vk : Value} {A2 A3 A4 : Option Addr} {A2n A2c A3n A3c A4n A4c : Nat} (h : RqAt n w r vs vk (.slice A2 A2n A2c) (.slice A3 A3n A3c) (.slice A4 A4n A4c)) : A2n = r.want.length ∧ A3n = r.mods.length ∧ A4n = r.ats.length := by
  obtain ⟨a, c, e, -⟩ := h.want.open_
  obtain ⟨a', c', e', -⟩ := h.mods.open_
  obtain ⟨a2, c2, e2, -⟩ := h.ats.open_
  injection e with _ e _
  injection e' with _ e' _
  injection e2 with _ e2 _
  exact ⟨e, e', e2⟩
theorem fits25_any {n : Nat} {w : World} {r : Rq} {A0 A1 A2 A3 A4 : Option Addr} {A0n A0c A1n A1c A2n A2c A3n A3c A4n A4c : Nat} (h : RqAt n w r (.slice A0 A0n A0c) (.slice A1 A1n A1c) (.slice A2 A2n A2c) (.slice A3 A3n A3c) (.slice A4 A4n A4c)) :
    Calls Tryz.prog 76 #[.agg #[.int .i64 r.num, .int .i64 r.kind, sv r.dn, sv r.pass, .int .i64 r.scope, .int .i64 r.limit, .int .i64 r.fil.kind, sv r.fil.typ, sv r.fil.val, .slice A0 A0n A0c, .slice A1 A1n A1c, .slice A2 A2n A2c, .slice A3 A3n A3c, .slice A4 A4n A4c, sv r.rdn, .bool r.keep, .bool r.above, sv r.up, sv r.avt, sv r.avv, .int .i64 r.which]] w fun e w' => e = .returned (.bool (fitsQ n r)) ∧ Ext w w' := by
  obtain ⟨l2, l3, l4⟩ := h.lens
  by_cases ho : isOp r.kind
  · rcases ho with e | e | e | e | e | e | e | e | e
    · have hq : fitsQ n r = true := by unfold fitsQ; rw [if_pos (by omega)]
      rw [hq, e]
      exact fits0_any
    · have hq : fitsQ n r = true := by unfold fitsQ; rw [if_pos (by omega)]
      rw [hq, e]
      exact fits2_any
    · have hq : fitsQ n r = (decide (0 ≤ r.scope) && (decide (r.scope ≤ 2) && (numQ r.limit && (isN n r.fil && decide (r.want.length ≤ 64))))) := by unfold fitsQ; rw [if_neg (by omega), if_pos e]
      rw [hq, e]
      exact by have := fits3_any (num := r.num) (scope := r.scope) (limit := r.limit) (which := r.which) (dn := r.dn) (pass := r.pass) (rdn := r.rdn) (up := r.up) (avt := r.avt) (avv := r.avv) (keep := r.keep) (above := r.above) (W1 := A2) (W2 := A2n) (W3 := A2c) (M1 := A3) (M2 := A3n) (M3 := A3c) (A1 := A4) (A2 := A4n) (A3 := A4c) h.fil; rw [← l2]; exact this
    · have hq : fitsQ n r = (decide (r.mods.length ≤ 64) && r.mods.all mdQ) := by unfold fitsQ; rw [if_neg (by omega), if_neg (by omega), if_pos e]
      rw [hq, e]
      exact by rw [← l3]; exact fits6_any h.mods
    · have hq : fitsQ n r = (decide (r.ats.length ≤ 64) && r.ats.all atQ) := by unfold fitsQ; rw [if_neg (by omega), if_neg (by omega), if_neg (by omega), if_pos e]
      rw [hq, e]
      exact by rw [← l4]; exact fits8_any h.ats
    · have hq : fitsQ n r = true := by unfold fitsQ; rw [if_pos (by omega)]
      rw [hq, e]
      exact fits10_any
    · have hq : fitsQ n r = (r.above || decide (r.up = [])) := by unfold fitsQ; rw [if_neg (by omega), if_neg (by omega), if_neg (by omega), if_neg (by omega), if_pos e]
      rw [hq, e]
      exact fits12_any
    · have hq : fitsQ n r = true := by unfold fitsQ; rw [if_pos (by omega)]
      rw [hq, e]
      exact fits14_any
    · have hq : fitsQ n r = numQ r.which := by unfold fitsQ; rw [if_neg (by omega), if_neg (by omega), if_neg (by omega), if_neg (by omega), if_neg (by omega), if_pos e]
      rw [hq, e]
      exact fits16_any
  · have ho' := ho
    unfold isOp at ho'
    have hq : fitsQ n r = false := by unfold fitsQ; rw [if_neg (by omega), if_neg (by omega), if_neg (by omega), if_neg (by omega), if_neg (by omega), if_neg (by omega)]
    rw [hq]
    exact fitsno_any (by omega) (by omega) (by omega) (by omega) (by omega) (by omega) (by omega) (by omega) (by omega)
set_option maxHeartbeats 4000000 in
theorem bare25_any {n : Nat} {w : World} {r : Rq} {A0 A1 A2 A3 A4 : Option Addr} {A0n A0c A1n A1c A2n A2c A3n A3c A4n A4c : Nat} (h : RqAt n w r (.slice A0 A0n A0c) (.slice A1 A1n A1c) (.slice A2 A2n A2c) (.slice A3 A3n A3c) (.slice A4 A4n A4c)) (ho : isOp r.kind) :
    Calls Tryz.prog 78 #[.agg #[.int .i64 r.num, .int .i64 r.kind, sv r.dn, sv r.pass, .int .i64 r.scope, .int .i64 r.limit, .int .i64 r.fil.kind, sv r.fil.typ, sv r.fil.val, .slice A0 A0n A0c, .slice A1 A1n A1c, .slice A2 A2n A2c, .slice A3 A3n A3c, .slice A4 A4n A4c, sv r.rdn, .bool r.keep, .bool r.above, sv r.up, sv r.avt, sv r.avv, .int .i64 r.which]] w fun e w' => ∃ (B0 B1 B2 B3 B4 : Option Addr) (B0n B0c B1n B1c B2n B2c B3n B3c B4n B4c : Nat), e = .returned (.agg #[.int .i64 (bareQ r).num, .int .i64 (bareQ r).kind, sv (bareQ r).dn, sv (bareQ r).pass, .int .i64 (bareQ r).scope, .int .i64 (bareQ r).limit, .int .i64 (bareQ r).fil.kind, sv (bareQ r).fil.typ, sv (bareQ r).fil.val, .slice B0 B0n B0c, .slice B1 B1n B1c, .slice B2 B2n B2c, .slice B3 B3n B3c, .slice B4 B4n B4c, sv (bareQ r).rdn, .bool (bareQ r).keep, .bool (bareQ r).above, sv (bareQ r).up, sv (bareQ r).avt, sv (bareQ r).avv, .int .i64 (bareQ r).which]) ∧ RqAt n w' (bareQ r) (.slice B0 B0n B0c) (.slice B1 B1n B1c) (.slice B2 B2n B2c) (.slice B3 B3n B3c) (.slice B4 B4n B4c) ∧ Ext w w' := by
  obtain ⟨m, rfl⟩ : ∃ m, n = m + 1 := by
    cases n with
    | zero => exact h.fil.elim
    | succ m => exact ⟨m, rfl⟩
  rcases ho with e | e | e | e | e | e | e | e | e
  · have hb : bareQ r = ⟨r.num, 0, r.dn, r.pass, 0, 0, fi0, [], [], [], [], false, false, [], [], [], 0⟩ := by simp [bareQ, e]
    rw [hb, e]
    refine (bareq0_any).mono ?_
    rintro e' w' ⟨rfl, x⟩
    exact ⟨none, none, none, none, none, 0, 0, 0, 0, 0, 0, 0, 0, 0, 0, rfl, ⟨fi0_in m _, ss_nil _ _, Mds.nil _, Ats.nil25 _⟩, x⟩
  · have hb : bareQ r = ⟨r.num, 2, [], [], 0, 0, fi0, [], [], [], [], false, false, [], [], [], 0⟩ := by simp [bareQ, e]
    rw [hb, e]
    refine (bareq2_any).mono ?_
    rintro e' w' ⟨rfl, x⟩
    exact ⟨none, none, none, none, none, 0, 0, 0, 0, 0, 0, 0, 0, 0, 0, rfl, ⟨fi0_in m _, ss_nil _ _, Mds.nil _, Ats.nil25 _⟩, x⟩
  · have hb : bareQ r = ⟨r.num, 3, r.dn, [], r.scope, r.limit, r.fil, r.want, [], [], [], false, false, [], [], [], 0⟩ := by simp [bareQ, e]
    rw [hb, e]
    refine (bareq3_any).mono ?_
    rintro e' w' ⟨rfl, x⟩
    exact ⟨A0, A1, A2, none, none, A0n, A0c, A1n, A1c, A2n, A2c, 0, 0, 0, 0, rfl, ⟨h.fil.ext x, Sl.ext h.want x, Mds.nil _, Ats.nil25 _⟩, x⟩
  · have hb : bareQ r = ⟨r.num, 6, r.dn, [], 0, 0, fi0, [], r.mods, [], [], false, false, [], [], [], 0⟩ := by simp [bareQ, e]
    rw [hb, e]
    refine (bareq6_any).mono ?_
    rintro e' w' ⟨rfl, x⟩
    exact ⟨none, none, none, A3, none, 0, 0, 0, 0, 0, 0, A3n, A3c, 0, 0, rfl, ⟨fi0_in m _, ss_nil _ _, h.mods.ext x, Ats.nil25 _⟩, x⟩
  · have hb : bareQ r = ⟨r.num, 8, r.dn, [], 0, 0, fi0, [], [], r.ats, [], false, false, [], [], [], 0⟩ := by simp [bareQ, e]
    rw [hb, e]
    refine (bareq8_any).mono ?_
    rintro e' w' ⟨rfl, x⟩
    exact ⟨none, none, none, none, A4, 0, 0, 0, 0, 0, 0, 0, 0, A4n, A4c, rfl, ⟨fi0_in m _, ss_nil _ _, Mds.nil _, h.ats.ext x⟩, x⟩
  · have hb : bareQ r = ⟨r.num, 10, r.dn, [], 0, 0, fi0, [], [], [], [], false, false, [], [], [], 0⟩ := by simp [bareQ, e]
    rw [hb, e]
    refine (bareq10_any).mono ?_
    rintro e' w' ⟨rfl, x⟩
    exact ⟨none, none, none, none, none, 0, 0, 0, 0, 0, 0, 0, 0, 0, 0, rfl, ⟨fi0_in m _, ss_nil _ _, Mds.nil _, Ats.nil25 _⟩, x⟩
  · have hb : bareQ r = ⟨r.num, 12, r.dn, [], 0, 0, fi0, [], [], [], r.rdn, r.keep, r.above, r.up, [], [], 0⟩ := by simp [bareQ, e]
    rw [hb, e]
    refine (bareq12_any).mono ?_
    rintro e' w' ⟨rfl, x⟩
    exact ⟨none, none, none, none, none, 0, 0, 0, 0, 0, 0, 0, 0, 0, 0, rfl, ⟨fi0_in m _, ss_nil _ _, Mds.nil _, Ats.nil25 _⟩, x⟩
  · have hb : bareQ r = ⟨r.num, 14, r.dn, [], 0, 0, fi0, [], [], [], [], false, false, [], r.avt, r.avv, 0⟩ := by simp [bareQ, e]
    rw [hb, e]
    refine (bareq14_any).mono ?_
    rintro e' w' ⟨rfl, x⟩
    exact ⟨none, none, none, none, none, 0, 0, 0, 0, 0, 0, 0, 0, 0, 0, rfl, ⟨fi0_in m _, ss_nil _ _, Mds.nil _, Ats.nil25 _⟩, x⟩
  · have hb : bareQ r = ⟨r.num, 16, [], [], 0, 0, fi0, [], [], [], [], false, false, [], [], [], r.which⟩ := by simp [bareQ, e]
    rw [hb, e]
    refine (bareq16_any).mono ?_
    rintro e' w' ⟨rfl, x⟩
    exact ⟨none, none, none, none, none, 0, 0, 0, 0, 0, 0, 0, 0, 0, 0, rfl, ⟨fi0_in m _, ss_nil _ _, Mds.nil _, Ats.nil25 _⟩, x⟩
set_option maxHeartbeats 4000000 in
theorem blank25_any {n : Nat} {w : World} {r : Rq} {A0 A1 A2 A3 A4 : Option Addr} {A0n A0c A1n A1c A2n A2c A3n A3c A4n A4c : Nat} (h : RqAt n w r (.slice A0 A0n A0c) (.slice A1 A1n A1c) (.slice A2 A2n A2c) (.slice A3 A3n A3c) (.slice A4 A4n A4c)) (ho : isOp r.kind) :
    Calls Tryz.prog 45 #[.agg #[.int .i64 r.num, .int .i64 r.kind, sv r.dn, sv r.pass, .int .i64 r.scope, .int .i64 r.limit, .int .i64 r.fil.kind, sv r.fil.typ, sv r.fil.val, .slice A0 A0n A0c, .slice A1 A1n A1c, .slice A2 A2n A2c, .slice A3 A3n A3c, .slice A4 A4n A4c, sv r.rdn, .bool r.keep, .bool r.above, sv r.up, sv r.avt, sv r.avv, .int .i64 r.which]] w fun e w' => ∃ (B0 B1 B2 B3 B4 : Option Addr) (B0n B0c B1n B1c B2n B2c B3n B3c B4n B4c : Nat), e = .returned (.agg #[.int .i64 (bareQ r).num, .int .i64 (bareQ r).kind, sv (bareQ r).dn, sv (bareQ r).pass, .int .i64 (bareQ r).scope, .int .i64 (bareQ r).limit, .int .i64 (bareQ r).fil.kind, sv (bareQ r).fil.typ, sv (bareQ r).fil.val, .slice B0 B0n B0c, .slice B1 B1n B1c, .slice B2 B2n B2c, .slice B3 B3n B3c, .slice B4 B4n B4c, sv (bareQ r).rdn, .bool (bareQ r).keep, .bool (bareQ r).above, sv (bareQ r).up, sv (bareQ r).avt, sv (bareQ r).avv, .int .i64 (bareQ r).which]) ∧ RqAt n w' (bareQ r) (.slice B0 B0n B0c) (.slice B1 B1n B1c) (.slice B2 B2n B2c) (.slice B3 B3n B3c) (.slice B4 B4n B4c) ∧ Ext w w' := by
  obtain ⟨m, rfl⟩ : ∃ m, n = m + 1 := by
    cases n with
    | zero => exact h.fil.elim
    | succ m => exact ⟨m, rfl⟩
  rcases ho with e | e | e | e | e | e | e | e | e
  · have hb : bareQ r = ⟨r.num, 0, r.dn, r.pass, 0, 0, fi0, [], [], [], [], false, false, [], [], [], 0⟩ := by simp [bareQ, e]
    rw [hb, e]
    refine (blank0_any).mono ?_
    rintro e' w' ⟨rfl, x⟩
    exact ⟨none, none, none, none, none, 0, 0, 0, 0, 0, 0, 0, 0, 0, 0, rfl, ⟨fi0_in m _, ss_nil _ _, Mds.nil _, Ats.nil25 _⟩, x⟩
  · have hb : bareQ r = ⟨r.num, 2, [], [], 0, 0, fi0, [], [], [], [], false, false, [], [], [], 0⟩ := by simp [bareQ, e]
    rw [hb, e]
    refine (blank2_any).mono ?_
    rintro e' w' ⟨rfl, x⟩
    exact ⟨none, none, none, none, none, 0, 0, 0, 0, 0, 0, 0, 0, 0, 0, rfl, ⟨fi0_in m _, ss_nil _ _, Mds.nil _, Ats.nil25 _⟩, x⟩
  · have hb : bareQ r = ⟨r.num, 3, r.dn, [], r.scope, r.limit, r.fil, r.want, [], [], [], false, false, [], [], [], 0⟩ := by simp [bareQ, e]
    rw [hb, e]
    refine (blank3_any).mono ?_
    rintro e' w' ⟨rfl, x⟩
    exact ⟨A0, A1, A2, none, none, A0n, A0c, A1n, A1c, A2n, A2c, 0, 0, 0, 0, rfl, ⟨h.fil.ext x, Sl.ext h.want x, Mds.nil _, Ats.nil25 _⟩, x⟩
  · have hb : bareQ r = ⟨r.num, 6, r.dn, [], 0, 0, fi0, [], r.mods, [], [], false, false, [], [], [], 0⟩ := by simp [bareQ, e]
    rw [hb, e]
    refine (blank6_any).mono ?_
    rintro e' w' ⟨rfl, x⟩
    exact ⟨none, none, none, A3, none, 0, 0, 0, 0, 0, 0, A3n, A3c, 0, 0, rfl, ⟨fi0_in m _, ss_nil _ _, h.mods.ext x, Ats.nil25 _⟩, x⟩
  · have hb : bareQ r = ⟨r.num, 8, r.dn, [], 0, 0, fi0, [], [], r.ats, [], false, false, [], [], [], 0⟩ := by simp [bareQ, e]
    rw [hb, e]
    refine (blank8_any).mono ?_
    rintro e' w' ⟨rfl, x⟩
    exact ⟨none, none, none, none, A4, 0, 0, 0, 0, 0, 0, 0, 0, A4n, A4c, rfl, ⟨fi0_in m _, ss_nil _ _, Mds.nil _, h.ats.ext x⟩, x⟩
  · have hb : bareQ r = ⟨r.num, 10, r.dn, [], 0, 0, fi0, [], [], [], [], false, false, [], [], [], 0⟩ := by simp [bareQ, e]
    rw [hb, e]
    refine (blank10_any).mono ?_
    rintro e' w' ⟨rfl, x⟩
    exact ⟨none, none, none, none, none, 0, 0, 0, 0, 0, 0, 0, 0, 0, 0, rfl, ⟨fi0_in m _, ss_nil _ _, Mds.nil _, Ats.nil25 _⟩, x⟩
  · have hb : bareQ r = ⟨r.num, 12, r.dn, [], 0, 0, fi0, [], [], [], r.rdn, r.keep, r.above, r.up, [], [], 0⟩ := by simp [bareQ, e]
    rw [hb, e]
    refine (blank12_any).mono ?_
    rintro e' w' ⟨rfl, x⟩
    exact ⟨none, none, none, none, none, 0, 0, 0, 0, 0, 0, 0, 0, 0, 0, rfl, ⟨fi0_in m _, ss_nil _ _, Mds.nil _, Ats.nil25 _⟩, x⟩
  · have hb : bareQ r = ⟨r.num, 14, r.dn, [], 0, 0, fi0, [], [], [], [], false, false, [], r.avt, r.avv, 0⟩ := by simp [bareQ, e]
    rw [hb, e]
    refine (blank14_any).mono ?_
    rintro e' w' ⟨rfl, x⟩
    exact ⟨none, none, none, none, none, 0, 0, 0, 0, 0, 0, 0, 0, 0, 0, rfl, ⟨fi0_in m _, ss_nil _ _, Mds.nil _, Ats.nil25 _⟩, x⟩
  · have hb : bareQ r = ⟨r.num, 16, [], [], 0, 0, fi0, [], [], [], [], false, false, [], [], [], r.which⟩ := by simp [bareQ, e]
    rw [hb, e]
    refine (blank16_any).mono ?_
    rintro e' w' ⟨rfl, x⟩
    exact ⟨none, none, none, none, none, 0, 0, 0, 0, 0, 0, 0, 0, 0, 0, rfl, ⟨fi0_in m _, ss_nil _ _, Mds.nil _, Ats.nil25 _⟩, x⟩
end Go.Proofs.YtoockogceobfgaaGreat
namespace Go.Proofs.YtoockogceobfgaaGreat
open Go.RowKit
set_option maxRecDepth 100000

theorem wid {x : Int} (h0 : -9223372036854775808 ≤ x) (h1 : x ≤ 9223372036854775807) : IntKind.i64.wrap x = x := by rw [IntKind.wrap_i64]; omega
def vQ (s : List UInt8) : Nat := 3 + s.length
/-- How much texts weigh. -/
def wQ (L : List (List UInt8)) : Nat := ((L.take 1000).map vQ).sum
theorem sumQ_next {α : Type} (f : α → Nat) (L : List α) {k : Nat} (h : k < L.length) : ((L.take (k + 1)).map f).sum = ((L.take k).map f).sum + f L[k] := by
  rw [List.take_succ_eq_append_getElem h, List.map_append, List.sum_append]; simp
theorem sumQ_le {α : Type} (f : α → Nat) (m : Nat) : ∀ (L : List α), (∀ a ∈ L, f a ≤ m) → (L.map f).sum ≤ m * L.length
  | [], _ => by simp
  | a :: L, h => by
    have h1 := h a List.mem_cons_self
    have h2 := sumQ_le f m L (fun b hb => h b (List.mem_cons_of_mem _ hb))
    simp only [List.map_cons, List.sum_cons, List.length_cons, Nat.mul_add, Nat.mul_one]
    omega
theorem wQ_le {m : Nat} {L : List (List UInt8)} (h : ∀ s ∈ L, s.length ≤ m) : wQ L ≤ (m + 3) * 1000 := by
  have h1 := sumQ_le vQ (m + 3) (L.take 1000) (fun a ha => by have := h a (List.mem_of_mem_take ha); unfold vQ; omega)
  have h2 : (L.take 1000).length ≤ 1000 := by rw [List.length_take]; omega
  exact Nat.le_trans h1 (Nat.mul_le_mul_left _ h2)
set_option maxHeartbeats 8000000 in
theorem weight25_any {w : World} {S : Nat → Prop} {v : Value} {L : List (List UInt8)} (h : Ss w S v L) (hs : ∀ s ∈ L, s.length ≤ 140737488351232) :
    Calls Tryz.prog 40 #[v] w fun e w' => e = .returned (.int .i64 (wQ L : Nat)) ∧ Ext w w' := by
  obtain ⟨A, c, rfl, h1, h2, h3, h4⟩ := h.open_
  have hn8 : L.length ≤ 9223372036854775807 := by omega
  obtain ⟨Z, hZ⟩ : ∃ Z, Z = wQ L := ⟨_, rfl⟩
  rw [← hZ]
  replace hZ := Lib.hid hZ
  obtain ⟨n, hn⟩ : ∃ n, n = L.length := ⟨_, rfl⟩
  rw [← hn] at hn8 ⊢
  replace hn := Lib.hid hn
  clear h h1 h2 h3
  go_enter Tryz.func40, Tryz.ntmps40
  go_wp2_with fail
  go_loopw [3, 4] (fun v i wr => ∃ (k s : Nat), k ≤ n ∧ k ≤ 1000 ∧ i = .int .i64 k ∧ v = .int .i64 s ∧ Hid (s = ((L.take k).map vQ).sum) ∧ s ≤ 140737488351235 * k ∧ Ext w wr) (fun _ i _ => n - (intOf i).toNat)
  case atStart => exact ⟨0, 0, Nat.zero_le _, by omega, rfl, rfl, Lib.hid (by simp), by omega, Mod.refl _ _⟩
  case round =>
    obtain ⟨k, s, hk, hk8, rfl, rfl, hsm, hsb, hx⟩ := hrel
    by_cases hgo : k < n ∧ k < 1000
    · obtain ⟨hlt, hlt8⟩ := hgo
      have b1 : decide ((k : Int) < (n : Int)) = true := dtrue (by omega)
      have b1n : decide (k < n) = true := dtrue hlt
      have b2 : decide ((k : Int) < 1000) = true := dtrue (by omega)
      have b2n : decide (k < 1000) = true := dtrue hlt8
      have hj0 : (0 : Int) ≤ (k : Int) := by omega
      have hj1 : (k : Int) < (n : Int) := by omega
      have hkL : k < L.length := by have := hn.out; omega
      obtain ⟨ad, hA, hS, c0⟩ := (Cells.mod h4 hx (fun _ _ _ h => h)).at_ hkL
      subst hA
      have hsn := sumQ_next vQ L hkL
      have hxl := hs _ (List.getElem_mem hkL)
      generalize L[k] = x at *
      have hsm2 : Hid (s + 3 + x.length = ((L.take (k + 1)).map vQ).sum) := Lib.hid (by rw [hsn, ← hsm.out]; unfold vQ; omega)
      have hzx := sv_size x
      clear hsn hsm hkL h4 hs
      go_wp2_with fail
      exact ⟨⟨k + 1, s + 3 + x.length, by omega, by omega, by go_num, by go_num, hsm2, by omega, hx⟩, by simp [intOf] <;> omega⟩
    · have hw : Hid (Z = s) := Lib.hid (by
        rw [hZ.out, hsm.out]
        unfold wQ
        by_cases hlt : k < n
        · have : k = 1000 := by omega
          rw [this]
        · have hkn : k = L.length := by have := hn.out; omega
          rw [hkn, List.take_length]
          by_cases h1000 : L.length ≤ 1000
          · rw [List.take_of_length_le h1000]
          · omega)
      have hor : (decide ((k : Int) < (n : Int)) = false ∧ decide (k < n) = false) ∨ (decide ((k : Int) < (n : Int)) = true ∧ decide (k < n) = true ∧ decide ((k : Int) < 1000) = false ∧ decide (k < 1000) = false) := by
        by_cases hlt : k < n
        · exact .inr ⟨dtrue (by omega), dtrue (by omega), dfalse (by omega), dfalse (by omega)⟩
        · exact .inl ⟨dfalse (by omega), dfalse (by omega)⟩
      clear hsm hgo hs h4
      rcases hor with ⟨b1, b2⟩ | ⟨b1, b2, b3, b4⟩
      all_goals
        go_wp2_with fail
        go_ret
        exact ⟨by rw [hw.out]; rfl, hx⟩
/-- How much a filter weighs. -/
def wF25 : Nat → Fi → Nat
  | 0, _ => 0
  | n + 1, F => 9 + F.typ.length + F.val.length + wQ F.subs + (F.kids.map (wF25 n)).sum
theorem wF25_succ (n : Nat) (F : Fi) : wF25 (n + 1) F = 9 + F.typ.length + F.val.length + wQ F.subs + (F.kids.map (wF25 n)).sum := rfl
/-- What is left of left behind W. -/
def HvQ (left : Int) (W : Nat) (r : Int) : Prop := ((W : Int) ≤ left ∧ r = left - W) ∨ (left < W ∧ r < 0 ∧ -1000000000000000000 ≤ r)
set_option maxHeartbeats 16000000 in
theorem filter25_any (n : Nat) : ∀ {w : World} {F : Fi} {vs vk : Value} {left : Int}, FilN n w F vs vk → 0 ≤ left → left ≤ 1000000 →
    Calls Tryz.prog 41 #[.agg #[.int .i64 F.kind, sv F.typ, sv F.val, vs, vk], .int .i64 left] w fun e w' => ∃ r : Int, e = .returned (.int .i64 r) ∧ HvQ left (wF25 n F) r ∧ Ext w w' := by
  induction n with
  | zero => intro w F vs vk left h; exact h.elim
  | succ n ih =>
    intro w F vs vk left h hl0 hl1
    obtain ⟨hB, ⟨As, cs, es⟩, hS, A, c, ek, -⟩ := h.open_
    have hty := hB.ty
    have hvl := hB.vl
    have hsl := hB.sl
    have hkl := hB.kl
    have hwb := wQ_le hsl
    have hwt := fun (wx : World) (x : Ext w wx) => weight25_any (Sl.mod hS x (fun _ _ _ h => h)) hsl
    obtain ⟨W, hW⟩ : ∃ W, W = wF25 (n + 1) F := ⟨_, rfl⟩
    rw [← hW]
    rw [wF25_succ] at hW
    obtain ⟨T, hT⟩ : ∃ T, T = F.typ := ⟨_, rfl⟩
    obtain ⟨V, hV⟩ : ∃ T, T = F.val := ⟨_, rfl⟩
    obtain ⟨B, hBs⟩ : ∃ T, T = F.subs := ⟨_, rfl⟩
    obtain ⟨K, hKs⟩ : ∃ T, T = F.kids := ⟨_, rfl⟩
    obtain ⟨kd, hkd⟩ : ∃ T, T = F.kind := ⟨_, rfl⟩
    have hop := fun {wx : World} (x : Ext w wx) => (h.ext x).open_
    rw [← hT] at hty hW ⊢
    rw [← hV] at hvl hW ⊢
    rw [← hBs] at hW es hwb
    simp only [← hBs] at hwt
    rw [← hKs] at hkl hW ek
    rw [← hKs] at hop
    rw [← hkd]
    obtain ⟨m, hm⟩ : ∃ m, m = B.length := ⟨_, rfl⟩
    obtain ⟨q, hq⟩ : ∃ m, m = K.length := ⟨_, rfl⟩
    rw [← hm] at es
    rw [← hq] at ek
    obtain ⟨U, hU⟩ : ∃ U, U = wQ B := ⟨_, rfl⟩
    rw [← hU] at hW hwb
    simp only [← hU, es] at hwt
    subst es ek
    clear hT hV hBs hKs hkd hB h hS hsl hm hU
    obtain ⟨w1, hw1⟩ : ∃ x, x = w.alloc (.cells #[.int .i64 kd, sv T, sv V, .slice As m cs, .slice A q c] 26) := ⟨_, rfl⟩
    obtain ⟨p, hp⟩ : ∃ p, p = w.heap.size := ⟨_, rfl⟩
    have x1 : Ext w w1 := by rw [hw1]; exact (Mod.refl _ w).alloc _
    have BP : Blk w1 p 26 #[.int .i64 kd, sv T, sv V, .slice As m cs, .slice A q c] := by rw [hw1, hp]; exact Blk.new w _ _
    have hcc : ∀ wx, Ext w1 wx → wx.cell? ⟨p, 1, none⟩ = some (sv T) ∧ wx.cell? ⟨p, 2, none⟩ = some (sv V) ∧ wx.cell? ⟨p, 3, none⟩ = some (.slice As m cs) := fun wx x => ⟨(BP.mod x (fun h => h)).cell 1, (BP.mod x (fun h => h)).cell 2, (BP.mod x (fun h => h)).cell 3⟩
    have hc4 : ∀ {wx : World}, Ext w1 wx → wx.cell? ⟨p, 4, none⟩ = some (.slice A q c) := fun x => (BP.mod x (fun h => h)).cell 4
    have hq8 : q ≤ 140737488351232 := by omega
    replace hq := Lib.hid hq
    replace hw1 := Lib.hid hw1
    replace hp := Lib.hid hp
    replace hW := Lib.hid hW
    have q0 : Ext w1 w1.drew := (Mod.refl _ w1).drew
    have hzT := sv_size T
    have hzV := sv_size V
    clear BP
    go_enter Tryz.func41, Tryz.ntmps41
    go_upto_region 1 with fail
    rw [← hw1.out, ← hp.out]
    clear hw1 hp
    go_region_held3 (fun wx => wx.cell? ⟨p, 1, none⟩ = some (sv T) ∧ wx.cell? ⟨p, 2, none⟩ = some (sv V) ∧ wx.cell? ⟨p, 3, none⟩ = some (.slice As m cs)) (first | exact hcc _ qa | exact hcc _ q0) (first
      | (go_at_call 40; (with_reducible refine (hwt _ (ext_trans x1 q0)).mono ?_); rintro e wa ⟨rfl, a3⟩; have qa := ext_trans q0 a3))
    clear hwt hcc
    have hD : Hid (left - 9 - T.length - V.length - U + (9 + T.length + V.length + U + 0 : Nat) = left) := Lib.hid (by omega)
    have hlo : -1000000000000000000 ≤ left - 9 - T.length - V.length - U := by omega
    have hhi : left - 9 - T.length - V.length - U ≤ 1000000 := by omega
    go_wp2_with fail
    go_loopw [1, 5] (fun v i wr => ∃ (k : Nat) (l : Int), k ≤ q ∧ i = .int .i64 k ∧ v = .int .i64 l ∧ -1000000000000000000 ≤ l ∧ l ≤ 1000000 ∧ Hid ((l + (9 + T.length + V.length + U + ((K.take k).map (wF25 n)).sum : Nat) = left) ∨ (l < 0 ∧ left < W)) ∧ Ext w1 wr) (fun _ i _ => q - (intOf i).toNat)
    case atStart => exact ⟨0, left - 9 - T.length - V.length - U, Nat.zero_le _, rfl, (by rw [wid (x := left - 9) (by omega) (by omega), wid (x := left - 9 - T.length) (by omega) (by omega), wid (x := left - 9 - T.length - V.length) (by omega) (by omega), wid (x := left - 9 - T.length - V.length - U) (by omega) (by omega)]), hlo, hhi, Lib.hid (.inl (by simpa using hD.out)), qa⟩
    case round =>
      clear hD hlo hhi
      obtain ⟨k, l, hk, rfl, rfl, hl2, hl3, hL, hx⟩ := hrel
      have p4 := hc4 hx
      by_cases hgo : k < q ∧ 0 ≤ l
      · obtain ⟨hlt, hl4⟩ := hgo
        have hbl : decide ((k : Int) < (q : Int)) = true := dtrue (by omega)
        have hbn : decide (k < q) = true := dtrue (by omega)
        have hb0 : decide (l ≥ 0) = true := dtrue (by omega)
        have hb1 : decide ((0 : Int) ≤ l) = true := dtrue (by omega)
        have hi0 : (0 : Int) ≤ (k : Int) := by omega
        have hi1 : (k : Int) < (q : Int) := by omega
        have hkb : k < K.length := by have := hq.out; omega
        obtain ⟨-, -, -, A9, c9, e9, h5⟩ := hop (ext_trans x1 hx)
        rw [← hq.out] at e9
        injection e9 with e1 e2 e3
        clear e2
        subst e1
        subst e3
        obtain ⟨ag, ys, yk, e2, c0, c1, c2, c3, c4, h7⟩ := h5 k hkb
        subst e2
        have hsn := sumQ_next (wF25 n) K hkb
        have hst : ((K.take (k + 1)).map (wF25 n)).sum ≤ (K.map (wF25 n)).sum := by
          have e : (K.map (wF25 n)).sum = ((K.take (k + 1)).map (wF25 n)).sum + ((K.drop (k + 1)).map (wF25 n)).sum := by rw [← List.sum_append, ← List.map_append, List.take_append_drop]
          omega
        have hc := ih h7 hl4 hl3
        obtain ⟨⟨Y1, Y2, Y3, rfl⟩, Z1, Z2, Z3, rfl⟩ := h7.shape
        generalize K[k] = x at *
        generalize x.kind = xk at *
        generalize x.typ = xt at *
        generalize x.val = xv at *
        replace hc := Lib.hid hc
        clear h5 hkb h7 hop
        go_wp2_with fail
        refine hc.out.mono ?_
        rintro e w3 ⟨r, rfl, hr, x3⟩
        have hx4 := ext_trans hx x3
        have hr1 : -1000000000000000000 ≤ r ∧ r ≤ 1000000 := by rcases hr with ⟨h1, h2⟩ | ⟨h1, h2, h3⟩ <;> omega
        have hL2 : Hid ((r + (9 + T.length + V.length + U + ((K.take (k + 1)).map (wF25 n)).sum : Nat) = left) ∨ (r < 0 ∧ left < W)) := Lib.hid (by
          have hWx := hW.out
          rcases hL.out with h | h
          · rcases hr with ⟨h1, h2⟩ | ⟨h1, h2, h3⟩
            · left; omega
            · right; omega
          · omega)
        clear hsn hst hr hL hc p4 c0 c1 c2 c3 c4 hx x3
        go_wp2_with fail
        exact ⟨⟨k + 1, r, by omega, by go_num, rfl, hr1.1, hr1.2, hL2, hx4⟩, by simp [intOf] <;> omega⟩
      · have hr : HvQ left W l := by
          have hWx := hW.out
          have hst : ((K.take k).map (wF25 n)).sum ≤ (K.map (wF25 n)).sum := by
            have e : (K.map (wF25 n)).sum = ((K.take k).map (wF25 n)).sum + ((K.drop k).map (wF25 n)).sum := by rw [← List.sum_append, ← List.map_append, List.take_append_drop]
            omega
          rcases hL.out with h | h
          · by_cases hl4 : 0 ≤ l
            · have hkm : K.take k = K := List.take_of_length_le (by have := hq.out; omega)
              rw [hkm] at h
              exact .inl (by omega)
            · exact .inr (by omega)
          · exact .inr (by omega)
        have hor : (decide ((k : Int) < (q : Int)) = false ∧ decide (k < q) = false) ∨ (decide ((k : Int) < (q : Int)) = true ∧ decide (k < q) = true ∧ decide (l ≥ 0) = false ∧ decide ((0 : Int) ≤ l) = false) := by
          by_cases hlt : k < q
          · exact .inr ⟨dtrue (by omega), dtrue (by omega), dfalse (by omega), dfalse (by omega)⟩
          · exact .inl ⟨dfalse (by omega), dfalse (by omega)⟩
        clear hL hgo hop
        rcases hor with ⟨hbl, hbn⟩ | ⟨hbl, hbn, hb0, hb1⟩
        all_goals
          go_wp2_with fail
          go_ret
          exact ⟨_, rfl, hr, ext_trans x1 hx⟩
end Go.Proofs.YtoockogceobfgaaGreat
