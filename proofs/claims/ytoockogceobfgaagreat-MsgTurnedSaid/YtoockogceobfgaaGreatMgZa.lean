/- msg: the document's blank, kind by kind. -/
import Derived.Test.YtoockogceobfgaaGreatMfCm
import Derived.Deep.RegionHeld3
namespace Go.Proofs.YtoockogceobfgaaGreat
open Go.RowKit
set_option maxRecDepth 100000

set_option maxHeartbeats 16000000 in
theorem blank0_any {w : World} {num scope limit fk which : Int} {dn pass ft fv rdn up avt avv : List UInt8} {keep above : Bool} {Y1 Z1 W1 M1 A1 : Option Addr} {Y2 Y3 Z2 Z3 W2 W3 M2 M3 A2 A3 : Nat} : Calls Tryz.prog 45 #[.agg #[.int .i64 num, .int .i64 0, sv dn, sv pass, .int .i64 scope, .int .i64 limit, .int .i64 fk, sv ft, sv fv, .slice Y1 Y2 Y3, .slice Z1 Z2 Z3, .slice W1 W2 W3, .slice M1 M2 M3, .slice A1 A2 A3, sv rdn, .bool keep, .bool above, sv up, sv avt, sv avv, .int .i64 which]] w fun e w' => e = .returned (.agg #[.int .i64 num, .int .i64 0, sv dn, sv pass, .int .i64 0, .int .i64 0, .int .i64 0, .string ⟨#[]⟩, .string ⟨#[]⟩, .slice none 0 0, .slice none 0 0, .slice none 0 0, .slice none 0 0, .slice none 0 0, .string ⟨#[]⟩, .bool false, .bool false, .string ⟨#[]⟩, .string ⟨#[]⟩, .string ⟨#[]⟩, .int .i64 0]) ∧ Ext w w' := by
  obtain ⟨x2a, x2b, x2⟩ := Blk.twoN w #[.int .i64 num, .int .i64 0, sv dn, sv pass, .int .i64 scope, .int .i64 limit, .int .i64 fk, sv ft, sv fv, .slice Y1 Y2 Y3, .slice Z1 Z2 Z3, .slice W1 W2 W3, .slice M1 M2 M3, .slice A1 A2 A3, sv rdn, .bool keep, .bool above, sv up, sv avt, sv avv, .int .i64 which] #[.int .i64 0, .int .i64 0, .string ⟨#[]⟩, .string ⟨#[]⟩, .int .i64 0, .int .i64 0, .int .i64 0, .string ⟨#[]⟩, .string ⟨#[]⟩, .slice none 0 0, .slice none 0 0, .slice none 0 0, .slice none 0 0, .slice none 0 0, .string ⟨#[]⟩, .bool false, .bool false, .string ⟨#[]⟩, .string ⟨#[]⟩, .string ⟨#[]⟩, .int .i64 0] 32 32
  obtain ⟨w2, hw2⟩ : ∃ x, x = (w.alloc (.cells #[.int .i64 num, .int .i64 0, sv dn, sv pass, .int .i64 scope, .int .i64 limit, .int .i64 fk, sv ft, sv fv, .slice Y1 Y2 Y3, .slice Z1 Z2 Z3, .slice W1 W2 W3, .slice M1 M2 M3, .slice A1 A2 A3, sv rdn, .bool keep, .bool above, sv up, sv avt, sv avv, .int .i64 which] 32)).alloc (.cells #[.int .i64 0, .int .i64 0, .string ⟨#[]⟩, .string ⟨#[]⟩, .int .i64 0, .int .i64 0, .int .i64 0, .string ⟨#[]⟩, .string ⟨#[]⟩, .slice none 0 0, .slice none 0 0, .slice none 0 0, .slice none 0 0, .slice none 0 0, .string ⟨#[]⟩, .bool false, .bool false, .string ⟨#[]⟩, .string ⟨#[]⟩, .string ⟨#[]⟩, .int .i64 0] 32) := ⟨_, rfl⟩
  rw [← hw2] at x2a x2b x2
  obtain ⟨q, hq⟩ : ∃ q, q = w.heap.size + 1 := ⟨_, rfl⟩
  have hqw : w.heap.size ≤ q := by omega
  rw [← hq] at x2b
  have B3a : Blk (w2.alloc (.cells #[.int .i64 0, .int .i64 0, .string ⟨#[]⟩, .string ⟨#[]⟩, .int .i64 0, .int .i64 0, .int .i64 0, .string ⟨#[]⟩, .string ⟨#[]⟩, .slice none 0 0, .slice none 0 0, .slice none 0 0, .slice none 0 0, .slice none 0 0, .string ⟨#[]⟩, .bool false, .bool false, .string ⟨#[]⟩, .string ⟨#[]⟩, .string ⟨#[]⟩, .int .i64 0] 32)) w2.heap.size 32 #[.int .i64 0, .int .i64 0, .string ⟨#[]⟩, .string ⟨#[]⟩, .int .i64 0, .int .i64 0, .int .i64 0, .string ⟨#[]⟩, .string ⟨#[]⟩, .slice none 0 0, .slice none 0 0, .slice none 0 0, .slice none 0 0, .slice none 0 0, .string ⟨#[]⟩, .bool false, .bool false, .string ⟨#[]⟩, .string ⟨#[]⟩, .string ⟨#[]⟩, .int .i64 0] := Blk.new w2 _ _
  obtain ⟨w3, hw3⟩ : ∃ x, x = (w2.alloc (.cells #[.int .i64 0, .int .i64 0, .string ⟨#[]⟩, .string ⟨#[]⟩, .int .i64 0, .int .i64 0, .int .i64 0, .string ⟨#[]⟩, .string ⟨#[]⟩, .slice none 0 0, .slice none 0 0, .slice none 0 0, .slice none 0 0, .slice none 0 0, .string ⟨#[]⟩, .bool false, .bool false, .string ⟨#[]⟩, .string ⟨#[]⟩, .string ⟨#[]⟩, .int .i64 0] 32)).setRow w2.heap.size #[.int .i64 num, .int .i64 0, .string ⟨#[]⟩, .string ⟨#[]⟩, .int .i64 0, .int .i64 0, .int .i64 0, .string ⟨#[]⟩, .string ⟨#[]⟩, .slice none 0 0, .slice none 0 0, .slice none 0 0, .slice none 0 0, .slice none 0 0, .string ⟨#[]⟩, .bool false, .bool false, .string ⟨#[]⟩, .string ⟨#[]⟩, .string ⟨#[]⟩, .int .i64 0] := ⟨_, rfl⟩
  obtain ⟨g, hg⟩ : ∃ q, q = w2.heap.size := ⟨_, rfl⟩
  have hpg : w.heap.size ≠ g := by have := x2a.lt; omega
  have hgp : g ≠ w.heap.size := fun h => hpg h.symm
  have hqg : q ≠ g := by have := x2b.lt; omega
  have hwg : w.heap.size ≤ g := by have := x2a.lt; omega
  have x3 : Ext w2 w3 := by rw [hw3]; exact ((Mod.refl _ w2).alloc _).setRow (fun h => by omega) _
  have B3 : Blk w3 g 32 #[.int .i64 num, .int .i64 0, .string ⟨#[]⟩, .string ⟨#[]⟩, .int .i64 0, .int .i64 0, .int .i64 0, .string ⟨#[]⟩, .string ⟨#[]⟩, .slice none 0 0, .slice none 0 0, .slice none 0 0, .slice none 0 0, .slice none 0 0, .string ⟨#[]⟩, .bool false, .bool false, .string ⟨#[]⟩, .string ⟨#[]⟩, .string ⟨#[]⟩, .int .i64 0] := by rw [hw3, hg]; exact B3a.setRow #[.int .i64 num, .int .i64 0, .string ⟨#[]⟩, .string ⟨#[]⟩, .int .i64 0, .int .i64 0, .int .i64 0, .string ⟨#[]⟩, .string ⟨#[]⟩, .slice none 0 0, .slice none 0 0, .slice none 0 0, .slice none 0 0, .slice none 0 0, .string ⟨#[]⟩, .bool false, .bool false, .string ⟨#[]⟩, .string ⟨#[]⟩, .string ⟨#[]⟩, .int .i64 0]
  have BR := x2b.mod x3 (fun h => h)
  have BP3 := x2a.mod x3 (fun h => h)
  have hp0 : w2.cell? ⟨w.heap.size, 0, none⟩ = some (.int .i64 num) := x2a.cell 0
  have hp1 : w2.cell? ⟨w.heap.size, 1, none⟩ = some (.int .i64 0) := x2a.cell 1
  have xx := ext_trans x2 x3
  have p31 : w3.cell? ⟨w.heap.size, 1, none⟩ = some (.int .i64 0) := BP3.cell 1
  have p32 : w3.cell? ⟨w.heap.size, 2, none⟩ = some (sv dn) := BP3.cell 2
  have g32 : w3.cell? ⟨g, 2, none⟩ = some (.string ⟨#[]⟩) := B3.cell 2
  have z32 : w3.frozen? ⟨g, 2, none⟩ = false := B3.frozen 2
  have p33 : w3.cell? ⟨w.heap.size, 3, none⟩ = some (sv pass) := BP3.cell 3
  have g33 : w3.cell? ⟨g, 3, none⟩ = some (.string ⟨#[]⟩) := B3.cell 3
  have z33 : w3.frozen? ⟨g, 3, none⟩ = false := B3.frozen 3
  replace hw2 := Lib.hid hw2
  replace hq := Lib.hid hq
  replace hw3 := Lib.hid hw3
  replace hg := Lib.hid hg
  go_enter Tryz.func45, Tryz.ntmps45
  go_upto_region 1 with fail
  rw [← hw2.out, ← hq.out]
  go_upto_region 2 with ((with_reducible show wpList _ _ _ (⟨none, .store 32 _ _, _, _, _, _⟩ :: _) _ _); refine wpList_store_row rfl 32 (.tmp 3) (.tmp 8) rfl w2.heap.size #[.int .i64 num, .int .i64 0, .string ⟨#[]⟩, .string ⟨#[]⟩, .int .i64 0, .int .i64 0, .int .i64 0, .string ⟨#[]⟩, .string ⟨#[]⟩, .slice none 0 0, .slice none 0 0, .slice none 0 0, .slice none 0 0, .slice none 0 0, .string ⟨#[]⟩, .bool false, .bool false, .string ⟨#[]⟩, .string ⟨#[]⟩, .string ⟨#[]⟩, .int .i64 0] rfl rfl _ _ B3a size21 rfl (by simp [Value.oneCell']) ?_)
  rw [← hw3.out, ← hg.out]
  clear hw2 hq hw3 hg hp0 hp1 B3a
  go_upto_region 4 with fail
  have hS4 : w3.cell? ⟨w.heap.size, 2, none⟩ = some (sv dn) ∧ w3.cell? ⟨w.heap.size, 3, none⟩ = some (sv pass) := ⟨p32, p33⟩
  have hk : ∀ (wx : World) (o : Nat) (v : Value), (wx.cell? ⟨w.heap.size, 2, none⟩ = some (sv dn) ∧ wx.cell? ⟨w.heap.size, 3, none⟩ = some (sv pass)) → ((wx.setCell ⟨g, o, none⟩ v).cell? ⟨w.heap.size, 2, none⟩ = some (sv dn) ∧ (wx.setCell ⟨g, o, none⟩ v).cell? ⟨w.heap.size, 3, none⟩ = some (sv pass)) := fun wx o v h => by
    have e : ∀ i, (wx.setCell ⟨g, o, none⟩ v).cell? ⟨w.heap.size, i, none⟩ = wx.cell? ⟨w.heap.size, i, none⟩ := fun i => World.cell?_setCell_far wx _ _ v hgp
    simp only [e]
    exact h
  refine wp_region_held_drew (S := fun wx => wx.cell? ⟨w.heap.size, 2, none⟩ = some (sv dn) ∧ wx.cell? ⟨w.heap.size, 3, none⟩ = some (sv pass)) (by kernel_rfl) hS4 (fun hH => ?_)
  (refine wpAnyH_take (i := 0) (oi := ⟨_, _, _, _, _, _⟩) (v := ?_) rfl (by kernel_rfl) (by kernel_rfl) (by kernel_rfl) (fun _ _ _ h => h) (Or.inl ⟨by kernel_rfl, ?_⟩) hH ?_; rotate_left; focus (intro wx hSw; (try dsimp only at hSw); go_simp; try with_reducible rfl)); try simp only [Act.put, List.setIfInBounds_toArray, List.set_cons_zero, List.set_cons_succ]; try simp only [List.getElem_toArray, List.getElem_cons_succ, List.getElem_cons_zero]
  (refine wpAnyH_take (i := 1) (oi := ⟨_, _, _, _, _, _⟩) (v := ?_) rfl (by kernel_rfl) (by kernel_rfl) (by kernel_rfl) (fun _ _ _ h => h) (Or.inl ⟨by kernel_rfl, ?_⟩) hH ?_; rotate_left; focus (intro wx hSw; (try dsimp only at hSw); go_simp; try with_reducible rfl)); try simp only [Act.put, List.setIfInBounds_toArray, List.set_cons_zero, List.set_cons_succ]; try simp only [List.getElem_toArray, List.getElem_cons_succ, List.getElem_cons_zero]
  (refine wpAnyH_take (i := 2) (oi := ⟨_, _, _, _, _, _⟩) (v := ?_) rfl (by kernel_rfl) (by kernel_rfl) (by kernel_rfl) (fun _ _ _ h => h) (Or.inl ⟨by kernel_rfl, ?_⟩) hH ?_; rotate_left; focus (intro wx hSw; (try dsimp only at hSw); go_simp; try with_reducible rfl)); try simp only [Act.put, List.setIfInBounds_toArray, List.set_cons_zero, List.set_cons_succ]; try simp only [List.getElem_toArray, List.getElem_cons_succ, List.getElem_cons_zero]
  (refine wpAnyH_take (i := 3) (oi := ⟨_, _, _, _, _, _⟩) (v := ?_) rfl (by kernel_rfl) (by kernel_rfl) (by kernel_rfl) (fun _ _ _ h => h) (Or.inl ⟨by kernel_rfl, ?_⟩) hH ?_; rotate_left; focus (intro wx hSw; (try dsimp only at hSw); go_simp; try with_reducible rfl)); try simp only [Act.put, List.setIfInBounds_toArray, List.set_cons_zero, List.set_cons_succ]; try simp only [List.getElem_toArray, List.getElem_cons_succ, List.getElem_cons_zero]
  (refine wpAnyH_take (i := 4) (oi := ⟨_, _, _, _, _, _⟩) (v := ?_) rfl (by kernel_rfl) (by kernel_rfl) (by kernel_rfl) (fun _ _ _ h => h) (Or.inl ⟨by kernel_rfl, ?_⟩) hH ?_; rotate_left; focus (intro wx hSw; (try dsimp only at hSw); go_simp; try with_reducible rfl)); try simp only [Act.put, List.setIfInBounds_toArray, List.set_cons_zero, List.set_cons_succ]; try simp only [List.getElem_toArray, List.getElem_cons_succ, List.getElem_cons_zero]
  (refine wpAnyH_ready (rs := [5]) (by kernel_rfl) (by simp) ?_; refine AllReadyH.cons rfl (fun K' hK => ?_) AllReadyH.nil); go_simp
  (refine hK.out _ _ (hk _ 2 (sv dn) hS4) (fun hH => ?_); clear hK K'; try simp only [Act.put, List.setIfInBounds_toArray, List.set_cons_zero, List.set_cons_succ]; try simp only [List.getElem_toArray, List.getElem_cons_succ, List.getElem_cons_zero])
  (refine wpAnyH_take (i := 6) (oi := ⟨_, _, _, _, _, _⟩) (v := ?_) rfl (by kernel_rfl) (by kernel_rfl) (by kernel_rfl) (fun _ _ _ h => h) (Or.inl ⟨by kernel_rfl, ?_⟩) hH ?_; rotate_left; focus (intro wx hSw; (try dsimp only at hSw); go_simp; try with_reducible rfl)); try simp only [Act.put, List.setIfInBounds_toArray, List.set_cons_zero, List.set_cons_succ]; try simp only [List.getElem_toArray, List.getElem_cons_succ, List.getElem_cons_zero]
  (refine wpAnyH_ready (rs := [7]) (by kernel_rfl) (by simp) ?_; refine AllReadyH.cons rfl (fun K' hK => ?_) AllReadyH.nil); go_simp
  (refine hK.out _ _ (hk _ 3 (sv pass) (hk _ 2 (sv dn) hS4)) (fun hH => ?_); clear hK K'; try simp only [Act.put, List.setIfInBounds_toArray, List.set_cons_zero, List.set_cons_succ]; try simp only [List.getElem_toArray, List.getElem_cons_succ, List.getElem_cons_zero])
  refine wpAnyH_done (by kernel_rfl) ?_ _
  have B5 : Blk ((w3.setCell ⟨g, 2, none⟩ (sv dn)).setCell ⟨g, 3, none⟩ (sv pass)).drew g 32 #[.int .i64 num, .int .i64 0, sv dn, sv pass, .int .i64 0, .int .i64 0, .int .i64 0, .string ⟨#[]⟩, .string ⟨#[]⟩, .slice none 0 0, .slice none 0 0, .slice none 0 0, .slice none 0 0, .slice none 0 0, .string ⟨#[]⟩, .bool false, .bool false, .string ⟨#[]⟩, .string ⟨#[]⟩, .string ⟨#[]⟩, .int .i64 0] := ((B3.set_ 2 (sv dn)).set_ 3 (sv pass))
  have BR5 : Blk ((w3.setCell ⟨g, 2, none⟩ (sv dn)).setCell ⟨g, 3, none⟩ (sv pass)).drew q 32 #[.int .i64 0, .int .i64 0, .string ⟨#[]⟩, .string ⟨#[]⟩, .int .i64 0, .int .i64 0, .int .i64 0, .string ⟨#[]⟩, .string ⟨#[]⟩, .slice none 0 0, .slice none 0 0, .slice none 0 0, .slice none 0 0, .slice none 0 0, .string ⟨#[]⟩, .bool false, .bool false, .string ⟨#[]⟩, .string ⟨#[]⟩, .string ⟨#[]⟩, .int .i64 0] := ((BR.far (p := ⟨g, 2, none⟩) hqg (sv dn)).far (p := ⟨g, 3, none⟩) hqg (sv pass))
  have x5 : Ext w ((w3.setCell ⟨g, 2, none⟩ (sv dn)).setCell ⟨g, 3, none⟩ (sv pass)).drew := ((xx.setCell (p := ⟨g, 2, none⟩) (fun h => absurd h (Nat.not_lt.2 hwg)) (sv dn)).setCell (p := ⟨g, 3, none⟩) (fun h => absurd h (Nat.not_lt.2 hwg)) (sv pass)).drew
  clear hS4 hk hH B3 BR BP3 xx x3 p32 g32 z32 p33 g33 z33 p31
  go_wp2_with (first
    | ((with_reducible show wpList _ _ _ (⟨some 87, _, _, _, _, _⟩ :: _) _ _); refine wpList_load_row rfl 32 (.tmp 3) rfl g rfl _ _ _ _ B5 Tryz.underlying32 rfl size21 ?_)
    | ((with_reducible show wpList _ _ _ (⟨none, .store 32 _ _, _, _, _, _⟩ :: _) _ _); refine wpList_store_row rfl 32 (.tmp 2) (.tmp 87) rfl q #[.int .i64 num, .int .i64 0, sv dn, sv pass, .int .i64 0, .int .i64 0, .int .i64 0, .string ⟨#[]⟩, .string ⟨#[]⟩, .slice none 0 0, .slice none 0 0, .slice none 0 0, .slice none 0 0, .slice none 0 0, .string ⟨#[]⟩, .bool false, .bool false, .string ⟨#[]⟩, .string ⟨#[]⟩, .string ⟨#[]⟩, .int .i64 0] rfl rfl _ _ BR5 size21 rfl (by simp [Value.oneCell']) ?_))
  refine bodyPost_ret (results_cell_row Tryz.results45 _ _ _ _ _ _ _ rfl (Blk.setRow BR5 #[.int .i64 num, .int .i64 0, sv dn, sv pass, .int .i64 0, .int .i64 0, .int .i64 0, .string ⟨#[]⟩, .string ⟨#[]⟩, .slice none 0 0, .slice none 0 0, .slice none 0 0, .slice none 0 0, .slice none 0 0, .string ⟨#[]⟩, .bool false, .bool false, .string ⟨#[]⟩, .string ⟨#[]⟩, .string ⟨#[]⟩, .int .i64 0]) Tryz.underlying32 rfl (by exact size21)) rfl ?_
  exact ⟨rfl, Mod.setRow x5 (fun h => by omega) _⟩
set_option maxHeartbeats 16000000 in
theorem blank2_any {w : World} {num scope limit fk which : Int} {dn pass ft fv rdn up avt avv : List UInt8} {keep above : Bool} {Y1 Z1 W1 M1 A1 : Option Addr} {Y2 Y3 Z2 Z3 W2 W3 M2 M3 A2 A3 : Nat} : Calls Tryz.prog 45 #[.agg #[.int .i64 num, .int .i64 2, sv dn, sv pass, .int .i64 scope, .int .i64 limit, .int .i64 fk, sv ft, sv fv, .slice Y1 Y2 Y3, .slice Z1 Z2 Z3, .slice W1 W2 W3, .slice M1 M2 M3, .slice A1 A2 A3, sv rdn, .bool keep, .bool above, sv up, sv avt, sv avv, .int .i64 which]] w fun e w' => e = .returned (.agg #[.int .i64 num, .int .i64 2, .string ⟨#[]⟩, .string ⟨#[]⟩, .int .i64 0, .int .i64 0, .int .i64 0, .string ⟨#[]⟩, .string ⟨#[]⟩, .slice none 0 0, .slice none 0 0, .slice none 0 0, .slice none 0 0, .slice none 0 0, .string ⟨#[]⟩, .bool false, .bool false, .string ⟨#[]⟩, .string ⟨#[]⟩, .string ⟨#[]⟩, .int .i64 0]) ∧ Ext w w' := by
  obtain ⟨x2a, x2b, x2⟩ := Blk.twoN w #[.int .i64 num, .int .i64 2, sv dn, sv pass, .int .i64 scope, .int .i64 limit, .int .i64 fk, sv ft, sv fv, .slice Y1 Y2 Y3, .slice Z1 Z2 Z3, .slice W1 W2 W3, .slice M1 M2 M3, .slice A1 A2 A3, sv rdn, .bool keep, .bool above, sv up, sv avt, sv avv, .int .i64 which] #[.int .i64 0, .int .i64 0, .string ⟨#[]⟩, .string ⟨#[]⟩, .int .i64 0, .int .i64 0, .int .i64 0, .string ⟨#[]⟩, .string ⟨#[]⟩, .slice none 0 0, .slice none 0 0, .slice none 0 0, .slice none 0 0, .slice none 0 0, .string ⟨#[]⟩, .bool false, .bool false, .string ⟨#[]⟩, .string ⟨#[]⟩, .string ⟨#[]⟩, .int .i64 0] 32 32
  obtain ⟨w2, hw2⟩ : ∃ x, x = (w.alloc (.cells #[.int .i64 num, .int .i64 2, sv dn, sv pass, .int .i64 scope, .int .i64 limit, .int .i64 fk, sv ft, sv fv, .slice Y1 Y2 Y3, .slice Z1 Z2 Z3, .slice W1 W2 W3, .slice M1 M2 M3, .slice A1 A2 A3, sv rdn, .bool keep, .bool above, sv up, sv avt, sv avv, .int .i64 which] 32)).alloc (.cells #[.int .i64 0, .int .i64 0, .string ⟨#[]⟩, .string ⟨#[]⟩, .int .i64 0, .int .i64 0, .int .i64 0, .string ⟨#[]⟩, .string ⟨#[]⟩, .slice none 0 0, .slice none 0 0, .slice none 0 0, .slice none 0 0, .slice none 0 0, .string ⟨#[]⟩, .bool false, .bool false, .string ⟨#[]⟩, .string ⟨#[]⟩, .string ⟨#[]⟩, .int .i64 0] 32) := ⟨_, rfl⟩
  rw [← hw2] at x2a x2b x2
  obtain ⟨q, hq⟩ : ∃ q, q = w.heap.size + 1 := ⟨_, rfl⟩
  have hqw : w.heap.size ≤ q := by omega
  rw [← hq] at x2b
  have B3a : Blk (w2.alloc (.cells #[.int .i64 0, .int .i64 0, .string ⟨#[]⟩, .string ⟨#[]⟩, .int .i64 0, .int .i64 0, .int .i64 0, .string ⟨#[]⟩, .string ⟨#[]⟩, .slice none 0 0, .slice none 0 0, .slice none 0 0, .slice none 0 0, .slice none 0 0, .string ⟨#[]⟩, .bool false, .bool false, .string ⟨#[]⟩, .string ⟨#[]⟩, .string ⟨#[]⟩, .int .i64 0] 32)) w2.heap.size 32 #[.int .i64 0, .int .i64 0, .string ⟨#[]⟩, .string ⟨#[]⟩, .int .i64 0, .int .i64 0, .int .i64 0, .string ⟨#[]⟩, .string ⟨#[]⟩, .slice none 0 0, .slice none 0 0, .slice none 0 0, .slice none 0 0, .slice none 0 0, .string ⟨#[]⟩, .bool false, .bool false, .string ⟨#[]⟩, .string ⟨#[]⟩, .string ⟨#[]⟩, .int .i64 0] := Blk.new w2 _ _
  obtain ⟨w3, hw3⟩ : ∃ x, x = (w2.alloc (.cells #[.int .i64 0, .int .i64 0, .string ⟨#[]⟩, .string ⟨#[]⟩, .int .i64 0, .int .i64 0, .int .i64 0, .string ⟨#[]⟩, .string ⟨#[]⟩, .slice none 0 0, .slice none 0 0, .slice none 0 0, .slice none 0 0, .slice none 0 0, .string ⟨#[]⟩, .bool false, .bool false, .string ⟨#[]⟩, .string ⟨#[]⟩, .string ⟨#[]⟩, .int .i64 0] 32)).setRow w2.heap.size #[.int .i64 num, .int .i64 2, .string ⟨#[]⟩, .string ⟨#[]⟩, .int .i64 0, .int .i64 0, .int .i64 0, .string ⟨#[]⟩, .string ⟨#[]⟩, .slice none 0 0, .slice none 0 0, .slice none 0 0, .slice none 0 0, .slice none 0 0, .string ⟨#[]⟩, .bool false, .bool false, .string ⟨#[]⟩, .string ⟨#[]⟩, .string ⟨#[]⟩, .int .i64 0] := ⟨_, rfl⟩
  obtain ⟨g, hg⟩ : ∃ q, q = w2.heap.size := ⟨_, rfl⟩
  have hpg : w.heap.size ≠ g := by have := x2a.lt; omega
  have hgp : g ≠ w.heap.size := fun h => hpg h.symm
  have hqg : q ≠ g := by have := x2b.lt; omega
  have hwg : w.heap.size ≤ g := by have := x2a.lt; omega
  have x3 : Ext w2 w3 := by rw [hw3]; exact ((Mod.refl _ w2).alloc _).setRow (fun h => by omega) _
  have B3 : Blk w3 g 32 #[.int .i64 num, .int .i64 2, .string ⟨#[]⟩, .string ⟨#[]⟩, .int .i64 0, .int .i64 0, .int .i64 0, .string ⟨#[]⟩, .string ⟨#[]⟩, .slice none 0 0, .slice none 0 0, .slice none 0 0, .slice none 0 0, .slice none 0 0, .string ⟨#[]⟩, .bool false, .bool false, .string ⟨#[]⟩, .string ⟨#[]⟩, .string ⟨#[]⟩, .int .i64 0] := by rw [hw3, hg]; exact B3a.setRow #[.int .i64 num, .int .i64 2, .string ⟨#[]⟩, .string ⟨#[]⟩, .int .i64 0, .int .i64 0, .int .i64 0, .string ⟨#[]⟩, .string ⟨#[]⟩, .slice none 0 0, .slice none 0 0, .slice none 0 0, .slice none 0 0, .slice none 0 0, .string ⟨#[]⟩, .bool false, .bool false, .string ⟨#[]⟩, .string ⟨#[]⟩, .string ⟨#[]⟩, .int .i64 0]
  have BR := x2b.mod x3 (fun h => h)
  have BP3 := x2a.mod x3 (fun h => h)
  have hp0 : w2.cell? ⟨w.heap.size, 0, none⟩ = some (.int .i64 num) := x2a.cell 0
  have hp1 : w2.cell? ⟨w.heap.size, 1, none⟩ = some (.int .i64 2) := x2a.cell 1
  have xx := ext_trans x2 x3
  have p31 : w3.cell? ⟨w.heap.size, 1, none⟩ = some (.int .i64 2) := BP3.cell 1
  replace hw2 := Lib.hid hw2
  replace hq := Lib.hid hq
  replace hw3 := Lib.hid hw3
  replace hg := Lib.hid hg
  go_enter Tryz.func45, Tryz.ntmps45
  go_upto_region 1 with fail
  rw [← hw2.out, ← hq.out]
  go_upto_region 2 with ((with_reducible show wpList _ _ _ (⟨none, .store 32 _ _, _, _, _, _⟩ :: _) _ _); refine wpList_store_row rfl 32 (.tmp 3) (.tmp 8) rfl w2.heap.size #[.int .i64 num, .int .i64 2, .string ⟨#[]⟩, .string ⟨#[]⟩, .int .i64 0, .int .i64 0, .int .i64 0, .string ⟨#[]⟩, .string ⟨#[]⟩, .slice none 0 0, .slice none 0 0, .slice none 0 0, .slice none 0 0, .slice none 0 0, .string ⟨#[]⟩, .bool false, .bool false, .string ⟨#[]⟩, .string ⟨#[]⟩, .string ⟨#[]⟩, .int .i64 0] rfl rfl _ _ B3a size21 rfl (by simp [Value.oneCell']) ?_)
  rw [← hw3.out, ← hg.out]
  clear hw2 hq hw3 hg hp0 hp1 B3a
  go_wp2_with (first
    | ((with_reducible show wpList _ _ _ (⟨some 87, _, _, _, _, _⟩ :: _) _ _); refine wpList_load_row rfl 32 (.tmp 3) rfl g rfl _ _ _ _ B3 Tryz.underlying32 rfl size21 ?_)
    | ((with_reducible show wpList _ _ _ (⟨none, .store 32 _ _, _, _, _, _⟩ :: _) _ _); refine wpList_store_row rfl 32 (.tmp 2) (.tmp 87) rfl q #[.int .i64 num, .int .i64 2, .string ⟨#[]⟩, .string ⟨#[]⟩, .int .i64 0, .int .i64 0, .int .i64 0, .string ⟨#[]⟩, .string ⟨#[]⟩, .slice none 0 0, .slice none 0 0, .slice none 0 0, .slice none 0 0, .slice none 0 0, .string ⟨#[]⟩, .bool false, .bool false, .string ⟨#[]⟩, .string ⟨#[]⟩, .string ⟨#[]⟩, .int .i64 0] rfl rfl _ _ BR size21 rfl (by simp [Value.oneCell']) ?_))
  refine bodyPost_ret (results_cell_row Tryz.results45 _ _ _ _ _ _ _ rfl (Blk.setRow BR #[.int .i64 num, .int .i64 2, .string ⟨#[]⟩, .string ⟨#[]⟩, .int .i64 0, .int .i64 0, .int .i64 0, .string ⟨#[]⟩, .string ⟨#[]⟩, .slice none 0 0, .slice none 0 0, .slice none 0 0, .slice none 0 0, .slice none 0 0, .string ⟨#[]⟩, .bool false, .bool false, .string ⟨#[]⟩, .string ⟨#[]⟩, .string ⟨#[]⟩, .int .i64 0]) Tryz.underlying32 rfl (by exact size21)) rfl ?_
  exact ⟨rfl, Mod.setRow xx (fun h => by omega) _⟩
set_option maxHeartbeats 16000000 in
theorem blank6_any {w : World} {num scope limit fk which : Int} {dn pass ft fv rdn up avt avv : List UInt8} {keep above : Bool} {Y1 Z1 W1 M1 A1 : Option Addr} {Y2 Y3 Z2 Z3 W2 W3 M2 M3 A2 A3 : Nat} : Calls Tryz.prog 45 #[.agg #[.int .i64 num, .int .i64 6, sv dn, sv pass, .int .i64 scope, .int .i64 limit, .int .i64 fk, sv ft, sv fv, .slice Y1 Y2 Y3, .slice Z1 Z2 Z3, .slice W1 W2 W3, .slice M1 M2 M3, .slice A1 A2 A3, sv rdn, .bool keep, .bool above, sv up, sv avt, sv avv, .int .i64 which]] w fun e w' => e = .returned (.agg #[.int .i64 num, .int .i64 6, sv dn, .string ⟨#[]⟩, .int .i64 0, .int .i64 0, .int .i64 0, .string ⟨#[]⟩, .string ⟨#[]⟩, .slice none 0 0, .slice none 0 0, .slice none 0 0, .slice M1 M2 M3, .slice none 0 0, .string ⟨#[]⟩, .bool false, .bool false, .string ⟨#[]⟩, .string ⟨#[]⟩, .string ⟨#[]⟩, .int .i64 0]) ∧ Ext w w' := by
  obtain ⟨x2a, x2b, x2⟩ := Blk.twoN w #[.int .i64 num, .int .i64 6, sv dn, sv pass, .int .i64 scope, .int .i64 limit, .int .i64 fk, sv ft, sv fv, .slice Y1 Y2 Y3, .slice Z1 Z2 Z3, .slice W1 W2 W3, .slice M1 M2 M3, .slice A1 A2 A3, sv rdn, .bool keep, .bool above, sv up, sv avt, sv avv, .int .i64 which] #[.int .i64 0, .int .i64 0, .string ⟨#[]⟩, .string ⟨#[]⟩, .int .i64 0, .int .i64 0, .int .i64 0, .string ⟨#[]⟩, .string ⟨#[]⟩, .slice none 0 0, .slice none 0 0, .slice none 0 0, .slice none 0 0, .slice none 0 0, .string ⟨#[]⟩, .bool false, .bool false, .string ⟨#[]⟩, .string ⟨#[]⟩, .string ⟨#[]⟩, .int .i64 0] 32 32
  obtain ⟨w2, hw2⟩ : ∃ x, x = (w.alloc (.cells #[.int .i64 num, .int .i64 6, sv dn, sv pass, .int .i64 scope, .int .i64 limit, .int .i64 fk, sv ft, sv fv, .slice Y1 Y2 Y3, .slice Z1 Z2 Z3, .slice W1 W2 W3, .slice M1 M2 M3, .slice A1 A2 A3, sv rdn, .bool keep, .bool above, sv up, sv avt, sv avv, .int .i64 which] 32)).alloc (.cells #[.int .i64 0, .int .i64 0, .string ⟨#[]⟩, .string ⟨#[]⟩, .int .i64 0, .int .i64 0, .int .i64 0, .string ⟨#[]⟩, .string ⟨#[]⟩, .slice none 0 0, .slice none 0 0, .slice none 0 0, .slice none 0 0, .slice none 0 0, .string ⟨#[]⟩, .bool false, .bool false, .string ⟨#[]⟩, .string ⟨#[]⟩, .string ⟨#[]⟩, .int .i64 0] 32) := ⟨_, rfl⟩
  rw [← hw2] at x2a x2b x2
  obtain ⟨q, hq⟩ : ∃ q, q = w.heap.size + 1 := ⟨_, rfl⟩
  have hqw : w.heap.size ≤ q := by omega
  rw [← hq] at x2b
  have B3a : Blk (w2.alloc (.cells #[.int .i64 0, .int .i64 0, .string ⟨#[]⟩, .string ⟨#[]⟩, .int .i64 0, .int .i64 0, .int .i64 0, .string ⟨#[]⟩, .string ⟨#[]⟩, .slice none 0 0, .slice none 0 0, .slice none 0 0, .slice none 0 0, .slice none 0 0, .string ⟨#[]⟩, .bool false, .bool false, .string ⟨#[]⟩, .string ⟨#[]⟩, .string ⟨#[]⟩, .int .i64 0] 32)) w2.heap.size 32 #[.int .i64 0, .int .i64 0, .string ⟨#[]⟩, .string ⟨#[]⟩, .int .i64 0, .int .i64 0, .int .i64 0, .string ⟨#[]⟩, .string ⟨#[]⟩, .slice none 0 0, .slice none 0 0, .slice none 0 0, .slice none 0 0, .slice none 0 0, .string ⟨#[]⟩, .bool false, .bool false, .string ⟨#[]⟩, .string ⟨#[]⟩, .string ⟨#[]⟩, .int .i64 0] := Blk.new w2 _ _
  obtain ⟨w3, hw3⟩ : ∃ x, x = (w2.alloc (.cells #[.int .i64 0, .int .i64 0, .string ⟨#[]⟩, .string ⟨#[]⟩, .int .i64 0, .int .i64 0, .int .i64 0, .string ⟨#[]⟩, .string ⟨#[]⟩, .slice none 0 0, .slice none 0 0, .slice none 0 0, .slice none 0 0, .slice none 0 0, .string ⟨#[]⟩, .bool false, .bool false, .string ⟨#[]⟩, .string ⟨#[]⟩, .string ⟨#[]⟩, .int .i64 0] 32)).setRow w2.heap.size #[.int .i64 num, .int .i64 6, .string ⟨#[]⟩, .string ⟨#[]⟩, .int .i64 0, .int .i64 0, .int .i64 0, .string ⟨#[]⟩, .string ⟨#[]⟩, .slice none 0 0, .slice none 0 0, .slice none 0 0, .slice none 0 0, .slice none 0 0, .string ⟨#[]⟩, .bool false, .bool false, .string ⟨#[]⟩, .string ⟨#[]⟩, .string ⟨#[]⟩, .int .i64 0] := ⟨_, rfl⟩
  obtain ⟨g, hg⟩ : ∃ q, q = w2.heap.size := ⟨_, rfl⟩
  have hpg : w.heap.size ≠ g := by have := x2a.lt; omega
  have hgp : g ≠ w.heap.size := fun h => hpg h.symm
  have hqg : q ≠ g := by have := x2b.lt; omega
  have hwg : w.heap.size ≤ g := by have := x2a.lt; omega
  have x3 : Ext w2 w3 := by rw [hw3]; exact ((Mod.refl _ w2).alloc _).setRow (fun h => by omega) _
  have B3 : Blk w3 g 32 #[.int .i64 num, .int .i64 6, .string ⟨#[]⟩, .string ⟨#[]⟩, .int .i64 0, .int .i64 0, .int .i64 0, .string ⟨#[]⟩, .string ⟨#[]⟩, .slice none 0 0, .slice none 0 0, .slice none 0 0, .slice none 0 0, .slice none 0 0, .string ⟨#[]⟩, .bool false, .bool false, .string ⟨#[]⟩, .string ⟨#[]⟩, .string ⟨#[]⟩, .int .i64 0] := by rw [hw3, hg]; exact B3a.setRow #[.int .i64 num, .int .i64 6, .string ⟨#[]⟩, .string ⟨#[]⟩, .int .i64 0, .int .i64 0, .int .i64 0, .string ⟨#[]⟩, .string ⟨#[]⟩, .slice none 0 0, .slice none 0 0, .slice none 0 0, .slice none 0 0, .slice none 0 0, .string ⟨#[]⟩, .bool false, .bool false, .string ⟨#[]⟩, .string ⟨#[]⟩, .string ⟨#[]⟩, .int .i64 0]
  have BR := x2b.mod x3 (fun h => h)
  have BP3 := x2a.mod x3 (fun h => h)
  have hp0 : w2.cell? ⟨w.heap.size, 0, none⟩ = some (.int .i64 num) := x2a.cell 0
  have hp1 : w2.cell? ⟨w.heap.size, 1, none⟩ = some (.int .i64 6) := x2a.cell 1
  have xx := ext_trans x2 x3
  have p31 : w3.cell? ⟨w.heap.size, 1, none⟩ = some (.int .i64 6) := BP3.cell 1
  have p32 : w3.cell? ⟨w.heap.size, 2, none⟩ = some (sv dn) := BP3.cell 2
  have g32 : w3.cell? ⟨g, 2, none⟩ = some (.string ⟨#[]⟩) := B3.cell 2
  have z32 : w3.frozen? ⟨g, 2, none⟩ = false := B3.frozen 2
  have p312 : w3.cell? ⟨w.heap.size, 12, none⟩ = some (.slice M1 M2 M3) := BP3.cell 12
  have g312 : w3.cell? ⟨g, 12, none⟩ = some (.slice none 0 0) := B3.cell 12
  have z312 : w3.frozen? ⟨g, 12, none⟩ = false := B3.frozen 12
  replace hw2 := Lib.hid hw2
  replace hq := Lib.hid hq
  replace hw3 := Lib.hid hw3
  replace hg := Lib.hid hg
  go_enter Tryz.func45, Tryz.ntmps45
  go_upto_region 1 with fail
  rw [← hw2.out, ← hq.out]
  go_upto_region 2 with ((with_reducible show wpList _ _ _ (⟨none, .store 32 _ _, _, _, _, _⟩ :: _) _ _); refine wpList_store_row rfl 32 (.tmp 3) (.tmp 8) rfl w2.heap.size #[.int .i64 num, .int .i64 6, .string ⟨#[]⟩, .string ⟨#[]⟩, .int .i64 0, .int .i64 0, .int .i64 0, .string ⟨#[]⟩, .string ⟨#[]⟩, .slice none 0 0, .slice none 0 0, .slice none 0 0, .slice none 0 0, .slice none 0 0, .string ⟨#[]⟩, .bool false, .bool false, .string ⟨#[]⟩, .string ⟨#[]⟩, .string ⟨#[]⟩, .int .i64 0] rfl rfl _ _ B3a size21 rfl (by simp [Value.oneCell']) ?_)
  rw [← hw3.out, ← hg.out]
  clear hw2 hq hw3 hg hp0 hp1 B3a
  go_upto_region 8 with fail
  have hS4 : w3.cell? ⟨w.heap.size, 2, none⟩ = some (sv dn) ∧ w3.cell? ⟨w.heap.size, 12, none⟩ = some (.slice M1 M2 M3) := ⟨p32, p312⟩
  have hk : ∀ (wx : World) (o : Nat) (v : Value), (wx.cell? ⟨w.heap.size, 2, none⟩ = some (sv dn) ∧ wx.cell? ⟨w.heap.size, 12, none⟩ = some (.slice M1 M2 M3)) → ((wx.setCell ⟨g, o, none⟩ v).cell? ⟨w.heap.size, 2, none⟩ = some (sv dn) ∧ (wx.setCell ⟨g, o, none⟩ v).cell? ⟨w.heap.size, 12, none⟩ = some (.slice M1 M2 M3)) := fun wx o v h => by
    have e : ∀ i, (wx.setCell ⟨g, o, none⟩ v).cell? ⟨w.heap.size, i, none⟩ = wx.cell? ⟨w.heap.size, i, none⟩ := fun i => World.cell?_setCell_far wx _ _ v hgp
    simp only [e]
    exact h
  refine wp_region_held_drew (S := fun wx => wx.cell? ⟨w.heap.size, 2, none⟩ = some (sv dn) ∧ wx.cell? ⟨w.heap.size, 12, none⟩ = some (.slice M1 M2 M3)) (by kernel_rfl) hS4 (fun hH => ?_)
  (refine wpAnyH_take (i := 0) (oi := ⟨_, _, _, _, _, _⟩) (v := ?_) rfl (by kernel_rfl) (by kernel_rfl) (by kernel_rfl) (fun _ _ _ h => h) (Or.inl ⟨by kernel_rfl, ?_⟩) hH ?_; rotate_left; focus (intro wx hSw; (try dsimp only at hSw); go_simp; try with_reducible rfl)); try simp only [Act.put, List.setIfInBounds_toArray, List.set_cons_zero, List.set_cons_succ]; try simp only [List.getElem_toArray, List.getElem_cons_succ, List.getElem_cons_zero]
  (refine wpAnyH_take (i := 1) (oi := ⟨_, _, _, _, _, _⟩) (v := ?_) rfl (by kernel_rfl) (by kernel_rfl) (by kernel_rfl) (fun _ _ _ h => h) (Or.inl ⟨by kernel_rfl, ?_⟩) hH ?_; rotate_left; focus (intro wx hSw; (try dsimp only at hSw); go_simp; try with_reducible rfl)); try simp only [Act.put, List.setIfInBounds_toArray, List.set_cons_zero, List.set_cons_succ]; try simp only [List.getElem_toArray, List.getElem_cons_succ, List.getElem_cons_zero]
  (refine wpAnyH_take (i := 2) (oi := ⟨_, _, _, _, _, _⟩) (v := ?_) rfl (by kernel_rfl) (by kernel_rfl) (by kernel_rfl) (fun _ _ _ h => h) (Or.inl ⟨by kernel_rfl, ?_⟩) hH ?_; rotate_left; focus (intro wx hSw; (try dsimp only at hSw); go_simp; try with_reducible rfl)); try simp only [Act.put, List.setIfInBounds_toArray, List.set_cons_zero, List.set_cons_succ]; try simp only [List.getElem_toArray, List.getElem_cons_succ, List.getElem_cons_zero]
  (refine wpAnyH_take (i := 3) (oi := ⟨_, _, _, _, _, _⟩) (v := ?_) rfl (by kernel_rfl) (by kernel_rfl) (by kernel_rfl) (fun _ _ _ h => h) (Or.inl ⟨by kernel_rfl, ?_⟩) hH ?_; rotate_left; focus (intro wx hSw; (try dsimp only at hSw); go_simp; try with_reducible rfl)); try simp only [Act.put, List.setIfInBounds_toArray, List.set_cons_zero, List.set_cons_succ]; try simp only [List.getElem_toArray, List.getElem_cons_succ, List.getElem_cons_zero]
  (refine wpAnyH_take (i := 4) (oi := ⟨_, _, _, _, _, _⟩) (v := ?_) rfl (by kernel_rfl) (by kernel_rfl) (by kernel_rfl) (fun _ _ _ h => h) (Or.inl ⟨by kernel_rfl, ?_⟩) hH ?_; rotate_left; focus (intro wx hSw; (try dsimp only at hSw); go_simp; try with_reducible rfl)); try simp only [Act.put, List.setIfInBounds_toArray, List.set_cons_zero, List.set_cons_succ]; try simp only [List.getElem_toArray, List.getElem_cons_succ, List.getElem_cons_zero]
  (refine wpAnyH_ready (rs := [5]) (by kernel_rfl) (by simp) ?_; refine AllReadyH.cons rfl (fun K' hK => ?_) AllReadyH.nil); go_simp
  (refine hK.out _ _ (hk _ 2 (sv dn) hS4) (fun hH => ?_); clear hK K'; try simp only [Act.put, List.setIfInBounds_toArray, List.set_cons_zero, List.set_cons_succ]; try simp only [List.getElem_toArray, List.getElem_cons_succ, List.getElem_cons_zero])
  (refine wpAnyH_take (i := 6) (oi := ⟨_, _, _, _, _, _⟩) (v := ?_) rfl (by kernel_rfl) (by kernel_rfl) (by kernel_rfl) (fun _ _ _ h => h) (Or.inl ⟨by kernel_rfl, ?_⟩) hH ?_; rotate_left; focus (intro wx hSw; (try dsimp only at hSw); go_simp; try with_reducible rfl)); try simp only [Act.put, List.setIfInBounds_toArray, List.set_cons_zero, List.set_cons_succ]; try simp only [List.getElem_toArray, List.getElem_cons_succ, List.getElem_cons_zero]
  (refine wpAnyH_ready (rs := [7]) (by kernel_rfl) (by simp) ?_; refine AllReadyH.cons rfl (fun K' hK => ?_) AllReadyH.nil); go_simp
  (refine hK.out _ _ (hk _ 12 (.slice M1 M2 M3) (hk _ 2 (sv dn) hS4)) (fun hH => ?_); clear hK K'; try simp only [Act.put, List.setIfInBounds_toArray, List.set_cons_zero, List.set_cons_succ]; try simp only [List.getElem_toArray, List.getElem_cons_succ, List.getElem_cons_zero])
  refine wpAnyH_done (by kernel_rfl) ?_ _
  have B5 : Blk ((w3.setCell ⟨g, 2, none⟩ (sv dn)).setCell ⟨g, 12, none⟩ (.slice M1 M2 M3)).drew g 32 #[.int .i64 num, .int .i64 6, sv dn, .string ⟨#[]⟩, .int .i64 0, .int .i64 0, .int .i64 0, .string ⟨#[]⟩, .string ⟨#[]⟩, .slice none 0 0, .slice none 0 0, .slice none 0 0, .slice M1 M2 M3, .slice none 0 0, .string ⟨#[]⟩, .bool false, .bool false, .string ⟨#[]⟩, .string ⟨#[]⟩, .string ⟨#[]⟩, .int .i64 0] := ((B3.set_ 2 (sv dn)).set_ 12 (.slice M1 M2 M3))
  have BR5 : Blk ((w3.setCell ⟨g, 2, none⟩ (sv dn)).setCell ⟨g, 12, none⟩ (.slice M1 M2 M3)).drew q 32 #[.int .i64 0, .int .i64 0, .string ⟨#[]⟩, .string ⟨#[]⟩, .int .i64 0, .int .i64 0, .int .i64 0, .string ⟨#[]⟩, .string ⟨#[]⟩, .slice none 0 0, .slice none 0 0, .slice none 0 0, .slice none 0 0, .slice none 0 0, .string ⟨#[]⟩, .bool false, .bool false, .string ⟨#[]⟩, .string ⟨#[]⟩, .string ⟨#[]⟩, .int .i64 0] := ((BR.far (p := ⟨g, 2, none⟩) hqg (sv dn)).far (p := ⟨g, 12, none⟩) hqg (.slice M1 M2 M3))
  have x5 : Ext w ((w3.setCell ⟨g, 2, none⟩ (sv dn)).setCell ⟨g, 12, none⟩ (.slice M1 M2 M3)).drew := ((xx.setCell (p := ⟨g, 2, none⟩) (fun h => absurd h (Nat.not_lt.2 hwg)) (sv dn)).setCell (p := ⟨g, 12, none⟩) (fun h => absurd h (Nat.not_lt.2 hwg)) (.slice M1 M2 M3)).drew
  clear hS4 hk hH B3 BR BP3 xx x3 p32 g32 z32 p312 g312 z312 p31
  go_wp2_with (first
    | ((with_reducible show wpList _ _ _ (⟨some 87, _, _, _, _, _⟩ :: _) _ _); refine wpList_load_row rfl 32 (.tmp 3) rfl g rfl _ _ _ _ B5 Tryz.underlying32 rfl size21 ?_)
    | ((with_reducible show wpList _ _ _ (⟨none, .store 32 _ _, _, _, _, _⟩ :: _) _ _); refine wpList_store_row rfl 32 (.tmp 2) (.tmp 87) rfl q #[.int .i64 num, .int .i64 6, sv dn, .string ⟨#[]⟩, .int .i64 0, .int .i64 0, .int .i64 0, .string ⟨#[]⟩, .string ⟨#[]⟩, .slice none 0 0, .slice none 0 0, .slice none 0 0, .slice M1 M2 M3, .slice none 0 0, .string ⟨#[]⟩, .bool false, .bool false, .string ⟨#[]⟩, .string ⟨#[]⟩, .string ⟨#[]⟩, .int .i64 0] rfl rfl _ _ BR5 size21 rfl (by simp [Value.oneCell']) ?_))
  refine bodyPost_ret (results_cell_row Tryz.results45 _ _ _ _ _ _ _ rfl (Blk.setRow BR5 #[.int .i64 num, .int .i64 6, sv dn, .string ⟨#[]⟩, .int .i64 0, .int .i64 0, .int .i64 0, .string ⟨#[]⟩, .string ⟨#[]⟩, .slice none 0 0, .slice none 0 0, .slice none 0 0, .slice M1 M2 M3, .slice none 0 0, .string ⟨#[]⟩, .bool false, .bool false, .string ⟨#[]⟩, .string ⟨#[]⟩, .string ⟨#[]⟩, .int .i64 0]) Tryz.underlying32 rfl (by exact size21)) rfl ?_
  exact ⟨rfl, Mod.setRow x5 (fun h => by omega) _⟩
set_option maxHeartbeats 16000000 in
theorem blank8_any {w : World} {num scope limit fk which : Int} {dn pass ft fv rdn up avt avv : List UInt8} {keep above : Bool} {Y1 Z1 W1 M1 A1 : Option Addr} {Y2 Y3 Z2 Z3 W2 W3 M2 M3 A2 A3 : Nat} : Calls Tryz.prog 45 #[.agg #[.int .i64 num, .int .i64 8, sv dn, sv pass, .int .i64 scope, .int .i64 limit, .int .i64 fk, sv ft, sv fv, .slice Y1 Y2 Y3, .slice Z1 Z2 Z3, .slice W1 W2 W3, .slice M1 M2 M3, .slice A1 A2 A3, sv rdn, .bool keep, .bool above, sv up, sv avt, sv avv, .int .i64 which]] w fun e w' => e = .returned (.agg #[.int .i64 num, .int .i64 8, sv dn, .string ⟨#[]⟩, .int .i64 0, .int .i64 0, .int .i64 0, .string ⟨#[]⟩, .string ⟨#[]⟩, .slice none 0 0, .slice none 0 0, .slice none 0 0, .slice none 0 0, .slice A1 A2 A3, .string ⟨#[]⟩, .bool false, .bool false, .string ⟨#[]⟩, .string ⟨#[]⟩, .string ⟨#[]⟩, .int .i64 0]) ∧ Ext w w' := by
  obtain ⟨x2a, x2b, x2⟩ := Blk.twoN w #[.int .i64 num, .int .i64 8, sv dn, sv pass, .int .i64 scope, .int .i64 limit, .int .i64 fk, sv ft, sv fv, .slice Y1 Y2 Y3, .slice Z1 Z2 Z3, .slice W1 W2 W3, .slice M1 M2 M3, .slice A1 A2 A3, sv rdn, .bool keep, .bool above, sv up, sv avt, sv avv, .int .i64 which] #[.int .i64 0, .int .i64 0, .string ⟨#[]⟩, .string ⟨#[]⟩, .int .i64 0, .int .i64 0, .int .i64 0, .string ⟨#[]⟩, .string ⟨#[]⟩, .slice none 0 0, .slice none 0 0, .slice none 0 0, .slice none 0 0, .slice none 0 0, .string ⟨#[]⟩, .bool false, .bool false, .string ⟨#[]⟩, .string ⟨#[]⟩, .string ⟨#[]⟩, .int .i64 0] 32 32
  obtain ⟨w2, hw2⟩ : ∃ x, x = (w.alloc (.cells #[.int .i64 num, .int .i64 8, sv dn, sv pass, .int .i64 scope, .int .i64 limit, .int .i64 fk, sv ft, sv fv, .slice Y1 Y2 Y3, .slice Z1 Z2 Z3, .slice W1 W2 W3, .slice M1 M2 M3, .slice A1 A2 A3, sv rdn, .bool keep, .bool above, sv up, sv avt, sv avv, .int .i64 which] 32)).alloc (.cells #[.int .i64 0, .int .i64 0, .string ⟨#[]⟩, .string ⟨#[]⟩, .int .i64 0, .int .i64 0, .int .i64 0, .string ⟨#[]⟩, .string ⟨#[]⟩, .slice none 0 0, .slice none 0 0, .slice none 0 0, .slice none 0 0, .slice none 0 0, .string ⟨#[]⟩, .bool false, .bool false, .string ⟨#[]⟩, .string ⟨#[]⟩, .string ⟨#[]⟩, .int .i64 0] 32) := ⟨_, rfl⟩
  rw [← hw2] at x2a x2b x2
  obtain ⟨q, hq⟩ : ∃ q, q = w.heap.size + 1 := ⟨_, rfl⟩
  have hqw : w.heap.size ≤ q := by omega
  rw [← hq] at x2b
  have B3a : Blk (w2.alloc (.cells #[.int .i64 0, .int .i64 0, .string ⟨#[]⟩, .string ⟨#[]⟩, .int .i64 0, .int .i64 0, .int .i64 0, .string ⟨#[]⟩, .string ⟨#[]⟩, .slice none 0 0, .slice none 0 0, .slice none 0 0, .slice none 0 0, .slice none 0 0, .string ⟨#[]⟩, .bool false, .bool false, .string ⟨#[]⟩, .string ⟨#[]⟩, .string ⟨#[]⟩, .int .i64 0] 32)) w2.heap.size 32 #[.int .i64 0, .int .i64 0, .string ⟨#[]⟩, .string ⟨#[]⟩, .int .i64 0, .int .i64 0, .int .i64 0, .string ⟨#[]⟩, .string ⟨#[]⟩, .slice none 0 0, .slice none 0 0, .slice none 0 0, .slice none 0 0, .slice none 0 0, .string ⟨#[]⟩, .bool false, .bool false, .string ⟨#[]⟩, .string ⟨#[]⟩, .string ⟨#[]⟩, .int .i64 0] := Blk.new w2 _ _
  obtain ⟨w3, hw3⟩ : ∃ x, x = (w2.alloc (.cells #[.int .i64 0, .int .i64 0, .string ⟨#[]⟩, .string ⟨#[]⟩, .int .i64 0, .int .i64 0, .int .i64 0, .string ⟨#[]⟩, .string ⟨#[]⟩, .slice none 0 0, .slice none 0 0, .slice none 0 0, .slice none 0 0, .slice none 0 0, .string ⟨#[]⟩, .bool false, .bool false, .string ⟨#[]⟩, .string ⟨#[]⟩, .string ⟨#[]⟩, .int .i64 0] 32)).setRow w2.heap.size #[.int .i64 num, .int .i64 8, .string ⟨#[]⟩, .string ⟨#[]⟩, .int .i64 0, .int .i64 0, .int .i64 0, .string ⟨#[]⟩, .string ⟨#[]⟩, .slice none 0 0, .slice none 0 0, .slice none 0 0, .slice none 0 0, .slice none 0 0, .string ⟨#[]⟩, .bool false, .bool false, .string ⟨#[]⟩, .string ⟨#[]⟩, .string ⟨#[]⟩, .int .i64 0] := ⟨_, rfl⟩
  obtain ⟨g, hg⟩ : ∃ q, q = w2.heap.size := ⟨_, rfl⟩
  have hpg : w.heap.size ≠ g := by have := x2a.lt; omega
  have hgp : g ≠ w.heap.size := fun h => hpg h.symm
  have hqg : q ≠ g := by have := x2b.lt; omega
  have hwg : w.heap.size ≤ g := by have := x2a.lt; omega
  have x3 : Ext w2 w3 := by rw [hw3]; exact ((Mod.refl _ w2).alloc _).setRow (fun h => by omega) _
  have B3 : Blk w3 g 32 #[.int .i64 num, .int .i64 8, .string ⟨#[]⟩, .string ⟨#[]⟩, .int .i64 0, .int .i64 0, .int .i64 0, .string ⟨#[]⟩, .string ⟨#[]⟩, .slice none 0 0, .slice none 0 0, .slice none 0 0, .slice none 0 0, .slice none 0 0, .string ⟨#[]⟩, .bool false, .bool false, .string ⟨#[]⟩, .string ⟨#[]⟩, .string ⟨#[]⟩, .int .i64 0] := by rw [hw3, hg]; exact B3a.setRow #[.int .i64 num, .int .i64 8, .string ⟨#[]⟩, .string ⟨#[]⟩, .int .i64 0, .int .i64 0, .int .i64 0, .string ⟨#[]⟩, .string ⟨#[]⟩, .slice none 0 0, .slice none 0 0, .slice none 0 0, .slice none 0 0, .slice none 0 0, .string ⟨#[]⟩, .bool false, .bool false, .string ⟨#[]⟩, .string ⟨#[]⟩, .string ⟨#[]⟩, .int .i64 0]
  have BR := x2b.mod x3 (fun h => h)
  have BP3 := x2a.mod x3 (fun h => h)
  have hp0 : w2.cell? ⟨w.heap.size, 0, none⟩ = some (.int .i64 num) := x2a.cell 0
  have hp1 : w2.cell? ⟨w.heap.size, 1, none⟩ = some (.int .i64 8) := x2a.cell 1
  have xx := ext_trans x2 x3
  have p31 : w3.cell? ⟨w.heap.size, 1, none⟩ = some (.int .i64 8) := BP3.cell 1
  have p32 : w3.cell? ⟨w.heap.size, 2, none⟩ = some (sv dn) := BP3.cell 2
  have g32 : w3.cell? ⟨g, 2, none⟩ = some (.string ⟨#[]⟩) := B3.cell 2
  have z32 : w3.frozen? ⟨g, 2, none⟩ = false := B3.frozen 2
  have p313 : w3.cell? ⟨w.heap.size, 13, none⟩ = some (.slice A1 A2 A3) := BP3.cell 13
  have g313 : w3.cell? ⟨g, 13, none⟩ = some (.slice none 0 0) := B3.cell 13
  have z313 : w3.frozen? ⟨g, 13, none⟩ = false := B3.frozen 13
  replace hw2 := Lib.hid hw2
  replace hq := Lib.hid hq
  replace hw3 := Lib.hid hw3
  replace hg := Lib.hid hg
  go_enter Tryz.func45, Tryz.ntmps45
  go_upto_region 1 with fail
  rw [← hw2.out, ← hq.out]
  go_upto_region 2 with ((with_reducible show wpList _ _ _ (⟨none, .store 32 _ _, _, _, _, _⟩ :: _) _ _); refine wpList_store_row rfl 32 (.tmp 3) (.tmp 8) rfl w2.heap.size #[.int .i64 num, .int .i64 8, .string ⟨#[]⟩, .string ⟨#[]⟩, .int .i64 0, .int .i64 0, .int .i64 0, .string ⟨#[]⟩, .string ⟨#[]⟩, .slice none 0 0, .slice none 0 0, .slice none 0 0, .slice none 0 0, .slice none 0 0, .string ⟨#[]⟩, .bool false, .bool false, .string ⟨#[]⟩, .string ⟨#[]⟩, .string ⟨#[]⟩, .int .i64 0] rfl rfl _ _ B3a size21 rfl (by simp [Value.oneCell']) ?_)
  rw [← hw3.out, ← hg.out]
  clear hw2 hq hw3 hg hp0 hp1 B3a
  go_upto_region 10 with fail
  have hS4 : w3.cell? ⟨w.heap.size, 2, none⟩ = some (sv dn) ∧ w3.cell? ⟨w.heap.size, 13, none⟩ = some (.slice A1 A2 A3) := ⟨p32, p313⟩
  have hk : ∀ (wx : World) (o : Nat) (v : Value), (wx.cell? ⟨w.heap.size, 2, none⟩ = some (sv dn) ∧ wx.cell? ⟨w.heap.size, 13, none⟩ = some (.slice A1 A2 A3)) → ((wx.setCell ⟨g, o, none⟩ v).cell? ⟨w.heap.size, 2, none⟩ = some (sv dn) ∧ (wx.setCell ⟨g, o, none⟩ v).cell? ⟨w.heap.size, 13, none⟩ = some (.slice A1 A2 A3)) := fun wx o v h => by
    have e : ∀ i, (wx.setCell ⟨g, o, none⟩ v).cell? ⟨w.heap.size, i, none⟩ = wx.cell? ⟨w.heap.size, i, none⟩ := fun i => World.cell?_setCell_far wx _ _ v hgp
    simp only [e]
    exact h
  refine wp_region_held_drew (S := fun wx => wx.cell? ⟨w.heap.size, 2, none⟩ = some (sv dn) ∧ wx.cell? ⟨w.heap.size, 13, none⟩ = some (.slice A1 A2 A3)) (by kernel_rfl) hS4 (fun hH => ?_)
  (refine wpAnyH_take (i := 0) (oi := ⟨_, _, _, _, _, _⟩) (v := ?_) rfl (by kernel_rfl) (by kernel_rfl) (by kernel_rfl) (fun _ _ _ h => h) (Or.inl ⟨by kernel_rfl, ?_⟩) hH ?_; rotate_left; focus (intro wx hSw; (try dsimp only at hSw); go_simp; try with_reducible rfl)); try simp only [Act.put, List.setIfInBounds_toArray, List.set_cons_zero, List.set_cons_succ]; try simp only [List.getElem_toArray, List.getElem_cons_succ, List.getElem_cons_zero]
  (refine wpAnyH_take (i := 1) (oi := ⟨_, _, _, _, _, _⟩) (v := ?_) rfl (by kernel_rfl) (by kernel_rfl) (by kernel_rfl) (fun _ _ _ h => h) (Or.inl ⟨by kernel_rfl, ?_⟩) hH ?_; rotate_left; focus (intro wx hSw; (try dsimp only at hSw); go_simp; try with_reducible rfl)); try simp only [Act.put, List.setIfInBounds_toArray, List.set_cons_zero, List.set_cons_succ]; try simp only [List.getElem_toArray, List.getElem_cons_succ, List.getElem_cons_zero]
  (refine wpAnyH_take (i := 2) (oi := ⟨_, _, _, _, _, _⟩) (v := ?_) rfl (by kernel_rfl) (by kernel_rfl) (by kernel_rfl) (fun _ _ _ h => h) (Or.inl ⟨by kernel_rfl, ?_⟩) hH ?_; rotate_left; focus (intro wx hSw; (try dsimp only at hSw); go_simp; try with_reducible rfl)); try simp only [Act.put, List.setIfInBounds_toArray, List.set_cons_zero, List.set_cons_succ]; try simp only [List.getElem_toArray, List.getElem_cons_succ, List.getElem_cons_zero]
  (refine wpAnyH_take (i := 3) (oi := ⟨_, _, _, _, _, _⟩) (v := ?_) rfl (by kernel_rfl) (by kernel_rfl) (by kernel_rfl) (fun _ _ _ h => h) (Or.inl ⟨by kernel_rfl, ?_⟩) hH ?_; rotate_left; focus (intro wx hSw; (try dsimp only at hSw); go_simp; try with_reducible rfl)); try simp only [Act.put, List.setIfInBounds_toArray, List.set_cons_zero, List.set_cons_succ]; try simp only [List.getElem_toArray, List.getElem_cons_succ, List.getElem_cons_zero]
  (refine wpAnyH_take (i := 4) (oi := ⟨_, _, _, _, _, _⟩) (v := ?_) rfl (by kernel_rfl) (by kernel_rfl) (by kernel_rfl) (fun _ _ _ h => h) (Or.inl ⟨by kernel_rfl, ?_⟩) hH ?_; rotate_left; focus (intro wx hSw; (try dsimp only at hSw); go_simp; try with_reducible rfl)); try simp only [Act.put, List.setIfInBounds_toArray, List.set_cons_zero, List.set_cons_succ]; try simp only [List.getElem_toArray, List.getElem_cons_succ, List.getElem_cons_zero]
  (refine wpAnyH_ready (rs := [5]) (by kernel_rfl) (by simp) ?_; refine AllReadyH.cons rfl (fun K' hK => ?_) AllReadyH.nil); go_simp
  (refine hK.out _ _ (hk _ 2 (sv dn) hS4) (fun hH => ?_); clear hK K'; try simp only [Act.put, List.setIfInBounds_toArray, List.set_cons_zero, List.set_cons_succ]; try simp only [List.getElem_toArray, List.getElem_cons_succ, List.getElem_cons_zero])
  (refine wpAnyH_take (i := 6) (oi := ⟨_, _, _, _, _, _⟩) (v := ?_) rfl (by kernel_rfl) (by kernel_rfl) (by kernel_rfl) (fun _ _ _ h => h) (Or.inl ⟨by kernel_rfl, ?_⟩) hH ?_; rotate_left; focus (intro wx hSw; (try dsimp only at hSw); go_simp; try with_reducible rfl)); try simp only [Act.put, List.setIfInBounds_toArray, List.set_cons_zero, List.set_cons_succ]; try simp only [List.getElem_toArray, List.getElem_cons_succ, List.getElem_cons_zero]
  (refine wpAnyH_ready (rs := [7]) (by kernel_rfl) (by simp) ?_; refine AllReadyH.cons rfl (fun K' hK => ?_) AllReadyH.nil); go_simp
  (refine hK.out _ _ (hk _ 13 (.slice A1 A2 A3) (hk _ 2 (sv dn) hS4)) (fun hH => ?_); clear hK K'; try simp only [Act.put, List.setIfInBounds_toArray, List.set_cons_zero, List.set_cons_succ]; try simp only [List.getElem_toArray, List.getElem_cons_succ, List.getElem_cons_zero])
  refine wpAnyH_done (by kernel_rfl) ?_ _
  have B5 : Blk ((w3.setCell ⟨g, 2, none⟩ (sv dn)).setCell ⟨g, 13, none⟩ (.slice A1 A2 A3)).drew g 32 #[.int .i64 num, .int .i64 8, sv dn, .string ⟨#[]⟩, .int .i64 0, .int .i64 0, .int .i64 0, .string ⟨#[]⟩, .string ⟨#[]⟩, .slice none 0 0, .slice none 0 0, .slice none 0 0, .slice none 0 0, .slice A1 A2 A3, .string ⟨#[]⟩, .bool false, .bool false, .string ⟨#[]⟩, .string ⟨#[]⟩, .string ⟨#[]⟩, .int .i64 0] := ((B3.set_ 2 (sv dn)).set_ 13 (.slice A1 A2 A3))
  have BR5 : Blk ((w3.setCell ⟨g, 2, none⟩ (sv dn)).setCell ⟨g, 13, none⟩ (.slice A1 A2 A3)).drew q 32 #[.int .i64 0, .int .i64 0, .string ⟨#[]⟩, .string ⟨#[]⟩, .int .i64 0, .int .i64 0, .int .i64 0, .string ⟨#[]⟩, .string ⟨#[]⟩, .slice none 0 0, .slice none 0 0, .slice none 0 0, .slice none 0 0, .slice none 0 0, .string ⟨#[]⟩, .bool false, .bool false, .string ⟨#[]⟩, .string ⟨#[]⟩, .string ⟨#[]⟩, .int .i64 0] := ((BR.far (p := ⟨g, 2, none⟩) hqg (sv dn)).far (p := ⟨g, 13, none⟩) hqg (.slice A1 A2 A3))
  have x5 : Ext w ((w3.setCell ⟨g, 2, none⟩ (sv dn)).setCell ⟨g, 13, none⟩ (.slice A1 A2 A3)).drew := ((xx.setCell (p := ⟨g, 2, none⟩) (fun h => absurd h (Nat.not_lt.2 hwg)) (sv dn)).setCell (p := ⟨g, 13, none⟩) (fun h => absurd h (Nat.not_lt.2 hwg)) (.slice A1 A2 A3)).drew
  clear hS4 hk hH B3 BR BP3 xx x3 p32 g32 z32 p313 g313 z313 p31
  go_wp2_with (first
    | ((with_reducible show wpList _ _ _ (⟨some 87, _, _, _, _, _⟩ :: _) _ _); refine wpList_load_row rfl 32 (.tmp 3) rfl g rfl _ _ _ _ B5 Tryz.underlying32 rfl size21 ?_)
    | ((with_reducible show wpList _ _ _ (⟨none, .store 32 _ _, _, _, _, _⟩ :: _) _ _); refine wpList_store_row rfl 32 (.tmp 2) (.tmp 87) rfl q #[.int .i64 num, .int .i64 8, sv dn, .string ⟨#[]⟩, .int .i64 0, .int .i64 0, .int .i64 0, .string ⟨#[]⟩, .string ⟨#[]⟩, .slice none 0 0, .slice none 0 0, .slice none 0 0, .slice none 0 0, .slice A1 A2 A3, .string ⟨#[]⟩, .bool false, .bool false, .string ⟨#[]⟩, .string ⟨#[]⟩, .string ⟨#[]⟩, .int .i64 0] rfl rfl _ _ BR5 size21 rfl (by simp [Value.oneCell']) ?_))
  refine bodyPost_ret (results_cell_row Tryz.results45 _ _ _ _ _ _ _ rfl (Blk.setRow BR5 #[.int .i64 num, .int .i64 8, sv dn, .string ⟨#[]⟩, .int .i64 0, .int .i64 0, .int .i64 0, .string ⟨#[]⟩, .string ⟨#[]⟩, .slice none 0 0, .slice none 0 0, .slice none 0 0, .slice none 0 0, .slice A1 A2 A3, .string ⟨#[]⟩, .bool false, .bool false, .string ⟨#[]⟩, .string ⟨#[]⟩, .string ⟨#[]⟩, .int .i64 0]) Tryz.underlying32 rfl (by exact size21)) rfl ?_
  exact ⟨rfl, Mod.setRow x5 (fun h => by omega) _⟩
set_option maxHeartbeats 16000000 in
theorem blank10_any {w : World} {num scope limit fk which : Int} {dn pass ft fv rdn up avt avv : List UInt8} {keep above : Bool} {Y1 Z1 W1 M1 A1 : Option Addr} {Y2 Y3 Z2 Z3 W2 W3 M2 M3 A2 A3 : Nat} : Calls Tryz.prog 45 #[.agg #[.int .i64 num, .int .i64 10, sv dn, sv pass, .int .i64 scope, .int .i64 limit, .int .i64 fk, sv ft, sv fv, .slice Y1 Y2 Y3, .slice Z1 Z2 Z3, .slice W1 W2 W3, .slice M1 M2 M3, .slice A1 A2 A3, sv rdn, .bool keep, .bool above, sv up, sv avt, sv avv, .int .i64 which]] w fun e w' => e = .returned (.agg #[.int .i64 num, .int .i64 10, sv dn, .string ⟨#[]⟩, .int .i64 0, .int .i64 0, .int .i64 0, .string ⟨#[]⟩, .string ⟨#[]⟩, .slice none 0 0, .slice none 0 0, .slice none 0 0, .slice none 0 0, .slice none 0 0, .string ⟨#[]⟩, .bool false, .bool false, .string ⟨#[]⟩, .string ⟨#[]⟩, .string ⟨#[]⟩, .int .i64 0]) ∧ Ext w w' := by
  obtain ⟨x2a, x2b, x2⟩ := Blk.twoN w #[.int .i64 num, .int .i64 10, sv dn, sv pass, .int .i64 scope, .int .i64 limit, .int .i64 fk, sv ft, sv fv, .slice Y1 Y2 Y3, .slice Z1 Z2 Z3, .slice W1 W2 W3, .slice M1 M2 M3, .slice A1 A2 A3, sv rdn, .bool keep, .bool above, sv up, sv avt, sv avv, .int .i64 which] #[.int .i64 0, .int .i64 0, .string ⟨#[]⟩, .string ⟨#[]⟩, .int .i64 0, .int .i64 0, .int .i64 0, .string ⟨#[]⟩, .string ⟨#[]⟩, .slice none 0 0, .slice none 0 0, .slice none 0 0, .slice none 0 0, .slice none 0 0, .string ⟨#[]⟩, .bool false, .bool false, .string ⟨#[]⟩, .string ⟨#[]⟩, .string ⟨#[]⟩, .int .i64 0] 32 32
  obtain ⟨w2, hw2⟩ : ∃ x, x = (w.alloc (.cells #[.int .i64 num, .int .i64 10, sv dn, sv pass, .int .i64 scope, .int .i64 limit, .int .i64 fk, sv ft, sv fv, .slice Y1 Y2 Y3, .slice Z1 Z2 Z3, .slice W1 W2 W3, .slice M1 M2 M3, .slice A1 A2 A3, sv rdn, .bool keep, .bool above, sv up, sv avt, sv avv, .int .i64 which] 32)).alloc (.cells #[.int .i64 0, .int .i64 0, .string ⟨#[]⟩, .string ⟨#[]⟩, .int .i64 0, .int .i64 0, .int .i64 0, .string ⟨#[]⟩, .string ⟨#[]⟩, .slice none 0 0, .slice none 0 0, .slice none 0 0, .slice none 0 0, .slice none 0 0, .string ⟨#[]⟩, .bool false, .bool false, .string ⟨#[]⟩, .string ⟨#[]⟩, .string ⟨#[]⟩, .int .i64 0] 32) := ⟨_, rfl⟩
  rw [← hw2] at x2a x2b x2
  obtain ⟨q, hq⟩ : ∃ q, q = w.heap.size + 1 := ⟨_, rfl⟩
  have hqw : w.heap.size ≤ q := by omega
  rw [← hq] at x2b
  have B3a : Blk (w2.alloc (.cells #[.int .i64 0, .int .i64 0, .string ⟨#[]⟩, .string ⟨#[]⟩, .int .i64 0, .int .i64 0, .int .i64 0, .string ⟨#[]⟩, .string ⟨#[]⟩, .slice none 0 0, .slice none 0 0, .slice none 0 0, .slice none 0 0, .slice none 0 0, .string ⟨#[]⟩, .bool false, .bool false, .string ⟨#[]⟩, .string ⟨#[]⟩, .string ⟨#[]⟩, .int .i64 0] 32)) w2.heap.size 32 #[.int .i64 0, .int .i64 0, .string ⟨#[]⟩, .string ⟨#[]⟩, .int .i64 0, .int .i64 0, .int .i64 0, .string ⟨#[]⟩, .string ⟨#[]⟩, .slice none 0 0, .slice none 0 0, .slice none 0 0, .slice none 0 0, .slice none 0 0, .string ⟨#[]⟩, .bool false, .bool false, .string ⟨#[]⟩, .string ⟨#[]⟩, .string ⟨#[]⟩, .int .i64 0] := Blk.new w2 _ _
  obtain ⟨w3, hw3⟩ : ∃ x, x = (w2.alloc (.cells #[.int .i64 0, .int .i64 0, .string ⟨#[]⟩, .string ⟨#[]⟩, .int .i64 0, .int .i64 0, .int .i64 0, .string ⟨#[]⟩, .string ⟨#[]⟩, .slice none 0 0, .slice none 0 0, .slice none 0 0, .slice none 0 0, .slice none 0 0, .string ⟨#[]⟩, .bool false, .bool false, .string ⟨#[]⟩, .string ⟨#[]⟩, .string ⟨#[]⟩, .int .i64 0] 32)).setRow w2.heap.size #[.int .i64 num, .int .i64 10, .string ⟨#[]⟩, .string ⟨#[]⟩, .int .i64 0, .int .i64 0, .int .i64 0, .string ⟨#[]⟩, .string ⟨#[]⟩, .slice none 0 0, .slice none 0 0, .slice none 0 0, .slice none 0 0, .slice none 0 0, .string ⟨#[]⟩, .bool false, .bool false, .string ⟨#[]⟩, .string ⟨#[]⟩, .string ⟨#[]⟩, .int .i64 0] := ⟨_, rfl⟩
  obtain ⟨g, hg⟩ : ∃ q, q = w2.heap.size := ⟨_, rfl⟩
  have hpg : w.heap.size ≠ g := by have := x2a.lt; omega
  have hgp : g ≠ w.heap.size := fun h => hpg h.symm
  have hqg : q ≠ g := by have := x2b.lt; omega
  have hwg : w.heap.size ≤ g := by have := x2a.lt; omega
  have x3 : Ext w2 w3 := by rw [hw3]; exact ((Mod.refl _ w2).alloc _).setRow (fun h => by omega) _
  have B3 : Blk w3 g 32 #[.int .i64 num, .int .i64 10, .string ⟨#[]⟩, .string ⟨#[]⟩, .int .i64 0, .int .i64 0, .int .i64 0, .string ⟨#[]⟩, .string ⟨#[]⟩, .slice none 0 0, .slice none 0 0, .slice none 0 0, .slice none 0 0, .slice none 0 0, .string ⟨#[]⟩, .bool false, .bool false, .string ⟨#[]⟩, .string ⟨#[]⟩, .string ⟨#[]⟩, .int .i64 0] := by rw [hw3, hg]; exact B3a.setRow #[.int .i64 num, .int .i64 10, .string ⟨#[]⟩, .string ⟨#[]⟩, .int .i64 0, .int .i64 0, .int .i64 0, .string ⟨#[]⟩, .string ⟨#[]⟩, .slice none 0 0, .slice none 0 0, .slice none 0 0, .slice none 0 0, .slice none 0 0, .string ⟨#[]⟩, .bool false, .bool false, .string ⟨#[]⟩, .string ⟨#[]⟩, .string ⟨#[]⟩, .int .i64 0]
  have BR := x2b.mod x3 (fun h => h)
  have BP3 := x2a.mod x3 (fun h => h)
  have hp0 : w2.cell? ⟨w.heap.size, 0, none⟩ = some (.int .i64 num) := x2a.cell 0
  have hp1 : w2.cell? ⟨w.heap.size, 1, none⟩ = some (.int .i64 10) := x2a.cell 1
  have xx := ext_trans x2 x3
  have p31 : w3.cell? ⟨w.heap.size, 1, none⟩ = some (.int .i64 10) := BP3.cell 1
  have p32 : w3.cell? ⟨w.heap.size, 2, none⟩ = some (sv dn) := BP3.cell 2
  have g32 : w3.cell? ⟨g, 2, none⟩ = some (.string ⟨#[]⟩) := B3.cell 2
  have z32 : w3.frozen? ⟨g, 2, none⟩ = false := B3.frozen 2
  replace hw2 := Lib.hid hw2
  replace hq := Lib.hid hq
  replace hw3 := Lib.hid hw3
  replace hg := Lib.hid hg
  go_enter Tryz.func45, Tryz.ntmps45
  go_upto_region 1 with fail
  rw [← hw2.out, ← hq.out]
  go_upto_region 2 with ((with_reducible show wpList _ _ _ (⟨none, .store 32 _ _, _, _, _, _⟩ :: _) _ _); refine wpList_store_row rfl 32 (.tmp 3) (.tmp 8) rfl w2.heap.size #[.int .i64 num, .int .i64 10, .string ⟨#[]⟩, .string ⟨#[]⟩, .int .i64 0, .int .i64 0, .int .i64 0, .string ⟨#[]⟩, .string ⟨#[]⟩, .slice none 0 0, .slice none 0 0, .slice none 0 0, .slice none 0 0, .slice none 0 0, .string ⟨#[]⟩, .bool false, .bool false, .string ⟨#[]⟩, .string ⟨#[]⟩, .string ⟨#[]⟩, .int .i64 0] rfl rfl _ _ B3a size21 rfl (by simp [Value.oneCell']) ?_)
  rw [← hw3.out, ← hg.out]
  clear hw2 hq hw3 hg hp0 hp1 B3a
  have B5 : Blk (w3.setCell ⟨g, 2, none⟩ (sv dn)) g 32 #[.int .i64 num, .int .i64 10, sv dn, .string ⟨#[]⟩, .int .i64 0, .int .i64 0, .int .i64 0, .string ⟨#[]⟩, .string ⟨#[]⟩, .slice none 0 0, .slice none 0 0, .slice none 0 0, .slice none 0 0, .slice none 0 0, .string ⟨#[]⟩, .bool false, .bool false, .string ⟨#[]⟩, .string ⟨#[]⟩, .string ⟨#[]⟩, .int .i64 0] := B3.set_ 2 _
  have BR5 : Blk (w3.setCell ⟨g, 2, none⟩ (sv dn)) q 32 #[.int .i64 0, .int .i64 0, .string ⟨#[]⟩, .string ⟨#[]⟩, .int .i64 0, .int .i64 0, .int .i64 0, .string ⟨#[]⟩, .string ⟨#[]⟩, .slice none 0 0, .slice none 0 0, .slice none 0 0, .slice none 0 0, .slice none 0 0, .string ⟨#[]⟩, .bool false, .bool false, .string ⟨#[]⟩, .string ⟨#[]⟩, .string ⟨#[]⟩, .int .i64 0] := BR.far (p := ⟨g, 2, none⟩) hqg _
  have x5 : Ext w (w3.setCell ⟨g, 2, none⟩ (sv dn)) := xx.setCell (p := ⟨g, 2, none⟩) (fun h => absurd h (Nat.not_lt.2 hwg)) _
  go_wp2_with (first
    | ((with_reducible show wpList _ _ _ (⟨some 87, _, _, _, _, _⟩ :: _) _ _); refine wpList_load_row rfl 32 (.tmp 3) rfl g rfl _ _ _ _ B5 Tryz.underlying32 rfl size21 ?_)
    | ((with_reducible show wpList _ _ _ (⟨none, .store 32 _ _, _, _, _, _⟩ :: _) _ _); refine wpList_store_row rfl 32 (.tmp 2) (.tmp 87) rfl q #[.int .i64 num, .int .i64 10, sv dn, .string ⟨#[]⟩, .int .i64 0, .int .i64 0, .int .i64 0, .string ⟨#[]⟩, .string ⟨#[]⟩, .slice none 0 0, .slice none 0 0, .slice none 0 0, .slice none 0 0, .slice none 0 0, .string ⟨#[]⟩, .bool false, .bool false, .string ⟨#[]⟩, .string ⟨#[]⟩, .string ⟨#[]⟩, .int .i64 0] rfl rfl _ _ BR5 size21 rfl (by simp [Value.oneCell']) ?_))
  refine bodyPost_ret (results_cell_row Tryz.results45 _ _ _ _ _ _ _ rfl (Blk.setRow BR5 #[.int .i64 num, .int .i64 10, sv dn, .string ⟨#[]⟩, .int .i64 0, .int .i64 0, .int .i64 0, .string ⟨#[]⟩, .string ⟨#[]⟩, .slice none 0 0, .slice none 0 0, .slice none 0 0, .slice none 0 0, .slice none 0 0, .string ⟨#[]⟩, .bool false, .bool false, .string ⟨#[]⟩, .string ⟨#[]⟩, .string ⟨#[]⟩, .int .i64 0]) Tryz.underlying32 rfl (by exact size21)) rfl ?_
  exact ⟨rfl, Mod.setRow x5 (fun h => by omega) _⟩
set_option maxHeartbeats 16000000 in
theorem blank14_any {w : World} {num scope limit fk which : Int} {dn pass ft fv rdn up avt avv : List UInt8} {keep above : Bool} {Y1 Z1 W1 M1 A1 : Option Addr} {Y2 Y3 Z2 Z3 W2 W3 M2 M3 A2 A3 : Nat} : Calls Tryz.prog 45 #[.agg #[.int .i64 num, .int .i64 14, sv dn, sv pass, .int .i64 scope, .int .i64 limit, .int .i64 fk, sv ft, sv fv, .slice Y1 Y2 Y3, .slice Z1 Z2 Z3, .slice W1 W2 W3, .slice M1 M2 M3, .slice A1 A2 A3, sv rdn, .bool keep, .bool above, sv up, sv avt, sv avv, .int .i64 which]] w fun e w' => e = .returned (.agg #[.int .i64 num, .int .i64 14, sv dn, .string ⟨#[]⟩, .int .i64 0, .int .i64 0, .int .i64 0, .string ⟨#[]⟩, .string ⟨#[]⟩, .slice none 0 0, .slice none 0 0, .slice none 0 0, .slice none 0 0, .slice none 0 0, .string ⟨#[]⟩, .bool false, .bool false, .string ⟨#[]⟩, sv avt, sv avv, .int .i64 0]) ∧ Ext w w' := by
  obtain ⟨x2a, x2b, x2⟩ := Blk.twoN w #[.int .i64 num, .int .i64 14, sv dn, sv pass, .int .i64 scope, .int .i64 limit, .int .i64 fk, sv ft, sv fv, .slice Y1 Y2 Y3, .slice Z1 Z2 Z3, .slice W1 W2 W3, .slice M1 M2 M3, .slice A1 A2 A3, sv rdn, .bool keep, .bool above, sv up, sv avt, sv avv, .int .i64 which] #[.int .i64 0, .int .i64 0, .string ⟨#[]⟩, .string ⟨#[]⟩, .int .i64 0, .int .i64 0, .int .i64 0, .string ⟨#[]⟩, .string ⟨#[]⟩, .slice none 0 0, .slice none 0 0, .slice none 0 0, .slice none 0 0, .slice none 0 0, .string ⟨#[]⟩, .bool false, .bool false, .string ⟨#[]⟩, .string ⟨#[]⟩, .string ⟨#[]⟩, .int .i64 0] 32 32
  obtain ⟨w2, hw2⟩ : ∃ x, x = (w.alloc (.cells #[.int .i64 num, .int .i64 14, sv dn, sv pass, .int .i64 scope, .int .i64 limit, .int .i64 fk, sv ft, sv fv, .slice Y1 Y2 Y3, .slice Z1 Z2 Z3, .slice W1 W2 W3, .slice M1 M2 M3, .slice A1 A2 A3, sv rdn, .bool keep, .bool above, sv up, sv avt, sv avv, .int .i64 which] 32)).alloc (.cells #[.int .i64 0, .int .i64 0, .string ⟨#[]⟩, .string ⟨#[]⟩, .int .i64 0, .int .i64 0, .int .i64 0, .string ⟨#[]⟩, .string ⟨#[]⟩, .slice none 0 0, .slice none 0 0, .slice none 0 0, .slice none 0 0, .slice none 0 0, .string ⟨#[]⟩, .bool false, .bool false, .string ⟨#[]⟩, .string ⟨#[]⟩, .string ⟨#[]⟩, .int .i64 0] 32) := ⟨_, rfl⟩
  rw [← hw2] at x2a x2b x2
  obtain ⟨q, hq⟩ : ∃ q, q = w.heap.size + 1 := ⟨_, rfl⟩
  have hqw : w.heap.size ≤ q := by omega
  rw [← hq] at x2b
  have B3a : Blk (w2.alloc (.cells #[.int .i64 0, .int .i64 0, .string ⟨#[]⟩, .string ⟨#[]⟩, .int .i64 0, .int .i64 0, .int .i64 0, .string ⟨#[]⟩, .string ⟨#[]⟩, .slice none 0 0, .slice none 0 0, .slice none 0 0, .slice none 0 0, .slice none 0 0, .string ⟨#[]⟩, .bool false, .bool false, .string ⟨#[]⟩, .string ⟨#[]⟩, .string ⟨#[]⟩, .int .i64 0] 32)) w2.heap.size 32 #[.int .i64 0, .int .i64 0, .string ⟨#[]⟩, .string ⟨#[]⟩, .int .i64 0, .int .i64 0, .int .i64 0, .string ⟨#[]⟩, .string ⟨#[]⟩, .slice none 0 0, .slice none 0 0, .slice none 0 0, .slice none 0 0, .slice none 0 0, .string ⟨#[]⟩, .bool false, .bool false, .string ⟨#[]⟩, .string ⟨#[]⟩, .string ⟨#[]⟩, .int .i64 0] := Blk.new w2 _ _
  obtain ⟨w3, hw3⟩ : ∃ x, x = (w2.alloc (.cells #[.int .i64 0, .int .i64 0, .string ⟨#[]⟩, .string ⟨#[]⟩, .int .i64 0, .int .i64 0, .int .i64 0, .string ⟨#[]⟩, .string ⟨#[]⟩, .slice none 0 0, .slice none 0 0, .slice none 0 0, .slice none 0 0, .slice none 0 0, .string ⟨#[]⟩, .bool false, .bool false, .string ⟨#[]⟩, .string ⟨#[]⟩, .string ⟨#[]⟩, .int .i64 0] 32)).setRow w2.heap.size #[.int .i64 num, .int .i64 14, .string ⟨#[]⟩, .string ⟨#[]⟩, .int .i64 0, .int .i64 0, .int .i64 0, .string ⟨#[]⟩, .string ⟨#[]⟩, .slice none 0 0, .slice none 0 0, .slice none 0 0, .slice none 0 0, .slice none 0 0, .string ⟨#[]⟩, .bool false, .bool false, .string ⟨#[]⟩, .string ⟨#[]⟩, .string ⟨#[]⟩, .int .i64 0] := ⟨_, rfl⟩
  obtain ⟨g, hg⟩ : ∃ q, q = w2.heap.size := ⟨_, rfl⟩
  have hpg : w.heap.size ≠ g := by have := x2a.lt; omega
  have hgp : g ≠ w.heap.size := fun h => hpg h.symm
  have hqg : q ≠ g := by have := x2b.lt; omega
  have hwg : w.heap.size ≤ g := by have := x2a.lt; omega
  have x3 : Ext w2 w3 := by rw [hw3]; exact ((Mod.refl _ w2).alloc _).setRow (fun h => by omega) _
  have B3 : Blk w3 g 32 #[.int .i64 num, .int .i64 14, .string ⟨#[]⟩, .string ⟨#[]⟩, .int .i64 0, .int .i64 0, .int .i64 0, .string ⟨#[]⟩, .string ⟨#[]⟩, .slice none 0 0, .slice none 0 0, .slice none 0 0, .slice none 0 0, .slice none 0 0, .string ⟨#[]⟩, .bool false, .bool false, .string ⟨#[]⟩, .string ⟨#[]⟩, .string ⟨#[]⟩, .int .i64 0] := by rw [hw3, hg]; exact B3a.setRow #[.int .i64 num, .int .i64 14, .string ⟨#[]⟩, .string ⟨#[]⟩, .int .i64 0, .int .i64 0, .int .i64 0, .string ⟨#[]⟩, .string ⟨#[]⟩, .slice none 0 0, .slice none 0 0, .slice none 0 0, .slice none 0 0, .slice none 0 0, .string ⟨#[]⟩, .bool false, .bool false, .string ⟨#[]⟩, .string ⟨#[]⟩, .string ⟨#[]⟩, .int .i64 0]
  have BR := x2b.mod x3 (fun h => h)
  have BP3 := x2a.mod x3 (fun h => h)
  have hp0 : w2.cell? ⟨w.heap.size, 0, none⟩ = some (.int .i64 num) := x2a.cell 0
  have hp1 : w2.cell? ⟨w.heap.size, 1, none⟩ = some (.int .i64 14) := x2a.cell 1
  have xx := ext_trans x2 x3
  have p31 : w3.cell? ⟨w.heap.size, 1, none⟩ = some (.int .i64 14) := BP3.cell 1
  have p32 : w3.cell? ⟨w.heap.size, 2, none⟩ = some (sv dn) := BP3.cell 2
  have g32 : w3.cell? ⟨g, 2, none⟩ = some (.string ⟨#[]⟩) := B3.cell 2
  have z32 : w3.frozen? ⟨g, 2, none⟩ = false := B3.frozen 2
  have p318 : w3.cell? ⟨w.heap.size, 18, none⟩ = some (sv avt) := BP3.cell 18
  have g318 : w3.cell? ⟨g, 18, none⟩ = some (.string ⟨#[]⟩) := B3.cell 18
  have z318 : w3.frozen? ⟨g, 18, none⟩ = false := B3.frozen 18
  have p319 : w3.cell? ⟨w.heap.size, 19, none⟩ = some (sv avv) := BP3.cell 19
  have g319 : w3.cell? ⟨g, 19, none⟩ = some (.string ⟨#[]⟩) := B3.cell 19
  have z319 : w3.frozen? ⟨g, 19, none⟩ = false := B3.frozen 19
  replace hw2 := Lib.hid hw2
  replace hq := Lib.hid hq
  replace hw3 := Lib.hid hw3
  replace hg := Lib.hid hg
  go_enter Tryz.func45, Tryz.ntmps45
  go_upto_region 1 with fail
  rw [← hw2.out, ← hq.out]
  go_upto_region 2 with ((with_reducible show wpList _ _ _ (⟨none, .store 32 _ _, _, _, _, _⟩ :: _) _ _); refine wpList_store_row rfl 32 (.tmp 3) (.tmp 8) rfl w2.heap.size #[.int .i64 num, .int .i64 14, .string ⟨#[]⟩, .string ⟨#[]⟩, .int .i64 0, .int .i64 0, .int .i64 0, .string ⟨#[]⟩, .string ⟨#[]⟩, .slice none 0 0, .slice none 0 0, .slice none 0 0, .slice none 0 0, .slice none 0 0, .string ⟨#[]⟩, .bool false, .bool false, .string ⟨#[]⟩, .string ⟨#[]⟩, .string ⟨#[]⟩, .int .i64 0] rfl rfl _ _ B3a size21 rfl (by simp [Value.oneCell']) ?_)
  rw [← hw3.out, ← hg.out]
  clear hw2 hq hw3 hg hp0 hp1 B3a
  go_upto_region 16 with fail
  have hS4 : w3.cell? ⟨w.heap.size, 2, none⟩ = some (sv dn) ∧ w3.cell? ⟨w.heap.size, 18, none⟩ = some (sv avt) ∧ w3.cell? ⟨w.heap.size, 19, none⟩ = some (sv avv) := ⟨p32, p318, p319⟩
  have hk : ∀ (wx : World) (o : Nat) (v : Value), (wx.cell? ⟨w.heap.size, 2, none⟩ = some (sv dn) ∧ wx.cell? ⟨w.heap.size, 18, none⟩ = some (sv avt) ∧ wx.cell? ⟨w.heap.size, 19, none⟩ = some (sv avv)) → ((wx.setCell ⟨g, o, none⟩ v).cell? ⟨w.heap.size, 2, none⟩ = some (sv dn) ∧ (wx.setCell ⟨g, o, none⟩ v).cell? ⟨w.heap.size, 18, none⟩ = some (sv avt) ∧ (wx.setCell ⟨g, o, none⟩ v).cell? ⟨w.heap.size, 19, none⟩ = some (sv avv)) := fun wx o v h => by
    have e : ∀ i, (wx.setCell ⟨g, o, none⟩ v).cell? ⟨w.heap.size, i, none⟩ = wx.cell? ⟨w.heap.size, i, none⟩ := fun i => World.cell?_setCell_far wx _ _ v hgp
    simp only [e]
    exact h
  refine wp_region_held_drew (S := fun wx => wx.cell? ⟨w.heap.size, 2, none⟩ = some (sv dn) ∧ wx.cell? ⟨w.heap.size, 18, none⟩ = some (sv avt) ∧ wx.cell? ⟨w.heap.size, 19, none⟩ = some (sv avv)) (by kernel_rfl) hS4 (fun hH => ?_)
  (refine wpAnyH_take (i := 0) (oi := ⟨_, _, _, _, _, _⟩) (v := ?_) rfl (by kernel_rfl) (by kernel_rfl) (by kernel_rfl) (fun _ _ _ h => h) (Or.inl ⟨by kernel_rfl, ?_⟩) hH ?_; rotate_left; focus (intro wx hSw; (try dsimp only at hSw); go_simp; try with_reducible rfl)); try simp only [Act.put, List.setIfInBounds_toArray, List.set_cons_zero, List.set_cons_succ]; try simp only [List.getElem_toArray, List.getElem_cons_succ, List.getElem_cons_zero]
  (refine wpAnyH_take (i := 1) (oi := ⟨_, _, _, _, _, _⟩) (v := ?_) rfl (by kernel_rfl) (by kernel_rfl) (by kernel_rfl) (fun _ _ _ h => h) (Or.inl ⟨by kernel_rfl, ?_⟩) hH ?_; rotate_left; focus (intro wx hSw; (try dsimp only at hSw); go_simp; try with_reducible rfl)); try simp only [Act.put, List.setIfInBounds_toArray, List.set_cons_zero, List.set_cons_succ]; try simp only [List.getElem_toArray, List.getElem_cons_succ, List.getElem_cons_zero]
  (refine wpAnyH_take (i := 2) (oi := ⟨_, _, _, _, _, _⟩) (v := ?_) rfl (by kernel_rfl) (by kernel_rfl) (by kernel_rfl) (fun _ _ _ h => h) (Or.inl ⟨by kernel_rfl, ?_⟩) hH ?_; rotate_left; focus (intro wx hSw; (try dsimp only at hSw); go_simp; try with_reducible rfl)); try simp only [Act.put, List.setIfInBounds_toArray, List.set_cons_zero, List.set_cons_succ]; try simp only [List.getElem_toArray, List.getElem_cons_succ, List.getElem_cons_zero]
  (refine wpAnyH_take (i := 3) (oi := ⟨_, _, _, _, _, _⟩) (v := ?_) rfl (by kernel_rfl) (by kernel_rfl) (by kernel_rfl) (fun _ _ _ h => h) (Or.inl ⟨by kernel_rfl, ?_⟩) hH ?_; rotate_left; focus (intro wx hSw; (try dsimp only at hSw); go_simp; try with_reducible rfl)); try simp only [Act.put, List.setIfInBounds_toArray, List.set_cons_zero, List.set_cons_succ]; try simp only [List.getElem_toArray, List.getElem_cons_succ, List.getElem_cons_zero]
  (refine wpAnyH_take (i := 4) (oi := ⟨_, _, _, _, _, _⟩) (v := ?_) rfl (by kernel_rfl) (by kernel_rfl) (by kernel_rfl) (fun _ _ _ h => h) (Or.inl ⟨by kernel_rfl, ?_⟩) hH ?_; rotate_left; focus (intro wx hSw; (try dsimp only at hSw); go_simp; try with_reducible rfl)); try simp only [Act.put, List.setIfInBounds_toArray, List.set_cons_zero, List.set_cons_succ]; try simp only [List.getElem_toArray, List.getElem_cons_succ, List.getElem_cons_zero]
  (refine wpAnyH_ready (rs := [5]) (by kernel_rfl) (by simp) ?_; refine AllReadyH.cons rfl (fun K' hK => ?_) AllReadyH.nil); go_simp
  (refine hK.out _ _ (hk _ 2 (sv dn) hS4) (fun hH => ?_); clear hK K'; try simp only [Act.put, List.setIfInBounds_toArray, List.set_cons_zero, List.set_cons_succ]; try simp only [List.getElem_toArray, List.getElem_cons_succ, List.getElem_cons_zero])
  (refine wpAnyH_take (i := 6) (oi := ⟨_, _, _, _, _, _⟩) (v := ?_) rfl (by kernel_rfl) (by kernel_rfl) (by kernel_rfl) (fun _ _ _ h => h) (Or.inl ⟨by kernel_rfl, ?_⟩) hH ?_; rotate_left; focus (intro wx hSw; (try dsimp only at hSw); go_simp; try with_reducible rfl)); try simp only [Act.put, List.setIfInBounds_toArray, List.set_cons_zero, List.set_cons_succ]; try simp only [List.getElem_toArray, List.getElem_cons_succ, List.getElem_cons_zero]
  (refine wpAnyH_ready (rs := [7]) (by kernel_rfl) (by simp) ?_; refine AllReadyH.cons rfl (fun K' hK => ?_) AllReadyH.nil); go_simp
  (refine hK.out _ _ (hk _ 19 (sv avv) (hk _ 18 (sv avt) (hk _ 2 (sv dn) hS4))) (fun hH => ?_); clear hK K'; try simp only [Act.put, List.setIfInBounds_toArray, List.set_cons_zero, List.set_cons_succ]; try simp only [List.getElem_toArray, List.getElem_cons_succ, List.getElem_cons_zero])
  refine wpAnyH_done (by kernel_rfl) ?_ _
  have B5 : Blk (((w3.setCell ⟨g, 2, none⟩ (sv dn)).setCell ⟨g, 18, none⟩ (sv avt)).setCell ⟨g, 19, none⟩ (sv avv)).drew g 32 #[.int .i64 num, .int .i64 14, sv dn, .string ⟨#[]⟩, .int .i64 0, .int .i64 0, .int .i64 0, .string ⟨#[]⟩, .string ⟨#[]⟩, .slice none 0 0, .slice none 0 0, .slice none 0 0, .slice none 0 0, .slice none 0 0, .string ⟨#[]⟩, .bool false, .bool false, .string ⟨#[]⟩, sv avt, sv avv, .int .i64 0] := (((B3.set_ 2 (sv dn)).set_ 18 (sv avt)).set_ 19 (sv avv))
  have BR5 : Blk (((w3.setCell ⟨g, 2, none⟩ (sv dn)).setCell ⟨g, 18, none⟩ (sv avt)).setCell ⟨g, 19, none⟩ (sv avv)).drew q 32 #[.int .i64 0, .int .i64 0, .string ⟨#[]⟩, .string ⟨#[]⟩, .int .i64 0, .int .i64 0, .int .i64 0, .string ⟨#[]⟩, .string ⟨#[]⟩, .slice none 0 0, .slice none 0 0, .slice none 0 0, .slice none 0 0, .slice none 0 0, .string ⟨#[]⟩, .bool false, .bool false, .string ⟨#[]⟩, .string ⟨#[]⟩, .string ⟨#[]⟩, .int .i64 0] := (((BR.far (p := ⟨g, 2, none⟩) hqg (sv dn)).far (p := ⟨g, 18, none⟩) hqg (sv avt)).far (p := ⟨g, 19, none⟩) hqg (sv avv))
  have x5 : Ext w (((w3.setCell ⟨g, 2, none⟩ (sv dn)).setCell ⟨g, 18, none⟩ (sv avt)).setCell ⟨g, 19, none⟩ (sv avv)).drew := (((xx.setCell (p := ⟨g, 2, none⟩) (fun h => absurd h (Nat.not_lt.2 hwg)) (sv dn)).setCell (p := ⟨g, 18, none⟩) (fun h => absurd h (Nat.not_lt.2 hwg)) (sv avt)).setCell (p := ⟨g, 19, none⟩) (fun h => absurd h (Nat.not_lt.2 hwg)) (sv avv)).drew
  clear hS4 hk hH B3 BR BP3 xx x3 p32 g32 z32 p318 g318 z318 p319 g319 z319 p31
  go_wp2_with (first
    | ((with_reducible show wpList _ _ _ (⟨some 87, _, _, _, _, _⟩ :: _) _ _); refine wpList_load_row rfl 32 (.tmp 3) rfl g rfl _ _ _ _ B5 Tryz.underlying32 rfl size21 ?_)
    | ((with_reducible show wpList _ _ _ (⟨none, .store 32 _ _, _, _, _, _⟩ :: _) _ _); refine wpList_store_row rfl 32 (.tmp 2) (.tmp 87) rfl q #[.int .i64 num, .int .i64 14, sv dn, .string ⟨#[]⟩, .int .i64 0, .int .i64 0, .int .i64 0, .string ⟨#[]⟩, .string ⟨#[]⟩, .slice none 0 0, .slice none 0 0, .slice none 0 0, .slice none 0 0, .slice none 0 0, .string ⟨#[]⟩, .bool false, .bool false, .string ⟨#[]⟩, sv avt, sv avv, .int .i64 0] rfl rfl _ _ BR5 size21 rfl (by simp [Value.oneCell']) ?_))
  refine bodyPost_ret (results_cell_row Tryz.results45 _ _ _ _ _ _ _ rfl (Blk.setRow BR5 #[.int .i64 num, .int .i64 14, sv dn, .string ⟨#[]⟩, .int .i64 0, .int .i64 0, .int .i64 0, .string ⟨#[]⟩, .string ⟨#[]⟩, .slice none 0 0, .slice none 0 0, .slice none 0 0, .slice none 0 0, .slice none 0 0, .string ⟨#[]⟩, .bool false, .bool false, .string ⟨#[]⟩, sv avt, sv avv, .int .i64 0]) Tryz.underlying32 rfl (by exact size21)) rfl ?_
  exact ⟨rfl, Mod.setRow x5 (fun h => by omega) _⟩
set_option maxHeartbeats 16000000 in
theorem blank16_any {w : World} {num scope limit fk which : Int} {dn pass ft fv rdn up avt avv : List UInt8} {keep above : Bool} {Y1 Z1 W1 M1 A1 : Option Addr} {Y2 Y3 Z2 Z3 W2 W3 M2 M3 A2 A3 : Nat} : Calls Tryz.prog 45 #[.agg #[.int .i64 num, .int .i64 16, sv dn, sv pass, .int .i64 scope, .int .i64 limit, .int .i64 fk, sv ft, sv fv, .slice Y1 Y2 Y3, .slice Z1 Z2 Z3, .slice W1 W2 W3, .slice M1 M2 M3, .slice A1 A2 A3, sv rdn, .bool keep, .bool above, sv up, sv avt, sv avv, .int .i64 which]] w fun e w' => e = .returned (.agg #[.int .i64 num, .int .i64 16, .string ⟨#[]⟩, .string ⟨#[]⟩, .int .i64 0, .int .i64 0, .int .i64 0, .string ⟨#[]⟩, .string ⟨#[]⟩, .slice none 0 0, .slice none 0 0, .slice none 0 0, .slice none 0 0, .slice none 0 0, .string ⟨#[]⟩, .bool false, .bool false, .string ⟨#[]⟩, .string ⟨#[]⟩, .string ⟨#[]⟩, .int .i64 which]) ∧ Ext w w' := by
  obtain ⟨x2a, x2b, x2⟩ := Blk.twoN w #[.int .i64 num, .int .i64 16, sv dn, sv pass, .int .i64 scope, .int .i64 limit, .int .i64 fk, sv ft, sv fv, .slice Y1 Y2 Y3, .slice Z1 Z2 Z3, .slice W1 W2 W3, .slice M1 M2 M3, .slice A1 A2 A3, sv rdn, .bool keep, .bool above, sv up, sv avt, sv avv, .int .i64 which] #[.int .i64 0, .int .i64 0, .string ⟨#[]⟩, .string ⟨#[]⟩, .int .i64 0, .int .i64 0, .int .i64 0, .string ⟨#[]⟩, .string ⟨#[]⟩, .slice none 0 0, .slice none 0 0, .slice none 0 0, .slice none 0 0, .slice none 0 0, .string ⟨#[]⟩, .bool false, .bool false, .string ⟨#[]⟩, .string ⟨#[]⟩, .string ⟨#[]⟩, .int .i64 0] 32 32
  obtain ⟨w2, hw2⟩ : ∃ x, x = (w.alloc (.cells #[.int .i64 num, .int .i64 16, sv dn, sv pass, .int .i64 scope, .int .i64 limit, .int .i64 fk, sv ft, sv fv, .slice Y1 Y2 Y3, .slice Z1 Z2 Z3, .slice W1 W2 W3, .slice M1 M2 M3, .slice A1 A2 A3, sv rdn, .bool keep, .bool above, sv up, sv avt, sv avv, .int .i64 which] 32)).alloc (.cells #[.int .i64 0, .int .i64 0, .string ⟨#[]⟩, .string ⟨#[]⟩, .int .i64 0, .int .i64 0, .int .i64 0, .string ⟨#[]⟩, .string ⟨#[]⟩, .slice none 0 0, .slice none 0 0, .slice none 0 0, .slice none 0 0, .slice none 0 0, .string ⟨#[]⟩, .bool false, .bool false, .string ⟨#[]⟩, .string ⟨#[]⟩, .string ⟨#[]⟩, .int .i64 0] 32) := ⟨_, rfl⟩
  rw [← hw2] at x2a x2b x2
  obtain ⟨q, hq⟩ : ∃ q, q = w.heap.size + 1 := ⟨_, rfl⟩
  have hqw : w.heap.size ≤ q := by omega
  rw [← hq] at x2b
  have B3a : Blk (w2.alloc (.cells #[.int .i64 0, .int .i64 0, .string ⟨#[]⟩, .string ⟨#[]⟩, .int .i64 0, .int .i64 0, .int .i64 0, .string ⟨#[]⟩, .string ⟨#[]⟩, .slice none 0 0, .slice none 0 0, .slice none 0 0, .slice none 0 0, .slice none 0 0, .string ⟨#[]⟩, .bool false, .bool false, .string ⟨#[]⟩, .string ⟨#[]⟩, .string ⟨#[]⟩, .int .i64 0] 32)) w2.heap.size 32 #[.int .i64 0, .int .i64 0, .string ⟨#[]⟩, .string ⟨#[]⟩, .int .i64 0, .int .i64 0, .int .i64 0, .string ⟨#[]⟩, .string ⟨#[]⟩, .slice none 0 0, .slice none 0 0, .slice none 0 0, .slice none 0 0, .slice none 0 0, .string ⟨#[]⟩, .bool false, .bool false, .string ⟨#[]⟩, .string ⟨#[]⟩, .string ⟨#[]⟩, .int .i64 0] := Blk.new w2 _ _
  obtain ⟨w3, hw3⟩ : ∃ x, x = (w2.alloc (.cells #[.int .i64 0, .int .i64 0, .string ⟨#[]⟩, .string ⟨#[]⟩, .int .i64 0, .int .i64 0, .int .i64 0, .string ⟨#[]⟩, .string ⟨#[]⟩, .slice none 0 0, .slice none 0 0, .slice none 0 0, .slice none 0 0, .slice none 0 0, .string ⟨#[]⟩, .bool false, .bool false, .string ⟨#[]⟩, .string ⟨#[]⟩, .string ⟨#[]⟩, .int .i64 0] 32)).setRow w2.heap.size #[.int .i64 num, .int .i64 16, .string ⟨#[]⟩, .string ⟨#[]⟩, .int .i64 0, .int .i64 0, .int .i64 0, .string ⟨#[]⟩, .string ⟨#[]⟩, .slice none 0 0, .slice none 0 0, .slice none 0 0, .slice none 0 0, .slice none 0 0, .string ⟨#[]⟩, .bool false, .bool false, .string ⟨#[]⟩, .string ⟨#[]⟩, .string ⟨#[]⟩, .int .i64 0] := ⟨_, rfl⟩
  obtain ⟨g, hg⟩ : ∃ q, q = w2.heap.size := ⟨_, rfl⟩
  have hpg : w.heap.size ≠ g := by have := x2a.lt; omega
  have hgp : g ≠ w.heap.size := fun h => hpg h.symm
  have hqg : q ≠ g := by have := x2b.lt; omega
  have hwg : w.heap.size ≤ g := by have := x2a.lt; omega
  have x3 : Ext w2 w3 := by rw [hw3]; exact ((Mod.refl _ w2).alloc _).setRow (fun h => by omega) _
  have B3 : Blk w3 g 32 #[.int .i64 num, .int .i64 16, .string ⟨#[]⟩, .string ⟨#[]⟩, .int .i64 0, .int .i64 0, .int .i64 0, .string ⟨#[]⟩, .string ⟨#[]⟩, .slice none 0 0, .slice none 0 0, .slice none 0 0, .slice none 0 0, .slice none 0 0, .string ⟨#[]⟩, .bool false, .bool false, .string ⟨#[]⟩, .string ⟨#[]⟩, .string ⟨#[]⟩, .int .i64 0] := by rw [hw3, hg]; exact B3a.setRow #[.int .i64 num, .int .i64 16, .string ⟨#[]⟩, .string ⟨#[]⟩, .int .i64 0, .int .i64 0, .int .i64 0, .string ⟨#[]⟩, .string ⟨#[]⟩, .slice none 0 0, .slice none 0 0, .slice none 0 0, .slice none 0 0, .slice none 0 0, .string ⟨#[]⟩, .bool false, .bool false, .string ⟨#[]⟩, .string ⟨#[]⟩, .string ⟨#[]⟩, .int .i64 0]
  have BR := x2b.mod x3 (fun h => h)
  have BP3 := x2a.mod x3 (fun h => h)
  have hp0 : w2.cell? ⟨w.heap.size, 0, none⟩ = some (.int .i64 num) := x2a.cell 0
  have hp1 : w2.cell? ⟨w.heap.size, 1, none⟩ = some (.int .i64 16) := x2a.cell 1
  have xx := ext_trans x2 x3
  have p31 : w3.cell? ⟨w.heap.size, 1, none⟩ = some (.int .i64 16) := BP3.cell 1
  have p320 : w3.cell? ⟨w.heap.size, 20, none⟩ = some (.int .i64 which) := BP3.cell 20
  have g320 : w3.cell? ⟨g, 20, none⟩ = some (.int .i64 0) := B3.cell 20
  have z320 : w3.frozen? ⟨g, 20, none⟩ = false := B3.frozen 20
  replace hw2 := Lib.hid hw2
  replace hq := Lib.hid hq
  replace hw3 := Lib.hid hw3
  replace hg := Lib.hid hg
  go_enter Tryz.func45, Tryz.ntmps45
  go_upto_region 1 with fail
  rw [← hw2.out, ← hq.out]
  go_upto_region 2 with ((with_reducible show wpList _ _ _ (⟨none, .store 32 _ _, _, _, _, _⟩ :: _) _ _); refine wpList_store_row rfl 32 (.tmp 3) (.tmp 8) rfl w2.heap.size #[.int .i64 num, .int .i64 16, .string ⟨#[]⟩, .string ⟨#[]⟩, .int .i64 0, .int .i64 0, .int .i64 0, .string ⟨#[]⟩, .string ⟨#[]⟩, .slice none 0 0, .slice none 0 0, .slice none 0 0, .slice none 0 0, .slice none 0 0, .string ⟨#[]⟩, .bool false, .bool false, .string ⟨#[]⟩, .string ⟨#[]⟩, .string ⟨#[]⟩, .int .i64 0] rfl rfl _ _ B3a size21 rfl (by simp [Value.oneCell']) ?_)
  rw [← hw3.out, ← hg.out]
  clear hw2 hq hw3 hg hp0 hp1 B3a
  have B5 : Blk (w3.setCell ⟨g, 20, none⟩ (.int .i64 which)) g 32 #[.int .i64 num, .int .i64 16, .string ⟨#[]⟩, .string ⟨#[]⟩, .int .i64 0, .int .i64 0, .int .i64 0, .string ⟨#[]⟩, .string ⟨#[]⟩, .slice none 0 0, .slice none 0 0, .slice none 0 0, .slice none 0 0, .slice none 0 0, .string ⟨#[]⟩, .bool false, .bool false, .string ⟨#[]⟩, .string ⟨#[]⟩, .string ⟨#[]⟩, .int .i64 which] := B3.set_ 20 _
  have BR5 : Blk (w3.setCell ⟨g, 20, none⟩ (.int .i64 which)) q 32 #[.int .i64 0, .int .i64 0, .string ⟨#[]⟩, .string ⟨#[]⟩, .int .i64 0, .int .i64 0, .int .i64 0, .string ⟨#[]⟩, .string ⟨#[]⟩, .slice none 0 0, .slice none 0 0, .slice none 0 0, .slice none 0 0, .slice none 0 0, .string ⟨#[]⟩, .bool false, .bool false, .string ⟨#[]⟩, .string ⟨#[]⟩, .string ⟨#[]⟩, .int .i64 0] := BR.far (p := ⟨g, 20, none⟩) hqg _
  have x5 : Ext w (w3.setCell ⟨g, 20, none⟩ (.int .i64 which)) := xx.setCell (p := ⟨g, 20, none⟩) (fun h => absurd h (Nat.not_lt.2 hwg)) _
  go_wp2_with (first
    | ((with_reducible show wpList _ _ _ (⟨some 87, _, _, _, _, _⟩ :: _) _ _); refine wpList_load_row rfl 32 (.tmp 3) rfl g rfl _ _ _ _ B5 Tryz.underlying32 rfl size21 ?_)
    | ((with_reducible show wpList _ _ _ (⟨none, .store 32 _ _, _, _, _, _⟩ :: _) _ _); refine wpList_store_row rfl 32 (.tmp 2) (.tmp 87) rfl q #[.int .i64 num, .int .i64 16, .string ⟨#[]⟩, .string ⟨#[]⟩, .int .i64 0, .int .i64 0, .int .i64 0, .string ⟨#[]⟩, .string ⟨#[]⟩, .slice none 0 0, .slice none 0 0, .slice none 0 0, .slice none 0 0, .slice none 0 0, .string ⟨#[]⟩, .bool false, .bool false, .string ⟨#[]⟩, .string ⟨#[]⟩, .string ⟨#[]⟩, .int .i64 which] rfl rfl _ _ BR5 size21 rfl (by simp [Value.oneCell']) ?_))
  refine bodyPost_ret (results_cell_row Tryz.results45 _ _ _ _ _ _ _ rfl (Blk.setRow BR5 #[.int .i64 num, .int .i64 16, .string ⟨#[]⟩, .string ⟨#[]⟩, .int .i64 0, .int .i64 0, .int .i64 0, .string ⟨#[]⟩, .string ⟨#[]⟩, .slice none 0 0, .slice none 0 0, .slice none 0 0, .slice none 0 0, .slice none 0 0, .string ⟨#[]⟩, .bool false, .bool false, .string ⟨#[]⟩, .string ⟨#[]⟩, .string ⟨#[]⟩, .int .i64 which]) Tryz.underlying32 rfl (by exact size21)) rfl ?_
  exact ⟨rfl, Mod.setRow x5 (fun h => by omega) _⟩
end Go.Proofs.YtoockogceobfgaaGreat
