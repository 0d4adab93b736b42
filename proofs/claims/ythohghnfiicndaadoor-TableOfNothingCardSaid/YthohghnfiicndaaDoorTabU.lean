/- table: nothing. -/
import Derived.Test.YthohghnfiicndaaDoorTabT
namespace Go.Proofs.YthohghnfiicndaaDoor
open Go.RowKit Go.Maps Go.WideMaps
set_option maxRecDepth 100000

set_option maxHeartbeats 8000000 in
theorem get_nil {w : World} {key : List UInt8} {seq : Int} : Calls Tryd.prog 16 #[.pointer none, sv key, .int .i64 seq] w fun e w' => e = .returned (.tuple #[.agg (car cz), .bool false]) ∧ Ext w w' := by
  obtain ⟨w0, hw0⟩ : ∃ w0, w0 = (w.alloc (.cells #[.pointer none] 31)).alloc (.cells #[sv [], sv [], .bool false, .int .i64 0] 37) := ⟨_, rfl⟩
  obtain ⟨bt, hbt⟩ : ∃ bt, bt = w.heap.size := ⟨_, rfl⟩
  have BT : Blk w0 bt 31 #[.pointer none] := by rw [hw0, hbt]; exact (Blk.new w _ _).alloc _
  have BR1 : Blk w0 (bt + 1) 37 #[sv [], sv [], .bool false, .int .i64 0] := by
    rw [hw0, hbt]
    have := Blk.new (w.alloc (.cells #[.pointer none] 31)) 37 #[sv [], sv [], .bool false, .int .i64 0]
    rw [show (w.alloc (.cells #[.pointer none] 31)).heap.size = w.heap.size + 1 by simp] at this
    exact this
  have x0 : Ext w w0 := by rw [hw0]; exact ((Mod.refl _ w).alloc _).alloc _
  have hbw : w.heap.size ≤ bt := by omega
  have c00 : w0.cell? ⟨bt, 0, none⟩ = some (.pointer none) := BT.cell 0
  have f0 := Blk.frozen BR1 0
  have f1 := Blk.frozen BR1 1
  have f2 := Blk.frozen BR1 2
  have f3 := Blk.frozen BR1 3
  have e0 : _ = some _ := Blk.cell BR1 0
  have e1 : _ = some _ := Blk.cell BR1 1
  have e2 : _ = some _ := Blk.cell BR1 2
  have e3 : _ = some _ := Blk.cell BR1 3
  replace hw0 := Lib.hid hw0
  replace hbt := Lib.hid hbt
  go_enter Tryd.func16, Tryd.ntmps16
  go_upto_region 1 with fail
  rw [← hw0.out, ← hbt.out]
  go_wp2_with fail
  have R5 := fun p q r s => (((BR1.set_ 0 p).set_ 1 q).set_ 2 r).set_ 3 s
  have m9 := fun p q r s => (set4_mod w0 (bt + 1) p q r s)
  refine bodyPost_ret (results_cell_row2 Tryd.results16 _ _ _ _ _ _ _ rfl (R5 _ _ _ _) Tryd.underlying37 rfl (by kernel_rfl)) rfl ?_
  exact ⟨rfl, x0.trans (m9 _ _ _ _) (fun _ _ h => h) (fun k hk h => by omega)⟩

set_option maxHeartbeats 16000000 in
theorem nothing8_any {w : World} {key : List UInt8} {seq : Int} (hN : Nib w) : Calls Tryd.prog 7 #[sv key, .int .i64 seq] w fun e w' => e = .returned (.bool true) ∧ Ext w w' := by
  have hz := sv_size key
  by_cases hk : 200 < key.length
  · have hb : decide ((200 : Int) < (key.length : Int)) = true := dtrue (by omega)
    go_enter Tryd.func7, Tryd.ntmps7
    go_wp2_with fail
    go_ret
    exact ⟨rfl, Mod.refl _ _⟩
  have hb : decide ((200 : Int) < (key.length : Int)) = false := dfalse (by omega)
  have hc1 := get_nil (w := w) (key := key) (seq := seq)
  have hc2 := fun {wx : World} (x : Ext w wx) => build_any (L := []) (Rc.nil cel 4 wx (fun _ => True)) (by decide) (hN.mod x (fun h => h))
  rw [show buildN [] = 1 from rfl, show buildB [] = [] from rfl] at hc2
  have heq := fun (wx : World) => eqC wx cz cz
  rw [decide_eq_true (rfl : cz = cz)] at heq
  go_enter Tryd.func7, Tryd.ntmps7
  go_wp2_with fail
  refine hc1.mono ?_
  rintro e w1 ⟨rfl, x1⟩
  obtain ⟨w2, hw2⟩ : ∃ w2, w2 = w1.alloc (.cells #[sv [], sv [], .bool false, .int .i64 0] 37) := ⟨_, rfl⟩
  obtain ⟨gb, hgb⟩ : ∃ gb, gb = w1.heap.size := ⟨_, rfl⟩
  have x2 : Ext w1 w2 := by rw [hw2]; exact (Mod.refl _ w1).alloc _
  have B2 : Blk w2 gb 37 #[sv [], sv [], .bool false, .int .i64 0] := by rw [hw2, hgb]; exact Blk.new w1 _ _
  have y2 := ext_trans x1 x2
  have hc3 := hc2 y2
  replace hw2 := Lib.hid hw2
  replace hgb := Lib.hid hgb
  clear hc1 x1 x2
  go_upto_region 5 with fail
  rw [← hw2.out, ← hgb.out]
  go_wp2_with fail
  refine hc3.mono ?_
  rintro e w3 ⟨v3, rfl, o3, f3, x3⟩
  have y3 := ext_trans y2 x3
  have B3 := B2.mod x3 (fun h => h)
  obtain ⟨A3, c3, rfl⟩ := o3.shape
  have d0 : w3.cell? ⟨gb, 0, none⟩ = some (sv []) := B3.cell 0
  have d1 : w3.cell? ⟨gb, 1, none⟩ = some (sv []) := B3.cell 1
  have d2 : w3.cell? ⟨gb, 2, none⟩ = some (.bool false) := B3.cell 2
  have d3 : w3.cell? ⟨gb, 3, none⟩ = some (.int .i64 0) := B3.cell 3
  clear hc2 hc3 B2 y2 x3
  go_wp2_with fail
  refine (scan_nil (a := []) (b := key)).mono ?_
  rintro e w4 ⟨rfl, x4⟩
  go_wp2_with fail
  refine len_nil.mono ?_
  rintro e w5 ⟨rfl, rfl⟩
  go_wp2_with fail
  refine first_nil.mono ?_
  rintro e w6 ⟨rfl, rfl⟩
  go_wp2_with fail
  refine last_nil.mono ?_
  rintro e w7 ⟨rfl, rfl⟩
  go_wp2_with fail
  refine blocks_nil.mono ?_
  rintro e w8 ⟨rfl, rfl⟩
  have y4 := ext_trans y3 x4
  go_wp2_with fail
  refine (known8_any (hN.mod y4 (fun h => h))).mono ?_
  rintro e w9 ⟨rfl, x9⟩
  go_wp2_with fail
  go_ret
  exact ⟨rfl, ext_trans y4 x9⟩
end Go.Proofs.YthohghnfiicndaaDoor
