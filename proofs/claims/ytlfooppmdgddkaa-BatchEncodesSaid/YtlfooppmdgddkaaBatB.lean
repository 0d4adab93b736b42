/- batch: a row as a cell; strings.Compare; how the cells are compared. -/
import Derived.Test.YtlfooppmdgddkaaBatP
import Derived.Lib.Bytealg
namespace Go.Proofs.Ytlfooppmdgddkaa
open Go.RowKit
set_option maxRecDepth 100000


set_option maxHeartbeats 4000000 in
theorem bcell_any {w : World} (r : Ro) (s : Int) :
    Calls Try.prog 82 #[.agg (rar r), .int .i64 s] w fun e w' => e = .returned (.agg (car (cellR r s))) ∧ Ext w w' := by
  obtain ⟨c0, c1, c2⟩ := boxedW w r
  have hx : Ext w (w.alloc (.cells (rar r) 82)) := (Mod.refl _ w).alloc _
  obtain ⟨w0, hw0⟩ : ∃ w0, w0 = w.alloc (.cells (rar r) 82) := ⟨_, rfl⟩
  rw [← hw0] at c0 c1 c2 hx
  have hsz : w0.heap.size = w.heap.size + 1 := by rw [hw0]; simp
  replace hw0 := Lib.hid hw0
  have B1 : Blk (w0.alloc (.cells #[sv [], sv [], .bool false, .int .i64 0] 23)) w0.heap.size 23 #[sv [], sv [], .bool false, .int .i64 0] := Blk.new w0 _ _
  have x0 : Ext w0 (w0.alloc (.cells #[sv [], sv [], .bool false, .int .i64 0] 23)) := (Mod.refl _ w0).alloc _
  obtain ⟨w1, hw1⟩ : ∃ w1, w1 = w0.alloc (.cells #[sv [], sv [], .bool false, .int .i64 0] 23) := ⟨_, rfl⟩
  rw [← hw1, hsz] at B1
  rw [← hw1] at x0
  have c0' := (x0.cell (lt_of_cell c0) (fun h => h)).trans c0
  have c1' := (x0.cell (lt_of_cell c1) (fun h => h)).trans c1
  have c2' := (x0.cell (lt_of_cell c2) (fun h => h)).trans c2
  have x1 := ext_trans hx x0
  clear c0 c1 c2 hx x0
  replace hw1 := Lib.hid hw1
  have f0 := Blk.frozen B1 0
  have f1 := Blk.frozen B1 1
  have f2 := Blk.frozen B1 2
  have f3 := Blk.frozen B1 3
  have e0 : _ = some _ := Blk.cell B1 0
  have e1 : _ = some _ := Blk.cell B1 1
  have e2 : _ = some _ := Blk.cell B1 2
  have e3 : _ = some _ := Blk.cell B1 3
  replace hsz := Lib.hid hsz
  go_enter Try.func82, Try.ntmps82
  go_upto_region 1 with fail
  rw [← hw0.out, ← hw1.out]
  go_wp2_with fail
  have R5 := fun p q r s => (((B1.set_ 0 p).set_ 1 q).set_ 2 r).set_ 3 s
  have m9 := fun p q r s => (set4_mod w1 (w.heap.size + 1) p q r s)
  refine bodyPost_ret (results_cell_row Try.results82 _ _ _ _ _ _ _ rfl (R5 _ _ _ _) Try.underlying23 rfl (by kernel_rfl)) rfl ?_
  exact ⟨rfl, x1.trans (m9 _ _ _ _) (fun _ _ h => h) (fun k hk h => by omega)⟩

set_option maxHeartbeats 4000000 in
theorem rbcell_any {w : World} (r : Ro) (s : Int) :
    Calls Try.prog 83 #[.agg (rar r), .int .i64 s] w fun e w' => e = .returned (.agg (car (cellR r s))) ∧ Ext w w' := by
  obtain ⟨c0, c1, c2⟩ := boxedW w r
  have hx : Ext w (w.alloc (.cells (rar r) 82)) := (Mod.refl _ w).alloc _
  obtain ⟨w0, hw0⟩ : ∃ w0, w0 = w.alloc (.cells (rar r) 82) := ⟨_, rfl⟩
  rw [← hw0] at c0 c1 c2 hx
  have hsz : w0.heap.size = w.heap.size + 1 := by rw [hw0]; simp
  replace hw0 := Lib.hid hw0
  have B1 : Blk (w0.alloc (.cells #[sv [], sv [], .bool false, .int .i64 0] 23)) w0.heap.size 23 #[sv [], sv [], .bool false, .int .i64 0] := Blk.new w0 _ _
  have x0 : Ext w0 (w0.alloc (.cells #[sv [], sv [], .bool false, .int .i64 0] 23)) := (Mod.refl _ w0).alloc _
  obtain ⟨w1, hw1⟩ : ∃ w1, w1 = w0.alloc (.cells #[sv [], sv [], .bool false, .int .i64 0] 23) := ⟨_, rfl⟩
  rw [← hw1, hsz] at B1
  rw [← hw1] at x0
  have c0' := (x0.cell (lt_of_cell c0) (fun h => h)).trans c0
  have c1' := (x0.cell (lt_of_cell c1) (fun h => h)).trans c1
  have c2' := (x0.cell (lt_of_cell c2) (fun h => h)).trans c2
  have x1 := ext_trans hx x0
  clear c0 c1 c2 hx x0
  replace hw1 := Lib.hid hw1
  have f0 := Blk.frozen B1 0
  have f1 := Blk.frozen B1 1
  have f2 := Blk.frozen B1 2
  have f3 := Blk.frozen B1 3
  have e0 : _ = some _ := Blk.cell B1 0
  have e1 : _ = some _ := Blk.cell B1 1
  have e2 : _ = some _ := Blk.cell B1 2
  have e3 : _ = some _ := Blk.cell B1 3
  replace hsz := Lib.hid hsz
  go_enter Try.func83, Try.ntmps83
  go_upto_region 1 with fail
  rw [← hw0.out, ← hw1.out]
  go_wp2_with fail
  have R5 := fun p q r s => (((B1.set_ 0 p).set_ 1 q).set_ 2 r).set_ 3 s
  have m9 := fun p q r s => (set4_mod w1 (w.heap.size + 1) p q r s)
  refine bodyPost_ret (results_cell_row Try.results83 _ _ _ _ _ _ _ rfl (R5 _ _ _ _) Try.underlying23 rfl (by kernel_rfl)) rfl ?_
  exact ⟨rfl, x1.trans (m9 _ _ _ _) (fun _ _ h => h) (fun k hk h => by omega)⟩

/-- Three-way, as numbers. -/
def cmpB (a b : List UInt8) : Int := Lib.compareBytes a b
theorem cmpB_lt : ∀ (a b : List UInt8), decide (cmpB a b < 0) = Op.bytesLess a b
  | [], [] => rfl
  | [], _ :: _ => rfl
  | _ :: _, [] => rfl
  | a :: x, b :: y => by
    show decide ((if a < b then (-1 : Int) else if b < a then 1 else Lib.compareBytes x y) < 0) = (decide (a < b) || (a == b && Op.bytesLess x y))
    by_cases h1 : a < b
    · simp [h1]
    · by_cases h2 : b < a
      · have h3 : ¬ a = b := by rintro rfl; exact h1 h2
        simp [h1, h2, h3]
      · have h3 : a = b := by
          apply UInt8.toNat_inj.1
          rw [UInt8.lt_iff_toNat_lt] at h1 h2
          omega
        subst h3
        have := cmpB_lt x y
        unfold cmpB at this
        simp [h1, this]

set_option maxHeartbeats 4000000 in
theorem cmpstr_any {w : World} (a b : List UInt8) :
    Calls Try.prog 101 #[sv a, sv b] w fun e w' => e = .returned (.int .i64 (cmpB a b)) ∧ w' = w := by
  go_enter Try.func101, Try.ntmps101
  go_wp2
  rw [run_callFunc_extern Try.func113 (by kernel_rfl) (by kernel_rfl) (by kernel_rfl) (e := Extern.BytealgCompare.compare) (by kernel_rfl), Lib.run_compareString]
  simp only [Result.andThen]
  rw [Oper.upon_value]
  go_wp2
  go_ret
  exact ⟨rfl, rfl⟩
set_option maxHeartbeats 4000000 in
theorem compare_any {w : World} (a b : List UInt8) :
    Calls Try.prog 86 #[sv a, sv b] w fun e w' => e = .returned (.int .i64 (cmpB a b)) ∧ w' = w := by
  have hc := fun wx => cmpstr_any (w := wx) a b
  go_enter Try.func86, Try.ntmps86
  go_wp2_with fail
  refine (hc _).mono ?_
  rintro e w' ⟨rfl, rfl⟩
  go_wp2_with fail
  go_ret
  exact ⟨rfl, rfl⟩
set_option maxHeartbeats 4000000 in
/-- How batch compares two cells. -/
theorem bcmp_any {w : World} (a b : Ce) :
    Calls Try.prog 85 #[.agg (car a), .agg (car b)] w fun e w' => e = .returned (.int .i64 (cmpB a.key b.key)) ∧ w' = (w.alloc (.cells (car a) 23)).alloc (.cells (car b) 23) := by
  have hc := fun wx => compare_any (w := wx) a.key b.key
  obtain ⟨c0, c1, d0, d1⟩ := boxed2 w a b
  obtain ⟨w0, hw0⟩ : ∃ w0, w0 = (w.alloc (.cells (car a) 23)).alloc (.cells (car b) 23) := ⟨_, rfl⟩
  rw [← hw0] at c0 c1 d0 d1 ⊢
  replace hw0 := Lib.hid hw0
  go_enter Try.func85, Try.ntmps85
  go_upto_region 1 with fail
  rw [← hw0.out]
  go_wp2_with fail
  refine (hc _).mono ?_
  rintro e w' ⟨rfl, rfl⟩
  go_wp2_with fail
  go_ret
  exact ⟨rfl, rfl⟩
end Go.Proofs.Ytlfooppmdgddkaa
