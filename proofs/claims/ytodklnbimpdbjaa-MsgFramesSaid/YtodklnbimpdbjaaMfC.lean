/- msg: a bare unbind. -/
import Derived.Test.YtodklnbimpdbjaaMfB
import Derived.Laws.StructEq
import Derived.Laws.Tables
namespace Go.Proofs.Ytodklnbimpdbjaa
open Go.RowKit
set_option maxRecDepth 100000

theorem Blk.setRow {w : World} {g : Nat} {t : TypeId} {cs : Array Value} (h : Blk w g t cs) (xs : Array Value) : Blk (w.setRow g xs) g t xs := setRow_heap w g cs xs t (0, 0) h
theorem Mod.setRow {F : Nat → Prop} {a b : World} (h : Mod F a b) {g : Nat} (hp : g < a.heap.size → F g) (xs : Array Value) : Mod F a (b.setRow g xs) :=
  ⟨h.os, h.tape, h.output, by rw [size_setRow]; exact h.size, fun k hk hn => (setRow_other b g k xs (by rintro rfl; exact hn (hp hk))).trans (h.block k hk hn)⟩
theorem size21 : (Try.prog.info? 42).map (·.size) = some 21 := by kernel_rfl
theorem Blk.twoN (w : World) (A B : Array Value) (s t : TypeId) : Blk ((w.alloc (.cells A s)).alloc (.cells B t)) w.heap.size s A ∧ Blk ((w.alloc (.cells A s)).alloc (.cells B t)) (w.heap.size + 1) t B ∧ Ext w ((w.alloc (.cells A s)).alloc (.cells B t)) := by
  refine ⟨(Blk.new w _ _).mod (F := fun _ => False) ((Mod.refl _ _).alloc _) (fun h => h), ?_, ((Mod.refl _ w).alloc _).alloc _⟩
  have h := Blk.new (w.alloc (.cells A s)) t B
  have hs : (w.alloc (.cells A s)).heap.size = w.heap.size + 1 := by simp
  rw [hs] at h
  exact h
theorem eqA0 (w : World) : (binOp .eql 40 (.agg #[.string ⟨#[]⟩, .string ⟨#[]⟩]) (.agg #[.string ⟨#[]⟩, .string ⟨#[]⟩])).run Try.prog w = .ok (.bool true) w := by
  rw [run_eql_struct, run_equalIn_agg w 9999 40 _ _ (by kernel_rfl) (by kernel_rfl)]
  simp only [Program.fieldsOf, Try.underlying40]
  simp [Op.eqFields, part, go_sem, run_equalIn_string w _ 9 _ _ Try.underlying9]
theorem guardA0 (w : World) (op : BinOp) (x y : Operand) (xs ys : Array Value) : (eqGuard op 40 x y (.agg xs) (.agg ys)).run Try.prog w = .ok () w :=
  run_eqGuard_agg w op _ x y xs ys (by kernel_rfl)

set_option maxHeartbeats 8000000 in
theorem same0_any {w : World} : Calls Try.prog 11 #[.agg #[.int .i64 1, .int .i64 2, .string ⟨#[]⟩, .string ⟨#[]⟩, .int .i64 0, .int .i64 0, .int .i64 0, .string ⟨#[]⟩, .string ⟨#[]⟩, .slice none 0 0, .slice none 0 0, .slice none 0 0, .slice none 0 0, .slice none 0 0, .string ⟨#[]⟩, .bool false, .bool false, .string ⟨#[]⟩, .string ⟨#[]⟩, .string ⟨#[]⟩, .int .i64 0], .agg #[.int .i64 1, .int .i64 2, .string ⟨#[]⟩, .string ⟨#[]⟩, .int .i64 0, .int .i64 0, .int .i64 0, .string ⟨#[]⟩, .string ⟨#[]⟩, .slice none 0 0, .slice none 0 0, .slice none 0 0, .slice none 0 0, .slice none 0 0, .string ⟨#[]⟩, .bool false, .bool false, .string ⟨#[]⟩, .string ⟨#[]⟩, .string ⟨#[]⟩, .int .i64 0]] w fun e w' => e = .returned (.bool true) ∧ Ext w w' := by
  obtain ⟨x2a, x2b, x2⟩ := Blk.twoN w #[.int .i64 1, .int .i64 2, .string ⟨#[]⟩, .string ⟨#[]⟩, .int .i64 0, .int .i64 0, .int .i64 0, .string ⟨#[]⟩, .string ⟨#[]⟩, .slice none 0 0, .slice none 0 0, .slice none 0 0, .slice none 0 0, .slice none 0 0, .string ⟨#[]⟩, .bool false, .bool false, .string ⟨#[]⟩, .string ⟨#[]⟩, .string ⟨#[]⟩, .int .i64 0] #[.int .i64 1, .int .i64 2, .string ⟨#[]⟩, .string ⟨#[]⟩, .int .i64 0, .int .i64 0, .int .i64 0, .string ⟨#[]⟩, .string ⟨#[]⟩, .slice none 0 0, .slice none 0 0, .slice none 0 0, .slice none 0 0, .slice none 0 0, .string ⟨#[]⟩, .bool false, .bool false, .string ⟨#[]⟩, .string ⟨#[]⟩, .string ⟨#[]⟩, .int .i64 0] 42 42
  obtain ⟨w2, hw2⟩ : ∃ x, x = (w.alloc (.cells #[.int .i64 1, .int .i64 2, .string ⟨#[]⟩, .string ⟨#[]⟩, .int .i64 0, .int .i64 0, .int .i64 0, .string ⟨#[]⟩, .string ⟨#[]⟩, .slice none 0 0, .slice none 0 0, .slice none 0 0, .slice none 0 0, .slice none 0 0, .string ⟨#[]⟩, .bool false, .bool false, .string ⟨#[]⟩, .string ⟨#[]⟩, .string ⟨#[]⟩, .int .i64 0] 42)).alloc (.cells #[.int .i64 1, .int .i64 2, .string ⟨#[]⟩, .string ⟨#[]⟩, .int .i64 0, .int .i64 0, .int .i64 0, .string ⟨#[]⟩, .string ⟨#[]⟩, .slice none 0 0, .slice none 0 0, .slice none 0 0, .slice none 0 0, .slice none 0 0, .string ⟨#[]⟩, .bool false, .bool false, .string ⟨#[]⟩, .string ⟨#[]⟩, .string ⟨#[]⟩, .int .i64 0] 42) := ⟨_, rfl⟩
  rw [← hw2] at x2a x2b x2
  obtain ⟨q, hq⟩ : ∃ q, q = w.heap.size + 1 := ⟨_, rfl⟩
  obtain ⟨p, hp⟩ : ∃ p, p = w.heap.size := ⟨_, rfl⟩
  rw [← hq] at x2b
  rw [← hp] at x2a
  have a0 : w2.cell? ⟨p, 0, none⟩ = some (.int .i64 1) := x2a.cell 0
  have a1 : w2.cell? ⟨p, 1, none⟩ = some (.int .i64 2) := x2a.cell 1
  have a2 : w2.cell? ⟨p, 2, none⟩ = some (.string ⟨#[]⟩) := x2a.cell 2
  have a3 : w2.cell? ⟨p, 3, none⟩ = some (.string ⟨#[]⟩) := x2a.cell 3
  have a4 : w2.cell? ⟨p, 4, none⟩ = some (.int .i64 0) := x2a.cell 4
  have a5 : w2.cell? ⟨p, 5, none⟩ = some (.int .i64 0) := x2a.cell 5
  have a6 : w2.cell? ⟨p, 6, none⟩ = some (.int .i64 0) := x2a.cell 6
  have a7 : w2.cell? ⟨p, 7, none⟩ = some (.string ⟨#[]⟩) := x2a.cell 7
  have a8 : w2.cell? ⟨p, 8, none⟩ = some (.string ⟨#[]⟩) := x2a.cell 8
  have a9 : w2.cell? ⟨p, 9, none⟩ = some (.slice none 0 0) := x2a.cell 9
  have a10 : w2.cell? ⟨p, 10, none⟩ = some (.slice none 0 0) := x2a.cell 10
  have a11 : w2.cell? ⟨p, 11, none⟩ = some (.slice none 0 0) := x2a.cell 11
  have a12 : w2.cell? ⟨p, 12, none⟩ = some (.slice none 0 0) := x2a.cell 12
  have a13 : w2.cell? ⟨p, 13, none⟩ = some (.slice none 0 0) := x2a.cell 13
  have a14 : w2.cell? ⟨p, 14, none⟩ = some (.string ⟨#[]⟩) := x2a.cell 14
  have a15 : w2.cell? ⟨p, 15, none⟩ = some (.bool false) := x2a.cell 15
  have a16 : w2.cell? ⟨p, 16, none⟩ = some (.bool false) := x2a.cell 16
  have a17 : w2.cell? ⟨p, 17, none⟩ = some (.string ⟨#[]⟩) := x2a.cell 17
  have a18 : w2.cell? ⟨p, 18, none⟩ = some (.string ⟨#[]⟩) := x2a.cell 18
  have a19 : w2.cell? ⟨p, 19, none⟩ = some (.string ⟨#[]⟩) := x2a.cell 19
  have a20 : w2.cell? ⟨p, 20, none⟩ = some (.int .i64 0) := x2a.cell 20
  have b0 : w2.cell? ⟨q, 0, none⟩ = some (.int .i64 1) := x2b.cell 0
  have b1 : w2.cell? ⟨q, 1, none⟩ = some (.int .i64 2) := x2b.cell 1
  have b2 : w2.cell? ⟨q, 2, none⟩ = some (.string ⟨#[]⟩) := x2b.cell 2
  have b3 : w2.cell? ⟨q, 3, none⟩ = some (.string ⟨#[]⟩) := x2b.cell 3
  have b4 : w2.cell? ⟨q, 4, none⟩ = some (.int .i64 0) := x2b.cell 4
  have b5 : w2.cell? ⟨q, 5, none⟩ = some (.int .i64 0) := x2b.cell 5
  have b6 : w2.cell? ⟨q, 6, none⟩ = some (.int .i64 0) := x2b.cell 6
  have b7 : w2.cell? ⟨q, 7, none⟩ = some (.string ⟨#[]⟩) := x2b.cell 7
  have b8 : w2.cell? ⟨q, 8, none⟩ = some (.string ⟨#[]⟩) := x2b.cell 8
  have b9 : w2.cell? ⟨q, 9, none⟩ = some (.slice none 0 0) := x2b.cell 9
  have b10 : w2.cell? ⟨q, 10, none⟩ = some (.slice none 0 0) := x2b.cell 10
  have b11 : w2.cell? ⟨q, 11, none⟩ = some (.slice none 0 0) := x2b.cell 11
  have b12 : w2.cell? ⟨q, 12, none⟩ = some (.slice none 0 0) := x2b.cell 12
  have b13 : w2.cell? ⟨q, 13, none⟩ = some (.slice none 0 0) := x2b.cell 13
  have b14 : w2.cell? ⟨q, 14, none⟩ = some (.string ⟨#[]⟩) := x2b.cell 14
  have b15 : w2.cell? ⟨q, 15, none⟩ = some (.bool false) := x2b.cell 15
  have b16 : w2.cell? ⟨q, 16, none⟩ = some (.bool false) := x2b.cell 16
  have b17 : w2.cell? ⟨q, 17, none⟩ = some (.string ⟨#[]⟩) := x2b.cell 17
  have b18 : w2.cell? ⟨q, 18, none⟩ = some (.string ⟨#[]⟩) := x2b.cell 18
  have b19 : w2.cell? ⟨q, 19, none⟩ = some (.string ⟨#[]⟩) := x2b.cell 19
  have b20 : w2.cell? ⟨q, 20, none⟩ = some (.int .i64 0) := x2b.cell 20
  have hne := eqA0
  have hgu := fun wx a b => guardA0 wx .eql a b #[.string ⟨#[]⟩, .string ⟨#[]⟩] #[.string ⟨#[]⟩, .string ⟨#[]⟩]
  replace hw2 := Lib.hid hw2
  replace hq := Lib.hid hq
  replace hp := Lib.hid hp
  go_enter Try.func11, Try.ntmps11
  go_upto_region 1 with fail
  rw [← hw2.out, ← hq.out, ← hp.out]
  clear hw2 hq hp
  go_wp2_with fail
  refine eq0_any.mono ?_
  rintro e w3 ⟨rfl, rfl⟩
  go_wp2_with fail
  refine sameAt0_any.mono ?_
  rintro e w3 ⟨rfl, rfl⟩
  go_wp2_with fail
  refine sameF0_any.mono ?_
  rintro e w3 ⟨rfl, x3⟩
  have p312 : w3.cell? ⟨p, 12, none⟩ = some (.slice none 0 0) := (x2a.mod x3 (fun h => h)).cell 12
  have q312 : w3.cell? ⟨q, 12, none⟩ = some (.slice none 0 0) := (x2b.mod x3 (fun h => h)).cell 12
  go_wp2_with fail
  refine eqM0_any.mono ?_
  rintro e w4 ⟨rfl, rfl⟩
  go_wp2_with fail
  go_ret
  exact ⟨rfl, mext_trans x2 x3⟩

set_option maxHeartbeats 8000000 in
theorem bare0_any {w : World} : Calls Try.prog 12 #[.agg #[.int .i64 1, .int .i64 2, .string ⟨#[]⟩, .string ⟨#[]⟩, .int .i64 0, .int .i64 0, .int .i64 0, .string ⟨#[]⟩, .string ⟨#[]⟩, .slice none 0 0, .slice none 0 0, .slice none 0 0, .slice none 0 0, .slice none 0 0, .string ⟨#[]⟩, .bool false, .bool false, .string ⟨#[]⟩, .string ⟨#[]⟩, .string ⟨#[]⟩, .int .i64 0]] w fun e w' => e = .returned (.agg #[.int .i64 1, .int .i64 2, .string ⟨#[]⟩, .string ⟨#[]⟩, .int .i64 0, .int .i64 0, .int .i64 0, .string ⟨#[]⟩, .string ⟨#[]⟩, .slice none 0 0, .slice none 0 0, .slice none 0 0, .slice none 0 0, .slice none 0 0, .string ⟨#[]⟩, .bool false, .bool false, .string ⟨#[]⟩, .string ⟨#[]⟩, .string ⟨#[]⟩, .int .i64 0]) ∧ Ext w w' := by
  obtain ⟨x2a, x2b, x2⟩ := Blk.twoN w #[.int .i64 1, .int .i64 2, .string ⟨#[]⟩, .string ⟨#[]⟩, .int .i64 0, .int .i64 0, .int .i64 0, .string ⟨#[]⟩, .string ⟨#[]⟩, .slice none 0 0, .slice none 0 0, .slice none 0 0, .slice none 0 0, .slice none 0 0, .string ⟨#[]⟩, .bool false, .bool false, .string ⟨#[]⟩, .string ⟨#[]⟩, .string ⟨#[]⟩, .int .i64 0] #[.int .i64 0, .int .i64 0, .string ⟨#[]⟩, .string ⟨#[]⟩, .int .i64 0, .int .i64 0, .int .i64 0, .string ⟨#[]⟩, .string ⟨#[]⟩, .slice none 0 0, .slice none 0 0, .slice none 0 0, .slice none 0 0, .slice none 0 0, .string ⟨#[]⟩, .bool false, .bool false, .string ⟨#[]⟩, .string ⟨#[]⟩, .string ⟨#[]⟩, .int .i64 0] 42 42
  obtain ⟨w2, hw2⟩ : ∃ x, x = (w.alloc (.cells #[.int .i64 1, .int .i64 2, .string ⟨#[]⟩, .string ⟨#[]⟩, .int .i64 0, .int .i64 0, .int .i64 0, .string ⟨#[]⟩, .string ⟨#[]⟩, .slice none 0 0, .slice none 0 0, .slice none 0 0, .slice none 0 0, .slice none 0 0, .string ⟨#[]⟩, .bool false, .bool false, .string ⟨#[]⟩, .string ⟨#[]⟩, .string ⟨#[]⟩, .int .i64 0] 42)).alloc (.cells #[.int .i64 0, .int .i64 0, .string ⟨#[]⟩, .string ⟨#[]⟩, .int .i64 0, .int .i64 0, .int .i64 0, .string ⟨#[]⟩, .string ⟨#[]⟩, .slice none 0 0, .slice none 0 0, .slice none 0 0, .slice none 0 0, .slice none 0 0, .string ⟨#[]⟩, .bool false, .bool false, .string ⟨#[]⟩, .string ⟨#[]⟩, .string ⟨#[]⟩, .int .i64 0] 42) := ⟨_, rfl⟩
  rw [← hw2] at x2a x2b x2
  obtain ⟨q, hq⟩ : ∃ q, q = w.heap.size + 1 := ⟨_, rfl⟩
  have hqw : w.heap.size ≤ q := by omega
  rw [← hq] at x2b
  have B3a : Blk (w2.alloc (.cells #[.int .i64 0, .int .i64 0, .string ⟨#[]⟩, .string ⟨#[]⟩, .int .i64 0, .int .i64 0, .int .i64 0, .string ⟨#[]⟩, .string ⟨#[]⟩, .slice none 0 0, .slice none 0 0, .slice none 0 0, .slice none 0 0, .slice none 0 0, .string ⟨#[]⟩, .bool false, .bool false, .string ⟨#[]⟩, .string ⟨#[]⟩, .string ⟨#[]⟩, .int .i64 0] 42)) w2.heap.size 42 #[.int .i64 0, .int .i64 0, .string ⟨#[]⟩, .string ⟨#[]⟩, .int .i64 0, .int .i64 0, .int .i64 0, .string ⟨#[]⟩, .string ⟨#[]⟩, .slice none 0 0, .slice none 0 0, .slice none 0 0, .slice none 0 0, .slice none 0 0, .string ⟨#[]⟩, .bool false, .bool false, .string ⟨#[]⟩, .string ⟨#[]⟩, .string ⟨#[]⟩, .int .i64 0] := Blk.new w2 _ _
  obtain ⟨w3, hw3⟩ : ∃ x, x = (w2.alloc (.cells #[.int .i64 0, .int .i64 0, .string ⟨#[]⟩, .string ⟨#[]⟩, .int .i64 0, .int .i64 0, .int .i64 0, .string ⟨#[]⟩, .string ⟨#[]⟩, .slice none 0 0, .slice none 0 0, .slice none 0 0, .slice none 0 0, .slice none 0 0, .string ⟨#[]⟩, .bool false, .bool false, .string ⟨#[]⟩, .string ⟨#[]⟩, .string ⟨#[]⟩, .int .i64 0] 42)).setRow w2.heap.size #[.int .i64 1, .int .i64 2, .string ⟨#[]⟩, .string ⟨#[]⟩, .int .i64 0, .int .i64 0, .int .i64 0, .string ⟨#[]⟩, .string ⟨#[]⟩, .slice none 0 0, .slice none 0 0, .slice none 0 0, .slice none 0 0, .slice none 0 0, .string ⟨#[]⟩, .bool false, .bool false, .string ⟨#[]⟩, .string ⟨#[]⟩, .string ⟨#[]⟩, .int .i64 0] := ⟨_, rfl⟩
  obtain ⟨g, hg⟩ : ∃ q, q = w2.heap.size := ⟨_, rfl⟩
  have x3 : Ext w2 w3 := by rw [hw3]; exact ((Mod.refl _ w2).alloc _).setRow (fun h => by omega) _
  have B3 : Blk w3 g 42 #[.int .i64 1, .int .i64 2, .string ⟨#[]⟩, .string ⟨#[]⟩, .int .i64 0, .int .i64 0, .int .i64 0, .string ⟨#[]⟩, .string ⟨#[]⟩, .slice none 0 0, .slice none 0 0, .slice none 0 0, .slice none 0 0, .slice none 0 0, .string ⟨#[]⟩, .bool false, .bool false, .string ⟨#[]⟩, .string ⟨#[]⟩, .string ⟨#[]⟩, .int .i64 0] := by rw [hw3, hg]; exact B3a.setRow #[.int .i64 1, .int .i64 2, .string ⟨#[]⟩, .string ⟨#[]⟩, .int .i64 0, .int .i64 0, .int .i64 0, .string ⟨#[]⟩, .string ⟨#[]⟩, .slice none 0 0, .slice none 0 0, .slice none 0 0, .slice none 0 0, .slice none 0 0, .string ⟨#[]⟩, .bool false, .bool false, .string ⟨#[]⟩, .string ⟨#[]⟩, .string ⟨#[]⟩, .int .i64 0]
  have BR := x2b.mod x3 (fun h => h)
  have BP : Blk w2 w.heap.size 42 #[.int .i64 1, .int .i64 2, .string ⟨#[]⟩, .string ⟨#[]⟩, .int .i64 0, .int .i64 0, .int .i64 0, .string ⟨#[]⟩, .string ⟨#[]⟩, .slice none 0 0, .slice none 0 0, .slice none 0 0, .slice none 0 0, .slice none 0 0, .string ⟨#[]⟩, .bool false, .bool false, .string ⟨#[]⟩, .string ⟨#[]⟩, .string ⟨#[]⟩, .int .i64 0] := x2a
  have p1 : w3.cell? ⟨w.heap.size, 1, none⟩ = some (.int .i64 2) := (BP.mod x3 (fun h => h)).cell 1
  have hp0 : w2.cell? ⟨w.heap.size, 0, none⟩ = some (.int .i64 1) := BP.cell 0
  have hp1 : w2.cell? ⟨w.heap.size, 1, none⟩ = some (.int .i64 2) := BP.cell 1
  replace hw2 := Lib.hid hw2
  replace hq := Lib.hid hq
  replace hw3 := Lib.hid hw3
  replace hg := Lib.hid hg
  go_enter Try.func12, Try.ntmps12
  go_upto_region 1 with fail
  rw [← hw2.out, ← hq.out]
  go_upto_region 2 with ((with_reducible show wpList _ _ _ (⟨none, .store 42 _ _, _, _, _, _⟩ :: _) _ _); refine wpList_store_row rfl 42 (.tmp 3) (.tmp 8) rfl w2.heap.size #[.int .i64 1, .int .i64 2, .string ⟨#[]⟩, .string ⟨#[]⟩, .int .i64 0, .int .i64 0, .int .i64 0, .string ⟨#[]⟩, .string ⟨#[]⟩, .slice none 0 0, .slice none 0 0, .slice none 0 0, .slice none 0 0, .slice none 0 0, .string ⟨#[]⟩, .bool false, .bool false, .string ⟨#[]⟩, .string ⟨#[]⟩, .string ⟨#[]⟩, .int .i64 0] rfl rfl _ _ B3a size21 rfl (by simp [Value.oneCell']) ?_)
  rw [← hw3.out, ← hg.out]
  clear hw2 hq hw3 hg hp0 hp1 B3a
  go_wp2_with (first
    | ((with_reducible show wpList _ _ _ (⟨some 13, _, _, _, _, _⟩ :: _) _ _); refine wpList_load_row rfl 42 (.tmp 3) rfl g rfl _ _ _ _ B3 Try.underlying42 rfl size21 ?_)
    | ((with_reducible show wpList _ _ _ (⟨none, .store 42 _ _, _, _, _, _⟩ :: _) _ _); refine wpList_store_row rfl 42 (.tmp 2) (.tmp 13) rfl q #[.int .i64 1, .int .i64 2, .string ⟨#[]⟩, .string ⟨#[]⟩, .int .i64 0, .int .i64 0, .int .i64 0, .string ⟨#[]⟩, .string ⟨#[]⟩, .slice none 0 0, .slice none 0 0, .slice none 0 0, .slice none 0 0, .slice none 0 0, .string ⟨#[]⟩, .bool false, .bool false, .string ⟨#[]⟩, .string ⟨#[]⟩, .string ⟨#[]⟩, .int .i64 0] rfl rfl _ _ BR size21 rfl (by simp [Value.oneCell']) ?_))
  refine bodyPost_ret (results_cell_row Try.results12 _ _ _ _ _ _ _ rfl (BR.setRow #[.int .i64 1, .int .i64 2, .string ⟨#[]⟩, .string ⟨#[]⟩, .int .i64 0, .int .i64 0, .int .i64 0, .string ⟨#[]⟩, .string ⟨#[]⟩, .slice none 0 0, .slice none 0 0, .slice none 0 0, .slice none 0 0, .slice none 0 0, .string ⟨#[]⟩, .bool false, .bool false, .string ⟨#[]⟩, .string ⟨#[]⟩, .string ⟨#[]⟩, .int .i64 0]) Try.underlying42 rfl (by exact size21)) rfl ?_
  exact ⟨rfl, (mext_trans x2 x3).setRow (fun h => by omega) _⟩
end Go.Proofs.Ytodklnbimpdbjaa
