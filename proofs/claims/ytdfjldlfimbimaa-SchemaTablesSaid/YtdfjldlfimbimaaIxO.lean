/- index: slices.Sort at texts. -/
import Derived.Test.YtdfjldlfimbimaaIxI
import Derived.Lib.OwnBridge
import Derived.Shelf.SortG.Plain
namespace Go.Proofs.Ytdfjldlfimbimaa
open Go.RowKit Go.Maps Go.Shelf Go.Sort
set_option maxRecDepth 100000

def sortT_ren : Go.Shelf.Ren := ⟨fun | 54 => 33 | 64 => 39 | 65 => 38 | 78 => 49 | 79 => 50 | 80 => 40 | 81 => 41 | 82 => 42 | 83 => 43 | 84 => 44 | 85 => 45 | 61 => 46 | 86 => 47 | 87 => 48 | 93 => 51 | 89 => 52 | 90 => 53 | 94 => 54 | 95 => 55 | 69 => 56 | 97 => 57 | n => n, fun | 25 => 22 | 26 => 9 | 3 => 3 | 51 => 39 | 0 => 0 | 67 => 85 | 69 => 87 | 4 => 4 | 61 => 77 | 60 => 76 | 44 => 82 | 5 => 5 | 9 => 9 | 75 => 88 | 79 => 92 | 83 => 94 | 84 => 95 | n => n, fun | n => n⟩
theorem sortT : Go.Proofs.SlLaysN.n54 Try.prog sortT_ren := {
  mixed := by kernel_rfl
  f54 := ⟨Try.f33.name, by decide, Try.func33.trans (congrArg some (by kernel_rfl))⟩
  f61 := ⟨Try.f46.name, by decide, Try.func46.trans (congrArg some (by kernel_rfl))⟩
  f64 := Try.func39.trans (congrArg some (by kernel_rfl))
  f65 := ⟨Try.f38.name, by decide, Try.func38.trans (congrArg some (by kernel_rfl))⟩
  f69 := ⟨Try.f56.name, by decide, Try.func56.trans (congrArg some (by kernel_rfl))⟩
  f78 := Try.func49.trans (congrArg some (by kernel_rfl))
  f79 := Try.func50.trans (congrArg some (by kernel_rfl))
  f80 := ⟨Try.f40.name, by decide, Try.func40.trans (congrArg some (by kernel_rfl))⟩
  f81 := ⟨Try.f41.name, by decide, Try.func41.trans (congrArg some (by kernel_rfl))⟩
  f82 := ⟨Try.f42.name, by decide, Try.func42.trans (congrArg some (by kernel_rfl))⟩
  f83 := ⟨Try.f43.name, by decide, Try.func43.trans (congrArg some (by kernel_rfl))⟩
  f84 := ⟨Try.f44.name, by decide, Try.func44.trans (congrArg some (by kernel_rfl))⟩
  f85 := ⟨Try.f45.name, by decide, Try.func45.trans (congrArg some (by kernel_rfl))⟩
  f86 := ⟨Try.f47.name, by decide, Try.func47.trans (congrArg some (by kernel_rfl))⟩
  f87 := ⟨Try.f48.name, by decide, Try.func48.trans (congrArg some (by kernel_rfl))⟩
  f89 := Try.func52.trans (congrArg some (by kernel_rfl))
  f90 := Try.func53.trans (congrArg some (by kernel_rfl))
  f93 := ⟨Try.f51.name, by decide, Try.func51.trans (congrArg some (by kernel_rfl))⟩
  f94 := ⟨Try.f54.name, by decide, Try.func54.trans (congrArg some (by kernel_rfl))⟩
  f95 := ⟨Try.f55.name, by decide, Try.func55.trans (congrArg some (by kernel_rfl))⟩
  f97 := ⟨Try.f57.name, by decide, Try.func57.trans (congrArg some (by kernel_rfl))⟩
  t0 := Try.underlying0
  a0 := Try.isAgg0
  z0 := Try.sizeOf0
  v0 := Try.zeroValue0
  t3 := Try.underlying3
  a3 := Try.isAgg3
  z3 := Try.sizeOf3
  v3 := Try.zeroValue3
  t4 := Try.underlying4
  a4 := Try.isAgg4
  z4 := Try.sizeOf4
  v4 := Try.zeroValue4
  t5 := Try.underlying5
  a5 := Try.isAgg5
  z5 := Try.sizeOf5
  v5 := Try.zeroValue5
  t9 := Try.underlying9
  a9 := Try.isAgg9
  z9 := Try.sizeOf9
  v9 := Try.zeroValue9
  t25 := Try.underlying22
  a25 := Try.isAgg22
  z25 := Try.sizeOf22
  v25 := Try.zeroValue22
  t26 := Try.underlying9
  a26 := Try.isAgg9
  z26 := Try.sizeOf9
  v26 := Try.zeroValue9
  t44 := Try.underlying82
  a44 := Try.isAgg82
  z44 := Try.sizeOf82
  v44 := Try.zeroValue82
  t51 := Try.underlying39
  a51 := Try.isAgg39
  z51 := Try.sizeOf39
  v51 := Try.zeroValue39
  t60 := Try.underlying76
  a60 := Try.isAgg76
  z60 := Try.sizeOf76
  v60 := Try.zeroValue76
  t61 := Try.underlying77
  a61 := Try.isAgg77
  z61 := Try.sizeOf77
  v61 := Try.zeroValue77
  t67 := Try.underlying85
  a67 := Try.isAgg85
  z67 := Try.sizeOf85
  v67 := Try.zeroValue85
  t69 := Try.underlying87
  a69 := Try.isAgg87
  z69 := Try.sizeOf87
  v69 := Try.zeroValue87
  t75 := Try.underlying88
  a75 := Try.isAgg88
  z75 := Try.sizeOf88
  v75 := Try.zeroValue88
  t79 := Try.underlying92
  a79 := Try.isAgg92
  z79 := Try.sizeOf92
  v79 := Try.zeroValue92
  t83 := Try.underlying94
  a83 := Try.isAgg94
  z83 := Try.sizeOf94
  v83 := Try.zeroValue94
  t84 := Try.underlying95
  a84 := Try.isAgg95
  z84 := Try.sizeOf95
  v84 := Try.zeroValue95 }
theorem sortT_holds : SortT := by
  intro w v L h hv hl
  obtain ⟨g, cap, rfl, _, hlt, _, _, hzl, hH⟩ := Lib.holds_of_ownsRow (enc := encStr) (α := List UInt8) h hv
  have hcon := AnyG.slices_Sort_string sortT g 0 cap L w hH hlt (by omega)
  have hn := h.length_eq
  change Calls Try.prog 33 _ _ _ at hcon
  rw [show (L.map sv).length = L.length by simp]
  refine Calls.mono hcon ?_
  rintro e w' ⟨rfl, n, os, hw⟩
  have hpm : (L.mergeSort fun x y => decide (x ≤ y)).Perm L := List.mergeSort_perm _ _
  have hso : (L.mergeSort fun x y => decide (x ≤ y)).Pairwise fun x y => Op.bytesLess y x = false := by
    have := List.pairwise_mergeSort (le := fun x y : List UInt8 => decide (x ≤ y)) (fun a b c h1 h2 => by simp only [decide_eq_true_eq] at *; exact List.le_trans h1 h2) (fun a b => by simp only [Bool.or_eq_true, decide_eq_true_eq]; exact List.le_total a b) L
    refine this.imp fun {a b} h => ?_
    rw [bytesLess_eq]
    simp only [decide_eq_true_eq] at h
    exact decide_eq_false (List.not_lt.2 h)
  generalize (L.mergeSort fun x y => decide (x ≤ y)) = L' at *
  have hll : L'.length = L.length := hpm.length_eq
  have o1 := Lib.ownsRow_putRow (enc := encStr) (q := n) (k := L.length) (ys := L') (zs := L) (n := L.length) (by simpa [Own] using h) hll (Nat.le_refl _)
  rw [List.take_of_length_le (by omega)] at o1
  have hsz : g < (putRow encStr (Sort.ahead w n) g 0 L'.toArray).heap.size := by simpa [putRow, mapBlock, Sort.ahead] using hlt
  have m1 : Mod (fun b => b = g) w (putRow encStr (Sort.ahead w n) g 0 L'.toArray) := ⟨rfl, rfl, rfl, by simp [putRow, mapBlock, Sort.ahead], fun b hb hn => by simp [putRow, mapBlock, Sort.ahead, Array.getElem?_modify, show g ≠ b from fun e => hn e.symm]⟩
  have m2 : Ext (putRow encStr (Sort.ahead w n) g 0 L'.toArray) w' := by
    rw [hw]
    exact ⟨rfl, rfl, rfl, by simp [grow], fun b hb _ => by simp [grow, Array.getElem?_append_left hb]⟩
  have o2 : OwnT (putRow encStr (Sort.ahead w n) g 0 L'.toArray) (.slice (some ⟨g, 0, none⟩) L.length cap) L' := by
    show Own _ _ _ _
    unfold Own
    rw [List.length_map, hll]
    exact o1
  refine ⟨rfl, L', hpm, hso, Own.mod o2 m2 (fun _ _ h => h), (m1.then_ m2 (fun _ _ h => h.elim)).mono fun k _ hk => ?_⟩
  subst hk
  rfl
end Go.Proofs.Ytdfjldlfimbimaa
