/- index: slices.Sort at texts. -/
import Derived.Test.YtacmbomnjedbeaaIxI
import Derived.Lib.OwnBridge
import Derived.Shelf.SortG.Plain
namespace Go.Proofs.Ytacmbomnjedbeaa
open Go.RowKit Go.Maps Go.Shelf Go.Sort
set_option maxRecDepth 100000

def sortT_ren : Go.Shelf.Ren := ⟨fun | 54 => 37 | 64 => 54 | 65 => 53 | 78 => 79 | 79 => 80 | 80 => 70 | 81 => 71 | 82 => 72 | 83 => 73 | 84 => 74 | 85 => 75 | 61 => 76 | 86 => 77 | 87 => 78 | 93 => 88 | 89 => 89 | 90 => 90 | 94 => 91 | 95 => 92 | 69 => 93 | 97 => 102 | n => n, fun | 25 => 28 | 26 => 9 | 3 => 3 | 51 => 77 | 0 => 0 | 67 => 102 | 69 => 104 | 4 => 4 | 61 => 94 | 60 => 93 | 44 => 99 | 5 => 5 | 9 => 9 | 75 => 111 | 79 => 115 | 83 => 119 | 84 => 120 | n => n, fun | n => n⟩
theorem sortT : Go.Proofs.SlLaysN.n54 Try.prog sortT_ren := {
  mixed := by kernel_rfl
  f54 := ⟨Try.f37.name, by decide, Try.func37.trans (congrArg some (by kernel_rfl))⟩
  f61 := ⟨Try.f76.name, by decide, Try.func76.trans (congrArg some (by kernel_rfl))⟩
  f64 := Try.func54.trans (congrArg some (by kernel_rfl))
  f65 := ⟨Try.f53.name, by decide, Try.func53.trans (congrArg some (by kernel_rfl))⟩
  f69 := ⟨Try.f93.name, by decide, Try.func93.trans (congrArg some (by kernel_rfl))⟩
  f78 := Try.func79.trans (congrArg some (by kernel_rfl))
  f79 := Try.func80.trans (congrArg some (by kernel_rfl))
  f80 := ⟨Try.f70.name, by decide, Try.func70.trans (congrArg some (by kernel_rfl))⟩
  f81 := ⟨Try.f71.name, by decide, Try.func71.trans (congrArg some (by kernel_rfl))⟩
  f82 := ⟨Try.f72.name, by decide, Try.func72.trans (congrArg some (by kernel_rfl))⟩
  f83 := ⟨Try.f73.name, by decide, Try.func73.trans (congrArg some (by kernel_rfl))⟩
  f84 := ⟨Try.f74.name, by decide, Try.func74.trans (congrArg some (by kernel_rfl))⟩
  f85 := ⟨Try.f75.name, by decide, Try.func75.trans (congrArg some (by kernel_rfl))⟩
  f86 := ⟨Try.f77.name, by decide, Try.func77.trans (congrArg some (by kernel_rfl))⟩
  f87 := ⟨Try.f78.name, by decide, Try.func78.trans (congrArg some (by kernel_rfl))⟩
  f89 := Try.func89.trans (congrArg some (by kernel_rfl))
  f90 := Try.func90.trans (congrArg some (by kernel_rfl))
  f93 := ⟨Try.f88.name, by decide, Try.func88.trans (congrArg some (by kernel_rfl))⟩
  f94 := ⟨Try.f91.name, by decide, Try.func91.trans (congrArg some (by kernel_rfl))⟩
  f95 := ⟨Try.f92.name, by decide, Try.func92.trans (congrArg some (by kernel_rfl))⟩
  f97 := ⟨Try.f102.name, by decide, Try.func102.trans (congrArg some (by kernel_rfl))⟩
  t0 := Try.underlying0
  a0 := Try.isAgg0
  z0 := Try.sizeOf0
  v0 := Try.zeroValue0
  t3 := Try.underlying3
  a3 := Try.isAgg3
  z3 := Try.sizeOf3
  v3 := Try.zeroValue3
  t4 := Try.underlying4
  a4 := Try.isAgg4
  z4 := Try.sizeOf4
  v4 := Try.zeroValue4
  t5 := Try.underlying5
  a5 := Try.isAgg5
  z5 := Try.sizeOf5
  v5 := Try.zeroValue5
  t9 := Try.underlying9
  a9 := Try.isAgg9
  z9 := Try.sizeOf9
  v9 := Try.zeroValue9
  t25 := Try.underlying28
  a25 := Try.isAgg28
  z25 := Try.sizeOf28
  v25 := Try.zeroValue28
  t26 := Try.underlying9
  a26 := Try.isAgg9
  z26 := Try.sizeOf9
  v26 := Try.zeroValue9
  t44 := Try.underlying99
  a44 := Try.isAgg99
  z44 := Try.sizeOf99
  v44 := Try.zeroValue99
  t51 := Try.underlying77
  a51 := Try.isAgg77
  z51 := Try.sizeOf77
  v51 := Try.zeroValue77
  t60 := Try.underlying93
  a60 := Try.isAgg93
  z60 := Try.sizeOf93
  v60 := Try.zeroValue93
  t61 := Try.underlying94
  a61 := Try.isAgg94
  z61 := Try.sizeOf94
  v61 := Try.zeroValue94
  t67 := Try.underlying102
  a67 := Try.isAgg102
  z67 := Try.sizeOf102
  v67 := Try.zeroValue102
  t69 := Try.underlying104
  a69 := Try.isAgg104
  z69 := Try.sizeOf104
  v69 := Try.zeroValue104
  t75 := Try.underlying111
  a75 := Try.isAgg111
  z75 := Try.sizeOf111
  v75 := Try.zeroValue111
  t79 := Try.underlying115
  a79 := Try.isAgg115
  z79 := Try.sizeOf115
  v79 := Try.zeroValue115
  t83 := Try.underlying119
  a83 := Try.isAgg119
  z83 := Try.sizeOf119
  v83 := Try.zeroValue119
  t84 := Try.underlying120
  a84 := Try.isAgg120
  z84 := Try.sizeOf120
  v84 := Try.zeroValue120 }
theorem sortT_holds : SortT := by
  intro w v L h hv hl
  obtain ⟨g, cap, rfl, _, hlt, _, _, hzl, hH⟩ := Lib.holds_of_ownsRow (enc := encStr) (α := List UInt8) h hv
  have hcon := AnyG.slices_Sort_string sortT g 0 cap L w hH hlt (by omega)
  have hn := h.length_eq
  change Calls Try.prog 37 _ _ _ at hcon
  rw [show (L.map sv).length = L.length by simp]
  refine Calls.mono hcon ?_
  rintro e w' ⟨rfl, n, os, hw⟩
  have hpm : (L.mergeSort fun x y => decide (x ≤ y)).Perm L := List.mergeSort_perm _ _
  have hso : (L.mergeSort fun x y => decide (x ≤ y)).Pairwise fun x y => Op.bytesLess y x = false := by
    have := List.pairwise_mergeSort (le := fun x y : List UInt8 => decide (x ≤ y)) (fun a b c h1 h2 => by simp only [decide_eq_true_eq] at *; exact List.le_trans h1 h2) (fun a b => by simp only [Bool.or_eq_true, decide_eq_true_eq]; exact List.le_total a b) L
    refine this.imp fun {a b} h => ?_
    rw [bytesLess_eq]
    simp only [decide_eq_true_eq] at h
    exact decide_eq_false (List.not_lt.2 h)
  generalize (L.mergeSort fun x y => decide (x ≤ y)) = L' at *
  have hll : L'.length = L.length := hpm.length_eq
  have o1 := Lib.ownsRow_putRow (enc := encStr) (q := n) (k := L.length) (ys := L') (zs := L) (n := L.length) (by simpa [Own] using h) hll (Nat.le_refl _)
  rw [List.take_of_length_le (by omega)] at o1
  have hsz : g < (putRow encStr (Sort.ahead w n) g 0 L'.toArray).heap.size := by simpa [putRow, mapBlock, Sort.ahead] using hlt
  have m1 : Mod (fun b => b = g) w (putRow encStr (Sort.ahead w n) g 0 L'.toArray) := ⟨rfl, rfl, rfl, by simp [putRow, mapBlock, Sort.ahead], fun b hb hn => by simp [putRow, mapBlock, Sort.ahead, Array.getElem?_modify, show g ≠ b from fun e => hn e.symm]⟩
  have m2 : Ext (putRow encStr (Sort.ahead w n) g 0 L'.toArray) w' := by
    rw [hw]
    exact ⟨rfl, rfl, rfl, by simp [grow], fun b hb _ => by simp [grow, Array.getElem?_append_left hb]⟩
  have o2 : OwnT (putRow encStr (Sort.ahead w n) g 0 L'.toArray) (.slice (some ⟨g, 0, none⟩) L.length cap) L' := by
    show Own _ _ _ _
    unfold Own
    rw [List.length_map, hll]
    exact o1
  refine ⟨rfl, L', hpm, hso, Own.mod o2 m2 (fun _ _ h => h), (m1.then_ m2 (fun _ _ h => h.elim)).mono fun k _ hk => ?_⟩
  subst hk
  rfl
end Go.Proofs.Ytacmbomnjedbeaa
