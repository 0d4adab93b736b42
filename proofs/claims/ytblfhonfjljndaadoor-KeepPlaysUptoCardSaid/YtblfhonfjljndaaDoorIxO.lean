/- index: slices.Sort at texts. -/
import Derived.Test.YtblfhonfjljndaaDoorIxI
import Derived.Lib.OwnBridge
import Derived.Shelf.SortG.Plain
namespace Go.Proofs.YtblfhonfjljndaaDoor
open Go.RowKit Go.Maps Go.Shelf Go.Sort
set_option maxRecDepth 100000

def sortT_ren : Go.Shelf.Ren := ⟨fun | 54 => 46 | 64 => 66 | 65 => 65 | 78 => 79 | 79 => 80 | 80 => 70 | 81 => 71 | 82 => 72 | 83 => 73 | 84 => 74 | 85 => 75 | 61 => 76 | 86 => 77 | 87 => 78 | 93 => 81 | 89 => 82 | 90 => 83 | 94 => 84 | 95 => 85 | 69 => 86 | 97 => 87 | n => n, fun | 25 => 33 | 26 => 9 | 3 => 3 | 51 => 103 | 0 => 0 | 67 => 86 | 69 => 116 | 4 => 4 | 61 => 109 | 60 => 108 | 44 => 80 | 5 => 5 | 9 => 9 | 75 => 117 | 79 => 121 | 83 => 124 | 84 => 125 | n => n, fun | n => n⟩
theorem sortT : Go.Proofs.SlLaysN.n54 Tryd.prog sortT_ren := {
  mixed := by kernel_rfl
  f54 := ⟨Tryd.f46.name, by decide, Tryd.func46.trans (congrArg some (by kernel_rfl))⟩
  f61 := ⟨Tryd.f76.name, by decide, Tryd.func76.trans (congrArg some (by kernel_rfl))⟩
  f64 := Tryd.func66.trans (congrArg some (by kernel_rfl))
  f65 := ⟨Tryd.f65.name, by decide, Tryd.func65.trans (congrArg some (by kernel_rfl))⟩
  f69 := ⟨Tryd.f86.name, by decide, Tryd.func86.trans (congrArg some (by kernel_rfl))⟩
  f78 := Tryd.func79.trans (congrArg some (by kernel_rfl))
  f79 := Tryd.func80.trans (congrArg some (by kernel_rfl))
  f80 := ⟨Tryd.f70.name, by decide, Tryd.func70.trans (congrArg some (by kernel_rfl))⟩
  f81 := ⟨Tryd.f71.name, by decide, Tryd.func71.trans (congrArg some (by kernel_rfl))⟩
  f82 := ⟨Tryd.f72.name, by decide, Tryd.func72.trans (congrArg some (by kernel_rfl))⟩
  f83 := ⟨Tryd.f73.name, by decide, Tryd.func73.trans (congrArg some (by kernel_rfl))⟩
  f84 := ⟨Tryd.f74.name, by decide, Tryd.func74.trans (congrArg some (by kernel_rfl))⟩
  f85 := ⟨Tryd.f75.name, by decide, Tryd.func75.trans (congrArg some (by kernel_rfl))⟩
  f86 := ⟨Tryd.f77.name, by decide, Tryd.func77.trans (congrArg some (by kernel_rfl))⟩
  f87 := ⟨Tryd.f78.name, by decide, Tryd.func78.trans (congrArg some (by kernel_rfl))⟩
  f89 := Tryd.func82.trans (congrArg some (by kernel_rfl))
  f90 := Tryd.func83.trans (congrArg some (by kernel_rfl))
  f93 := ⟨Tryd.f81.name, by decide, Tryd.func81.trans (congrArg some (by kernel_rfl))⟩
  f94 := ⟨Tryd.f84.name, by decide, Tryd.func84.trans (congrArg some (by kernel_rfl))⟩
  f95 := ⟨Tryd.f85.name, by decide, Tryd.func85.trans (congrArg some (by kernel_rfl))⟩
  f97 := ⟨Tryd.f87.name, by decide, Tryd.func87.trans (congrArg some (by kernel_rfl))⟩
  t0 := Tryd.underlying0
  a0 := Tryd.isAgg0
  z0 := Tryd.sizeOf0
  v0 := Tryd.zeroValue0
  t3 := Tryd.underlying3
  a3 := Tryd.isAgg3
  z3 := Tryd.sizeOf3
  v3 := Tryd.zeroValue3
  t4 := Tryd.underlying4
  a4 := Tryd.isAgg4
  z4 := Tryd.sizeOf4
  v4 := Tryd.zeroValue4
  t5 := Tryd.underlying5
  a5 := Tryd.isAgg5
  z5 := Tryd.sizeOf5
  v5 := Tryd.zeroValue5
  t9 := Tryd.underlying9
  a9 := Tryd.isAgg9
  z9 := Tryd.sizeOf9
  v9 := Tryd.zeroValue9
  t25 := Tryd.underlying33
  a25 := Tryd.isAgg33
  z25 := Tryd.sizeOf33
  v25 := Tryd.zeroValue33
  t26 := Tryd.underlying9
  a26 := Tryd.isAgg9
  z26 := Tryd.sizeOf9
  v26 := Tryd.zeroValue9
  t44 := Tryd.underlying80
  a44 := Tryd.isAgg80
  z44 := Tryd.sizeOf80
  v44 := Tryd.zeroValue80
  t51 := Tryd.underlying103
  a51 := Tryd.isAgg103
  z51 := Tryd.sizeOf103
  v51 := Tryd.zeroValue103
  t60 := Tryd.underlying108
  a60 := Tryd.isAgg108
  z60 := Tryd.sizeOf108
  v60 := Tryd.zeroValue108
  t61 := Tryd.underlying109
  a61 := Tryd.isAgg109
  z61 := Tryd.sizeOf109
  v61 := Tryd.zeroValue109
  t67 := Tryd.underlying86
  a67 := Tryd.isAgg86
  z67 := Tryd.sizeOf86
  v67 := Tryd.zeroValue86
  t69 := Tryd.underlying116
  a69 := Tryd.isAgg116
  z69 := Tryd.sizeOf116
  v69 := Tryd.zeroValue116
  t75 := Tryd.underlying117
  a75 := Tryd.isAgg117
  z75 := Tryd.sizeOf117
  v75 := Tryd.zeroValue117
  t79 := Tryd.underlying121
  a79 := Tryd.isAgg121
  z79 := Tryd.sizeOf121
  v79 := Tryd.zeroValue121
  t83 := Tryd.underlying124
  a83 := Tryd.isAgg124
  z83 := Tryd.sizeOf124
  v83 := Tryd.zeroValue124
  t84 := Tryd.underlying125
  a84 := Tryd.isAgg125
  z84 := Tryd.sizeOf125
  v84 := Tryd.zeroValue125 }
theorem sortT_holds : SortT := by
  intro w v L h hv hl
  obtain ⟨g, cap, rfl, _, hlt, _, _, hzl, hH⟩ := Lib.holds_of_ownsRow (enc := encStr) (α := List UInt8) h hv
  have hcon := AnyG.slices_Sort_string sortT g 0 cap L w hH hlt (by omega)
  have hn := h.length_eq
  change Calls Tryd.prog 46 _ _ _ at hcon
  rw [show (L.map sv).length = L.length by simp]
  refine Calls.mono hcon ?_
  rintro e w' ⟨rfl, n, os, hw⟩
  have hpm : (L.mergeSort fun x y => decide (x ≤ y)).Perm L := List.mergeSort_perm _ _
  have hso : (L.mergeSort fun x y => decide (x ≤ y)).Pairwise fun x y => Op.bytesLess y x = false := by
    have := List.pairwise_mergeSort (le := fun x y : List UInt8 => decide (x ≤ y)) (fun a b c h1 h2 => by simp only [decide_eq_true_eq] at *; exact List.le_trans h1 h2) (fun a b => by simp only [Bool.or_eq_true, decide_eq_true_eq]; exact List.le_total a b) L
    refine this.imp fun {a b} h => ?_
    rw [bytesLess_eq]
    simp only [decide_eq_true_eq] at h
    exact decide_eq_false (List.not_lt.2 h)
  generalize (L.mergeSort fun x y => decide (x ≤ y)) = L' at *
  have hll : L'.length = L.length := hpm.length_eq
  have o1 := Lib.ownsRow_putRow (enc := encStr) (q := n) (k := L.length) (ys := L') (zs := L) (n := L.length) (by simpa [Own] using h) hll (Nat.le_refl _)
  rw [List.take_of_length_le (by omega)] at o1
  have hsz : g < (putRow encStr (Sort.ahead w n) g 0 L'.toArray).heap.size := by simpa [putRow, mapBlock, Sort.ahead] using hlt
  have m1 : Mod (fun b => b = g) w (putRow encStr (Sort.ahead w n) g 0 L'.toArray) := ⟨rfl, rfl, rfl, by simp [putRow, mapBlock, Sort.ahead], fun b hb hn => by simp [putRow, mapBlock, Sort.ahead, Array.getElem?_modify, show g ≠ b from fun e => hn e.symm]⟩
  have m2 : Ext (putRow encStr (Sort.ahead w n) g 0 L'.toArray) w' := by
    rw [hw]
    exact ⟨rfl, rfl, rfl, by simp [grow], fun b hb _ => by simp [grow, Array.getElem?_append_left hb]⟩
  have o2 : OwnT (putRow encStr (Sort.ahead w n) g 0 L'.toArray) (.slice (some ⟨g, 0, none⟩) L.length cap) L' := by
    show Own _ _ _ _
    unfold Own
    rw [List.length_map, hll]
    exact o1
  refine ⟨rfl, L', hpm, hso, Own.mod o2 m2 (fun _ _ h => h), (m1.then_ m2 (fun _ _ h => h.elim)).mono fun k _ hk => ?_⟩
  subst hk
  rfl
end Go.Proofs.YtblfhonfjljndaaDoor
