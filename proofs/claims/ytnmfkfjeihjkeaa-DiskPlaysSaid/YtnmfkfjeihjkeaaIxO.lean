/- index: slices.Sort at texts. -/
import Derived.Test.YtnmfkfjeihjkeaaIxI
import Derived.Lib.OwnBridge
import Derived.Shelf.SortG.Plain
namespace Go.Proofs.Ytnmfkfjeihjkeaa
open Go.RowKit Go.Maps Go.Shelf Go.Sort
set_option maxRecDepth 100000

def sortT_ren : Go.Shelf.Ren := ⟨fun | 54 => 52 | 64 => 54 | 65 => 53 | 78 => 64 | 79 => 65 | 80 => 55 | 81 => 56 | 82 => 57 | 83 => 58 | 84 => 59 | 85 => 60 | 61 => 61 | 86 => 62 | 87 => 63 | 93 => 66 | 89 => 67 | 90 => 68 | 94 => 69 | 95 => 70 | 69 => 71 | 97 => 72 | n => n, fun | 25 => 73 | 26 => 9 | 3 => 3 | 51 => 89 | 0 => 0 | 67 => 99 | 69 => 101 | 4 => 4 | 61 => 92 | 60 => 91 | 44 => 80 | 5 => 5 | 9 => 9 | 75 => 102 | 79 => 106 | 83 => 109 | 84 => 110 | n => n, fun | n => n⟩
theorem sortT : Go.Proofs.SlLaysN.n54 Try.prog sortT_ren := {
  mixed := by kernel_rfl
  f54 := ⟨Try.f52.name, by decide, Try.func52.trans (congrArg some (by kernel_rfl))⟩
  f61 := ⟨Try.f61.name, by decide, Try.func61.trans (congrArg some (by kernel_rfl))⟩
  f64 := Try.func54.trans (congrArg some (by kernel_rfl))
  f65 := ⟨Try.f53.name, by decide, Try.func53.trans (congrArg some (by kernel_rfl))⟩
  f69 := ⟨Try.f71.name, by decide, Try.func71.trans (congrArg some (by kernel_rfl))⟩
  f78 := Try.func64.trans (congrArg some (by kernel_rfl))
  f79 := Try.func65.trans (congrArg some (by kernel_rfl))
  f80 := ⟨Try.f55.name, by decide, Try.func55.trans (congrArg some (by kernel_rfl))⟩
  f81 := ⟨Try.f56.name, by decide, Try.func56.trans (congrArg some (by kernel_rfl))⟩
  f82 := ⟨Try.f57.name, by decide, Try.func57.trans (congrArg some (by kernel_rfl))⟩
  f83 := ⟨Try.f58.name, by decide, Try.func58.trans (congrArg some (by kernel_rfl))⟩
  f84 := ⟨Try.f59.name, by decide, Try.func59.trans (congrArg some (by kernel_rfl))⟩
  f85 := ⟨Try.f60.name, by decide, Try.func60.trans (congrArg some (by kernel_rfl))⟩
  f86 := ⟨Try.f62.name, by decide, Try.func62.trans (congrArg some (by kernel_rfl))⟩
  f87 := ⟨Try.f63.name, by decide, Try.func63.trans (congrArg some (by kernel_rfl))⟩
  f89 := Try.func67.trans (congrArg some (by kernel_rfl))
  f90 := Try.func68.trans (congrArg some (by kernel_rfl))
  f93 := ⟨Try.f66.name, by decide, Try.func66.trans (congrArg some (by kernel_rfl))⟩
  f94 := ⟨Try.f69.name, by decide, Try.func69.trans (congrArg some (by kernel_rfl))⟩
  f95 := ⟨Try.f70.name, by decide, Try.func70.trans (congrArg some (by kernel_rfl))⟩
  f97 := ⟨Try.f72.name, by decide, Try.func72.trans (congrArg some (by kernel_rfl))⟩
  t0 := Try.underlying0
  a0 := Try.isAgg0
  z0 := Try.sizeOf0
  v0 := Try.zeroValue0
  t3 := Try.underlying3
  a3 := Try.isAgg3
  z3 := Try.sizeOf3
  v3 := Try.zeroValue3
  t4 := Try.underlying4
  a4 := Try.isAgg4
  z4 := Try.sizeOf4
  v4 := Try.zeroValue4
  t5 := Try.underlying5
  a5 := Try.isAgg5
  z5 := Try.sizeOf5
  v5 := Try.zeroValue5
  t9 := Try.underlying9
  a9 := Try.isAgg9
  z9 := Try.sizeOf9
  v9 := Try.zeroValue9
  t25 := Try.underlying73
  a25 := Try.isAgg73
  z25 := Try.sizeOf73
  v25 := Try.zeroValue73
  t26 := Try.underlying9
  a26 := Try.isAgg9
  z26 := Try.sizeOf9
  v26 := Try.zeroValue9
  t44 := Try.underlying80
  a44 := Try.isAgg80
  z44 := Try.sizeOf80
  v44 := Try.zeroValue80
  t51 := Try.underlying89
  a51 := Try.isAgg89
  z51 := Try.sizeOf89
  v51 := Try.zeroValue89
  t60 := Try.underlying91
  a60 := Try.isAgg91
  z60 := Try.sizeOf91
  v60 := Try.zeroValue91
  t61 := Try.underlying92
  a61 := Try.isAgg92
  z61 := Try.sizeOf92
  v61 := Try.zeroValue92
  t67 := Try.underlying99
  a67 := Try.isAgg99
  z67 := Try.sizeOf99
  v67 := Try.zeroValue99
  t69 := Try.underlying101
  a69 := Try.isAgg101
  z69 := Try.sizeOf101
  v69 := Try.zeroValue101
  t75 := Try.underlying102
  a75 := Try.isAgg102
  z75 := Try.sizeOf102
  v75 := Try.zeroValue102
  t79 := Try.underlying106
  a79 := Try.isAgg106
  z79 := Try.sizeOf106
  v79 := Try.zeroValue106
  t83 := Try.underlying109
  a83 := Try.isAgg109
  z83 := Try.sizeOf109
  v83 := Try.zeroValue109
  t84 := Try.underlying110
  a84 := Try.isAgg110
  z84 := Try.sizeOf110
  v84 := Try.zeroValue110 }
theorem sortT_holds : SortT := by
  intro w v L h hv hl
  obtain ⟨g, cap, rfl, _, hlt, _, _, hzl, hH⟩ := Lib.holds_of_ownsRow (enc := encStr) (α := List UInt8) h hv
  have hcon := AnyG.slices_Sort_string sortT g 0 cap L w hH hlt (by omega)
  have hn := h.length_eq
  change Calls Try.prog 52 _ _ _ at hcon
  rw [show (L.map sv).length = L.length by simp]
  refine Calls.mono hcon ?_
  rintro e w' ⟨rfl, n, os, hw⟩
  have hpm : (L.mergeSort fun x y => decide (x ≤ y)).Perm L := List.mergeSort_perm _ _
  have hso : (L.mergeSort fun x y => decide (x ≤ y)).Pairwise fun x y => Op.bytesLess y x = false := by
    have := List.pairwise_mergeSort (le := fun x y : List UInt8 => decide (x ≤ y)) (fun a b c h1 h2 => by simp only [decide_eq_true_eq] at *; exact List.le_trans h1 h2) (fun a b => by simp only [Bool.or_eq_true, decide_eq_true_eq]; exact List.le_total a b) L
    refine this.imp fun {a b} h => ?_
    rw [bytesLess_eq]
    simp only [decide_eq_true_eq] at h
    exact decide_eq_false (List.not_lt.2 h)
  generalize (L.mergeSort fun x y => decide (x ≤ y)) = L' at *
  have hll : L'.length = L.length := hpm.length_eq
  have o1 := Lib.ownsRow_putRow (enc := encStr) (q := n) (k := L.length) (ys := L') (zs := L) (n := L.length) (by simpa [Own] using h) hll (Nat.le_refl _)
  rw [List.take_of_length_le (by omega)] at o1
  have hsz : g < (putRow encStr (Sort.ahead w n) g 0 L'.toArray).heap.size := by simpa [putRow, mapBlock, Sort.ahead] using hlt
  have m1 : Mod (fun b => b = g) w (putRow encStr (Sort.ahead w n) g 0 L'.toArray) := ⟨rfl, rfl, rfl, by simp [putRow, mapBlock, Sort.ahead], fun b hb hn => by simp [putRow, mapBlock, Sort.ahead, Array.getElem?_modify, show g ≠ b from fun e => hn e.symm]⟩
  have m2 : Ext (putRow encStr (Sort.ahead w n) g 0 L'.toArray) w' := by
    rw [hw]
    exact ⟨rfl, rfl, rfl, by simp [grow], fun b hb _ => by simp [grow, Array.getElem?_append_left hb]⟩
  have o2 : OwnT (putRow encStr (Sort.ahead w n) g 0 L'.toArray) (.slice (some ⟨g, 0, none⟩) L.length cap) L' := by
    show Own _ _ _ _
    unfold Own
    rw [List.length_map, hll]
    exact o1
  refine ⟨rfl, L', hpm, hso, Own.mod o2 m2 (fun _ _ h => h), (m1.then_ m2 (fun _ _ h => h.elim)).mono fun k _ hk => ?_⟩
  subst hk
  rfl
end Go.Proofs.Ytnmfkfjeihjkeaa
