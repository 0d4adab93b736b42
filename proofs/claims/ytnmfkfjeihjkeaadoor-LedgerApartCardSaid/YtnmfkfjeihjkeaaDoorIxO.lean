/- index: slices.Sort at texts. -/
import Derived.Test.YtnmfkfjeihjkeaaDoorIxI
import Derived.Lib.OwnBridge
import Derived.Shelf.SortG.Plain
namespace Go.Proofs.YtnmfkfjeihjkeaaDoor
open Go.RowKit Go.Maps Go.Shelf Go.Sort
set_option maxRecDepth 100000

def sortT_ren : Go.Shelf.Ren := ⟨fun | 54 => 63 | 64 => 91 | 65 => 90 | 78 => 111 | 79 => 112 | 80 => 102 | 81 => 103 | 82 => 104 | 83 => 105 | 84 => 106 | 85 => 107 | 61 => 108 | 86 => 109 | 87 => 110 | 93 => 120 | 89 => 121 | 90 => 122 | 94 => 123 | 95 => 124 | 69 => 125 | 97 => 127 | n => n, fun | 25 => 33 | 26 => 9 | 3 => 3 | 51 => 126 | 0 => 0 | 67 => 110 | 69 => 147 | 4 => 4 | 61 => 140 | 60 => 139 | 44 => 98 | 5 => 5 | 9 => 9 | 75 => 156 | 79 => 160 | 83 => 164 | 84 => 165 | n => n, fun | n => n⟩
theorem sortT : Go.Proofs.SlLaysN.n54 Tryd.prog sortT_ren := {
  mixed := by kernel_rfl
  f54 := ⟨Tryd.f63.name, by decide, Tryd.func63.trans (congrArg some (by kernel_rfl))⟩
  f61 := ⟨Tryd.f108.name, by decide, Tryd.func108.trans (congrArg some (by kernel_rfl))⟩
  f64 := Tryd.func91.trans (congrArg some (by kernel_rfl))
  f65 := ⟨Tryd.f90.name, by decide, Tryd.func90.trans (congrArg some (by kernel_rfl))⟩
  f69 := ⟨Tryd.f125.name, by decide, Tryd.func125.trans (congrArg some (by kernel_rfl))⟩
  f78 := Tryd.func111.trans (congrArg some (by kernel_rfl))
  f79 := Tryd.func112.trans (congrArg some (by kernel_rfl))
  f80 := ⟨Tryd.f102.name, by decide, Tryd.func102.trans (congrArg some (by kernel_rfl))⟩
  f81 := ⟨Tryd.f103.name, by decide, Tryd.func103.trans (congrArg some (by kernel_rfl))⟩
  f82 := ⟨Tryd.f104.name, by decide, Tryd.func104.trans (congrArg some (by kernel_rfl))⟩
  f83 := ⟨Tryd.f105.name, by decide, Tryd.func105.trans (congrArg some (by kernel_rfl))⟩
  f84 := ⟨Tryd.f106.name, by decide, Tryd.func106.trans (congrArg some (by kernel_rfl))⟩
  f85 := ⟨Tryd.f107.name, by decide, Tryd.func107.trans (congrArg some (by kernel_rfl))⟩
  f86 := ⟨Tryd.f109.name, by decide, Tryd.func109.trans (congrArg some (by kernel_rfl))⟩
  f87 := ⟨Tryd.f110.name, by decide, Tryd.func110.trans (congrArg some (by kernel_rfl))⟩
  f89 := Tryd.func121.trans (congrArg some (by kernel_rfl))
  f90 := Tryd.func122.trans (congrArg some (by kernel_rfl))
  f93 := ⟨Tryd.f120.name, by decide, Tryd.func120.trans (congrArg some (by kernel_rfl))⟩
  f94 := ⟨Tryd.f123.name, by decide, Tryd.func123.trans (congrArg some (by kernel_rfl))⟩
  f95 := ⟨Tryd.f124.name, by decide, Tryd.func124.trans (congrArg some (by kernel_rfl))⟩
  f97 := ⟨Tryd.f127.name, by decide, Tryd.func127.trans (congrArg some (by kernel_rfl))⟩
  t0 := Tryd.underlying0
  a0 := Tryd.isAgg0
  z0 := Tryd.sizeOf0
  v0 := Tryd.zeroValue0
  t3 := Tryd.underlying3
  a3 := Tryd.isAgg3
  z3 := Tryd.sizeOf3
  v3 := Tryd.zeroValue3
  t4 := Tryd.underlying4
  a4 := Tryd.isAgg4
  z4 := Tryd.sizeOf4
  v4 := Tryd.zeroValue4
  t5 := Tryd.underlying5
  a5 := Tryd.isAgg5
  z5 := Tryd.sizeOf5
  v5 := Tryd.zeroValue5
  t9 := Tryd.underlying9
  a9 := Tryd.isAgg9
  z9 := Tryd.sizeOf9
  v9 := Tryd.zeroValue9
  t25 := Tryd.underlying33
  a25 := Tryd.isAgg33
  z25 := Tryd.sizeOf33
  v25 := Tryd.zeroValue33
  t26 := Tryd.underlying9
  a26 := Tryd.isAgg9
  z26 := Tryd.sizeOf9
  v26 := Tryd.zeroValue9
  t44 := Tryd.underlying98
  a44 := Tryd.isAgg98
  z44 := Tryd.sizeOf98
  v44 := Tryd.zeroValue98
  t51 := Tryd.underlying126
  a51 := Tryd.isAgg126
  z51 := Tryd.sizeOf126
  v51 := Tryd.zeroValue126
  t60 := Tryd.underlying139
  a60 := Tryd.isAgg139
  z60 := Tryd.sizeOf139
  v60 := Tryd.zeroValue139
  t61 := Tryd.underlying140
  a61 := Tryd.isAgg140
  z61 := Tryd.sizeOf140
  v61 := Tryd.zeroValue140
  t67 := Tryd.underlying110
  a67 := Tryd.isAgg110
  z67 := Tryd.sizeOf110
  v67 := Tryd.zeroValue110
  t69 := Tryd.underlying147
  a69 := Tryd.isAgg147
  z69 := Tryd.sizeOf147
  v69 := Tryd.zeroValue147
  t75 := Tryd.underlying156
  a75 := Tryd.isAgg156
  z75 := Tryd.sizeOf156
  v75 := Tryd.zeroValue156
  t79 := Tryd.underlying160
  a79 := Tryd.isAgg160
  z79 := Tryd.sizeOf160
  v79 := Tryd.zeroValue160
  t83 := Tryd.underlying164
  a83 := Tryd.isAgg164
  z83 := Tryd.sizeOf164
  v83 := Tryd.zeroValue164
  t84 := Tryd.underlying165
  a84 := Tryd.isAgg165
  z84 := Tryd.sizeOf165
  v84 := Tryd.zeroValue165 }
theorem sortT_holds : SortT := by
  intro w v L h hv hl
  obtain ⟨g, cap, rfl, _, hlt, _, _, hzl, hH⟩ := Lib.holds_of_ownsRow (enc := encStr) (α := List UInt8) h hv
  have hcon := AnyG.slices_Sort_string sortT g 0 cap L w hH hlt (by omega)
  have hn := h.length_eq
  change Calls Tryd.prog 63 _ _ _ at hcon
  rw [show (L.map sv).length = L.length by simp]
  refine Calls.mono hcon ?_
  rintro e w' ⟨rfl, n, os, hw⟩
  have hpm : (L.mergeSort fun x y => decide (x ≤ y)).Perm L := List.mergeSort_perm _ _
  have hso : (L.mergeSort fun x y => decide (x ≤ y)).Pairwise fun x y => Op.bytesLess y x = false := by
    have := List.pairwise_mergeSort (le := fun x y : List UInt8 => decide (x ≤ y)) (fun a b c h1 h2 => by simp only [decide_eq_true_eq] at *; exact List.le_trans h1 h2) (fun a b => by simp only [Bool.or_eq_true, decide_eq_true_eq]; exact List.le_total a b) L
    refine this.imp fun {a b} h => ?_
    rw [bytesLess_eq]
    simp only [decide_eq_true_eq] at h
    exact decide_eq_false (List.not_lt.2 h)
  generalize (L.mergeSort fun x y => decide (x ≤ y)) = L' at *
  have hll : L'.length = L.length := hpm.length_eq
  have o1 := Lib.ownsRow_putRow (enc := encStr) (q := n) (k := L.length) (ys := L') (zs := L) (n := L.length) (by simpa [Own] using h) hll (Nat.le_refl _)
  rw [List.take_of_length_le (by omega)] at o1
  have hsz : g < (putRow encStr (Sort.ahead w n) g 0 L'.toArray).heap.size := by simpa [putRow, mapBlock, Sort.ahead] using hlt
  have m1 : Mod (fun b => b = g) w (putRow encStr (Sort.ahead w n) g 0 L'.toArray) := ⟨rfl, rfl, rfl, by simp [putRow, mapBlock, Sort.ahead], fun b hb hn => by simp [putRow, mapBlock, Sort.ahead, Array.getElem?_modify, show g ≠ b from fun e => hn e.symm]⟩
  have m2 : Ext (putRow encStr (Sort.ahead w n) g 0 L'.toArray) w' := by
    rw [hw]
    exact ⟨rfl, rfl, rfl, by simp [grow], fun b hb _ => by simp [grow, Array.getElem?_append_left hb]⟩
  have o2 : OwnT (putRow encStr (Sort.ahead w n) g 0 L'.toArray) (.slice (some ⟨g, 0, none⟩) L.length cap) L' := by
    show Own _ _ _ _
    unfold Own
    rw [List.length_map, hll]
    exact o1
  refine ⟨rfl, L', hpm, hso, Own.mod o2 m2 (fun _ _ h => h), (m1.then_ m2 (fun _ _ h => h.elim)).mono fun k _ hk => ?_⟩
  subst hk
  rfl
end Go.Proofs.YtnmfkfjeihjkeaaDoor
