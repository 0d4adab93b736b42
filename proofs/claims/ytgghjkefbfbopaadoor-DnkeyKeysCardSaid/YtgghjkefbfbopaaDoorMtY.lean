/- dnkey: library functions laid: strings.ReplaceAll, strings.Count. -/
import Derived.Test.YtgghjkefbfbopaaDoorMtS
import Derived.Shelf.Strings.Replace
namespace Go.Proofs.YtgghjkefbfbopaaDoor
open Go.Shelf Go.RowKit
set_option maxRecDepth 100000
def lay155_ren : Go.Shelf.Ren := ⟨fun | 155 => 51 | 154 => 69 | 138 => 37 | 165 => 87 | 143 => 56 | 166 => 88 | 197 => 89 | 169 => 90 | 195 => 54 | 218 => 55 | 240 => 98 | 241 => 99 | 219 => 68 | 260 => 100 | 276 => 105 | 277 => 106 | 217 => 83 | 225 => 84 | 224 => 85 | 267 => 86 | 266 => 96 | 314 => 97 | n => n, fun | 9 => 9 | 3 => 3 | 4 => 4 | 72 => 90 | 0 => 0 | 76 => 63 | 105 => 92 | 21 => 21 | 5 => 5 | 70 => 88 | 20 => 20 | 37 => 46 | 75 => 62 | 127 => 106 | 164 => 112 | 46 => 80 | 119 => 115 | 139 => 118 | 138 => 117 | 146 => 104 | 51 => 103 | 80 => 94 | n => n, fun | 1 => 0 | 3 => 3 | 4 => 4 | n => n⟩
theorem lay155 : Go.Proofs.Lays.n155 Tryd.prog lay155_ren := {
  mixed := by kernel_rfl
  f138 := Tryd.func37.trans (congrArg some (by kernel_rfl))
  f143 := Tryd.func56.trans (congrArg some (by kernel_rfl))
  f154 := Tryd.func69.trans (congrArg some (by kernel_rfl))
  f155 := Tryd.func51.trans (congrArg some (by kernel_rfl))
  f165 := Tryd.func87.trans (congrArg some (by kernel_rfl))
  f166 := Tryd.func88.trans (congrArg some (by kernel_rfl))
  f169 := Tryd.func90.trans (congrArg some (by kernel_rfl))
  f195 := Tryd.func54.trans (congrArg some (by kernel_rfl))
  f197 := Tryd.func89.trans (congrArg some (by kernel_rfl))
  f217 := Tryd.func83.trans (congrArg some (by kernel_rfl))
  f218 := Tryd.func55.trans (congrArg some (by kernel_rfl))
  f219 := Tryd.func68.trans (congrArg some (by kernel_rfl))
  f224 := Tryd.func85.trans (congrArg some (by kernel_rfl))
  f225 := Tryd.func84.trans (congrArg some (by kernel_rfl))
  f240 := Tryd.func98.trans (congrArg some (by kernel_rfl))
  f241 := Tryd.func99.trans (congrArg some (by kernel_rfl))
  f260 := Tryd.func100.trans (congrArg some (by kernel_rfl))
  f266 := Tryd.func96.trans (congrArg some (by kernel_rfl))
  f267 := Tryd.func86.trans (congrArg some (by kernel_rfl))
  f276 := Tryd.func105.trans (congrArg some (by kernel_rfl))
  f277 := Tryd.func106.trans (congrArg some (by kernel_rfl))
  f314 := Tryd.func97.trans (congrArg some (by kernel_rfl))
  t0 := Tryd.underlying0
  a0 := Tryd.isAgg0
  z0 := Tryd.sizeOf0
  v0 := Tryd.zeroValue0
  t3 := Tryd.underlying3
  a3 := Tryd.isAgg3
  z3 := Tryd.sizeOf3
  v3 := Tryd.zeroValue3
  t4 := Tryd.underlying4
  a4 := Tryd.isAgg4
  z4 := Tryd.sizeOf4
  v4 := Tryd.zeroValue4
  t5 := Tryd.underlying5
  a5 := Tryd.isAgg5
  z5 := Tryd.sizeOf5
  v5 := Tryd.zeroValue5
  t9 := Tryd.underlying9
  a9 := Tryd.isAgg9
  z9 := Tryd.sizeOf9
  v9 := Tryd.zeroValue9
  t20 := Tryd.underlying20
  a20 := Tryd.isAgg20
  z20 := Tryd.sizeOf20
  v20 := Tryd.zeroValue20
  t21 := Tryd.underlying21
  a21 := Tryd.isAgg21
  z21 := Tryd.sizeOf21
  v21 := Tryd.zeroValue21
  t37 := Tryd.underlying46
  a37 := Tryd.isAgg46
  z37 := Tryd.sizeOf46
  v37 := Tryd.zeroValue46
  t46 := Tryd.underlying80
  a46 := Tryd.isAgg80
  z46 := Tryd.sizeOf80
  v46 := Tryd.zeroValue80
  t51 := Tryd.underlying103
  a51 := Tryd.isAgg103
  z51 := Tryd.sizeOf103
  v51 := Tryd.zeroValue103
  t70 := Tryd.underlying88
  a70 := Tryd.isAgg88
  z70 := Tryd.sizeOf88
  v70 := Tryd.zeroValue88
  t72 := Tryd.underlying90
  a72 := Tryd.isAgg90
  z72 := Tryd.sizeOf90
  v72 := Tryd.zeroValue90
  t75 := Tryd.underlying62
  a75 := Tryd.isAgg62
  z75 := Tryd.sizeOf62
  v75 := Tryd.zeroValue62
  t76 := Tryd.underlying63
  a76 := Tryd.isAgg63
  z76 := Tryd.sizeOf63
  v76 := Tryd.zeroValue63
  t105 := Tryd.underlying92
  a105 := Tryd.isAgg92
  z105 := Tryd.sizeOf92
  v105 := Tryd.zeroValue92
  t119 := Tryd.underlying115
  a119 := Tryd.isAgg115
  z119 := Tryd.sizeOf115
  t127 := Tryd.underlying106
  a127 := Tryd.isAgg106
  z127 := Tryd.sizeOf106
  v127 := Tryd.zeroValue106
  t138 := Tryd.underlying117
  a138 := Tryd.isAgg117
  z138 := Tryd.sizeOf117
  v138 := Tryd.zeroValue117
  t139 := Tryd.underlying118
  a139 := Tryd.isAgg118
  z139 := Tryd.sizeOf118
  v139 := Tryd.zeroValue118
  t146 := Tryd.underlying104
  a146 := Tryd.isAgg104
  z146 := Tryd.sizeOf104
  v146 := Tryd.zeroValue104
  t164 := Tryd.underlying112
  a164 := Tryd.isAgg112
  z164 := Tryd.sizeOf112
  v164 := Tryd.zeroValue112
  g1 := by kernel_rfl
  g3 := by kernel_rfl
  g4 := by kernel_rfl }
def lay138_ren : Go.Shelf.Ren := ⟨fun | 138 => 37 | 195 => 54 | 218 => 55 | 143 => 56 | 219 => 68 | 217 => 83 | 225 => 84 | 224 => 85 | 267 => 86 | 266 => 96 | 314 => 97 | n => n, fun | 9 => 9 | 3 => 3 | 4 => 4 | 5 => 5 | 0 => 0 | 46 => 80 | 146 => 104 | 51 => 103 | n => n, fun | 1 => 0 | n => n⟩
theorem lay138 : Go.Proofs.Lays.n138 Tryd.prog lay138_ren := {
  mixed := by kernel_rfl
  f138 := Tryd.func37.trans (congrArg some (by kernel_rfl))
  f143 := Tryd.func56.trans (congrArg some (by kernel_rfl))
  f195 := Tryd.func54.trans (congrArg some (by kernel_rfl))
  f217 := Tryd.func83.trans (congrArg some (by kernel_rfl))
  f218 := Tryd.func55.trans (congrArg some (by kernel_rfl))
  f219 := Tryd.func68.trans (congrArg some (by kernel_rfl))
  f224 := Tryd.func85.trans (congrArg some (by kernel_rfl))
  f225 := Tryd.func84.trans (congrArg some (by kernel_rfl))
  f266 := Tryd.func96.trans (congrArg some (by kernel_rfl))
  f267 := Tryd.func86.trans (congrArg some (by kernel_rfl))
  f314 := Tryd.func97.trans (congrArg some (by kernel_rfl))
  t0 := Tryd.underlying0
  a0 := Tryd.isAgg0
  z0 := Tryd.sizeOf0
  v0 := Tryd.zeroValue0
  t3 := Tryd.underlying3
  a3 := Tryd.isAgg3
  z3 := Tryd.sizeOf3
  v3 := Tryd.zeroValue3
  t4 := Tryd.underlying4
  a4 := Tryd.isAgg4
  z4 := Tryd.sizeOf4
  v4 := Tryd.zeroValue4
  t5 := Tryd.underlying5
  a5 := Tryd.isAgg5
  z5 := Tryd.sizeOf5
  v5 := Tryd.zeroValue5
  t9 := Tryd.underlying9
  a9 := Tryd.isAgg9
  z9 := Tryd.sizeOf9
  v9 := Tryd.zeroValue9
  t46 := Tryd.underlying80
  a46 := Tryd.isAgg80
  z46 := Tryd.sizeOf80
  v46 := Tryd.zeroValue80
  t51 := Tryd.underlying103
  a51 := Tryd.isAgg103
  z51 := Tryd.sizeOf103
  v51 := Tryd.zeroValue103
  t146 := Tryd.underlying104
  a146 := Tryd.isAgg104
  z146 := Tryd.sizeOf104
  v146 := Tryd.zeroValue104
  g1 := by kernel_rfl }

theorem lay155x : Builder.Extra Tryd.prog lay155_ren := {
  sizeBuilder := by kernel_rfl
  liesBuilder := by kernel_rfl
  t5 := Tryd.underlying5
  a5 := Tryd.isAgg5
  z5 := Tryd.sizeOf5
  v5 := Tryd.zeroValue5
  infoByte := by kernel_rfl
  cellsByte := by kernel_rfl
  sizeByte := by kernel_rfl
  neB5 := by decide }
section
variable {w : World}
theorem count_any (s p : List UInt8) (hs : s.length ≤ 1000000) (hp : 1 ≤ p.length) (hm : Mxl w) : Calls Tryd.prog 37 #[sv s, sv p] w fun e w' => e = .returned (.int .i64 (Lib.count s p : Nat)) ∧ w' = w := by
  obtain ⟨m, hm⟩ := hm
  exact (Any.strings_Count_any lay138 ⟨s.toArray⟩ ⟨p.toArray⟩ m w (by have : (⟨s.toArray⟩ : ByteArray).size = s.length := sv_size s; omega) hm (by have : (⟨p.toArray⟩ : ByteArray).size = p.length := sv_size p; omega)).mono fun e w' h => h
theorem rall_any (s p q : List UInt8) (hs : s.length ≤ 1000000) (hp : 1 ≤ p.length) (hq : q.length ≤ 1000) (hm : Mxl w) : Calls Tryd.prog 51 #[sv s, sv p, sv q] w fun e w' => e = .returned (sv (Lib.replaceAll s p q)) ∧ Ext w w' := by
  obtain ⟨m, hm⟩ := hm
  have e1 : (⟨s.toArray⟩ : ByteArray).size = s.length := sv_size s
  have e2 : (⟨p.toArray⟩ : ByteArray).size = p.length := sv_size p
  have e3 : (⟨q.toArray⟩ : ByteArray).size = q.length := sv_size q
  have h1 := Lib.countB_mul_le ⟨p.toArray⟩ (by omega) (⟨s.toArray⟩ : ByteArray).size ⟨s.toArray⟩ (Nat.le_refl _)
  have h2 : Lib.countB ⟨s.toArray⟩ ⟨p.toArray⟩ ≤ s.length := by
    have := Nat.le_mul_of_pos_right (Lib.countB ⟨s.toArray⟩ ⟨p.toArray⟩) (show 0 < (⟨p.toArray⟩ : ByteArray).size by omega)
    omega
  have h3 : Lib.countB ⟨s.toArray⟩ ⟨p.toArray⟩ * (⟨q.toArray⟩ : ByteArray).size ≤ 1000000 * 1000 := Nat.mul_le_mul (by omega) (by omega)
  exact (Any.strings_ReplaceAll lay155 lay155x ⟨s.toArray⟩ ⟨p.toArray⟩ ⟨q.toArray⟩ m w (by omega) hm (by omega) (by omega)).mono fun e w' h => ⟨h.1, Mod.of_below h.2⟩
end
end Go.Proofs.YtgghjkefbfbopaaDoor
