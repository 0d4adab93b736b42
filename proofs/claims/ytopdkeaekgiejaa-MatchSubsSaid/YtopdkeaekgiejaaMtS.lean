/- match: the library's CutPrefix, Cut, HasSuffix, TrimPrefix, laid. -/
import Derived.Test.YtopdkeaekgiejaaMtA
import Derived.Shelf.Lays
import Derived.Shelf.Strings.Cut
import Derived.Shelf.Strings.Prefix
import Derived.Shelf.Small.Wraps
import Derived.Test.YtopdkeaekgiejaaDnI
namespace Go.Proofs.Ytopdkeaekgiejaa
open Go.Shelf Go.RowKit
set_option maxRecDepth 100000

def lay103_ren : Go.Shelf.Ren := ⟨fun | 103 => 55 | 210 => 76 | 206 => 96 | n => n, fun | 9 => 9 | 4 => 4 | 24 => 46 | 3 => 3 | n => n, fun | n => n⟩
theorem lay103 : Go.Proofs.Lays.n103 Try.prog lay103_ren := {
  mixed := by kernel_rfl
  f103 := Try.func55.trans (congrArg some (by kernel_rfl))
  f206 := Try.func96.trans (congrArg some (by kernel_rfl))
  f210 := Try.func76.trans (congrArg some (by kernel_rfl))
  t3 := Try.underlying3
  a3 := Try.isAgg3
  z3 := Try.sizeOf3
  v3 := Try.zeroValue3
  t4 := Try.underlying4
  a4 := Try.isAgg4
  z4 := Try.sizeOf4
  v4 := Try.zeroValue4
  t9 := Try.underlying9
  a9 := Try.isAgg9
  z9 := Try.sizeOf9
  v9 := Try.zeroValue9
  t24 := Try.underlying46
  a24 := Try.isAgg46
  z24 := Try.sizeOf46
  v24 := Try.zeroValue46 }
def lay145_ren : Go.Shelf.Ren := ⟨fun | 145 => 57 | 220 => 78 | 219 => 97 | 217 => 111 | 225 => 114 | 224 => 115 | 267 => 116 | 266 => 124 | 314 => 126 | n => n, fun | 9 => 9 | 4 => 4 | 59 => 81 | 3 => 3 | 5 => 5 | 46 => 39 | 146 => 141 | 51 => 127 | n => n, fun | 1 => 0 | n => n⟩
theorem lay145 : Go.Proofs.Lays.n145 Try.prog lay145_ren := {
  mixed := by kernel_rfl
  f145 := Try.func57.trans (congrArg some (by kernel_rfl))
  f217 := Try.func111.trans (congrArg some (by kernel_rfl))
  f219 := Try.func97.trans (congrArg some (by kernel_rfl))
  f220 := Try.func78.trans (congrArg some (by kernel_rfl))
  f224 := Try.func115.trans (congrArg some (by kernel_rfl))
  f225 := Try.func114.trans (congrArg some (by kernel_rfl))
  f266 := Try.func124.trans (congrArg some (by kernel_rfl))
  f267 := Try.func116.trans (congrArg some (by kernel_rfl))
  f314 := Try.func126.trans (congrArg some (by kernel_rfl))
  t3 := Try.underlying3
  a3 := Try.isAgg3
  z3 := Try.sizeOf3
  v3 := Try.zeroValue3
  t4 := Try.underlying4
  a4 := Try.isAgg4
  z4 := Try.sizeOf4
  v4 := Try.zeroValue4
  t5 := Try.underlying5
  a5 := Try.isAgg5
  z5 := Try.sizeOf5
  v5 := Try.zeroValue5
  t9 := Try.underlying9
  a9 := Try.isAgg9
  z9 := Try.sizeOf9
  v9 := Try.zeroValue9
  t46 := Try.underlying39
  a46 := Try.isAgg39
  z46 := Try.sizeOf39
  v46 := Try.zeroValue39
  t51 := Try.underlying127
  a51 := Try.isAgg127
  z51 := Try.sizeOf127
  v51 := Try.zeroValue127
  t59 := Try.underlying81
  a59 := Try.isAgg81
  z59 := Try.sizeOf81
  v59 := Try.zeroValue81
  t146 := Try.underlying141
  a146 := Try.isAgg141
  z146 := Try.sizeOf141
  v146 := Try.zeroValue141
  g1 := by kernel_rfl }
def lay100_ren : Go.Shelf.Ren := ⟨fun | 100 => 58 | 207 => 79 | n => n, fun | 9 => 9 | 4 => 4 | 3 => 3 | n => n, fun | n => n⟩
theorem lay100 : Go.Proofs.Lays.n100 Try.prog lay100_ren := {
  mixed := by kernel_rfl
  f100 := Try.func58.trans (congrArg some (by kernel_rfl))
  f207 := Try.func79.trans (congrArg some (by kernel_rfl))
  t3 := Try.underlying3
  a3 := Try.isAgg3
  z3 := Try.sizeOf3
  v3 := Try.zeroValue3
  t4 := Try.underlying4
  a4 := Try.isAgg4
  z4 := Try.sizeOf4
  v4 := Try.zeroValue4
  t9 := Try.underlying9
  a9 := Try.isAgg9
  z9 := Try.sizeOf9
  v9 := Try.zeroValue9 }
def lay101_ren : Go.Shelf.Ren := ⟨fun | 101 => 54 | 208 => 75 | 206 => 96 | n => n, fun | 9 => 9 | 4 => 4 | 3 => 3 | n => n, fun | n => n⟩
theorem lay101 : Go.Proofs.Lays.n101 Try.prog lay101_ren := {
  mixed := by kernel_rfl
  f101 := Try.func54.trans (congrArg some (by kernel_rfl))
  f206 := Try.func96.trans (congrArg some (by kernel_rfl))
  f208 := Try.func75.trans (congrArg some (by kernel_rfl))
  t3 := Try.underlying3
  a3 := Try.isAgg3
  z3 := Try.sizeOf3
  v3 := Try.zeroValue3
  t4 := Try.underlying4
  a4 := Try.isAgg4
  z4 := Try.sizeOf4
  v4 := Try.zeroValue4
  t9 := Try.underlying9
  a9 := Try.isAgg9
  z9 := Try.sizeOf9
  v9 := Try.zeroValue9 }

/-- The library's own bound holds some number. -/
def Mxl (w : World) : Prop := ∃ m, w.cell? ⟨0, 0, none⟩ = some (.int .i64 m)
theorem Mxl.ext {w w' : World} (h : Mxl w) (hx : Ext w w') : Mxl w' := by
  obtain ⟨m, hm⟩ := h
  exact ⟨m, (hx.cell (p := ⟨0, 0, none⟩) (lt_of_cell hm) (fun h => h)).trans hm⟩
section
variable {w : World}
theorem cutp_any (s p : List UInt8) : Calls Try.prog 55 #[sv s, sv p] w fun e w' => e = .returned (.tuple #[sv (Lib.trimPrefix s p), .bool (Lib.hasPrefix s p)]) ∧ w' = w :=
  (Any.strings_CutPrefix lay103 ⟨s.toArray⟩ ⟨p.toArray⟩ w).mono fun e w' h => h
theorem hass_any (s p : List UInt8) (hs : s.length ≤ 140737488351232) : Calls Try.prog 58 #[sv s, sv p] w fun e w' => e = .returned (.bool (Lib.hasSuffix s p)) ∧ w' = w :=
  (Any.strings_HasSuffix lay100 ⟨s.toArray⟩ ⟨p.toArray⟩ w (by have : (⟨s.toArray⟩ : ByteArray).size = s.length := sv_size s; omega)).mono fun e w' h => h
theorem trimp_any (s p : List UInt8) : Calls Try.prog 54 #[sv s, sv p] w fun e w' => e = .returned (sv (Lib.trimPrefix s p)) ∧ w' = w :=
  (Any.strings_TrimPrefix lay101 ⟨s.toArray⟩ ⟨p.toArray⟩ w).mono fun e w' h => h
theorem cut_any (s p : List UInt8) (hs : s.length ≤ 1000000) (hm : Mxl w) : Calls Try.prog 57 #[sv s, sv p] w fun e w' => e = .returned (.tuple #[sv (Lib.cut s p).1, sv (Lib.cut s p).2.1, .bool (Lib.cut s p).2.2]) ∧ ∃ n, w' = w.drewN n := by
  obtain ⟨m, hm⟩ := hm
  exact (Any.strings_Cut lay145 ⟨s.toArray⟩ ⟨p.toArray⟩ m w (by have : (⟨s.toArray⟩ : ByteArray).size = s.length := sv_size s; omega) hm).mono fun e w' h => h
end
end Go.Proofs.Ytopdkeaekgiejaa
