/- match: the library's CutPrefix, Cut, HasSuffix, TrimPrefix, laid. -/
import Derived.Test.YtgghjkefbfbopaaDoorMtA
import Derived.Shelf.Lays
import Derived.Shelf.Strings.Cut
import Derived.Shelf.Strings.Prefix
import Derived.Shelf.Small.Wraps
import Derived.Test.YtgghjkefbfbopaaDoorDnI
namespace Go.Proofs.YtgghjkefbfbopaaDoor
open Go.Shelf Go.RowKit
set_option maxRecDepth 100000

def lay103_ren : Go.Shelf.Ren := ⟨fun | 103 => 47 | 210 => 65 | 206 => 82 | n => n, fun | 9 => 9 | 4 => 4 | 24 => 43 | 3 => 3 | n => n, fun | n => n⟩
theorem lay103 : Go.Proofs.Lays.n103 Tryd.prog lay103_ren := {
  mixed := by kernel_rfl
  f103 := Tryd.func47.trans (congrArg some (by kernel_rfl))
  f206 := Tryd.func82.trans (congrArg some (by kernel_rfl))
  f210 := Tryd.func65.trans (congrArg some (by kernel_rfl))
  t3 := Tryd.underlying3
  a3 := Tryd.isAgg3
  z3 := Tryd.sizeOf3
  v3 := Tryd.zeroValue3
  t4 := Tryd.underlying4
  a4 := Tryd.isAgg4
  z4 := Tryd.sizeOf4
  v4 := Tryd.zeroValue4
  t9 := Tryd.underlying9
  a9 := Tryd.isAgg9
  z9 := Tryd.sizeOf9
  v9 := Tryd.zeroValue9
  t24 := Tryd.underlying43
  a24 := Tryd.isAgg43
  z24 := Tryd.sizeOf43
  v24 := Tryd.zeroValue43 }
def lay145_ren : Go.Shelf.Ren := ⟨fun | 145 => 30 | 220 => 50 | 219 => 68 | 217 => 83 | 225 => 84 | 224 => 85 | 267 => 86 | 266 => 96 | 314 => 97 | n => n, fun | 9 => 9 | 4 => 4 | 59 => 49 | 3 => 3 | 5 => 5 | 46 => 80 | 146 => 104 | 51 => 103 | n => n, fun | 1 => 0 | n => n⟩
theorem lay145 : Go.Proofs.Lays.n145 Tryd.prog lay145_ren := {
  mixed := by kernel_rfl
  f145 := Tryd.func30.trans (congrArg some (by kernel_rfl))
  f217 := Tryd.func83.trans (congrArg some (by kernel_rfl))
  f219 := Tryd.func68.trans (congrArg some (by kernel_rfl))
  f220 := Tryd.func50.trans (congrArg some (by kernel_rfl))
  f224 := Tryd.func85.trans (congrArg some (by kernel_rfl))
  f225 := Tryd.func84.trans (congrArg some (by kernel_rfl))
  f266 := Tryd.func96.trans (congrArg some (by kernel_rfl))
  f267 := Tryd.func86.trans (congrArg some (by kernel_rfl))
  f314 := Tryd.func97.trans (congrArg some (by kernel_rfl))
  t3 := Tryd.underlying3
  a3 := Tryd.isAgg3
  z3 := Tryd.sizeOf3
  v3 := Tryd.zeroValue3
  t4 := Tryd.underlying4
  a4 := Tryd.isAgg4
  z4 := Tryd.sizeOf4
  v4 := Tryd.zeroValue4
  t5 := Tryd.underlying5
  a5 := Tryd.isAgg5
  z5 := Tryd.sizeOf5
  v5 := Tryd.zeroValue5
  t9 := Tryd.underlying9
  a9 := Tryd.isAgg9
  z9 := Tryd.sizeOf9
  v9 := Tryd.zeroValue9
  t46 := Tryd.underlying80
  a46 := Tryd.isAgg80
  z46 := Tryd.sizeOf80
  v46 := Tryd.zeroValue80
  t51 := Tryd.underlying103
  a51 := Tryd.isAgg103
  z51 := Tryd.sizeOf103
  v51 := Tryd.zeroValue103
  t59 := Tryd.underlying49
  a59 := Tryd.isAgg49
  z59 := Tryd.sizeOf49
  v59 := Tryd.zeroValue49
  t146 := Tryd.underlying104
  a146 := Tryd.isAgg104
  z146 := Tryd.sizeOf104
  v146 := Tryd.zeroValue104
  g1 := by kernel_rfl }
def lay100_ren : Go.Shelf.Ren := ⟨fun | 100 => 49 | 207 => 67 | n => n, fun | 9 => 9 | 4 => 4 | 3 => 3 | n => n, fun | n => n⟩
theorem lay100 : Go.Proofs.Lays.n100 Tryd.prog lay100_ren := {
  mixed := by kernel_rfl
  f100 := Tryd.func49.trans (congrArg some (by kernel_rfl))
  f207 := Tryd.func67.trans (congrArg some (by kernel_rfl))
  t3 := Tryd.underlying3
  a3 := Tryd.isAgg3
  z3 := Tryd.sizeOf3
  v3 := Tryd.zeroValue3
  t4 := Tryd.underlying4
  a4 := Tryd.isAgg4
  z4 := Tryd.sizeOf4
  v4 := Tryd.zeroValue4
  t9 := Tryd.underlying9
  a9 := Tryd.isAgg9
  z9 := Tryd.sizeOf9
  v9 := Tryd.zeroValue9 }
def lay101_ren : Go.Shelf.Ren := ⟨fun | 101 => 59 | 208 => 72 | 206 => 82 | n => n, fun | 9 => 9 | 4 => 4 | 3 => 3 | n => n, fun | n => n⟩
theorem lay101 : Go.Proofs.Lays.n101 Tryd.prog lay101_ren := {
  mixed := by kernel_rfl
  f101 := Tryd.func59.trans (congrArg some (by kernel_rfl))
  f206 := Tryd.func82.trans (congrArg some (by kernel_rfl))
  f208 := Tryd.func72.trans (congrArg some (by kernel_rfl))
  t3 := Tryd.underlying3
  a3 := Tryd.isAgg3
  z3 := Tryd.sizeOf3
  v3 := Tryd.zeroValue3
  t4 := Tryd.underlying4
  a4 := Tryd.isAgg4
  z4 := Tryd.sizeOf4
  v4 := Tryd.zeroValue4
  t9 := Tryd.underlying9
  a9 := Tryd.isAgg9
  z9 := Tryd.sizeOf9
  v9 := Tryd.zeroValue9 }

/-- The library's own bound holds some number. -/
def Mxl (w : World) : Prop := ∃ m, w.cell? ⟨0, 0, none⟩ = some (.int .i64 m)
theorem Mxl.ext {w w' : World} (h : Mxl w) (hx : Ext w w') : Mxl w' := by
  obtain ⟨m, hm⟩ := h
  exact ⟨m, (hx.cell (p := ⟨0, 0, none⟩) (lt_of_cell hm) (fun h => h)).trans hm⟩
section
variable {w : World}
theorem cutp_any (s p : List UInt8) : Calls Tryd.prog 47 #[sv s, sv p] w fun e w' => e = .returned (.tuple #[sv (Lib.trimPrefix s p), .bool (Lib.hasPrefix s p)]) ∧ w' = w :=
  (Any.strings_CutPrefix lay103 ⟨s.toArray⟩ ⟨p.toArray⟩ w).mono fun e w' h => h
theorem hass_any (s p : List UInt8) (hs : s.length ≤ 140737488351232) : Calls Tryd.prog 49 #[sv s, sv p] w fun e w' => e = .returned (.bool (Lib.hasSuffix s p)) ∧ w' = w :=
  (Any.strings_HasSuffix lay100 ⟨s.toArray⟩ ⟨p.toArray⟩ w (by have : (⟨s.toArray⟩ : ByteArray).size = s.length := sv_size s; omega)).mono fun e w' h => h
theorem trimp_any (s p : List UInt8) : Calls Tryd.prog 59 #[sv s, sv p] w fun e w' => e = .returned (sv (Lib.trimPrefix s p)) ∧ w' = w :=
  (Any.strings_TrimPrefix lay101 ⟨s.toArray⟩ ⟨p.toArray⟩ w).mono fun e w' h => h
theorem cut_any (s p : List UInt8) (hs : s.length ≤ 1000000) (hm : Mxl w) : Calls Tryd.prog 30 #[sv s, sv p] w fun e w' => e = .returned (.tuple #[sv (Lib.cut s p).1, sv (Lib.cut s p).2.1, .bool (Lib.cut s p).2.2]) ∧ ∃ n, w' = w.drewN n := by
  obtain ⟨m, hm⟩ := hm
  exact (Any.strings_Cut lay145 ⟨s.toArray⟩ ⟨p.toArray⟩ m w (by have : (⟨s.toArray⟩ : ByteArray).size = s.length := sv_size s; omega) hm).mono fun e w' h => h
end
end Go.Proofs.YtgghjkefbfbopaaDoor
