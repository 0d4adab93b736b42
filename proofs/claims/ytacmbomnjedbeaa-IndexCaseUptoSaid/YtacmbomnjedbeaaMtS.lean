/- match: the library's CutPrefix, Cut, HasSuffix, TrimPrefix, laid. -/
import Derived.Test.YtacmbomnjedbeaaMtB
import Derived.Shelf.Lays
import Derived.Shelf.Strings.Cut
import Derived.Shelf.Strings.Prefix
import Derived.Shelf.Small.Wraps
import Derived.Test.YtacmbomnjedbeaaDnI
namespace Go.Proofs.Ytacmbomnjedbeaa
open Go.Shelf Go.RowKit
set_option maxRecDepth 100000

def lay101_ren : Go.Shelf.Ren := ⟨fun | 101 => 81 | 208 => 94 | 206 => 103 | n => n, fun | 9 => 9 | 4 => 4 | 3 => 3 | n => n, fun | n => n⟩
theorem lay101 : Go.Proofs.Lays.n101 Try.prog lay101_ren := {
  mixed := by kernel_rfl
  f101 := Try.func81.trans (congrArg some (by kernel_rfl))
  f206 := Try.func103.trans (congrArg some (by kernel_rfl))
  f208 := Try.func94.trans (congrArg some (by kernel_rfl))
  t3 := Try.underlying3
  a3 := Try.isAgg3
  z3 := Try.sizeOf3
  v3 := Try.zeroValue3
  t4 := Try.underlying4
  a4 := Try.isAgg4
  z4 := Try.sizeOf4
  v4 := Try.zeroValue4
  t9 := Try.underlying9
  a9 := Try.isAgg9
  z9 := Try.sizeOf9
  v9 := Try.zeroValue9 }

/-- The library's own bound holds some number. -/
def Mxl (w : World) : Prop := ∃ m, w.cell? ⟨0, 0, none⟩ = some (.int .i64 m)
theorem Mxl.ext {w w' : World} (h : Mxl w) (hx : Ext w w') : Mxl w' := by
  obtain ⟨m, hm⟩ := h
  exact ⟨m, (hx.cell (p := ⟨0, 0, none⟩) (lt_of_cell hm) (fun h => h)).trans hm⟩
section
variable {w : World}
theorem trimp_any (s p : List UInt8) : Calls Try.prog 81 #[sv s, sv p] w fun e w' => e = .returned (sv (Lib.trimPrefix s p)) ∧ w' = w :=
  (Any.strings_TrimPrefix lay101 ⟨s.toArray⟩ ⟨p.toArray⟩ w).mono fun _e _w' h => h
end
end Go.Proofs.Ytacmbomnjedbeaa
