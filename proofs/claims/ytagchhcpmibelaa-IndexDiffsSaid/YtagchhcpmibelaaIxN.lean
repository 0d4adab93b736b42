/- index: slices.SortFunc at no rows. -/
import Derived.Test.YtagchhcpmibelaaIxE
import Derived.Test.YtagchhcpmibelaaIxG
import Derived.Shelf.SlSortCmp.NoneTotal
namespace Go.Proofs.Ytagchhcpmibelaa
open Go.RowKit Go.Maps Go.Shelf Go.Sort
set_option maxRecDepth 100000

theorem sortN_holds : SortN := fun w => by
  have h := AnyF.slices_SortFunc_none sortR none 0 (.func (.func 76) #[] #[]) w
  change Calls Try.prog 75 _ _ _ at h
  refine Calls.mono h ?_
  rintro e w' ⟨rfl, rfl⟩
  exact ⟨rfl, Mod.refl _ _⟩
end Go.Proofs.Ytagchhcpmibelaa
