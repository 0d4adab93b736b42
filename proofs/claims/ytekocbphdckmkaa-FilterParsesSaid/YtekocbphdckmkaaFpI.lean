/- filter: the library's IndexAny at the four signs, whole. -/
import Derived.Test.YtekocbphdckmkaaFpH
namespace Go.Proofs.Ytekocbphdckmkaa
open Go.Shelf Go.RowKit
set_option maxRecDepth 100000

theorem iany_any {w : World} {R : List UInt8} (hl : R.length ≤ 1000000) :
    Calls Try.prog 53 #[sv R, sv sgns] w fun e w' => e = .returned (.int .i64 (Lib.indexAny R sgns)) ∧ Ext w w' := by
  by_cases h8 : R.length ≤ 8
  · exact iany_short h8
  · have h116 : (Try.prog.info? 79).map (fun i => (i.zero, i.size)) = some (some (.agg (Array.replicate 256 (.bool false))), 256) := by kernel_rfl
    have hz := sv_size R
    have h := Any.strings_IndexAny_long (P := Try.prog) (ρ := lay153_ren) lay153 (zero_of_info h116).1 (zero_of_info h116).2 ⟨R.toArray⟩ ⟨sgns.toArray⟩ w (by decide) (by omega) (by omega) (by decide)
      (fun j b hb => by
        have h6 : ∀ b ∈ sgns, b.toNat < 128 := by decide
        exact h6 b (List.mem_of_getElem? hb))
    refine Calls.mono h ?_
    rintro e w' ⟨he, hw⟩
    refine ⟨he, ?_⟩
    rw [hw]
    exact ((Mod.refl _ w).alloc _).alloc _
end Go.Proofs.Ytekocbphdckmkaa
