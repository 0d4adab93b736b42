/- dn: the law Alike. -/
import Derived.Test.YtgghjkefbfbopaaDoorDnPJ
namespace Go.Proofs.YtgghjkefbfbopaaDoor
open Go.RowKit
set_option maxRecDepth 100000

theorem under_self (L : List Av) : underN L L := ⟨Nat.le_refl _, by rw [Nat.sub_self, List.drop_zero]; exact rfl⟩
theorem under_nil (L : List Av) : underN L [] := ⟨Nat.zero_le _, by simp [sameN]⟩
theorem under_drop (L : List Av) (k : Nat) (hk : k ≤ L.length) : underN L (L.drop k) := by
  refine ⟨by simp, ?_⟩
  have : L.length - (L.drop k).length = k := by rw [List.length_drop]; omega
  rw [this]; exact rfl
theorem fits_wN {L : List Av} (h : wN L ≤ 1000) : Fits L := fits_of (by omega)
theorem nil_as (w : World) : As w (fun b => b < w.heap.size) (.slice none 0 0) ([] : List Av) := ⟨none, 0, rfl, Nat.le_refl _, by simp [maxLen], by simp, rfl, fun j u hu => by simp at hu⟩

end Go.Proofs.YtgghjkefbfbopaaDoor
