/- dn: what the law knows. -/
import Derived.Test.YtbdkdbfcbakgmaaDnPI
namespace Go.Proofs.Ytbdkdbfcbakgmaa
open Go.RowKit
set_option maxRecDepth 100000

def kText : List UInt8 := [99, 110, 61, 97, 92, 44, 98, 32, 44, 32, 79, 32, 61, 32, 120, 32, 121]
def kName : List Av := [([99, 110], [97, 44, 98]), ([79], [120, 32, 121])]
theorem parse_known : parseB kText = (kName, 0) := by decide +kernel
theorem print_known : printB kName = [99, 110, 61, 97, 92, 44, 98, 44, 79, 61, 120, 32, 121] := by decide +kernel
theorem plain_known : ∀ a ∈ kName, Plain a.2 := by unfold Plain; decide +kernel

set_option maxHeartbeats 4000000 in
theorem known13_any {w : World} : Calls Try.prog 23 #[] w fun e w' => e = .returned (.bool true) ∧ Ext w w' := by
  have hpa := parse_any (w := w) kText (by decide)
  rw [parse_known] at hpa
  go_enter Try.func23, Try.ntmps23
  go_wp2_with fail
  refine hpa.mono ?_
  rintro e w1 ⟨v, rfl, p1, p2, p3⟩
  have hv : As w1 (own v) v kName := p1.rc
  have hL : As (w1.alloc (.cells #[sv [99, 110], sv [97, 44, 98], sv [79], sv [120, 32, 121]] 37)) (fun b => b = w1.heap.size) (.slice (some ⟨w1.heap.size, 0, none⟩) 2 2) kName :=
    ⟨_, _, rfl, Nat.le_refl _, by simp [maxLen], by simp, rfl, fun j u hu => ⟨_, rfl, rfl, by
      rw [add_lit, cell_of_row _ w1.heap.size j _ 37 (0, 0) (heap_alloc_new w1 _)]
      have hu2 : ([sv [99, 110], sv [97, 44, 98], sv [79], sv [120, 32, 121]] : List Value)[j]? = some u := hu
      simpa using hu2⟩⟩
  have hx2 : Ext w1 (w1.alloc (.cells #[sv [99, 110], sv [97, 44, 98], sv [79], sv [120, 32, 121]] 37)) := (Mod.refl _ w1).alloc _
  have hv2 := p1.ext hx2
  have hnm := names13_any hv2.rc hL (by decide)
  rw [dtrue rfl] at hnm
  clear hpa
  go_wp2_with fail
  refine hnm.mono ?_
  rintro e w3 ⟨rfl, x3⟩
  have hv3 := hv2.ext x3
  have hpr := print_any hv3.rc (by decide) plain_known
  rw [print_known] at hpr
  go_wp2_with fail
  refine hpr.mono ?_
  rintro e w4 ⟨rfl, x4⟩
  go_wp2_with fail
  go_ret
  exact ⟨rfl, ext_trans p3 (ext_trans hx2 (ext_trans x3 x4))⟩
end Go.Proofs.Ytbdkdbfcbakgmaa
