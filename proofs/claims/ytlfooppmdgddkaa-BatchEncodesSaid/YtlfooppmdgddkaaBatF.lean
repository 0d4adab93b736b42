/- batch: what the laws know; a literal of rows. -/
import Derived.Test.YtlfooppmdgddkaaBatE
import Derived.Test.YtlfooppmdgddkaaBatS
import Derived.Test.YtlfooppmdgddkaaBatK
namespace Go.Proofs.Ytlfooppmdgddkaa
open Go.RowKit Go.ChangeShapes
set_option maxRecDepth 100000

theorem Rs.lit (w : World) (L : List Ro) (hm : L.length ≤ 100000) : Rs (w.alloc (.cells (L.flatMap rol).toArray 82)) (fun b => b = w.heap.size) (.slice (some ⟨w.heap.size, 0, none⟩) L.length L.length) L :=
  ⟨_, _, rfl, Nat.le_refl _, by simp only [maxLen]; omega, by simp, by rw [rflat_len rol_len], fun j u hu => ⟨_, rfl, rfl, by
    rw [add_lit, cell_of_row _ w.heap.size j (L.flatMap rol).toArray 82 (0, 0) (heap_alloc_new w _)]
    simpa using hu⟩⟩
def kn10 : List Ro := [⟨[98], [120], false⟩, ⟨[97], [121], false⟩, ⟨[98], [], true⟩]
theorem kn10_cells : cellsB 3 kn10 = [⟨[97], [121], false, 3⟩, ⟨[98], [], true, 3⟩] := by decide

set_option maxHeartbeats 8000000 in
theorem known10_any {w : World} : Calls Try.prog 57 #[] w fun e w' => e = .returned (.bool true) ∧ Ext w w' := by
  have x0 : Ext w (w.alloc (.cells (kn10.flatMap rol).toArray 82)) := (Mod.refl _ w).alloc _
  have hS := Rs.lit w kn10 (by decide)
  have hc := bcells_any sortC_holds (s := 3) hS (mfits_of (by decide)) (by decide)
  rw [kn10_cells] at hc
  obtain ⟨w0, hw0⟩ : ∃ w0, w0 = w.alloc (.cells (kn10.flatMap rol).toArray 82) := ⟨_, rfl⟩
  rw [← hw0] at x0 hS hc
  have hw1 : Hid (w0 = w.alloc (.cells #[sv [98], sv [120], .bool false, sv [97], sv [121], .bool false, sv [98], sv [], .bool true] 82)) := Lib.hid hw0
  clear hw0 hS
  have q1 := fun wx => eqC wx ⟨[97], [121], false, 3⟩ ⟨[97], [121], false, 3⟩
  have q2 := fun wx => eqC wx ⟨[98], [], true, 3⟩ ⟨[98], [], true, 3⟩
  have hgu := fun wx a b xs ys => guardC wx .eql a b xs ys
  simp only [decide_true] at q1 q2
  go_enter Try.func57, Try.ntmps57
  go_wp2_with fail
  rw [← hw1.out]
  refine hc.mono ?_
  rintro e w2 ⟨v, rfl, o2, f2, x2⟩
  obtain ⟨A, c, rfl, h1, h2, h3, h4⟩ := o2.rc.open_ cel_len
  obtain ⟨ad, hA, -, c0, c1, c2, c3⟩ := Cs.at_ (i := 0) h4 (by decide)
  subst hA
  obtain ⟨ad', hA, -, d0, d1, d2, d3⟩ := Cs.at_ (i := 1) h4 (by decide)
  cases hA
  simp only [List.getElem_cons_zero, List.getElem_cons_succ] at c0 c1 c2 c3 d0 d1 d2 d3
  rw [show ad.add (0 * 4) = ad from rfl] at c0 c1 c2 c3
  rw [show ad.add (1 * 4) = ⟨ad.block, ad.off + 4, none⟩ from rfl] at d0 d1 d2 d3
  simp only [Nat.add_assoc] at d1 d2 d3
  clear hc h4 o2 f2
  have x3 := ext_trans x0 x2
  clear x0 x2
  go_wp2_with fail
  go_ret
  exact ⟨rfl, x3⟩
end Go.Proofs.Ytlfooppmdgddkaa
