/- index: rows compared. -/
import Derived.Test.YtagchhcpmibelaaIxC
import Derived.Test.YtagchhcpmibelaaSortR
import Derived.Shelf.SlSortCmp.Insertion
import Derived.Lib.Bytealg
import Derived.Deep.Cut
namespace Go.Proofs.Ytagchhcpmibelaa
open Go.RowKit Go.Shelf
set_option maxRecDepth 100000

/-- Three-way, as numbers. -/
def cmpB (a b : List UInt8) : Int := Lib.compareBytes a b
theorem cmpB_lt : ∀ (a b : List UInt8), decide (cmpB a b < 0) = Op.bytesLess a b
  | [], [] => rfl
  | [], _ :: _ => rfl
  | _ :: _, [] => rfl
  | a :: x, b :: y => by
    show decide ((if a < b then (-1 : Int) else if b < a then 1 else Lib.compareBytes x y) < 0) = (decide (a < b) || (a == b && Op.bytesLess x y))
    by_cases h1 : a < b
    · simp [h1]
    · by_cases h2 : b < a
      · have h3 : ¬ a = b := by rintro rfl; exact h1 h2
        simp [h1, h2, h3]
      · have h3 : a = b := by
          apply UInt8.toNat_inj.1
          rw [UInt8.lt_iff_toNat_lt] at h1 h2
          omega
        subst h3
        have := cmpB_lt x y
        unfold cmpB at this
        simp [h1, this]

set_option maxHeartbeats 4000000 in
theorem cmpstr_any {w : World} (a b : List UInt8) :
    Calls Try.prog 86 #[sv a, sv b] w fun e w' => e = .returned (.int .i64 (cmpB a b)) ∧ w' = w := by
  go_enter Try.func86, Try.ntmps86
  go_wp2
  rw [run_callFunc_extern Try.func106 (by kernel_rfl) (by kernel_rfl) (by kernel_rfl) (e := Extern.BytealgCompare.compare) (by kernel_rfl), Lib.run_compareString]
  simp only [Result.andThen]
  rw [Oper.upon_value]
  go_wp2
  go_ret
  exact ⟨rfl, rfl⟩
set_option maxHeartbeats 4000000 in
theorem compare_any {w : World} (a b : List UInt8) :
    Calls Try.prog 77 #[sv a, sv b] w fun e w' => e = .returned (.int .i64 (cmpB a b)) ∧ w' = w := by
  have hc := fun wx => cmpstr_any (w := wx) a b
  go_enter Try.func77, Try.ntmps77
  go_wp2_with fail
  refine (hc _).mono ?_
  rintro e w' ⟨rfl, rfl⟩
  go_wp2_with fail
  go_ret
  exact ⟨rfl, rfl⟩
set_option maxHeartbeats 4000000 in
/-- How index compares two rows. -/
theorem dcmp_any {w : World} (a b : Ro) :
    Calls Try.prog 76 #[.agg (rar a), .agg (rar b)] w fun e w' => e = .returned (.int .i64 (cmpB a.key b.key)) ∧ w' = (w.alloc (.cells (rar a) 66)).alloc (.cells (rar b) 66) := by
  have hc := fun wx => compare_any (w := wx) a.key b.key
  have c0 : ((w.alloc (.cells (rar a) 66)).alloc (.cells (rar b) 66)).cell? ⟨w.heap.size, 0, none⟩ = some (sv a.key) := ((Blk.new w 66 (rar a)).alloc _).cell 0
  have d0 : ((w.alloc (.cells (rar a) 66)).alloc (.cells (rar b) 66)).cell? ⟨w.heap.size + 1, 0, none⟩ = some (sv b.key) := by
    have := (Blk.new (w.alloc (.cells (rar a) 66)) 66 (rar b)).cell 0
    have e1 : (w.alloc (.cells (rar a) 66)).heap.size = w.heap.size + 1 := by simp
    rw [e1] at this
    exact this
  obtain ⟨w0, hw0⟩ : ∃ w0, w0 = (w.alloc (.cells (rar a) 66)).alloc (.cells (rar b) 66) := ⟨_, rfl⟩
  rw [← hw0] at c0 d0 ⊢
  replace hw0 := Lib.hid hw0
  go_enter Try.func76, Try.ntmps76
  go_upto_region 1 with fail
  rw [← hw0.out]
  go_wp2_with fail
  refine (hc _).mono ?_
  rintro e w' ⟨rfl, rfl⟩
  go_wp2_with fail
  go_ret
  exact ⟨rfl, rfl⟩
theorem swoB : Go.Sort.SWO (ltOf fun a b : Ro => cmpB a.key b.key) := by
  have h : ∀ a b : Ro, ltOf (fun a b : Ro => cmpB a.key b.key) a b = Op.bytesLess a.key b.key := fun a b => cmpB_lt _ _
  refine ⟨fun x => ?_, fun x y z h1 h2 => ?_, fun x y z h1 h2 => ?_⟩
  · rw [h]; exact less_irr _
  · rw [h] at *; exact less_trans _ _ _ h1 h2
  · rw [h] at *
    by_cases hxy : x.key = y.key
    · rw [hxy]; exact h2
    · by_cases hyz : y.key = z.key
      · rw [← hyz]; exact h1
      · have a1 := less_asym _ _ hxy
        have a2 := less_asym _ _ hyz
        rw [h1] at a1
        rw [h2] at a2
        have a3 : Op.bytesLess z.key x.key = true := less_trans _ _ _ (by simpa using a2.symm) (by simpa using a1.symm)
        by_cases hxz : x.key = z.key
        · rw [hxz]; exact less_irr _
        · rw [less_asym _ _ hxz, a3]; rfl
/-- What slices.SortFunc does to rows. -/
def SortW : Prop := ∀ {w : World} {g c : Nat} {L : List Ro}, OwnW w (.slice (some ⟨g, 0, none⟩) L.length c) L → L.length ≤ 100000 →
    Calls Try.prog 75 #[.slice (some ⟨g, 0, none⟩) L.length c, .func (.func 76) #[] #[]] w fun e w' => e = .returned (.tuple #[]) ∧ ∃ L', L'.Perm L ∧ (L'.Pairwise fun a b => Op.bytesLess b.key a.key = false) ∧ OwnW w' (.slice (some ⟨g, 0, none⟩) L.length c) L' ∧ Mod (fun b => b = g) w w'
end Go.Proofs.Ytagchhcpmibelaa
