/- dn: fold, value. -/
import Derived.Test.YtbdkdbfcbakgmaaDnC
namespace Go.Proofs.Ytbdkdbfcbakgmaa
open Go.RowKit
set_option maxRecDepth 100000

/-- A value, folded. -/
def normV (s : List UInt8) : List UInt8 := if foldB s = [] ∧ s ≠ [] then [32] else foldB s
/-- A part, folded. -/
def normA (a : List UInt8 × List UInt8) : List UInt8 × List UInt8 := (foldB a.1, normV a.2)
theorem sv_empty (l : List UInt8) : (⟨l.toArray⟩ : ByteArray).toList.isEmpty = l.isEmpty := by simp

set_option maxHeartbeats 2000000 in
theorem value_any {w : World} (s : List UInt8) (hl : s.length ≤ 140737488351232) :
    Calls Try.prog 58 #[sv s] w fun e w' => e = .returned (sv (normV s)) ∧ Ext w w' := by
  go_enter Try.func58, Try.ntmps58
  go_wp2_with fail
  refine (rfold_any s hl).mono ?_
  rintro e w1 ⟨rfl, hx⟩
  go_wp2_with fail
  · rename_i h1 h2
    go_ret
    exact ⟨by rw [normV, if_pos ⟨h1, by intro h; subst h; cases h2⟩]; rfl, hx⟩
  · rename_i h1 h2
    go_ret
    exact ⟨by rw [normV, if_neg (by rintro ⟨_, h⟩; cases s <;> simp_all), h1]; rfl, hx⟩
  · rename_i h1
    go_ret
    exact ⟨by rw [normV, if_neg (fun h => h1 h.1)]; rfl, hx⟩
set_option maxHeartbeats 2000000 in
theorem dfold_any {w : World} (a : List UInt8 × List UInt8) (h1 : a.1.length ≤ 140737488351232) (h2 : a.2.length ≤ 140737488351232) :
    Calls Try.prog 57 #[.agg #[sv a.1, sv a.2]] w fun e w' => e = .returned (.agg #[sv (normA a).1, sv (normA a).2]) ∧ Ext w w' := by
  go_enter Try.func57, Try.ntmps57
  go_wp2_with fail
  refine (fold_any a.2 h2).mono ?_
  rintro e w1 ⟨rfl, hx⟩
  have B0 : Blk ((w.alloc (.cells #[sv a.1, sv a.2] 37)).alloc (.cells #[.string ⟨#[]⟩, .string ⟨#[]⟩] 37)) w.heap.size 37 #[sv a.1, sv a.2] := (Blk.new w _ _).alloc _
  have R0 : Blk ((w.alloc (.cells #[sv a.1, sv a.2] 37)).alloc (.cells #[.string ⟨#[]⟩, .string ⟨#[]⟩] 37)) (w.heap.size + 1) 37 #[.string ⟨#[]⟩, .string ⟨#[]⟩] := by
    have := Blk.new (w.alloc (.cells #[sv a.1, sv a.2] 37)) 37 #[.string ⟨#[]⟩, .string ⟨#[]⟩]
    simpa using this
  have B1 := B0.mod hx (fun h => h)
  have R1 := R0.mod hx (fun h => h)
  have e0 : w1.cell? ⟨w.heap.size, 0, none⟩ = some (sv a.1) := B1.cell 0
  have e1 : w1.cell? ⟨w.heap.size, 1, none⟩ = some (sv a.2) := B1.cell 1
  have hx1 : Ext w w1 := ext_trans (((Mod.refl _ w).alloc _).alloc _) hx
  clear hx B0 R0 B1
  go_wp2_with fail
  all_goals refine (fold_any a.1 h1).mono ?_
  all_goals rintro e w2 ⟨rfl, hx2⟩
  all_goals have R2 := R1.mod hx2 (fun h => h)
  all_goals have d0 : w2.cell? ⟨w.heap.size + 1, 0, none⟩ = some _ := R2.cell 0
  all_goals have d1 : w2.cell? ⟨w.heap.size + 1, 1, none⟩ = some _ := R2.cell 1
  all_goals have f0 := R2.frozen 0
  all_goals have f1 := R2.frozen 1
  all_goals replace hx1 := ext_trans hx1 hx2
  all_goals clear R1 hx2 e0 e1
  all_goals go_wp2_with fail
  all_goals have R3 := fun u v => (R2.set_ 0 u).set_ 1 v
  all_goals have hx3 := fun u v => (hx1.setCell (p := ⟨w.heap.size + 1, 0, none⟩) (fun h => by have : w.heap.size + 1 < w.heap.size := h; omega) u).setCell (p := ⟨w.heap.size + 1, 1, none⟩) (fun h => by have : w.heap.size + 1 < w.heap.size := h; omega) v
  all_goals refine bodyPost_ret (results_cell_row Try.results57 _ _ _ _ _ _ _ rfl (R3 _ _) Try.underlying37 rfl (by kernel_rfl)) rfl ⟨?_, hx3 _ _⟩
  · rename_i h1 h2
    rw [show normA a = (foldB a.1, [32]) by rw [normA, normV, if_pos ⟨h1, by intro h; rw [h] at h2; cases h2⟩]]
    rfl
  · rename_i h1 h2
    rw [show normA a = (foldB a.1, []) by rw [normA, normV, if_neg (by rintro ⟨_, h⟩; cases hh : a.2 <;> simp_all), h1]]
    rfl
  · rename_i h1
    rw [show normA a = (foldB a.1, foldB a.2) by rw [normA, normV, if_neg (fun h => h1 h.1)]]
    rfl
end Go.Proofs.Ytbdkdbfcbakgmaa
