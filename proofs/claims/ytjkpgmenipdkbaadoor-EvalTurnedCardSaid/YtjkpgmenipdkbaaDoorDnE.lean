/- dn: fold, value. -/
import Derived.Test.YtjkpgmenipdkbaaDoorDnC
import Derived.Test.YtjkpgmenipdkbaaDoorRecB
import Derived.Deep.RegionHeld3
namespace Go.Proofs.YtjkpgmenipdkbaaDoor
open Go.RowKit
set_option maxRecDepth 100000

/-- A value, folded. -/
def normV (s : List UInt8) : List UInt8 := if foldB s = [] ∧ s ≠ [] then [32] else foldB s
/-- A part, folded. -/
def normA (a : List UInt8 × List UInt8) : List UInt8 × List UInt8 := (foldB a.1, normV a.2)
theorem sv_empty (l : List UInt8) : (⟨l.toArray⟩ : ByteArray).toList.isEmpty = l.isEmpty := by simp

set_option maxHeartbeats 2000000 in
theorem dfold_any {w : World} (a : List UInt8 × List UInt8) (h1 : a.1.length ≤ 140737488351232) (h2 : a.2.length ≤ 140737488351232) :
    Calls Tryd.prog 51 #[.agg #[sv a.1, sv a.2]] w fun e w' => e = .returned (.agg #[sv (normA a).1, sv (normA a).2]) ∧ Ext w w' := by
  go_enter Tryd.func51, Tryd.ntmps51
  go_wp2_with fail
  refine (fold_any a.2 h2).mono ?_
  rintro e w1 ⟨rfl, hx⟩
  have B0 : Blk ((w.alloc (.cells #[sv a.1, sv a.2] 83)).alloc (.cells #[.string ⟨#[]⟩, .string ⟨#[]⟩] 83)) w.heap.size 83 #[sv a.1, sv a.2] := (Blk.new w _ _).alloc _
  have R0 : Blk ((w.alloc (.cells #[sv a.1, sv a.2] 83)).alloc (.cells #[.string ⟨#[]⟩, .string ⟨#[]⟩] 83)) (w.heap.size + 1) 83 #[.string ⟨#[]⟩, .string ⟨#[]⟩] := by
    have := Blk.new (w.alloc (.cells #[sv a.1, sv a.2] 83)) 83 #[.string ⟨#[]⟩, .string ⟨#[]⟩]
    simpa using this
  have B1 := B0.mod hx (fun h => h)
  have R1 := R0.mod hx (fun h => h)
  have e0 : w1.cell? ⟨w.heap.size, 0, none⟩ = some (sv a.1) := B1.cell 0
  have e1 : w1.cell? ⟨w.heap.size, 1, none⟩ = some (sv a.2) := B1.cell 1
  have hx1 : Ext w w1 := ext_trans (((Mod.refl _ w).alloc _).alloc _) hx
  clear hx B0 R0 B1
  go_wp2_with fail
  all_goals refine (fold_any a.1 h1).mono ?_
  all_goals rintro e w2 ⟨rfl, hx2⟩
  all_goals have R2 := R1.mod hx2 (fun h => h)
  all_goals have d0 : w2.cell? ⟨w.heap.size + 1, 0, none⟩ = some _ := R2.cell 0
  all_goals have d1 : w2.cell? ⟨w.heap.size + 1, 1, none⟩ = some _ := R2.cell 1
  all_goals have f0 := R2.frozen 0
  all_goals have f1 := R2.frozen 1
  all_goals replace hx1 := ext_trans hx1 hx2
  all_goals clear R1 hx2 e0 e1
  all_goals go_wp2_with fail
  all_goals have R3 := fun u v => (R2.set_ 0 u).set_ 1 v
  all_goals have hx3 := fun u v => (hx1.setCell (p := ⟨w.heap.size + 1, 0, none⟩) (fun h => by have : w.heap.size + 1 < w.heap.size := h; omega) u).setCell (p := ⟨w.heap.size + 1, 1, none⟩) (fun h => by have : w.heap.size + 1 < w.heap.size := h; omega) v
  all_goals refine bodyPost_ret (results_cell_row Tryd.results51 _ _ _ _ _ _ _ rfl (R3 _ _) Tryd.underlying83 rfl (by kernel_rfl)) rfl ⟨?_, hx3 _ _⟩
  · rename_i h1 h2
    rw [show normA a = (foldB a.1, [32]) by rw [normA, normV, if_pos ⟨h1, by intro h; rw [h] at h2; cases h2⟩]]
    rfl
  · rename_i h1 h2
    rw [show normA a = (foldB a.1, []) by rw [normA, normV, if_neg (by rintro ⟨_, h⟩; cases hh : a.2 <;> simp_all), h1]]
    rfl
  · rename_i h1
    rw [show normA a = (foldB a.1, foldB a.2) by rw [normA, normV, if_neg (fun h => h1 h.1)]]
    rfl
end Go.Proofs.YtjkpgmenipdkbaaDoor
namespace Go.Proofs.YtjkpgmenipdkbaaDoor
open Go.RowKit
set_option maxRecDepth 100000

theorem tyA : SliceTyK Tryd.prog 34 83 (.agg #[.string ⟨#[]⟩, .string ⟨#[]⟩]) 2 32 := ⟨Tryd.underlying34, by kernel_rfl, rfl, by decide, by decide⟩
abbrev Av : Type := List UInt8 × List UInt8
abbrev OwnA (w : World) (v : Value) (L : List Av) : Prop := OwnR avc 2 w 83 v L
/-- No text is longer than memory. -/
def Fits (L : List Av) : Prop := (∀ a ∈ L, a.1.length ≤ 140737488351232 ∧ a.2.length ≤ 140737488351232) ∧ L.length * 32 ≤ 140737488351232
theorem Fits.at_ {L : List Av} (h : Fits L) {k : Nat} (hk : k < L.length) : L[k].1.length ≤ 140737488351232 ∧ L[k].2.length ≤ 140737488351232 := h.1 _ (List.getElem_mem _)
/-- A name, folded. -/
def norm (L : List Av) : List Av := L.map normA
theorem norm_snoc (L : List Av) {k : Nat} (h : k < L.length) : norm (L.take (k + 1)) = norm (L.take k) ++ [normA L[k]] := by
  unfold norm
  rw [List.take_succ_eq_append_getElem h, List.map_append]; rfl

set_option maxHeartbeats 2000000 in
theorem norm_any {w : World} {S : Nat → Prop} {v : Value} {L : List Av} (h : As w S v L) (hf : Fits L) :
    Calls Tryd.prog 39 #[v] w fun e w' => ∃ v', e = .returned v' ∧ OwnA w' v' (norm L) ∧ Fresh w.heap.size v' ∧ Ext w w' := by
  have hl := hf.2
  obtain ⟨A, c, rfl, h1, h2, h3, h4⟩ := h.open_ avc_len
  go_enter Tryd.func39, Tryd.ntmps39
  go_wp2_with ((with_reducible show wpList _ _ _ (⟨some 8, _, _, _, _, _⟩ :: _) _ _); refine wp_makeR0 tyA avc L.length rfl (.const _) (.tmp 7) rfl rfl rfl (by omega) ?_; intro w1 hown1 hext1 hlt1)
  go_loopw [3, 11] (fun vo i wr => ∃ k : Nat, k ≤ L.length ∧ i = .int .i64 k ∧ OwnA wr vo (norm (L.take k)) ∧ Fresh w.heap.size vo ∧ Ext w wr) (fun _ i _ => L.length - (intOf i).toNat)
  case atStart => exact ⟨0, Nat.zero_le _, rfl, hown1, fun k hk => by have : w.heap.size = k := Option.some.inj hk; omega, hext1⟩
  case round =>
    obtain ⟨k, hk, rfl, p1, p2, p3⟩ := hrel
    by_cases hlt : k < L.length
    · have hbl : decide ((k : Int) < (L.length : Int)) = true := dtrue (by omega)
      obtain ⟨ad, hA, hS, c0, c1⟩ := As.at_ (h4.ext p3) hlt
      subst hA
      obtain ⟨k1, k2⟩ := hf.at_ hlt
      have hsn := norm_snoc L hlt
      have hln : (norm (L.take k)).length = k := by unfold norm; simp; omega
      generalize L[k] = x at *
      generalize norm (L.take k) = M at *
      replace hsn := Lib.hid hsn
      have hn1 := Lib.hid (show (M.length + 1) * 32 ≤ 140737488355328 by omega)
      clear hln
      go_wp2_with fail
      refine (dfold_any x k1 k2).mono ?_
      rintro e w2 ⟨rfl, q1⟩
      have hx2 : Ext wr w2 := ext_trans ((Mod.refl _ wr).alloc _) q1
      have p1' : OwnA w2 u3 M := p1.ext hx2
      obtain ⟨A3, c3, rfl⟩ := p1.shape
      go_wp2_with ((with_reducible show wpList _ _ _ (⟨some 19, _, _, _, _, _⟩ :: _) _ _); refine wp_appR tyA avc_len p1' rfl (avc_ok (normA x)) hn1.out rfl (.tmp 15) (.tmp 18) rfl rfl rfl ?_; intro v3 w3 g1 g2 g3)
      exact ⟨⟨k + 1, by omega, by go_num, by rw [hsn.out]; exact g1, g3.fresh p2 (ext_trans p3 hx2).size, ext_app0 (ext_trans p3 hx2) p2 g2⟩, by simp [intOf] <;> omega⟩
    · have hbl : decide ((k : Int) < (L.length : Int)) = false := dfalse (by omega)
      rw [List.take_of_length_le (by omega)] at p1
      go_wp2_with fail
      go_ret
      exact ⟨_, rfl, p1, p2, p3⟩

end Go.Proofs.YtjkpgmenipdkbaaDoor
