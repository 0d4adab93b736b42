/- table: the keys of cells, each once. -/
import Derived.Test.YthohghnfiicndaaDoorTabA
import Derived.Deep.CutBlock
namespace Go.Proofs.YthohghnfiicndaaDoor
open Go.RowKit
set_option maxRecDepth 100000

theorem tyS : SliceTy Tryd.prog 60 9 (.string ⟨#[]⟩) 16 := ⟨Tryd.underlying60, by kernel_rfl, rfl, by omega⟩
theorem keysTo_yes {L : List Ce} {k : Nat} {x : Ce} (h : L.getD k default = x) (hk : k = 0 ∨ x.key ≠ (L.getD (k - 1) default).key) : keysTo L (k + 1) = keysTo L k ++ [x.key] := by
  rw [keysTo_snoc]
  unfold keyAt
  rw [h, if_pos hk]
theorem keysTo_no {L : List Ce} {k : Nat} {x : Ce} (h : L.getD k default = x) (h0 : k ≠ 0) (hk : x.key = (L.getD (k - 1) default).key) : keysTo L (k + 1) = keysTo L k := by
  rw [keysTo_snoc]
  unfold keyAt
  rw [h, if_neg (by rintro (h | h); exact h0 h; exact h hk), List.append_nil]

set_option maxHeartbeats 8000000 in
theorem keys_any {w : World} {S : Nat → Prop} {v : Value} {L : List Ce} (h : Cs w S v L) (hl : L.length ≤ 1000000) :
    Calls Tryd.prog 33 #[v] w fun e w' => ∃ v', e = .returned v' ∧ Own w' 9 v' ((keysB L).map sv) ∧ Fresh w.heap.size v' ∧ Ext w w' := by
  obtain ⟨A, c, rfl, h1, h2, h3, h4⟩ := h.open_ cel_len
  clear h
  go_enter Tryd.func33, Tryd.ntmps33
  go_wp2_with fail
  go_loopw [3, 8] (fun u i wr => ∃ (k : Nat) (ks : List (List UInt8)), k ≤ L.length ∧ i = .int .i64 k ∧ Hid (ks = keysTo L k) ∧ ks.length ≤ k ∧ Own wr 9 u (ks.map sv) ∧ Fresh w.heap.size u ∧ Ext w wr) (fun _ i _ => L.length - (intOf i).toNat)
  case atStart => exact ⟨0, [], Nat.zero_le _, rfl, Lib.hid rfl, Nat.le_refl _, Own.nil _ _, fresh_nil _ _ _, Mod.refl _ _⟩
  case round =>
    obtain ⟨k, ks, hk, rfl, hks, hkl, ho, hf, hx⟩ := hrel
    by_cases hlt : k < L.length
    · have hbl : decide ((k : Int) < (L.length : Int)) = true := dtrue (by omega)
      obtain ⟨ad, hA, hS, c0, c1, c2, c3⟩ := Cs.at_ (h4.ext hx) hlt
      subst hA
      have hgd := getD_c L hlt
      have hyes := fun hh => (keysTo_yes hgd hh).trans (by rw [← hks.out])
      have hno := fun h0 hh => (keysTo_no hgd h0 hh).trans hks.out.symm
      have hi0 : (0 : Int) ≤ (k : Int) := by omega
      have hi1 : (k : Int) < (L.length : Int) := by omega
      by_cases hk0 : k = 0
      · generalize L[k] = x at *
        have hb0 : ((k : Int) == 0) = true := by rw [beq_iff_eq]; omega
        have hn := Lib.hid (hyes (.inl hk0)).symm
        clear hyes hno hgd hks hk0
        obtain ⟨wb, hwb⟩ : ∃ wb, wb = wr.alloc (.cells (car x) 37) := ⟨_, rfl⟩
        have xb : Ext wr wb := by rw [hwb]; exact (Mod.refl _ wr).alloc _
        have b0 : wb.cell? ⟨wr.heap.size, 0, none⟩ = some (sv x.key) := by rw [hwb]; exact Blk.cell (Blk.new wr _ _) 0
        replace hwb := Lib.hid hwb
        go_upto_region 5 with fail
        rw [← hwb.out]
        clear c0 c1 c2 c3
        go_quiet (fail)
        go_wp2_with ((with_reducible show wpList _ _ _ (⟨some 30, _, _, _, _, _⟩ :: _) _ _); refine wp_app tyS ((ho.mod (xb.drewN _) (fun _ _ h => h)).alloc _) (Sl.one _ _ _) (one_ok _ rfl) rfl _ _ rfl rfl rfl (by simp; omega) ?_; intro u' w3 o3 m3 n3)
        exact ⟨⟨k + 1, ks ++ [x.key], by omega, by go_num, hn, by simp; omega, by rw [List.map_append]; exact o3, n3.fresh hf (by have := hx.size; have := xb.size; simp; omega), ext_app (ext_trans hx (xb.drewN _)) hf m3⟩, by simp [intOf] <;> omega⟩
      obtain ⟨j, rfl⟩ : ∃ j, k = j + 1 := ⟨k - 1, by omega⟩
      have hj : j < L.length := by omega
      have hx' : ∀ {wx : World}, Ext w wx → wx.cell? (ad.add (j * 4)) = some (sv L[j].key) := fun h => by
        obtain ⟨ad', hA, _, d0, _⟩ := Cs.at_ (h4.ext h) hj
        cases hA
        exact d0
      rw [show j + 1 - 1 = j by omega, getD_c L hj] at hyes hno
      have hb0 : ((((j + 1 : Nat) : Int)) == 0) = false := by rw [beq_eq_false_iff_ne]; omega
      have hj0 : (0 : Int) ≤ (j : Int) := by omega
      have hj1 : (j : Int) < (L.length : Int) := by omega
      have hj5 : IntKind.i64.wrap (j : Int) = (j : Int) := by rw [IntKind.wrap_i64]; omega
      generalize L[j] = y at *
      generalize L[j + 1] = x at *
      have no0 := hno (by omega)
      obtain ⟨wb, hwb⟩ : ∃ wb, wb = wr.alloc (.cells (car x) 37) := ⟨_, rfl⟩
      have xb : Ext wr wb := by rw [hwb]; exact (Mod.refl _ wr).alloc _
      have b0 : wb.cell? ⟨wr.heap.size, 0, none⟩ = some (sv x.key) := by rw [hwb]; exact Blk.cell (Blk.new wr _ _) 0
      have b1 := hx' (ext_trans hx xb)
      have ob := ho.mod xb (fun _ _ h => h)
      replace hwb := Lib.hid hwb
      clear hno hx'
      by_cases he : x.key = y.key
      · have hn := Lib.hid (no0 he).symm
        have hq : (x.key == y.key) = true := by rw [he]; exact beq_self_eq_true _
        clear hyes no0 hgd hks he
        go_upto_region 5 with fail
        rw [← hwb.out]
        clear c0 c1 c2 c3
        go_quiet (fail)
        go_wp2_with fail
        exact ⟨⟨j + 1 + 1, ks, by omega, by go_num, hn, by omega, ob, hf, ext_trans hx (xb.drewN _)⟩, by simp [intOf] <;> omega⟩
      · have hn := Lib.hid (hyes (.inr he)).symm
        have hq : (x.key == y.key) = false := beq_eq_false_iff_ne.2 he
        clear hyes no0 hgd hks he
        go_upto_region 5 with fail
        rw [← hwb.out]
        clear c0 c1 c2 c3
        go_quiet (fail)
        go_wp2_with ((with_reducible show wpList _ _ _ (⟨some 30, _, _, _, _, _⟩ :: _) _ _); refine wp_app tyS ((ob.drewN _).alloc _) (Sl.one _ _ _) (one_ok _ rfl) rfl _ _ rfl rfl rfl (by simp; omega) ?_; intro u' w3 o3 m3 n3)
        exact ⟨⟨j + 1 + 1, ks ++ [x.key], by omega, by go_num, hn, by simp; omega, by rw [List.map_append]; exact o3, n3.fresh hf (by have := hx.size; have := xb.size; simp; omega), ext_app (ext_trans hx (xb.drewN _)) hf m3⟩, by simp [intOf] <;> omega⟩
    have hbl : decide ((k : Int) < (L.length : Int)) = false := dfalse (by omega)
    obtain rfl : k = L.length := by omega
    go_wp2_with fail
    go_ret
    exact ⟨_, rfl, by unfold keysB; rw [← hks.out]; exact ho, hf, hx⟩
end Go.Proofs.YthohghnfiicndaaDoor
