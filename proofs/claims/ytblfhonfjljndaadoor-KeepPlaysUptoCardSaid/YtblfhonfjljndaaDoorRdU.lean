/- disk: the document's Rename, the whole. -/
import Derived.Test.YtblfhonfjljndaaDoorRdT
namespace Go.Proofs.YtblfhonfjljndaaDoor
open Go.RowKit Go.Maps Go.WideMaps
set_option maxRecDepth 100000

section
variable {S T F V : Nat → Prop} {w w' : World} {bd : Nat} {vL v : Value} {A : List (Fi × Value)} {d : Ds} {b : List UInt8}
set_option maxHeartbeats 8000000 in
theorem rrename_any (h : Dz S w v d) (x y : List UInt8) :
    Calls Tryd.prog 58 #[v, sv x, sv y] w fun e w' => e = .returned (ev (renameD d x y).2) ∧ Dz (Grow S w) w' v (renameD d x y).1 ∧ Mod S w w' := by
  obtain ⟨bd, vL, A, rfl, h⟩ := h
  unfold renameD
  have xa : Ext w (w.alloc (.cells #[sv x, sv y] 9)) := (Mod.refl _ _).alloc _
  have hcm := rmay_any (h.mod xa (fun _ _ _ h => h)) (two_names w x y) (by simp)
  by_cases hb : begD d [x, y] = 0
  case neg =>
    have hn := n_ne0 hb
    have hd := h.rd
    rw [if_pos hb]
    clear h hb
    generalize begD d [x, y] = n at *
    go_enter Tryd.func58, Tryd.ntmps58
    go_wp2_with fail
    refine hcm.mono ?_
    rintro e w1 ⟨rfl, x1⟩
    clear hcm
    go_wp2_with fail
    go_ret
    exact ⟨rfl, (hd.ext (ext_trans xa x1)).grow w, (ext_trans xa x1).mono fun _ _ h => h.elim⟩
  rw [if_neg (fun h => h hb)]
  have hcs := fun (w' : World) (x1 : Ext w w') => spot_any (h.mod x1 (fun _ _ _ h => h)) x
  cases hx : getF d.L x with
  | none =>
    have hd := h.rd
    rw [hb] at hcm
    rw [hx] at hcs
    clear h hb hx
    generalize posF d.L x = n at *
    go_enter Tryd.func58, Tryd.ntmps58
    go_wp2_with fail
    refine hcm.mono ?_
    rintro e w1 ⟨rfl, x1⟩
    clear hcm
    replace hcs := hcs _ (ext_trans xa x1)
    go_wp2_with fail
    refine hcs.mono ?_
    rintro e w2 ⟨rfl, x2⟩
    clear hcs
    go_wp2_with fail
    go_ret
    exact ⟨rfl, (hd.ext (ext_trans (ext_trans xa x1) x2)).grow w, (ext_trans (ext_trans xa x1) x2).mono fun _ _ h => h.elim⟩
  | some f =>
    by_cases hxy : x = y
    · subst hxy
      simp only [if_true]
      have hxx : (x == x) = true := beq_self_eq_true _
      have hcd := fun (w' : World) (x1 : Ext w w') => did_any (h.mod x1 (fun _ _ _ h => h))
      have hSd := h.sd
      rw [hb] at hcm
      rw [hx] at hcs
      clear h hb hx
      generalize posF d.L x = n at *
      go_enter Tryd.func58, Tryd.ntmps58
      go_wp2_with fail
      refine hcm.mono ?_
      rintro e w1 ⟨rfl, x1⟩
      clear hcm
      replace hcs := hcs _ (ext_trans xa x1)
      go_wp2_with fail
      refine hcs.mono ?_
      rintro e w2 ⟨rfl, x2⟩
      have y2 := ext_trans (ext_trans xa x1) x2
      replace hcd := hcd _ y2
      clear hcs xa x1 x2
      go_wp2_with fail
      refine hcd.mono ?_
      rintro e w3 ⟨rfl, h3, m3⟩
      clear hcd
      go_wp2_with fail
      go_ret
      exact ⟨rfl, h3.rd.grow w, (y2.mono (G := S) fun _ _ h => h.elim).then_ m3 fun k _ e => e ▸ hSd⟩
    · simp only
      rw [if_neg hxy]
      have := rren_some h x y hb hx hxy
      rw [delF_comm] at this
      exact this
end
end Go.Proofs.YtblfhonfjljndaaDoor
