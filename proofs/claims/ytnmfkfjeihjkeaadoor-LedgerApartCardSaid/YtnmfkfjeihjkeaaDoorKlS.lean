/- ledger: At. -/
import Derived.Test.YtnmfkfjeihjkeaaDoorKlQ
namespace Go.Proofs.YtnmfkfjeihjkeaaDoor
open Go.RowKit Go.Maps Go.WideMaps
set_option maxRecDepth 100000

section
variable {U : Nat → Prop} {w : World} {g bd : Nat} {dv ew : Value} {vs : List Value} {l : Lst}
set_option maxHeartbeats 8000000 in
theorem at5_any (h : LgAt U w g bd dv ew vs l) {i k : Nat} (hk : k < l.es.length) (hi : i = l.base + 1 + k) :
    Calls Tryd.prog 38 #[pv g, .int .i64 (i : Int)] w fun e w' => ∃ u, e = .returned (.tuple #[u, .int .i64 0]) ∧ Own w' 5 u (l.es[k].map bv) ∧ Fresh w.heap.size u ∧ Ext w w' := by
  have c2 : w.cell? ⟨g, 2, none⟩ = some (.int .i64 (l.base : Int)) := h.blk.cell 2
  have c4 : w.cell? ⟨g, 4, none⟩ = some ew := h.blk.cell 4
  have hcl := last5_any h
  have hpl : l.es[k].length ≤ 1000000 := h.small _ (List.getElem_mem hk)
  have hpl2 := hpl
  have hR : Rw w (fun _ => True) ew l.es := ⟨vs, h.len, h.ents.sl.mono (fun _ _ _ => trivial), fun k x e h1 h2 => (h.els k x e h1 h2).mono fun _ _ _ => trivial⟩
  obtain ⟨A, c, vs', rfl, p1, p2, p3, p0, p5, p6⟩ := hR.open_
  obtain ⟨ad, y, hA, hS, hc, hB⟩ := row_at p0 p5 p6 hk
  subst hA
  obtain ⟨yA, yc, hy, -, -, -, -⟩ := hB.open_
  generalize l.es[k].length = yn at hy hpl
  subst hy
  have hb1 : decide (i ≤ l.base) = false := dfalse (by omega)
  have hb2 : decide (lastL5 l < i) = false := dfalse (by simp only [lastL5]; omega)
  have hbb := h.bb
  have hel := h.el
  have hk9 : k < 100000 := by omega
  have hs1 : (i : Int) - (l.base : Int) = (k : Int) + 1 := by omega
  have hi9 : i ≤ 1099511727780 := by omega
  have hk0 : (0 : Int) ≤ (k : Int) := by omega
  have hw1 : IntKind.i64.wrap ((k : Int) + 1) = (k : Int) + 1 := IntWalk.i64_in _ ⟨by omega, by omega⟩
  have hw2 : IntKind.i64.wrap ((k : Int) + 1 - 1) = (k : Int) := by rw [Int.add_sub_cancel]; exact IntWalk.i64_in _ ⟨by omega, by omega⟩
  have hw3 : IntKind.i64.wrap (k : Int) = (k : Int) := IntWalk.i64_in _ ⟨by omega, by omega⟩
  have hki : (k : Int) < (l.es.length : Int) := by omega
  have hcc : ∀ {wx : World}, Ext w wx → wx.cell? ⟨g, 2, none⟩ = some (.int .i64 (l.base : Int)) ∧ wx.cell? ⟨g, 4, none⟩ = some (.slice (some ad) l.es.length c) ∧ wx.cell? (ad.add k) = some (.slice yA yn yc) := fun q => ⟨(q.cell (lt_of_cell c2) (fun h => h)).trans c2, (q.cell (lt_of_cell c4) (fun h => h)).trans c4, (q.cell (lt_of_cell hc) (fun h => h)).trans hc⟩
  have hj : ∀ {wb : World}, Ext w wb → Calls Tryd.prog 70 #[.slice (some ⟨wb.heap.size, 0, none⟩) 1 1] ((wb.alloc (.cells #[.slice yA yn yc] 32)).drew) fun e w' => ∃ v', e = .returned v' ∧ Own w' 5 v' (l.es[k].map bv) ∧ Fresh wb.heap.size v' ∧ Ext wb w' := fun {wb} q => by
    have hr := (Rw.one 32 (hB.ext q)).mod ((Mod.refl (fun _ => False) _).drew) (fun _ _ _ h => h)
    refine (join_any hr (by simp; exact Nat.le_trans hpl2 (by omega))).mono fun e w' ⟨v', q1, q2, q3, q4⟩ => ⟨v', q1, by simpa using q2, q3.mono (by simp [World.drew]), ext_trans ((Mod.refl _ wb).alloc _).drew q4⟩
  clear hR hB p5 p6 h c2 c4 hc hel hpl hpl2 hi
  generalize l.es[k].map bv = D at *
  generalize l.es.length = ne at *
  generalize lastL5 l = la at *
  generalize l.base = b at *
  go_enter Tryd.func38, Tryd.ntmps38
  have z2 := (hcc (Mod.refl _ w)).1
  go_wp2_with fail
  refine hcl.mono ?_
  rintro e w1 ⟨rfl, k1, hw1⟩
  have x1 : Ext w w1 := by rw [hw1]; exact (Mod.refl _ w).drewN k1
  clear hcl hw1
  go_wp2_with fail
  have q0 : Ext w1 w1.drew := (Mod.refl _ w1).drew
  have qE : Ext w1 ((w1.alloc (.cells #[.slice yA yn yc] 32)).drew) := ((Mod.refl _ w1).alloc _).drew
  have hj1 := hj x1
  have e0 := hcc (ext_trans x1 q0)
  have eE := hcc (ext_trans x1 qE)
  clear hj z2
  have hz1 := x1.size
  go_region_held3 (fun wx => wx.cell? ⟨g, 2, none⟩ = some (.int .i64 (b : Int)) ∧ wx.cell? ⟨g, 4, none⟩ = some (.slice (some ad) ne c) ∧ wx.cell? (ad.add k) = some (.slice yA yn yc)) (first | exact e0 | exact eE | exact hkX)
    (first
      | (go_at_call 70; (with_reducible refine hj1.mono ?_); rintro e w2 ⟨v2, rfl, o2, f2, q2⟩; have hkX := hcc (ext_trans x1 q2)))
  all_goals go_wp2_with fail
  all_goals go_ret2
  all_goals exact ⟨_, rfl, o2, f2.mono hz1, ext_trans x1 q2⟩
end
end Go.Proofs.YtnmfkfjeihjkeaaDoor
