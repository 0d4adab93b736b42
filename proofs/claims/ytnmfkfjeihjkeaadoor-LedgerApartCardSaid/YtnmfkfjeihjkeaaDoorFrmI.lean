/- frame: rows of a call's own; Scan. -/
import Derived.Test.YtnmfkfjeihjkeaaDoorFrmF
import Derived.Test.YtnmfkfjeihjkeaaDoorRecB
namespace Go.Proofs.YtnmfkfjeihjkeaaDoor
open Go.RowKit
set_option maxRecDepth 100000

/-- Rows of a call's own, each in blocks of its own. -/
structure Orw (w : World) (B : Nat) (v : Value) (vs : List Value) (L : List (List UInt8)) : Prop where
  own : Own w 32 v vs
  fresh : Fresh B v
  len : vs.length = L.length
  els : ∀ (k : Nat) (x : Value) (l : List UInt8), vs[k]? = some x → L[k]? = some l → Own w 5 x (l.map bv) ∧ Fresh B x
section
variable {w w' : World} {B : Nat} {v v' x : Value} {vs : List Value} {L : List (List UInt8)} {l : List UInt8}
theorem Orw.nil (w : World) (B : Nat) : Orw w B (.slice none 0 0) [] [] := ⟨Own.nil _ _, fresh_nil _ _ _, rfl, fun k x l h => by simp at h⟩
theorem Orw.ext (h : Orw w B v vs L) (hm : Ext w w') : Orw w' B v vs L :=
  ⟨h.own.mod hm (fun _ _ h => h), h.fresh, h.len, fun k x l h1 h2 => ⟨(h.els k x l h1 h2).1.mod hm (fun _ _ h => h), (h.els k x l h1 h2).2⟩⟩
theorem Orw.alloc (h : Orw w B v vs L) (o : Obj) : Orw (w.alloc o) B v vs L := h.ext ((Mod.refl _ w).alloc o)
theorem Orw.snoc (h : Orw w B v vs L) (h1 : Own w' 32 v' (vs ++ [x])) (h2 : Mod (Go.Proofs.YtnmfkfjeihjkeaaDoor.own v) w w') (h3 : Next w.heap.size v v') (hx : Own w 5 x (l.map bv)) (hf : Fresh B x) (hB : B ≤ w.heap.size) : Orw w' B v' (vs ++ [x]) (L ++ [l]) := by
  have ne : ∀ {y : Value} {m : List UInt8}, Own w 5 y (m.map bv) → Own w' 5 y (m.map bv) := fun hy =>
    hy.mod h2 (fun k hk hv => own_ne h.own hy (by decide) hv hk)
  refine ⟨h1, h3.fresh h.fresh hB, by rw [List.length_append, List.length_append, h.len]; rfl, fun k y m hy hm => ?_⟩
  by_cases hk : k < vs.length
  · rw [List.getElem?_append_left hk] at hy
    rw [List.getElem?_append_left (by rw [← h.len]; exact hk)] at hm
    exact ⟨ne (h.els k y m hy hm).1, (h.els k y m hy hm).2⟩
  · rw [List.getElem?_append_right (by omega)] at hy
    rw [List.getElem?_append_right (by rw [← h.len]; omega), ← h.len] at hm
    have hk0 : k - vs.length = 0 := by
      rcases Nat.eq_zero_or_pos (k - vs.length) with h0 | h0
      · exact h0
      · rw [List.getElem?_eq_none (by simp only [List.length_singleton]; omega)] at hy; cases hy
    rw [hk0] at hy hm
    simp only [List.getElem?_cons_zero, Option.some.injEq] at hy hm
    subst hy; subst hm
    exact ⟨ne hx, hf⟩
theorem Orw.rw (h : Orw w B v vs L) : Rw w (fun _ => True) v L :=
  ⟨vs, h.len, h.own.sl.mono (fun _ _ _ => trivial), fun k x l h1 h2 => (h.els k x l h1 h2).1.sl.mono (fun _ _ _ => trivial)⟩
end

set_option maxHeartbeats 2000000 in
theorem scan_any {w : World} {S : Nat → Prop} {v : Value} {l : List UInt8} (h : Bs w S v l) (hN : Nib w) (hl : l.length ≤ 1000000) :
    Calls Tryd.prog 96 #[v] w fun e w' => ∃ v', e = .returned (.tuple #[v', .int .i64 ((scan l).2 : Nat)]) ∧ (∃ vs, Orw w' w.heap.size v' vs (scan l).1) ∧ Ext w w' := by
  have h0 := h
  obtain ⟨A, c, rfl, h1, h2, h3, h4⟩ := h.open_
  go_enter Tryd.func96, Tryd.ntmps96
  go_wp2_with fail
  go_loopw [4, 5] (fun v i wr => ∃ (vs : List Value) (L0 : List (List UInt8)) (g : Nat), i = .int .i64 g ∧ g ≤ l.length ∧ Orw wr w.heap.size v vs L0 ∧ Ext w wr ∧ L0.length ≤ g ∧ Hid (scan l = (L0 ++ (scan (l.drop g)).1, g + (scan (l.drop g)).2))) (fun _ i _ => l.length - (intOf i).toNat)
  case atStart => exact ⟨[], [], 0, rfl, Nat.zero_le _, Orw.nil _ _, Mod.refl _ _, Nat.le_refl _, Lib.hid (by rw [List.drop_zero, List.nil_append, Nat.zero_add])⟩
  case round =>
    obtain ⟨vs, L0, g, rfl, hg, horw, hx, hL0, hsc⟩ := hrel
    have hdl : (l.drop g).length ≤ 140737488355328 := by rw [List.length_drop]; omega
    have hr : Bs wr S (.slice A l.length c) l := h0.ext hx
    have hgi : (g : Int) ≤ (l.length : Int) := by omega
    have hgi0 : (0 : Int) ≤ (g : Int) := by omega
    have hlc : (l.length : Int) ≤ (c : Int) := by omega
    by_cases hcg : c = g
    · have hb := hr.rest0 (m := g) hg hcg
      rw [show l.length - g = 0 by omega] at hb
      have hgc := hcg.symm
      subst hgc
      go_wp2_with fail
      refine (look_any hb (hN.mod hx (fun h => h)) hdl).mono ?_
      rintro e w1 ⟨v1, rfl, g1, g2⟩
      have hx1 := ext_trans hx g2
      have horw1 := horw.ext g2
      have hsz := @dec_size (l.drop g)
      have her := @dec_err (l.drop g)
      have hok := @scan_ok (l.drop g)
      have hno := @scan_no (l.drop g)
      obtain ⟨p, n, er, hd⟩ : ∃ p n er, dec (l.drop g) = (p, n, er) := ⟨_, _, _, rfl⟩
      rw [hd] at g1 hsz her hok hno ⊢
      simp only at g1 hsz her hok hno ⊢
      by_cases he : er = 0
      · subst he
        have hn := hsz rfl
        rw [List.length_drop] at hn
        exfalso
        omega
      · have hb5 : ((er : Int) != 0) = true := by rw [bne_iff_ne]; omega
        have hsc2 := hno he
        go_wp2_with fail
        go_ret2
        rw [hsc.out, hsc2, List.append_nil, Nat.add_zero]
        exact ⟨_, rfl, ⟨vs, horw1⟩, hx1⟩
    · have hb := hr.rest (m := g) hg
      have hA : ∃ ad, A = some ad := by
        rcases A with _ | ad
        · have := h3 rfl; omega
        · exact ⟨ad, rfl⟩
      obtain ⟨ad, rfl⟩ := hA
      simp only [Option.map_some] at hb
      go_wp2_with fail
      refine (look_any hb (hN.mod hx (fun h => h)) hdl).mono ?_
      rintro e w1 ⟨v1, rfl, g1, g2⟩
      have hx1 := ext_trans hx g2
      have horw1 := horw.ext g2
      have hsz := @dec_size (l.drop g)
      have her := @dec_err (l.drop g)
      have hok := @scan_ok (l.drop g)
      have hno := @scan_no (l.drop g)
      obtain ⟨p, n, er, hd⟩ : ∃ p n er, dec (l.drop g) = (p, n, er) := ⟨_, _, _, rfl⟩
      rw [hd] at g1 hsz her hok hno ⊢
      simp only at g1 hsz her hok hno ⊢
      by_cases he : er = 0
      · subst he
        have hn := hsz rfl
        rw [List.length_drop] at hn
        have hsc2 := hok rfl
        rw [List.drop_drop] at hsc2
        obtain ⟨A1, c1, rfl, y1, y2, y3, y4⟩ := g1.open_
        have hpl : p.length ≤ 140737488355328 := by
          have := (dec_ok (l := l.drop g) (by rw [hd])).2.2.2.2.2
          rw [hd] at this
          have h9 : p = ((l.drop g).drop 8).take (from4 (l.drop g)) := congrArg (fun t => t.1) this
          rw [h9]; simp only [List.length_take, List.length_drop]; omega
        replace hsc2 := Lib.hid hsc2
        clear hsz her hok hno hb horw hd
        go_wp2_with fail
        refine (join_any (Rw.one 32 g1) (by simpa using hpl)).mono ?_
        rintro e w2 ⟨v2, rfl, k1, k2, k3⟩
        have hx2 : Ext w1 w2 := ext_trans ((Mod.refl _ w1).alloc _) k3
        have horw2 := horw1.ext hx2
        have hxa := ext_trans hx1 hx2
        rw [show ([p] : List (List UInt8)).flatten = p by simp] at k1
        have hf2 : Fresh w.heap.size v2 := k2.mono (by have := hx1.size; simp; omega)
        obtain ⟨A2, c2, rfl⟩ := k1.shape
        rw [List.length_map] at k1 hf2 ⊢
        have hn1 : (vs.length + ([.slice A2 p.length c2] : List Value).length) * 24 ≤ 140737488355328 := by rw [horw2.len]; simp; omega
        replace hn1 := Lib.hid hn1
        have hsl := Sl.one w2 32 (.slice A2 p.length c2)
        have ho := one_ok (.slice A2 p.length c2) rfl
        have hown1 := horw2.own.alloc (.cells #[.slice A2 p.length c2] 32)
        have k1a := k1.alloc (.cells #[.slice A2 p.length c2] 32)
        have hwr : IntKind.i64.wrap ((g : Int) + (n : Int)) = ((g + n : Nat) : Int) := by rw [IntKind.wrap_i64]; omega
        clear g1 g2 k2 k3 y1 y2 y3 y4
        go_wp2_with ((with_reducible show wpList _ _ _ (⟨some 26, _, _, _, _, _⟩ :: _) _ _); refine wp_app tyR hown1 hsl ho rfl (.tmp 21) (.tmp 25) rfl rfl rfl hn1.out ?_; intro v4 w4 q1 q2 q3)
        refine ⟨⟨vs ++ [.slice A2 p.length c2], L0 ++ [p], g + n, by go_num, by omega, (horw2.alloc _).snoc q1 q2 (q3.sooner (by simp)) k1a hf2 (by simp; have := hxa.size; omega), ext_app hxa horw2.fresh q2, by simp; omega, Lib.hid ?_⟩, by simp [intOf] <;> omega⟩
        rw [hsc.out, hsc2.out]
        simp only [List.append_assoc, List.singleton_append, Nat.add_assoc]
      · have hb5 : ((er : Int) != 0) = true := by rw [bne_iff_ne]; omega
        have hsc2 := hno he
        go_wp2_with fail
        go_ret2
        rw [hsc.out, hsc2, List.append_nil, Nat.add_zero]
        exact ⟨_, rfl, ⟨vs, horw1⟩, hx1⟩
end Go.Proofs.YtnmfkfjeihjkeaaDoor
