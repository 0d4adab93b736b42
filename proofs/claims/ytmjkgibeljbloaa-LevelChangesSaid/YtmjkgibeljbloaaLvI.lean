/- level: what is due: the program's. -/
import Derived.Test.YtmjkgibeljbloaaLvG
import Derived.Test.YtmjkgibeljbloaaLvH
namespace Go.Proofs.Ytmjkgibeljbloaa
open Go.RowKit
set_option maxRecDepth 100000

section
variable {P : Program} {w : World} {t e : TypeId} {z : Value} {k bytes : Nat} {ops : Array Oper} {o : Oper} {a : Act} {Q : Exit → Act → World → Prop} {α : Type} {f : α → List Value} {S : Nat → Prop}
theorem run_appRs (hT : SliceTyK P t e z k bytes) (ty : TypeId) {v y : Value} {L M : List α} (hown : OwnR f k w e v L) (hr : Rc f k w S y M) (h1 : ∀ x ∈ M, ∀ u ∈ f x, u.oneCell' = true) (hn : (L.length + M.length) * bytes ≤ 140737488355328) :
    ∃ v' w', (Builtin.append_ #[t, t] ty #[v, y]).run P w = .ok v' w' ∧ OwnR f k w' e v' (L ++ M) ∧ Mod (own v) w w' ∧ Next w.heap.size v v' := by
  obtain ⟨v', w', hrun, h2, h3, h4⟩ := run_appk hT ty hown hr (fun u hu => by obtain ⟨x, hm, hx⟩ := List.mem_flatMap.1 hu; exact h1 x hm u hx) hn
  exact ⟨v', w', hrun, by unfold OwnR; rw [List.length_append, List.flatMap_append]; exact h2, h3, h4⟩
/-- append(v, ys...). -/
theorem wp_appRm {rest : List Oper} (hT : SliceTyK P t e z k bytes) {v y : Value} {L M : List α} (hown : OwnR f k w e v L) (hr : Rc f k w S y M) (h1 : ∀ x ∈ M, ∀ u ∈ f x, u.oneCell' = true) (hn : (L.length + M.length) * bytes ≤ 140737488355328)
    (hgd : o.guard = none) (s x : Operand) (ho : o.op = .call { callee := .builtin .append, args := #[s, x], argTypes := #[t, t] }) (hs : a.eval s = v) (hx : a.eval x = y)
    (h : ∀ v' w', OwnR f k w' e v' (L ++ M) → Mod (own v) w w' → Next w.heap.size v v' → wpList P ops Q rest (a.put o.dst v') w') : wpList P ops Q (o :: rest) a w :=
  wp_appk hT hown hr (fun u hu => by obtain ⟨x, hm, hx⟩ := List.mem_flatMap.1 hu; exact h1 x hm u hx) hgd s x ho hs hx hn fun v' w' k1 k2 k3 => h v' w' (by unfold OwnR; rw [List.length_append, List.flatMap_append]; exact k1) k2 k3
/-- append(v, ys...) at a step of a region that draws. -/
theorem step_appRs {K : Act → World → Prop} {E : Prop} (d : Tmp) (hT : SliceTyK P t e z k bytes) {v y : Value} {L M : List α} (hown : OwnR f k w e v L) (hr : Rc f k w S y M) (h1 : ∀ x ∈ M, ∀ u ∈ f x, u.oneCell' = true) (hn : (L.length + M.length) * bytes ≤ 140737488355328)
    (hgd : o.guard = none) (hd : o.dst = some d) (s yy : Operand) (ho : o.op = .call { callee := .builtin .append, args := #[s, yy], argTypes := #[t, t] }) (hs : a.eval s = v) (hy : a.eval yy = y)
    (h : ∀ v' w', OwnR f k w' e v' (L ++ M) → Mod (own v) w w' → Next w.heap.size v v' → K (a.put o.dst v') w') : if Region.wanted o (yielded ops a.tmps) = true then Oper.wp P o a w K Q else E := by
  have hw : Region.wanted o (yielded ops a.tmps) = true := by simp [Region.wanted, hgd]
  rw [if_pos hw]
  obtain ⟨v', w', hrun, h2, h3, h4⟩ := run_appRs (P := P) hT o.type hown hr h1 hn
  unfold Oper.wp execOp
  simp only [ho, resolve, invoke, builtin, Sem.run_bind, Sem.run_pure, Result.andThen_ok, List.map_toArray, List.map_cons, List.map_nil, hs, hy, hrun]
  simp only [Oper.upon, hd]
  have := h v' w' h2 h3 h4
  rw [hd] at this
  exact this
end
theorem fic_all (M : List Fl) : ∀ x ∈ M, ∀ u ∈ fic x, u.oneCell' = true := fun x _ => fic_ok x
theorem OwnF.lit (w : World) (c : Fl) : OwnF (w.alloc (.cells (fia c) 48)) (.slice (some ⟨w.heap.size, 0, none⟩) 1 1) [c] :=
  ⟨rfl, .inr ⟨w.heap.size, 1, fia c, rfl, Nat.zero_le _, heap_alloc_new w _, Nat.le_refl _, by simp [maxLen], rfl, rfl⟩⟩

/-- The eldest file of level m, and what of the next level it meets. -/
def due (L : List Fl) (m : Nat) : List Fl := eld (levF m L) :: (levF ((m : Int) + 1) L).filter (inR (eld (levF m L)).first (eld (levF m L)).last)
/-- From level m on, of which there may be p files. -/
def pickR (L : List Fl) : Nat → Nat → Nat → List Fl × Bool
  | 0, _, _ => ([], false)
  | f + 1, m, p => if p < (levF m L).length then (due L m, true) else pickR L f (m + 1) (p * 4)
/-- All of level 0, and what of level 1 it meets. -/
def dueZ (L : List Fl) : List Fl := levF 0 L ++ (levF 1 L).filter (inR (bnd (levF 0 L)).1 (bnd (levF 0 L)).2)
/-- P11.3: what is due. -/
noncomputable def pickF (n : Int) (L : List Fl) : List Fl × Bool := if isV n L then (if 4 ≤ (levF 0 L).length then (dueZ L, true) else pickR L 3 1 4) else ([], false)
theorem isV.lev {n : Int} {L : List Fl} (h : isV n L) : ∀ c ∈ L, 0 ≤ c.lev ∧ c.lev ≤ 100 := fun c hc => by
  obtain ⟨k, hk, rfl⟩ := List.getElem_of_mem hc
  obtain ⟨_, h2, _⟩ := h.2.2.2 k hk
  exact ⟨h2.2.2.1, by have := h2.2.2.2.1; omega⟩

set_option maxHeartbeats 64000000 in
theorem pick_any {w : World} {S : Nat → Prop} {v : Value} {n : Int} {L : List Fl} (h : Fs w S v L) (hf : MFits L) :
    Calls Try.prog 13 #[.agg #[.int .i64 n, v]] w fun e w' => ∃ v', e = .returned (.tuple #[v', .bool (pickF n L).2]) ∧ OwnF w' v' (pickF n L).1 ∧ Fresh w.heap.size v' ∧ Ext w w' := by
  have hshape := h.shape
  obtain ⟨A, c, rfl⟩ := hshape
  have B0 : Blk (w.alloc (.cells #[.int .i64 n, .slice A L.length c] 24)) w.heap.size 24 #[.int .i64 n, .slice A L.length c] := Blk.new w _ _
  have hB : Ext w (w.alloc (.cells #[.int .i64 n, .slice A L.length c] 24)) := (Mod.refl _ w).alloc _
  obtain ⟨w0, hw0⟩ : ∃ w0, w0 = w.alloc (.cells #[.int .i64 n, .slice A L.length c] 24) := ⟨_, rfl⟩
  rw [← hw0] at B0 hB
  replace hw0 := Lib.hid hw0
  have b0 : w0.cell? ⟨w.heap.size, 0, none⟩ = some (.int .i64 n) := B0.cell 0
  have b1 : w0.cell? ⟨w.heap.size, 1, none⟩ = some (.slice A L.length c) := B0.cell 1
  have his := is_any (n := n) (h.ext hB) hf
  obtain ⟨R, hR⟩ : ∃ R, R = pickF n L := ⟨_, rfl⟩
  rw [← hR]
  by_cases hv : isV n L
  case neg =>
    rw [dfalse hv] at his
    have hE : Hid (R = ([], false)) := Lib.hid (hR.trans (if_neg hv))
    clear hR hv
    go_enter Try.func13, Try.ntmps13
    go_upto_region 1 with fail
    rw [← hw0.out]
    clear hw0
    go_wp2_with fail
    refine his.mono ?_
    rintro e w1 ⟨rfl, x1⟩
    go_wp2_with fail
    go_ret2
    exact ⟨_, by rw [hE.out]; rfl, by rw [hE.out]; exact OwnF.nil _, fresh_nil _ _ _, ext_trans hB x1⟩
  rw [dtrue hv] at his
  have hlv := hv.lev
  have hlen : L.length ≤ 1024 := hv.2.2.1
  have hfl : ∀ l, (levF l L).length ≤ 1024 := fun l => Nat.le_trans (List.length_filter_le _ _) hlen
  have hE : Hid (R = if 4 ≤ (levF 0 L).length then (dueZ L, true) else pickR L 3 1 4) := Lib.hid (hR.trans (if_pos hv))
  have hsp := fun {wx : World} (x : Ext w0 wx) => spotsOf_any (nx := n) ((h.ext hB).ext x) hlv (by omega)
  clear hR hv hlv h
  go_enter Try.func13, Try.ntmps13
  go_upto_region 1 with fail
  rw [← hw0.out]
  clear hw0
  go_wp2_with fail
  refine his.mono ?_
  rintro e w1 ⟨rfl, x1⟩
  have b0 := ext_cell x1 b0
  have b1 := ext_cell x1 b1
  go_wp2_with fail
  refine (hsp x1).mono ?_
  rintro e w2 ⟨b, D, rfl, hM, hD, hbw, x2⟩
  have y2 := ext_trans hB (ext_trans x1 x2)
  replace hD := Lib.hid hD
  clear hsp his b0 b1 hB x1 x2 B0
  go_wp2_with fail
  refine (level_any (l := 0) hM hD.out (by omega) (by omega) (by omega)).mono ?_
  rintro e w3 ⟨v3, rfl, o3, f3, x3⟩
  have hM3 := ownsMap_mod hM x3 (fun h => h)
  have y3 := ext_trans y2 x3
  have hf0 := hfl 0
  have hs2 := y2.size
  obtain ⟨A3, c3, e3⟩ := o3.shape
  subst e3
  clear hM x3 y2
  by_cases hz : 4 ≤ (levF 0 L).length
  case pos =>
    have hE2 : Hid (R = (dueZ L, true)) := Lib.hid (hE.out.trans (if_pos hz))
    have q1 : decide ((4 : Int) ≤ ((levF 0 L).length : Int)) = true := dtrue (by omega)
    have q1' : decide (4 ≤ (levF 0 L).length) = true := dtrue hz
    have hdz : Hid (dueZ L = levF 0 L ++ (levF 1 L).filter (inR (bnd (levF 0 L)).1 (bnd (levF 0 L)).2)) := Lib.hid rfl
    have hf1 := hfl 1
    obtain ⟨Z, hZ⟩ : ∃ Z, Z = levF 0 L := ⟨_, rfl⟩
    rw [← hZ] at o3 hz q1 q1' hdz hf0 f3 ⊢
    replace hZ := Lib.hid hZ
    go_wp2_with fail
    refine (bounds_any o3.rc (by omega) (by omega)).mono ?_
    rintro e w4 ⟨rfl, x4⟩
    have hM4 := ownsMap_mod hM3 x4 (fun h => h)
    have y4 := ext_trans y3 x4
    have o4 := o3.ext x4
    clear hM3 o3 x4
    go_wp2_with fail
    refine (level_any (l := 1) hM4 hD.out (by omega) (by omega) (by omega)).mono ?_
    rintro e w5 ⟨v5, rfl, o5, f5, x5⟩
    have y5 := ext_trans y4 x5
    have o45 := o4.ext x5
    clear hM4 o4
    go_wp2_with fail
    refine (over_any (lo := (bnd Z).1) (hi := (bnd Z).2) o5.rc (by omega)).mono ?_
    rintro e w6 ⟨v6, rfl, o6, f6, x6⟩
    have y6 := ext_trans y5 x6
    have o46 := o45.ext x6
    have hl6 : ((levF 1 L).filter (inR (bnd Z).1 (bnd Z).2)).length ≤ 1024 := Nat.le_trans (List.length_filter_le _ _) hf1
    have hs3 := f3.mono hs2
    obtain ⟨M6, hM6⟩ : ∃ M, M = (levF 1 L).filter (inR (bnd Z).1 (bnd Z).2) := ⟨_, rfl⟩
    rw [← hM6] at o6 hl6
    replace hM6 := Lib.hid hM6
    have hn : (Z.length + M6.length) * 56 ≤ 140737488355328 := by omega
    clear o5 o45 x5 x6 f5
    go_wp2_with ((with_reducible show wpList _ _ _ (⟨some 33, _, _, _, _, _⟩ :: _) _ _); refine wp_appRm tyF o46 o6.rc (fic_all _) hn rfl (.tmp 27) (.tmp 32) rfl rfl rfl ?_; intro va wa ka1 ka2 ka3)
    go_ret2
    refine ⟨_, by rw [hE2.out]; rfl, by rw [hE2.out, hdz.out, ← hM6.out]; exact ka1, ka3.fresh hs3 y6.size, y6.trans ka2 (fun _ _ h => h) (fun k hk h => by have := hs3 k h; omega)⟩
  have hE2 : Hid (R = pickR L 3 1 4) := Lib.hid (hE.out.trans (if_neg hz))
  have q1 : decide ((4 : Int) ≤ ((levF 0 L).length : Int)) = false := dfalse (by omega)
  have q1' : decide (4 ≤ (levF 0 L).length) = false := dfalse hz
  generalize levF 0 L = Z at *
  clear hE o3 f3
  go_wp2_with fail
  clear q1 q1' hz
  go_loopw [8, 9] (fun s t wr => ∃ (f m p : Nat), m + f = 4 ∧ 1 ≤ m ∧ p * 4 ^ f ≤ 256 ∧ s = .int .i64 p ∧ t = .int .i64 m ∧ Hid (R = pickR L f m p) ∧ MapF wr b L.length D ∧ Ext w wr) (fun _ t _ => 4 - (intOf t).toNat)
  case atStart => exact ⟨3, 1, 4, rfl, Nat.le_refl _, by decide, rfl, rfl, hE2, hM3, y3⟩
  case round =>
    clear hM3 y3 hE2
    obtain ⟨f, m, p, hmf, hm1, hp, rfl, rfl, hE, hM, hx⟩ := hrel
    cases f with
    | zero =>
      obtain rfl : m = 4 := by omega
      have hb : decide ((4 : Nat) < 4) = false := dfalse (by omega)
      have hE2 : Hid (R = ([], false)) := Lib.hid hE.out
      clear hE
      go_wp2_with fail
      go_ret2
      exact ⟨_, by rw [hE2.out]; rfl, by rw [hE2.out]; exact OwnF.nil _, fresh_nil _ _ _, hx⟩
    | succ f =>
    have hp2 : (p * 4) * 4 ^ f ≤ 256 := by rw [Nat.pow_succ] at hp; rw [Nat.mul_assoc, Nat.mul_comm 4]; exact hp
    have hpp : p * 4 ≤ 256 := Nat.le_trans (Nat.le_mul_of_pos_right _ (Nat.pow_pos (by omega))) hp2
    clear hp
    have hb : decide ((m : Int) < 4) = true := dtrue (by omega)
    have hb' : decide (m < 4) = true := dtrue (by omega)
    have hst : R = if p < (levF m L).length then (due L m, true) else pickR L f (m + 1) (p * 4) := hE.out
    replace hst := Lib.hid hst
    clear hE
    go_wp2_with fail
    refine (level_any (l := (m : Int)) hM hD.out (by omega) (by omega) (by omega)).mono ?_
    rintro e w4 ⟨v4, rfl, o4, f4, x4⟩
    have hM4 := ownsMap_mod hM x4 (fun h => h)
    have y4 := ext_trans hx x4
    have hf4 := hfl (m : Int)
    obtain ⟨A4, c4, e4⟩ := o4.shape
    subst e4
    clear hM x4 hx f4
    by_cases hg : p < (levF (m : Int) L).length
    case neg =>
      have q2 : decide ((p : Int) < ((levF (m : Int) L).length : Int)) = false := dfalse (by omega)
      have q2' : decide (p < (levF (m : Int) L).length) = false := dfalse hg
      have hE2 : Hid (R = pickR L f (m + 1) (p * 4)) := Lib.hid (hst.out.trans (if_neg hg))
      clear hst hg o4
      generalize levF (m : Int) L = Z4 at *
      go_wp2_with fail
      exact ⟨⟨f, m + 1, p * 4, by omega, by omega, hp2, by go_num, by go_num, hE2, hM4, y4⟩, by simp [intOf] <;> omega⟩
    have q2 : decide ((p : Int) < ((levF (m : Int) L).length : Int)) = true := dtrue (by omega)
    have q2' : decide (p < (levF (m : Int) L).length) = true := dtrue hg
    have hE2 : Hid (R = (due L m, true)) := Lib.hid (hst.out.trans (if_pos hg))
    have hdu : Hid (due L m = eld (levF m L) :: (levF ((m : Int) + 1) L).filter (inR (eld (levF m L)).first (eld (levF m L)).last)) := Lib.hid rfl
    have hel := eldest_any o4.rc (by omega) (by omega)
    clear hst o4
    generalize levF (m : Int) L = Z4 at *
    go_wp2_with fail
    refine hel.mono ?_
    rintro e w5 ⟨rfl, x5⟩
    have hM5 := ownsMap_mod hM4 x5 (fun h => h)
    have y5 := ext_trans y4 x5
    clear hel hM4 x5 y4
    generalize eld Z4 = x at *
    have hbx : Ext w5 (w5.alloc (.cells (fia x) 48)) := (Mod.refl _ w5).alloc _
    have hBF := Blk.new w5 48 (fia x)
    obtain ⟨w6, hw6⟩ : ∃ w6, w6 = w5.alloc (.cells (fia x) 48) := ⟨_, rfl⟩
    rw [← hw6] at hbx hBF
    have y6 := ext_trans y5 hbx
    have hM6 := ownsMap_mod hM5 hbx (fun h => h)
    obtain ⟨g, hg⟩ : ∃ g, g = w5.heap.size := ⟨_, rfl⟩
    rw [← hg] at hBF
    replace hw6 := Lib.hid hw6
    replace hg := Lib.hid hg
    clear hM5 y5 hbx
    have hbk : ∀ {wx : World}, Ext w6 wx → wx.cell? ⟨g, 0, none⟩ = some (.int .i64 x.id) ∧ wx.cell? ⟨g, 1, none⟩ = some (.int .i64 x.lev) ∧ wx.cell? ⟨g, 2, none⟩ = some (.int .i64 x.size) ∧ wx.cell? ⟨g, 3, none⟩ = some (sv x.first) ∧ wx.cell? ⟨g, 4, none⟩ = some (sv x.last) := fun xx => cell5 (hBF.mod xx (fun h => h))
    have q0 : Ext w6 w6.drew := (Mod.refl _ w6).drew
    have hlv := fun {wx : World} (xx : Ext w6 wx) => level_any (l := (m : Int) + 1) (ownsMap_mod hM6 xx (fun h => h)) hD.out (by omega) (by omega) (by omega)
    have hf5 := hfl ((m : Int) + 1)
    have hm5 : IntKind.i64.wrap ((m : Int) + 1) = (m : Int) + 1 := by rw [IntKind.wrap_i64]; omega
    clear hM6 hBF hD hfl
    generalize levF ((m : Int) + 1) L = Z5 at *
    obtain ⟨M7, hM7⟩ : ∃ M, M = Z5.filter (inR x.first x.last) := ⟨_, rfl⟩
    have hov := fun {wx : World} {T : Nat → Prop} {u : Value} (hu : Fs wx T u Z5) => over_any (lo := x.first) (hi := x.last) hu (by omega)
    have hl7 : M7.length ≤ 1024 := by rw [hM7]; exact Nat.le_trans (List.length_filter_le _ _) hf5
    rw [← hM7] at hov hdu
    clear hM7
    have hn : ([x].length + M7.length) * 56 ≤ 140737488355328 := by simp only [List.length_singleton]; omega
    have hw6s := y6.size
    go_upto_region 15 with fail
    rw [← hw6.out, ← hg.out]
    clear hw6 hg
    go_wp2_with fail
    refine wp_region_held_drew (S := fun wx => wx.cell? ⟨g, 0, none⟩ = some (.int .i64 x.id) ∧ wx.cell? ⟨g, 1, none⟩ = some (.int .i64 x.lev) ∧ wx.cell? ⟨g, 2, none⟩ = some (.int .i64 x.size) ∧ wx.cell? ⟨g, 3, none⟩ = some (sv x.first) ∧ wx.cell? ⟨g, 4, none⟩ = some (sv x.last)) (by kernel_rfl) (hbk q0) (fun hH => ?_)
    (refine wpAnyH_take (i := 0) (oi := ⟨_, _, _, _, _, _⟩) (v := ?tv1) rfl (by kernel_rfl) (by kernel_rfl) (by kernel_rfl) (fun _ _ _ h => h) (Or.inl ⟨by kernel_rfl, ?hy1⟩) hH ?rs1; (case hy1 => (intro wx hSw; (try dsimp only at hSw); go_simp; try with_reducible rfl)); try simp only [Act.put, List.setIfInBounds_toArray, List.set_cons_zero, List.set_cons_succ]; try simp only [List.getElem_toArray, List.getElem_cons_succ, List.getElem_cons_zero])
    (refine wpAnyH_take (i := 2) (oi := ⟨_, _, _, _, _, _⟩) (v := ?tv2) rfl (by kernel_rfl) (by kernel_rfl) (by kernel_rfl) (fun _ _ _ h => h) (Or.inl ⟨by kernel_rfl, ?hy2⟩) hH ?rs2; (case hy2 => (intro wx hSw; (try dsimp only at hSw); go_simp; try with_reducible rfl)); try simp only [Act.put, List.setIfInBounds_toArray, List.set_cons_zero, List.set_cons_succ]; try simp only [List.getElem_toArray, List.getElem_cons_succ, List.getElem_cons_zero])
    (refine wpAnyH_take (i := 3) (oi := ⟨_, _, _, _, _, _⟩) (v := ?tv3) rfl (by kernel_rfl) (by kernel_rfl) (by kernel_rfl) (fun _ _ _ h => h) (Or.inl ⟨by kernel_rfl, ?hy3⟩) hH ?rs3; (case hy3 => (intro wx hSw; (try dsimp only at hSw); go_simp; try with_reducible rfl)); try simp only [Act.put, List.setIfInBounds_toArray, List.set_cons_zero, List.set_cons_succ]; try simp only [List.getElem_toArray, List.getElem_cons_succ, List.getElem_cons_zero])
    (refine wpAnyH_take (i := 4) (oi := ⟨_, _, _, _, _, _⟩) (v := ?tv4) rfl (by kernel_rfl) (by kernel_rfl) (by kernel_rfl) (fun _ _ _ h => h) (Or.inl ⟨by kernel_rfl, ?hy4⟩) hH ?rs4; (case hy4 => (intro wx hSw; (try dsimp only at hSw); go_simp; try with_reducible rfl)); try simp only [Act.put, List.setIfInBounds_toArray, List.set_cons_zero, List.set_cons_succ]; try simp only [List.getElem_toArray, List.getElem_cons_succ, List.getElem_cons_zero])
    (refine wpAnyH_take (i := 6) (oi := ⟨_, _, _, _, _, _⟩) (v := ?tv5) rfl (by kernel_rfl) (by kernel_rfl) (by kernel_rfl) (fun _ _ _ h => h) (Or.inl ⟨by kernel_rfl, ?hy5⟩) hH ?rs5; (case hy5 => (intro wx hSw; (try dsimp only at hSw); go_simp; try with_reducible rfl)); try simp only [Act.put, List.setIfInBounds_toArray, List.set_cons_zero, List.set_cons_succ]; try simp only [List.getElem_toArray, List.getElem_cons_succ, List.getElem_cons_zero])
    (refine wpAnyH_take (i := 7) (oi := ⟨_, _, _, _, _, _⟩) (v := ?tv6) rfl (by kernel_rfl) (by kernel_rfl) (by kernel_rfl) (fun _ _ _ h => h) (Or.inl ⟨by kernel_rfl, ?hy6⟩) hH ?rs6; (case hy6 => (intro wx hSw; (try dsimp only at hSw); go_simp; try with_reducible rfl)); try simp only [Act.put, List.setIfInBounds_toArray, List.set_cons_zero, List.set_cons_succ]; try simp only [List.getElem_toArray, List.getElem_cons_succ, List.getElem_cons_zero])
    (refine wpAnyH_take (i := 8) (oi := ⟨_, _, _, _, _, _⟩) (v := ?tv7) rfl (by kernel_rfl) (by kernel_rfl) (by kernel_rfl) (fun _ _ _ h => h) (Or.inl ⟨by kernel_rfl, ?hy7⟩) hH ?rs7; (case hy7 => (intro wx hSw; (try dsimp only at hSw); go_simp; try with_reducible rfl)); try simp only [Act.put, List.setIfInBounds_toArray, List.set_cons_zero, List.set_cons_succ]; try simp only [List.getElem_toArray, List.getElem_cons_succ, List.getElem_cons_zero])
    (refine wpAnyH_take (i := 9) (oi := ⟨_, _, _, _, _, _⟩) (v := ?tv8) rfl (by kernel_rfl) (by kernel_rfl) (by kernel_rfl) (fun _ _ _ h => h) (Or.inl ⟨by kernel_rfl, ?hy8⟩) hH ?rs8; (case hy8 => (intro wx hSw; (try dsimp only at hSw); go_simp; try with_reducible rfl)); try simp only [Act.put, List.setIfInBounds_toArray, List.set_cons_zero, List.set_cons_succ]; try simp only [List.getElem_toArray, List.getElem_cons_succ, List.getElem_cons_zero])
    refine wpAnyH_ready (rs := [1, 5]) (by kernel_rfl) (by simp) ?_
    refine AllReadyH.cons rfl (fun K hK => ?_) (AllReadyH.cons rfl (fun K hK => ?_) AllReadyH.nil)
    case' refine_1 =>
      have oL := OwnF.lit w6.drew x
      have qa : Ext w6 (w6.drew.alloc (.cells (fia x) 48)) := q0.alloc _
      have fL : Fresh w6.heap.size (.slice (some ⟨w6.drew.heap.size, 0, none⟩) 1 1) := fun k hk => by (have h9 : w6.drew.heap.size = k := Option.some.inj hk); have h8 := q0.size; omega
      go_simp
      (go_wp2_with fail; refine hK.out _ _ (hbk qa) (fun hH => ?_); clear hK K; try simp only [Act.put, List.setIfInBounds_toArray, List.set_cons_zero, List.set_cons_succ]; try simp only [List.getElem_toArray, List.getElem_cons_succ, List.getElem_cons_zero])
      (refine wpAnyH_ready (rs := [5]) (by kernel_rfl) (by simp) ?_; refine AllReadyH.cons rfl (fun K hK => ?_) AllReadyH.nil)
      go_simp
      refine (hlv qa).mono ?_
      rintro e wl ⟨vl, rfl, ol, fl, xl⟩
      have ql := ext_trans qa xl
      (go_wp2_with fail; refine hK.out _ _ (hbk ql) (fun hH => ?_); clear hK K; try simp only [Act.put, List.setIfInBounds_toArray, List.set_cons_zero, List.set_cons_succ]; try simp only [List.getElem_toArray, List.getElem_cons_succ, List.getElem_cons_zero])
      (refine wpAnyH_ready (rs := [10]) (by kernel_rfl) (by simp) ?_; refine AllReadyH.cons rfl (fun K hK => ?_) AllReadyH.nil)
      go_simp
      refine (hov ol.rc).mono ?_
      rintro e wo ⟨vo, rfl, oo, fo, xo⟩
      have qo := ext_trans ql xo
      (go_wp2_with fail; refine hK.out _ _ (hbk qo) (fun hH => ?_); clear hK K; try simp only [Act.put, List.setIfInBounds_toArray, List.set_cons_zero, List.set_cons_succ]; try simp only [List.getElem_toArray, List.getElem_cons_succ, List.getElem_cons_zero])
      (refine wpAnyH_ready (rs := [11]) (by kernel_rfl) (by simp) ?_; refine AllReadyH.cons rfl (fun K hK => ?_) AllReadyH.nil)
      refine step_appRs 58 tyF (oL.ext (ext_trans xl xo)) oo.rc (fic_all _) hn rfl rfl (.tmp 48) (.tmp 57) rfl rfl rfl ?_
      intro va wa ka1 ka2 ka3
      have qA := ext_app0 qo fL ka2
      have fA := fresh_ext qo fL ka3
      (refine hK.out _ _ (hbk qA) (fun hH => ?_); clear hK K; try simp only [Act.put, List.setIfInBounds_toArray, List.set_cons_zero, List.set_cons_succ]; try simp only [List.getElem_toArray, List.getElem_cons_succ, List.getElem_cons_zero])
      (refine wpAnyH_take (i := 12) (oi := ⟨_, _, _, _, _, _⟩) (v := ?tv9) rfl (by kernel_rfl) (by kernel_rfl) (by kernel_rfl) (fun _ _ _ h => h) (Or.inl ⟨by kernel_rfl, ?hy9⟩) hH ?rs9; (case hy9 => (intro wx hSw; (try dsimp only at hSw); go_simp; try with_reducible rfl)); try simp only [Act.put, List.setIfInBounds_toArray, List.set_cons_zero, List.set_cons_succ]; try simp only [List.getElem_toArray, List.getElem_cons_succ, List.getElem_cons_zero])
      (refine wpAnyH_take (i := 13) (oi := ⟨_, _, _, _, _, _⟩) (v := ?tv10) rfl (by kernel_rfl) (by kernel_rfl) (by kernel_rfl) (fun _ _ _ h => h) (Or.inl ⟨by kernel_rfl, ?hy10⟩) hH ?rs10; (case hy10 => (intro wx hSw; (try dsimp only at hSw); go_simp; try with_reducible rfl)); try simp only [Act.put, List.setIfInBounds_toArray, List.set_cons_zero, List.set_cons_succ]; try simp only [List.getElem_toArray, List.getElem_cons_succ, List.getElem_cons_zero])
      refine wpAnyH_done (by kernel_rfl) ?_ _
      go_wp2_with fail
      go_ret2
      exact ⟨_, by rw [hE2.out]; rfl, by rw [hE2.out, hdu.out]; exact ka1, fA.mono hw6s, ext_trans y6 qA⟩
    case' refine_2 =>
      go_simp
      refine (hlv q0).mono ?_
      rintro e wl ⟨vl, rfl, ol, fl, xl⟩
      have ql := ext_trans q0 xl
      (go_wp2_with fail; refine hK.out _ _ (hbk ql) (fun hH => ?_); clear hK K; try simp only [Act.put, List.setIfInBounds_toArray, List.set_cons_zero, List.set_cons_succ]; try simp only [List.getElem_toArray, List.getElem_cons_succ, List.getElem_cons_zero])
      refine wpAnyH_ready (rs := [1, 10]) (by kernel_rfl) (by simp) ?_
      refine AllReadyH.cons rfl (fun K hK => ?_) (AllReadyH.cons rfl (fun K hK => ?_) AllReadyH.nil)
      case' refine_1 =>
        have oL := OwnF.lit wl x
        have qa : Ext w6 (wl.alloc (.cells (fia x) 48)) := ql.alloc _
        have fL : Fresh w6.heap.size (.slice (some ⟨wl.heap.size, 0, none⟩) 1 1) := fun k hk => by (have h9 : wl.heap.size = k := Option.some.inj hk); have h8 := ql.size; omega
        go_simp
        (go_wp2_with fail; refine hK.out _ _ (hbk qa) (fun hH => ?_); clear hK K; try simp only [Act.put, List.setIfInBounds_toArray, List.set_cons_zero, List.set_cons_succ]; try simp only [List.getElem_toArray, List.getElem_cons_succ, List.getElem_cons_zero])
        (refine wpAnyH_ready (rs := [10]) (by kernel_rfl) (by simp) ?_; refine AllReadyH.cons rfl (fun K hK => ?_) AllReadyH.nil)
        go_simp
        refine (hov (ol.ext ((Mod.refl _ wl).alloc _)).rc).mono ?_
        rintro e wo ⟨vo, rfl, oo, fo, xo⟩
        have qo := ext_trans qa xo
        (go_wp2_with fail; refine hK.out _ _ (hbk qo) (fun hH => ?_); clear hK K; try simp only [Act.put, List.setIfInBounds_toArray, List.set_cons_zero, List.set_cons_succ]; try simp only [List.getElem_toArray, List.getElem_cons_succ, List.getElem_cons_zero])
        (refine wpAnyH_ready (rs := [11]) (by kernel_rfl) (by simp) ?_; refine AllReadyH.cons rfl (fun K hK => ?_) AllReadyH.nil)
        refine step_appRs 58 tyF (oL.ext xo) oo.rc (fic_all _) hn rfl rfl (.tmp 48) (.tmp 57) rfl rfl rfl ?_
        intro va wa ka1 ka2 ka3
        have qA := ext_app0 qo fL ka2
        have fA := fresh_ext qo fL ka3
        (refine hK.out _ _ (hbk qA) (fun hH => ?_); clear hK K; try simp only [Act.put, List.setIfInBounds_toArray, List.set_cons_zero, List.set_cons_succ]; try simp only [List.getElem_toArray, List.getElem_cons_succ, List.getElem_cons_zero])
        (refine wpAnyH_take (i := 12) (oi := ⟨_, _, _, _, _, _⟩) (v := ?tv11) rfl (by kernel_rfl) (by kernel_rfl) (by kernel_rfl) (fun _ _ _ h => h) (Or.inl ⟨by kernel_rfl, ?hy11⟩) hH ?rs11; (case hy11 => (intro wx hSw; (try dsimp only at hSw); go_simp; try with_reducible rfl)); try simp only [Act.put, List.setIfInBounds_toArray, List.set_cons_zero, List.set_cons_succ]; try simp only [List.getElem_toArray, List.getElem_cons_succ, List.getElem_cons_zero])
        (refine wpAnyH_take (i := 13) (oi := ⟨_, _, _, _, _, _⟩) (v := ?tv12) rfl (by kernel_rfl) (by kernel_rfl) (by kernel_rfl) (fun _ _ _ h => h) (Or.inl ⟨by kernel_rfl, ?hy12⟩) hH ?rs12; (case hy12 => (intro wx hSw; (try dsimp only at hSw); go_simp; try with_reducible rfl)); try simp only [Act.put, List.setIfInBounds_toArray, List.set_cons_zero, List.set_cons_succ]; try simp only [List.getElem_toArray, List.getElem_cons_succ, List.getElem_cons_zero])
        refine wpAnyH_done (by kernel_rfl) ?_ _
        go_wp2_with fail
        go_ret2
        exact ⟨_, by rw [hE2.out]; rfl, by rw [hE2.out, hdu.out]; exact ka1, fA.mono hw6s, ext_trans y6 qA⟩
      case' refine_2 =>
        go_simp
        refine (hov ol.rc).mono ?_
        rintro e wo ⟨vo, rfl, oo, fo, xo⟩
        have qo := ext_trans ql xo
        (go_wp2_with fail; refine hK.out _ _ (hbk qo) (fun hH => ?_); clear hK K; try simp only [Act.put, List.setIfInBounds_toArray, List.set_cons_zero, List.set_cons_succ]; try simp only [List.getElem_toArray, List.getElem_cons_succ, List.getElem_cons_zero])
        (refine wpAnyH_ready (rs := [1]) (by kernel_rfl) (by simp) ?_; refine AllReadyH.cons rfl (fun K hK => ?_) AllReadyH.nil)
        have oL := OwnF.lit wo x
        have qa : Ext w6 (wo.alloc (.cells (fia x) 48)) := qo.alloc _
        have fL : Fresh w6.heap.size (.slice (some ⟨wo.heap.size, 0, none⟩) 1 1) := fun k hk => by (have h9 : wo.heap.size = k := Option.some.inj hk); have h8 := qo.size; omega
        go_simp
        (go_wp2_with fail; refine hK.out _ _ (hbk qa) (fun hH => ?_); clear hK K; try simp only [Act.put, List.setIfInBounds_toArray, List.set_cons_zero, List.set_cons_succ]; try simp only [List.getElem_toArray, List.getElem_cons_succ, List.getElem_cons_zero])
        (refine wpAnyH_ready (rs := [11]) (by kernel_rfl) (by simp) ?_; refine AllReadyH.cons rfl (fun K hK => ?_) AllReadyH.nil)
        refine step_appRs 58 tyF oL (oo.ext ((Mod.refl _ wo).alloc _)).rc (fic_all _) hn rfl rfl (.tmp 48) (.tmp 57) rfl rfl rfl ?_
        intro va wa ka1 ka2 ka3
        have qA := ext_app0 qa fL ka2
        have fA := fresh_ext qa fL ka3
        (refine hK.out _ _ (hbk qA) (fun hH => ?_); clear hK K; try simp only [Act.put, List.setIfInBounds_toArray, List.set_cons_zero, List.set_cons_succ]; try simp only [List.getElem_toArray, List.getElem_cons_succ, List.getElem_cons_zero])
        (refine wpAnyH_take (i := 12) (oi := ⟨_, _, _, _, _, _⟩) (v := ?tv13) rfl (by kernel_rfl) (by kernel_rfl) (by kernel_rfl) (fun _ _ _ h => h) (Or.inl ⟨by kernel_rfl, ?hy13⟩) hH ?rs13; (case hy13 => (intro wx hSw; (try dsimp only at hSw); go_simp; try with_reducible rfl)); try simp only [Act.put, List.setIfInBounds_toArray, List.set_cons_zero, List.set_cons_succ]; try simp only [List.getElem_toArray, List.getElem_cons_succ, List.getElem_cons_zero])
        (refine wpAnyH_take (i := 13) (oi := ⟨_, _, _, _, _, _⟩) (v := ?tv14) rfl (by kernel_rfl) (by kernel_rfl) (by kernel_rfl) (fun _ _ _ h => h) (Or.inl ⟨by kernel_rfl, ?hy14⟩) hH ?rs14; (case hy14 => (intro wx hSw; (try dsimp only at hSw); go_simp; try with_reducible rfl)); try simp only [Act.put, List.setIfInBounds_toArray, List.set_cons_zero, List.set_cons_succ]; try simp only [List.getElem_toArray, List.getElem_cons_succ, List.getElem_cons_zero])
        refine wpAnyH_done (by kernel_rfl) ?_ _
        go_wp2_with fail
        go_ret2
        exact ⟨_, by rw [hE2.out]; rfl, by rw [hE2.out, hdu.out]; exact ka1, fA.mono hw6s, ext_trans y6 qA⟩
end Go.Proofs.Ytmjkgibeljbloaa
