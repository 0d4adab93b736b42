/- disk: a file gets another name. -/
import Derived.Test.YtblfhonfjljndaaDoorDkQ
namespace Go.Proofs.YtblfhonfjljndaaDoor
open Go.RowKit Go.Maps Go.WideMaps
set_option maxRecDepth 100000

def renameD (d : Ds) (x y : List UInt8) : Ds × Nat :=
  if begD d [x, y] ≠ 0 then (d, begD d [x, y]) else match getF d.L x with
  | none => (d, 7)
  | some f => if x = y then (doneD d, 0) else (doneD { d with L := putF (delF (delF d.L y) x) ⟨y, f.b, f.last⟩ }, 0)
section
variable {S T F : Nat → Prop} {w w' : World} {bd bm : Nat} {D : DataW Unit} {G : Lay} {d : Ds}
theorem DkAt.renamed (h : DkAt S w bd bm D G d) {f : Fi} (hf : f ∈ d.L) {y : List UInt8} (hy : y ∉ nms d.L) (hyl : 1 ≤ y.length ∧ y.length ≤ 64) (hm : Mod (fun k => k = bm) w w') {n : Nat} (hM : w'.ownsMap Tryd.prog 9 ptrElem bm n ((D.del (.string f.name)).put (.string y) (.lit (.int .i64 ((G f.name).1 : Nat))))) :
    DkAt S w' bd bm ((D.del (.string f.name)).put (.string y) (.lit (.int .i64 ((G f.name).1 : Nat)))) (upd G y (G f.name)) { d with L := putF (delF d.L f.name) ⟨y, f.b, f.last⟩ } := by
  have hr1 := rise_delF h.rise f.name
  have hof := (h.of.del h.rise f.name).put hr1 ⟨y, f.b, f.last⟩ (G f.name).1 (G f.name).2
  have hyd : y ∉ nms (delF d.L f.name) := fun hh => hy ((mem_nms_delF _ _).1 hh).1
  have hget : getF (delF d.L f.name) y = none := by
    cases e : getF (delF d.L f.name) y with
    | none => rfl
    | some g => exact absurd (getF_iff.2 (by rw [e]; rfl)) hyd
  obtain ⟨s1, s2⟩ := sumB_putF (f := ⟨y, f.b, f.last⟩) hr1
  rw [show (⟨y, f.b, f.last⟩ : Fi).name = y from rfl, hget] at s1 s2
  obtain ⟨q1, q2⟩ := sumB_delF (x := f.name) h.rise
  rw [getF_of_mem h.rise hf] at q1 q2
  simp only [lenB, one] at s1 s2 q1 q2
  have hsum : sumB (putF (delF d.L f.name) ⟨y, f.b, f.last⟩) = sumB d.L := by omega
  have hlen : (putF (delF d.L f.name) ⟨y, f.b, f.last⟩).length = d.L.length := by omega
  have hN := ownsMap_tight hM
  rw [hof.size] at hN
  have hcase : ∀ f' ∈ putF (delF d.L f.name) ⟨y, f.b, f.last⟩, f' = ⟨y, f.b, f.last⟩ ∨ (f' ∈ d.L ∧ f'.name ≠ f.name ∧ f'.name ≠ y) := fun f' hf' => by
    rcases (mem_putF hr1 f').1 hf' with h1 | ⟨h1, h2⟩
    · exact .inl h1
    · exact .inr ⟨((mem_delF f').1 h1).1, ((mem_delF f').1 h1).2, h2⟩
  have hbm := h.blk.ne_map h.map
  refine ⟨h.sd, h.sm, ?_, hN, hof, rise_putF hr1, ?_, ?_, ?_, ?_, ?_, ?_, h.most, by show (putF (delF d.L f.name) _).length ≤ 4096; rw [hlen]; exact h.few, h.lf⟩
  · have := h.blk.mod hm hbm
    simp only [dcells, hsum] at this ⊢
    exact this
  · intro f' hf'
    rcases hcase f' hf' with rfl | ⟨h1, _, h3⟩
    · rw [upd_same]; exact h.fs f hf
    · rw [upd_other _ _ h3]; exact h.fs f' h1
  · intro f' hf'
    rcases hcase f' hf' with rfl | ⟨h1, _, h3⟩
    · rw [upd_same]; exact (h.fb f hf).mod hm fun e => (h.fb f hf).ne_map h.map e
    · rw [upd_other _ _ h3]; exact (h.fb f' h1).mod hm fun e => (h.fb f' h1).ne_map h.map e
  · intro f' hf'
    rcases hcase f' hf' with rfl | ⟨h1, _, h3⟩
    · rw [upd_same]; exact (h.fo f hf).mod hm fun k hk e => (h.own_ne hf hk).2.1 e
    · rw [upd_other _ _ h3]; exact (h.fo f' h1).mod hm fun k hk e => (h.own_ne h1 hk).2.1 e
  · intro f' hf'
    rcases hcase f' hf' with rfl | ⟨h1, _, h3⟩
    · exact ⟨(h.fl f hf).1, hyl⟩
    · exact h.fl f' h1
  · intro f1 h1 f2 h2 hn
    rcases hcase f1 h1 with rfl | ⟨a1, a2, a3⟩ <;> rcases hcase f2 h2 with rfl | ⟨c1, c2, c3⟩
    · exact absurd rfl hn
    · rw [upd_same, upd_other _ _ c3]
      exact h.apart f hf f2 c1 (Ne.symm c2)
    · rw [upd_same, upd_other _ _ a3]
      exact h.apart f1 a1 f hf a2
    · rw [upd_other _ _ a3, upd_other _ _ c3]
      exact h.apart f1 a1 f2 c1 hn
  · show sumB (putF (delF d.L f.name) _) ≤ d.room
    rw [hsum]; exact h.room
theorem two_names (w : World) (x y : List UInt8) : Ts (w.alloc (.cells #[sv x, sv y] 9)) (fun k => k = w.heap.size) (.slice (some ⟨w.heap.size, 0, none⟩) 2 2) [x, y] := Sl.lit w 9 [sv x, sv y] (by simp [maxLen])
set_option maxHeartbeats 8000000 in
theorem rename_any {v : Value} (h : Dk S w v d) (x y : List UInt8) :
    Calls Tryd.prog 29 #[v, sv x, sv y] w fun e w' => e = .returned (ev (renameD d x y).2) ∧ Dk (Grow S w) w' v (renameD d x y).1 ∧ Mod S w w' := by
  obtain ⟨bd, bm, D, G, rfl, h⟩ := h
  have x0 : Ext w (w.alloc (.cells #[sv x, sv y] 9)) := (Mod.refl _ w).alloc _
  have hc := begin_any (h.mod x0 (fun _ _ _ h => h)) (two_names w x y) (by simp)
  have hd : Dk S w (pv bd) d := ⟨bd, bm, D, G, rfl, h⟩
  by_cases hb : begD d [x, y] = 0
  case neg =>
    have hn := n_ne0 hb
    have e : renameD d x y = (d, begD d [x, y]) := by unfold renameD; rw [if_pos hb]
    rw [e]
    clear h hb e
    generalize begD d [x, y] = n at *
    go_enter Tryd.func29, Tryd.ntmps29
    go_wp2_with fail
    refine hc.mono ?_
    rintro e w1 ⟨rfl, x1⟩
    clear hc
    go_wp2_with fail
    go_ret
    have y1 := ext_trans x0 x1
    exact ⟨rfl, (hd.ext y1).grow w, y1.mono fun _ _ h => h.elim⟩
  have hl := (begD_len hb (x := x) (by simp)).2
  have hl2 := begD_len hb (x := y) (by simp)
  have hlf := begD_left hb
  rw [hb] at hc
  have hM : ∀ wx, Ext w wx → wx.ownsMap Tryd.prog 9 ptrElem bm d.L.length D := fun wx x1 => (h.mod x1 (fun _ _ _ h => h)).map
  have hC : ∀ wx, Ext w wx → wx.cell? ⟨bd, 2, none⟩ = some (.map (some bm)) := fun wx x1 => (h.mod x1 (fun _ _ _ h => h)).blk.cell 2
  cases hx : getF d.L x with
  | none =>
    have hhas := Lib.hid (show has D (.string x) = false by rw [h.of.has]; exact decide_eq_false (getF_none hx))
    have e : renameD d x y = (d, 7) := by unfold renameD; rw [if_neg (by simpa using hb), hx]
    rw [e]
    clear h hb hx e
    go_enter Tryd.func29, Tryd.ntmps29
    go_wp2_with fail
    refine hc.mono ?_
    rintro e w1 ⟨rfl, x1⟩
    have y1 := ext_trans x0 x1
    have hM1 := hM w1 y1
    have hC1 := hC w1 y1
    clear hc hM hC
    go_wp2_with (at_lookup; refine wp_lookN hM1 (by omega) hhas.out rfl _ _ rfl rfl rfl ?_)
    go_ret
    exact ⟨rfl, (hd.ext y1).grow w, y1.mono fun _ _ h => h.elim⟩
  | some f =>
    have hf := getF_mem hx
    obtain rfl := getF_name hx
    have hin : f.name ∈ nms d.L := List.mem_map.2 ⟨f, hf, rfl⟩
    have hhas := Lib.hid (show has D (.string f.name) = true by rw [h.of.has]; exact decide_eq_true hin)
    have hat := Lib.hid (h.of.key _ hin)
    by_cases hxy : f.name = y
    · have e : renameD d f.name y = (doneD d, 0) := by unfold renameD; rw [if_neg (by simpa using hb), hx]; simp only; rw [if_pos hxy]
      rw [e]
      subst hxy
      have hdn := fun (wx : World) (x1 : Ext w wx) => done_any (h.mod x1 (fun _ _ _ h => h)) hlf
      have hSd := h.sd
      clear h hb hx e hin hf hlf
      go_enter Tryd.func29, Tryd.ntmps29
      go_wp2_with fail
      refine hc.mono ?_
      rintro e w1 ⟨rfl, x1⟩
      have y1 := ext_trans x0 x1
      have hM1 := hM w1 y1
      have hC1 := hC w1 y1
      have hdn1 := hdn w1 y1
      clear hc hM hC hdn
      go_wp2_with (at_lookup; refine wp_lookS hM1 (by omega) hhas.out hat.out rfl _ _ rfl rfl rfl ?_)
      refine hdn1.mono ?_
      rintro e w2 ⟨rfl, h2, m2⟩
      clear hdn1
      go_wp2_with fail
      go_ret
      exact ⟨rfl, ⟨bd, bm, D, G, rfl, h2.mono fun k _ hk => .inl hk⟩, (y1.mono (G := S) fun _ _ h => h.elim).then_ m2 fun k _ hk => hk ▸ hSd⟩
    have e : renameD d f.name y = (doneD { d with L := putF (delF (delF d.L y) f.name) ⟨y, f.b, f.last⟩ }, 0) := by unfold renameD; rw [if_neg (by simpa using hb), hx]; simp only; rw [if_neg hxy]
    rw [e]
    have hSd := h.sd
    have hSm := h.sm
    have hdr : ∀ wx, Ext w wx → Calls Tryd.prog 53 #[pv bd, sv y] wx fun e w' => e = .returned (.tuple #[]) ∧ ∃ D2, DkAt S w' bd bm D2 G { d with L := delF d.L y } ∧ Mod (fun k => k = bd ∨ k = bm) wx w' := fun wx x1 => by
      have h1 := h.mod x1 (fun _ _ _ h => h)
      cases hy : getF d.L y with
      | none =>
        refine (drop_none h1 hy hl2.2).mono fun e w' ⟨e1, e2⟩ => ⟨e1, D, ?_, by rw [e2]; exact Mod.refl _ _⟩
        rw [e2, delF_none (getF_none hy)]
        exact h1
      | some g =>
        obtain rfl := getF_name hy
        exact (drop_some h1 (getF_mem hy)).mono fun e w' ⟨e1, e2, e3⟩ => ⟨e1, _, e2, e3⟩
    have hf2 : f ∈ delF d.L y := (mem_delF f).2 ⟨hf, hxy⟩
    have hy2 : y ∉ nms (delF d.L y) := fun hh => ((mem_nms_delF _ _).1 hh).2 rfl
    have hne : (f.name == y) = false := by simpa using hxy
    clear hx hb e hin hf
    go_enter Tryd.func29, Tryd.ntmps29
    go_wp2_with fail
    refine hc.mono ?_
    rintro e w1 ⟨rfl, x1⟩
    have y1 := ext_trans x0 x1
    have hM1 := hM w1 y1
    have hC1 := hC w1 y1
    have hdr1 := hdr w1 y1
    clear hc hM hC hdr h
    go_wp2_with (at_lookup; refine wp_lookS hM1 (by omega) hhas.out hat.out rfl _ _ rfl rfl rfl ?_)
    refine hdr1.mono ?_
    rintro e w2 ⟨rfl, D2, h2, m2⟩
    have hM2 := h2.map
    have hC2 : w2.cell? ⟨bd, 2, none⟩ = some (.map (some bm)) := h2.blk.cell 2
    have hbk := h2.blk
    have hbm : bd ≠ bm := h2.blk.ne_map h2.map
    have hfew := h2.few
    have hren := fun (w' : World) (hm : Mod (fun k => k = bm) w2 w') (n : Nat) (hM : w'.ownsMap Tryd.prog 9 ptrElem bm n ((D2.del (.string f.name)).put (.string y) (.lit (.int .i64 ((G f.name).1 : Nat))))) => h2.renamed hf2 hy2 hl2 hm hM
    replace hren := Lib.hid hren
    clear hdr1 h2 hhas hat hM1 hC1
    generalize (delF d.L y).length = nn at *
    have hlt : nn < maxLen := by simp only [maxLen]; omega
    go_wp2_with (first
      | (at_delete; refine wpList_delete_own _ rfl _ _ 53 9 rfl 68 keyS Tryd.underlying53 _ bm nn D2 rfl hM2 _ _ rfl (keyOf_sv f.name (by omega)) ?_; intro w3 hM3 ht3; have hC3 : w3.cell? ⟨bd, 2, none⟩ = some (.map (some bm)) := (hbk.mod (mod_turned ht3) hbm).cell 2)
      | (at_mapUpdate; refine wpList_mapUpdate_in _ rfl _ _ _ 53 rfl 9 68 keyS Tryd.underlying53 ptrElem bm nn _ rfl hM3 hlt _ _ _ rfl rfl (keyOf_sv y (by omega)) _ [] (ptr_mk _) ?_; intro w4 hM4 ht4))
    have m24 : Mod (fun k => k = bm) w2 w4 := (mod_turned ht3).then_ (mod_turned ht4) fun _ _ h => h
    have h4 := hren.out w4 m24 _ hM4
    have hcd := done_any h4 hlf
    clear hren hM2 hM3 hM4 h4 hlf
    refine hcd.mono ?_
    rintro e w5 ⟨rfl, h5, m5⟩
    clear hcd
    go_wp2_with fail
    go_ret
    exact ⟨rfl, ⟨bd, bm, _, _, rfl, h5.mono fun k _ hk => .inl hk⟩, (((y1.mono (G := S) fun _ _ h => h.elim).then_ m2 fun k _ hk => hk.elim (fun e => e ▸ hSd) fun e => e ▸ hSm).then_ m24 fun k _ hk => hk ▸ hSm).then_ m5 fun k _ hk => hk ▸ hSd⟩
end
end Go.Proofs.YtblfhonfjljndaaDoor
