/- level: spotsOf, level. -/
import Derived.Test.YtmjkgibeljbloaaLvF
import Derived.Maps.RangeWalk
namespace Go.Proofs.Ytmjkgibeljbloaa
open Go.RowKit Go.Maps Go.WideMaps
set_option maxRecDepth 100000

theorem plainI1 (n : Nat) (h : n ≤ 1000000) : plainElem (H := Unit) Try.prog 3 (.int .i64 ((n : Int) + 1)) = some (.lit (.int .i64 ((n : Int) + 1)), []) := plainElem_int Try.underlying3 (WalkArith.wf_i64 ⟨by omega, by omega⟩)
theorem run_makeMap0 {P : Program} {t a b : TypeId} (ht : P.underlying t = some (.map a b)) (w : World) : (Instr.makeMap t none).run P w = .ok (.map (some w.heap.size)) (w.alloc (.map #[] 0)) := by
  simp [Instr.makeMap, run_underlying ht, Result.andThen]
theorem cc_of {D : DataW Unit} {kl : Lit} {z : DataW Unit} {c m : Int} (h1 : D.atKey kl z = .lit (.int .i64 c)) (h2 : D.atKey kl z = .lit (.int .i64 m)) : c = m := by
  have h := h1.symm.trans h2
  injection h with h
  injection h
theorem of_some {g : Nat} (b : Nat) (h : some g = some b) : b = g := (Option.some.inj h).symm
set_option maxHeartbeats 16000000 in
theorem spotsOf_any {w : World} {S : Nat → Prop} {v : Value} {nx : Int} {L : List Fl} (h : Fs w S v L) (hlv : ∀ c ∈ L, 0 ≤ c.lev ∧ c.lev ≤ 100) (hl : L.length ≤ 100000) :
    Calls Try.prog 31 #[.agg #[.int .i64 nx, v]] w fun e w' => ∃ b D, e = .returned (.map (some b)) ∧ MapF w' b L.length D ∧ SpOk D L ∧ w.heap.size ≤ b ∧ Ext w w' := by
  have hshape := h.shape
  obtain ⟨A, c, rfl⟩ := hshape
  have B0 : Blk (w.alloc (.cells #[.int .i64 nx, .slice A L.length c] 24)) w.heap.size 24 #[.int .i64 nx, .slice A L.length c] := Blk.new w _ _
  have hB : Ext w (w.alloc (.cells #[.int .i64 nx, .slice A L.length c] 24)) := (Mod.refl _ w).alloc _
  obtain ⟨w0, hw0⟩ : ∃ w0, w0 = w.alloc (.cells #[.int .i64 nx, .slice A L.length c] 24) := ⟨_, rfl⟩
  rw [← hw0] at B0 hB
  replace hw0 := Lib.hid hw0
  have b1 : w0.cell? ⟨w.heap.size, 1, none⟩ = some (.slice A L.length c) := B0.cell 1
  obtain ⟨_, _, he, h1, h2, h3, h4⟩ := (h.ext hB).open_ fic_len
  injection he with he1 _ he3
  subst he1; subst he3
  clear h B0
  have hmm := fun wx => run_makeMapN Try.underlying61 wx .i64 L.length
  have hmm0 := fun wx => run_makeMap0 Try.underlying93 wx
  have F0 : MapF (w0.alloc (.map #[] 0)) w0.heap.size 0 (.map []) := World.ownsMap_made _ _ _ _
  have x1 : Ext w0 (w0.alloc (.map #[] 0)) := (Mod.refl _ w0).alloc _
  have hs1 : (w0.alloc (.map #[] 0)).heap.size = w0.heap.size + 1 := by simp
  obtain ⟨w1, hw1⟩ : ∃ w1, w1 = w0.alloc (.map #[] 0) := ⟨_, rfl⟩
  rw [← hw1] at F0 x1 hs1
  replace hw1 := Lib.hid hw1
  have b2 := ext_cell x1 b1
  have C0 : MapI (w1.alloc (.map #[] 0)) w1.heap.size 0 (.map []) := World.ownsMap_made _ _ _ _
  have x2 : Ext w1 (w1.alloc (.map #[] 0)) := (Mod.refl _ w1).alloc _
  obtain ⟨w2, hw2⟩ : ∃ w2, w2 = w1.alloc (.map #[] 0) := ⟨_, rfl⟩
  rw [← hw2] at C0 x2
  replace hw2 := Lib.hid hw2
  have F1 := ownsMap_mod F0 x2 (fun h => h)
  have b3 := ext_cell x2 b2
  obtain ⟨gs, hgs⟩ : ∃ g, g = w0.heap.size := ⟨_, rfl⟩
  obtain ⟨gc, hgc⟩ : ∃ g, g = w1.heap.size := ⟨_, rfl⟩
  rw [← hgs] at F0 F1 hs1
  rw [← hgc] at C0 hs1
  have hgsw : w.heap.size ≤ gs := by rw [hgs]; exact hB.size
  have hgle : w0.heap.size ≤ gs := by rw [hgs]; exact Nat.le_refl _
  have hgne : gc ≠ gs := by omega
  have hgcw : w0.heap.size ≤ gc := by omega
  replace hgs := Lib.hid hgs
  replace hgc := Lib.hid hgc
  clear hs1
  go_enter Try.func31, Try.ntmps31
  go_upto_region 1 with fail
  rw [← hw0.out]
  clear hw0
  go_upto_region 2 with fail
  rw [← hw1.out, ← hgs.out]
  go_upto_region 3 with fail
  rw [← hw2.out, ← hgc.out]
  clear hmm hmm0 F0 hw1 hw2 hgs hgc b1 b2
  go_wp2_with fail
  go_loopw [15] (fun i wr => ∃ (k : Nat) (D C : DataW Unit), k ≤ L.length ∧ i = .int .i64 k ∧ MapF wr gs k D ∧ Hid (SpOk D (L.take k)) ∧ MapI wr gc k C ∧ Hid (CtOk C (L.take k)) ∧ Ext w0 wr) (fun i _ => L.length - (intOf i).toNat)
  case atStart => exact ⟨0, _, _, Nat.zero_le _, rfl, F1, Lib.hid spOk_none, C0, Lib.hid ctOk_none, ext_trans x1 x2⟩
  case round =>
    clear F1 C0 x1 x2 b3
    obtain ⟨k, D, C, hk, rfl, hF, hD, hC, hCt, hx⟩ := hrel
    by_cases hlt : k < L.length
    case neg =>
      have hbl : decide ((k : Int) < (L.length : Int)) = false := dfalse (by omega)
      obtain rfl : k = L.length := by omega
      have hE : Hid (SpOk D L) := Lib.hid (by have := hD.out; rwa [List.take_length] at this)
      clear hD hCt
      go_wp2_with fail
      go_ret
      exact ⟨gs, D, rfl, hF, hE.out, hgsw, ext_trans hB hx⟩
    have hbl : decide ((k : Int) < (L.length : Int)) = true := dtrue (by omega)
    obtain ⟨ad, hA, _, c0, c1, c2, c3, c4⟩ := Fs.at_ (h4.ext hx) hlt
    subst hA
    have hi0 : (0 : Int) ≤ (k : Int) := by omega
    have hi1 : (k : Int) < (L.length : Int) := by omega
    have hxl := hlv _ (List.getElem_mem hlt)
    have hlen : (L.take k).length ≤ 100000 := by rw [List.length_take]; omega
    have hD2 := Lib.hid (hD.out.put hxl hlen)
    have hC2 := Lib.hid (hCt.out.put L[k])
    have hat := hCt.out.2 L[k].lev
    have hml : (levF L[k].lev (L.take k)).length ≤ 100000 := Nat.le_trans (List.length_filter_le _ _) hlen
    rw [← List.take_succ_eq_append_getElem hlt] at hD2 hC2
    have hkf : KFit L[k].lev (levF L[k].lev (L.take k)).length := ⟨hxl.1, hxl.2, by omega⟩
    have hkey := key_a hkf
    have hkl := keyOf_iv L[k].lev ⟨by have := hxl.1; omega, by have := hxl.2; omega⟩
    clear hD hCt hlen hkf
    generalize L[k] = x at *
    generalize (levF x.lev (L.take k)).length = m at *
    have hfe := filE_mk x
    have hbx : Ext wr (wr.alloc (.cells (fia x) 48)) := (Mod.refl _ wr).alloc _
    obtain ⟨z0, z1, z2, z3, z4⟩ := boxedF wr x
    obtain ⟨w3, hw3⟩ : ∃ w3, w3 = wr.alloc (.cells (fia x) 48) := ⟨_, rfl⟩
    rw [← hw3] at hbx z0 z1 z2 z3 z4
    have x3 := ext_trans hx hbx
    have F3 := ownsMap_mod hF hbx (fun h => h)
    have C3 := ownsMap_mod hC hbx (fun h => h)
    have hpl := hx.size
    obtain ⟨p, hp⟩ : ∃ p, p = wr.heap.size := ⟨_, rfl⟩
    rw [← hp] at z0 z1 z2 z3 z4 hpl
    have hps : p ≠ gs := fun e => by have := hF.lt; omega
    replace hp := Lib.hid hp
    replace hw3 := Lib.hid hw3
    clear hF hC hx hbx
    go_upto_region 6 with fail
    rw [← hw3.out, ← hp.out]
    clear hw3 hp c0 c1 c2 c3 c4
    go_upto_region 7 with (first
      | (at_lookup; refine wpList_lookup_own_int _ rfl _ _ 93 rfl 3 3 .i64 keyI Try.underlying93 Try.underlying3 (zeroI _) gc k _ rfl C3 _ _ rfl hkl ?_; intro cc hat2 hwc; obtain rfl : cc = (m : Int) := cc_of hat2 hat)
      | (at_mapUpdate; refine wpList_mapUpdate_own _ rfl _ _ _ 61 rfl 94 48 keyAK Try.underlying61 _ gs k _ rfl F3 (by unfold maxLen; omega) _ _ _ rfl rfl hkey _ [] hfe ?_; intro w5 F5 g5))
    have m5 : Mod (fun b => b = gs) w3 w5 := Mod.of_grown g5 of_some
    have C5 := ownsMap_mod C3 m5 hgne
    have z15 : w5.cell? ⟨p, 1, none⟩ = some (.int .i64 x.lev) := (m5.cell (lt_of_cell z1) hps).trans z1
    have x5 : Ext w0 w5 := x3.trans m5 (fun _ _ h => h) (fun b hb h => by omega)
    have hpi := plainI1 m (by omega)
    clear C3 F3 hwc hat2
    go_wp2_with (first
      | (at_lookup; refine wpList_lookup_own_int _ rfl _ _ 93 rfl 3 3 .i64 keyI Try.underlying93 Try.underlying3 (zeroI _) gc k _ rfl C5 _ _ rfl hkl ?_; intro cc hat2 hwc; obtain rfl : cc = (m : Int) := cc_of hat2 hat)
      | (at_mapUpdate; refine wpList_mapUpdate_own _ rfl _ _ _ 93 rfl 3 3 keyI Try.underlying93 _ gc k _ rfl C5 (by unfold maxLen; omega) _ _ _ rfl rfl hkl _ [] hpi ?_; intro w7 C7 g7))
    have m7 : Mod (fun b => b = gc) w5 w7 := Mod.of_grown g7 of_some
    have F7 := ownsMap_mod F5 m7 (fun h => hgne h.symm)
    have x7 : Ext w0 w7 := x5.trans m7 (fun _ _ h => h) (fun b hb h => by omega)
    exact ⟨⟨k + 1, _, _, by omega, by go_num, F7, hD2, C7, hC2, x7⟩, by simp [intOf] <;> omega⟩

set_option maxHeartbeats 16000000 in
theorem level_any {w : World} {b n : Nat} {D : DataW Unit} {L : List Fl} {l : Int} (hM : MapF w b n D) (hD : SpOk D L) (hl : L.length ≤ 100000) (h0 : 0 ≤ l) (h1 : l ≤ 100) :
    Calls Try.prog 32 #[.map (some b), .int .i64 l] w fun e w' => ∃ v', e = .returned v' ∧ OwnF w' v' (levF l L) ∧ Fresh w.heap.size v' ∧ Ext w w' := by
  have hfl : (levF l L).length ≤ 100000 := Nat.le_trans (List.length_filter_le _ _) hl
  obtain ⟨F, hF⟩ : ∃ F, F = levF l L := ⟨_, rfl⟩
  have hyes : ∀ (m : Nat) (x : Fl), F[m]? = some x → (levF l L)[m]? = some x := fun m x h => by rw [← hF]; exact h
  have hno : ∀ m : Nat, F.length ≤ m → (levF l L).length ≤ m := fun m h => by rw [← hF]; exact h
  have hkf : ∀ m : Nat, m ≤ F.length → KFit l m := fun m hm => ⟨h0, h1, by rw [hF] at hm; omega⟩
  rw [← hF] at hfl ⊢
  replace hD := Lib.hid hD
  clear hF
  go_enter Try.func32, Try.ntmps32
  go_wp2_with fail
  go_loopw [5] (fun s wr => ∃ (m : Nat) (A : Option Addr) (c : Nat), s = .slice A m c ∧ m ≤ F.length ∧ OwnF wr (.slice A m c) (F.take m) ∧ Fresh w.heap.size (.slice A m c) ∧ Ext w wr) (fun s _ => F.length - (match s with | .slice _ m _ => m | _ => 0))
  case atStart => exact ⟨0, none, 0, rfl, Nat.zero_le _, OwnF.nil _, fresh_nil _ _ _, Mod.refl _ _⟩
  case round =>
    obtain ⟨m, A, c, rfl, hm, ho, hfr, hx⟩ := hrel
    have hMr := ownsMap_mod hM hx (fun h => h)
    have hk := hkf m hm
    by_cases hlt : m < F.length
    case neg =>
      have hb9 := hno m (by omega)
      have hE : Hid (F.take m = F) := Lib.hid (List.take_of_length_le (by omega))
      have hbx : Ext wr (wr.alloc (.cells (fia f0) 48)) := (Mod.refl _ wr).alloc _
      obtain ⟨w3, hw3⟩ : ∃ w3, w3 = wr.alloc (.cells (fia f0) 48) := ⟨_, rfl⟩
      rw [← hw3] at hbx
      have x3 := ext_trans hx hbx
      have o3 := ho.ext hbx
      clear ho hbx
      go_upto_region 3 with (at_lookup; refine wp_look_no hMr hD.out hk hb9 rfl _ _ rfl rfl rfl ?_)
      rw [← hw3]
      replace hw3 := Lib.hid hw3
      go_wp2_with fail
      go_ret
      exact ⟨_, rfl, by rw [hE.out] at o3; exact o3, hfr, x3⟩
    have hgx : F[m]? = some F[m] := List.getElem?_eq_getElem hlt
    have hst := List.take_succ_eq_append_getElem hlt
    have hlen : (F.take m ++ [F[m]]).length = m + 1 := by rw [List.length_append, List.length_take, List.length_singleton]; omega
    have hn : ((F.take m).length + 1) * 56 ≤ 140737488355328 := by rw [List.length_take]; omega
    have hy := hyes m _ hgx
    replace hst := Lib.hid hst
    replace hlen := Lib.hid hlen
    clear hgx hno hyes
    generalize F[m] = x at *
    have hbx : Ext wr (wr.alloc (.cells (fia x) 48)) := (Mod.refl _ wr).alloc _
    obtain ⟨z0, z1, z2, z3, z4⟩ := boxedF wr x
    obtain ⟨w3, hw3⟩ : ∃ w3, w3 = wr.alloc (.cells (fia x) 48) := ⟨_, rfl⟩
    rw [← hw3] at hbx z0 z1 z2 z3 z4
    have x3 := ext_trans hx hbx
    have o3 := ho.ext hbx
    replace hw3 := Lib.hid hw3
    clear ho hbx hx
    go_upto_region 3 with (at_lookup; refine wp_look_yes hMr hD.out hk hy rfl _ _ rfl rfl rfl ?_)
    rw [← hw3.out]
    clear hw3 hy
    go_wp2_with ((with_reducible show wpList _ _ _ (⟨some 23, _, _, _, _, _⟩ :: _) _ _); refine wp_appR tyF fic_len (x := x) o3 rfl (fic_ok _) hn rfl (.tmp 20) (.tmp 22) rfl rfl rfl ?_; intro va wa ka1 ka2 ka3)
    obtain ⟨A9, c9, e9⟩ := ka1.shape
    rw [hlen.out] at e9
    subst e9
    exact ⟨⟨m + 1, A9, c9, rfl, by omega, by rw [hst.out]; exact ka1, fresh_ext x3 hfr ka3, ext_app0 x3 hfr ka2⟩, by simp <;> omega⟩
end Go.Proofs.Ytmjkgibeljbloaa
