/- level: files less some. -/
import Derived.Test.YtmjkgibeljbloaaLvE
import Derived.Test.YtmjkgibeljbloaaLvG
import Derived.Test.YtmjkgibeljbloaaLvW
namespace Go.Proofs.Ytmjkgibeljbloaa
open Go.RowKit Go.Maps Go.WideMaps
set_option maxRecDepth 100000

/-- The set of the first k numbers. -/
structure Ld (G : List Int) (k : Nat) (D : DataW Unit) : Prop where
  tidy : Tidy D
  has : ∀ x, Maps.has D (.int .i64 x) = decide (x ∈ G.take k)
  le : Maps.size D ≤ k
  eq : Maps.size D = k ↔ (G.take k).Pairwise (· ≠ ·)
theorem Ld.none (G : List Int) : Ld G 0 (.map []) := ⟨tidy_empty, fun x => by simp [has_eq], by simp [size_eq], by simp [size_eq]⟩
theorem Ld.put {G : List Int} {k : Nat} {D : DataW Unit} (h : Ld G k D) (hk : k < G.length) : Ld G (k + 1) (D.put (.int .i64 G[k]) (.agg [])) := by
  have hx := h.has G[k]
  have hs := size_put (k := .int .i64 G[k]) h.tidy (.agg [])
  rw [hx] at hs
  have hle := h.le
  refine ⟨h.tidy.put (k := .int .i64 G[k]) trivial _, fun y => ?_, ?_, ?_⟩
  · rw [List.take_succ_eq_append_getElem hk]
    by_cases e : y = G[k]
    · subst e
      rw [has_put_same h.tidy.isMap (k := .int .i64 G[k]) trivial]
      exact (decide_eq_true (List.mem_append_right _ (List.mem_singleton.2 rfl))).symm
    · rw [has_put_other (fun e2 => e (by injection e2)), h.has, decide_eq_decide, List.mem_append, List.mem_singleton]
      exact ⟨Or.inl, fun q => q.resolve_right e⟩
  · rw [hs]; split <;> omega
  · rw [hs, List.take_succ_eq_append_getElem hk, List.pairwise_append]
    by_cases e : G[k] ∈ G.take k
    · rw [if_pos (decide_eq_true e)]
      exact ⟨fun q => by omega, fun q => absurd rfl (q.2.2 _ e _ (List.mem_singleton.2 rfl))⟩
    · rw [if_neg (by simpa using e)]
      constructor
      · intro q
        exact ⟨h.eq.1 (by omega), List.pairwise_singleton _ _, fun a ha b hb => by rw [List.mem_singleton.1 hb]; exact fun e2 => e (e2 ▸ ha)⟩
      · intro q
        have := h.eq.2 q.1
        omega
/-- What is left of the set. -/
structure Lf (S : List Int) (D : DataW Unit) : Prop where
  tidy : Tidy D
  has : ∀ x, Maps.has D (.int .i64 x) = decide (x ∈ S)
  nd : S.Nodup
  sz : Maps.size D = S.length
theorem Ld.full {G : List Int} {D : DataW Unit} (h : Ld G G.length D) (hs : Maps.size D = G.length) : Lf G D := by
  have h2 := h.eq.1 hs
  have h1 := h.has
  rw [List.take_length] at h2
  simp only [List.take_length] at h1
  exact ⟨h.tidy, h1, h2, hs⟩
theorem Lf.del {S : List Int} {D : DataW Unit} {x : Int} (h : Lf S D) (hx : x ∈ S) : Lf (S.erase x) (D.del (.int .i64 x)) := by
  have hs := size_del (k := .int .i64 x) h.tidy
  rw [h.has, if_pos (decide_eq_true hx), h.sz] at hs
  refine ⟨h.tidy.del _, fun y => ?_, h.nd.erase x, ?_⟩
  · by_cases e : y = x
    · subst e
      rw [has_del_same]
      exact (decide_eq_false (fun q => (h.nd.mem_erase_iff.1 q).1 rfl)).symm
    · rw [has_del_other (fun e2 => e (by injection e2)), h.has, decide_eq_decide, h.nd.mem_erase_iff]
      exact ⟨fun q => ⟨e, q⟩, fun q => q.2⟩
  · rw [List.length_erase_of_mem hx]
    omega
def woS (p : List Fl × List Int) (f : Fl) : List Fl × List Int := if f.id ∈ p.2 then (p.1, p.2.erase f.id) else (p.1 ++ [f], p.2)
/-- The files less those numbers; what numbers are left. -/
def wo (G : List Int) (L : List Fl) : List Fl × List Int := L.foldl woS ([], G)
theorem wo_snoc (G : List Int) (L : List Fl) {k : Nat} (hk : k < L.length) : wo G (L.take (k + 1)) = woS (wo G (L.take k)) L[k] := by
  unfold wo
  rw [List.take_succ_eq_append_getElem hk, List.foldl_append]
  rfl
theorem wo_len (G : List Int) : ∀ L : List Fl, (wo G L).1.length ≤ L.length := by
  have h : ∀ (L : List Fl) (p : List Fl × List Int), (L.foldl woS p).1.length ≤ p.1.length + L.length := by
    intro L
    induction L with
    | nil => intro p; exact Nat.le_refl _
    | cons a L ih =>
      intro p
      rw [List.foldl_cons, List.length_cons]
      refine Nat.le_trans (ih _) ?_
      unfold woS
      split
      · simp only []; omega
      · simp only [List.length_append, List.length_singleton]; omega
  intro L
  have := h L ([], G)
  simpa [wo] using this

set_option maxHeartbeats 32000000 in
theorem without_any {w : World} {S : Nat → Prop} {v u : Value} {L : List Fl} {G : List Int} (h : Fs w S v L) (hg : Own w 3 u (G.map iv)) (hf : L.length * 56 ≤ 140737488351232) (hid : ∀ c ∈ L, -9223372036854775808 ≤ c.id ∧ c.id ≤ 9223372036854775807) (hgd : ∀ x ∈ G, -9223372036854775808 ≤ x ∧ x ≤ 9223372036854775807) (hG : G.length ≤ 1000000) :
    Calls Try.prog 49 #[v, u] w fun e w' => ∃ v', e = .returned (.tuple #[v', .bool (decide (G.Nodup ∧ (wo G L).2 = []))]) ∧ (G.Nodup → OwnF w' v' (wo G L).1) ∧ Fresh w.heap.size v' ∧ Ext w w' := by
  obtain ⟨A, c, rfl, h1, h2, h3, h4⟩ := h.open_ fic_len
  clear h
  obtain ⟨Ag, cg, rfl⟩ : ∃ A c, u = .slice A G.length c := by
    obtain ⟨A, c, e⟩ := hg.shape
    rw [List.length_map] at e
    exact ⟨A, c, e⟩
  obtain ⟨R, hR⟩ : ∃ R, R = decide (G.Nodup ∧ (wo G L).2 = []) := ⟨_, rfl⟩
  rw [← hR]
  have hmm := fun wx => run_makeMapN Try.underlying69 wx .i64 G.length
  have M0 : SetI (w.alloc (.map #[] 0)) w.heap.size 0 (.map []) := World.ownsMap_made _ _ _ _
  have x1 : Ext w (w.alloc (.map #[] 0)) := (Mod.refl _ w).alloc _
  obtain ⟨gs, hgs⟩ : ∃ gs, gs = w.heap.size := ⟨_, rfl⟩
  have hgw : w.heap.size ≤ gs := by omega
  rw [← hgs] at M0
  obtain ⟨w1, hw1⟩ : ∃ w1, w1 = w.alloc (.map #[] 0) := ⟨_, rfl⟩
  rw [← hw1] at M0 x1
  replace hw1 := Lib.hid hw1
  replace hgs := Lib.hid hgs
  replace hR := Lib.hid hR
  go_enter Try.func49, Try.ntmps49
  go_upto_region 2 with fail
  rw [← hw1.out, ← hgs.out]
  clear hmm hw1
  go_wp2_with fail
  go_loopw [19] (fun i wr => ∃ (k : Nat) (D : DataW Unit), k ≤ G.length ∧ i = .int .i64 k ∧ SetI wr gs k D ∧ Hid (Ld G k D) ∧ Ext w wr) (fun i _ => G.length - (intOf i).toNat)
  case atStart => exact ⟨0, _, Nat.zero_le _, rfl, M0, Lib.hid (Ld.none G), x1⟩
  case round =>
    clear M0 x1
    obtain ⟨k, D, hk, rfl, hM, hD, hx⟩ := hrel
    by_cases hlt : k < G.length
    case pos =>
      have hbl : decide ((k : Int) < (G.length : Int)) = true := dtrue (by omega)
      have hbl' : decide (k < G.length) = true := dtrue hlt
      obtain ⟨ad, hA, c0⟩ := Own.at_ (hg.mod hx (fun _ _ h => h)) (k := k) (by rw [List.length_map]; exact hlt)
      rw [List.getElem_map] at c0
      subst hA
      have hi0 : (0 : Int) ≤ (k : Int) := by omega
      have hi1 : (k : Int) < (G.length : Int) := by omega
      have hkey := keyOf_iv G[k] (hgd _ (List.getElem_mem hlt))
      have hD2 := Lib.hid (hD.out.put hlt)
      clear hD
      generalize G[k] = x at *
      go_wp2_with (at_mapUpdate; refine wpList_mapUpdate_own _ rfl _ _ _ 69 rfl 3 72 keyI Try.underlying69 _ gs k _ rfl hM (by unfold maxLen; omega) _ _ _ rfl rfl hkey _ [] unitElem_mk ?_; intro w6 M6 g6)
      have x6 : Ext w w6 := hx.trans (Mod.of_grown (F := fun b => b = gs) g6 of_some) (fun _ _ h => h) (fun b hb h => by omega)
      exact ⟨⟨k + 1, _, by omega, by go_num, M6, hD2, x6⟩, by simp [intOf] <;> omega⟩
    have hbl : decide ((k : Int) < (G.length : Int)) = false := dfalse (by omega)
    have hbl' : decide (k < G.length) = false := dfalse hlt
    obtain rfl : k = G.length := by omega
    by_cases hsz : Maps.size D = G.length
    case neg =>
      have hb1 : ((Maps.size D : Int) != (G.length : Int)) = true := by rw [bne_iff_ne]; omega
      have hb1' : (Maps.size D != G.length) = true := by rw [bne_iff_ne]; omega
      have hb2 : ((Maps.size D : Int) == (G.length : Int)) = false := by rw [beq_eq_false_iff_ne]; omega
      have hb2' : (Maps.size D == G.length) = false := by rw [beq_eq_false_iff_ne]; omega
      have hnd : ¬ G.Nodup := fun q => hsz (hD.out.eq.2 (by rw [List.take_length]; exact q))
      have hE : Hid (R = false) := Lib.hid (by rw [hR.out]; exact dfalse fun q => hnd q.1)
      clear hD
      go_wp2_with (at_len; refine wpList_len_own _ rfl _ 69 rfl 3 72 Try.underlying69 _ gs G.length D rfl hM ?_)
      go_ret2
      exact ⟨_, by rw [hE.out]; rfl, fun q => absurd q hnd, fresh_nil _ _ _, hx⟩
    have hb1 : ((Maps.size D : Int) != (G.length : Int)) = false := by rw [bne_eq_false_iff_eq]; omega
    have hb1' : (Maps.size D != G.length) = false := by rw [bne_eq_false_iff_eq]; omega
    have hb2 : ((Maps.size D : Int) == (G.length : Int)) = true := by rw [beq_iff_eq]; omega
    have hb2' : (Maps.size D == G.length) = true := by rw [beq_iff_eq]; omega
    have hF := Lib.hid (hD.out.full hsz)
    have hGn := Lib.hid hF.out.nd
    replace hsz := Lib.hid hsz
    clear hD hlt hbl hbl' hk
    have hgl := hM.lt
    go_wp2_with (at_len; refine wpList_len_own _ rfl _ 69 rfl 3 72 Try.underlying69 _ gs G.length D rfl hM ?_)
    obtain ⟨w2, hw2⟩ : ∃ w2, w2 = wr := ⟨_, rfl⟩
    rw [← hw2] at hM hx hgl
    have hws : w.heap.size ≤ w2.heap.size := hx.size
    have hsame : Mod (fun b => b = gs) w2 wr := by rw [hw2]; exact Mod.refl _ _
    have hszz : w2.heap.size ≤ wr.heap.size := by rw [hw2]; exact Nat.le_refl _
    go_loopw [9, 34] (fun s i wr => ∃ (k : Nat) (D : DataW Unit), k ≤ L.length ∧ i = .int .i64 k ∧ SetI wr gs G.length D ∧ Hid (Lf (wo G (L.take k)).2 D) ∧ OwnF wr s (wo G (L.take k)).1 ∧ Fresh w2.heap.size s ∧ w2.heap.size ≤ wr.heap.size ∧ Ext w wr) (fun _ i _ => L.length - (intOf i).toNat)
    case atStart => exact ⟨0, D, Nat.zero_le _, rfl, by rw [← hw2]; exact hM, hF, OwnF.nil _, fresh_nil _ _ _, hszz, by rw [← hw2]; exact hx⟩
    case round =>
      clear hM hx hF hsame hszz hw2
      obtain ⟨k, D, hk, rfl, hM, hF, ho, hfr, hsw, hx⟩ := hrel
      by_cases hlt : k < L.length
      case neg =>
        have hbl : decide ((k : Int) < (L.length : Int)) = false := dfalse (by omega)
        have hE := List.take_of_length_le (show L.length ≤ k by omega)
        rw [hE] at ho hF
        have hszF := hF.out.sz
        replace hF := Lib.hid hF
        replace hE := Lib.hid hE
        by_cases hz : Maps.size D = 0
        case pos =>
          have hb3 : ((Maps.size D : Int) == 0) = true := by rw [beq_iff_eq]; omega
          have hb3' : (Maps.size D == 0) = true := by rw [beq_iff_eq]; omega
          have hE2 : Hid (R = true) := Lib.hid (by rw [hR.out]; exact dtrue ⟨hGn.out, List.eq_nil_of_length_eq_zero (by omega)⟩)
          replace hz := Lib.hid hz
          replace hszF := Lib.hid hszF
          go_wp2_with (at_len; refine wpList_len_own _ rfl _ 69 rfl 3 72 Try.underlying69 _ gs G.length D rfl hM ?_)
          go_ret2
          exact ⟨_, by rw [hE2.out]; rfl, fun _ => ho, hfr.mono hws, hx⟩
        have hb3 : ((Maps.size D : Int) == 0) = false := by rw [beq_eq_false_iff_ne]; omega
        have hb3' : (Maps.size D == 0) = false := by rw [beq_eq_false_iff_ne]; omega
        have hE2 : Hid (R = false) := Lib.hid (by rw [hR.out]; exact dfalse fun q => hz (by rw [hszF, q.2]; rfl))
        replace hz := Lib.hid hz
        replace hszF := Lib.hid hszF
        go_wp2_with (at_len; refine wpList_len_own _ rfl _ 69 rfl 3 72 Try.underlying69 _ gs G.length D rfl hM ?_)
        go_ret2
        exact ⟨_, by rw [hE2.out]; rfl, fun _ => ho, hfr.mono hws, hx⟩
      have hbl : decide ((k : Int) < (L.length : Int)) = true := dtrue (by omega)
      obtain ⟨ad, hA, _, c0, c1, c2, c3, c4⟩ := Fs.at_ (h4.ext hx) hlt
      subst hA
      have hst := wo_snoc G L hlt
      have hfl : (wo G (L.take k)).1.length ≤ k := Nat.le_trans (wo_len G _) (List.length_take_le k L)
      have hi0 : (0 : Int) ≤ (k : Int) := by omega
      have hi1 : (k : Int) < (L.length : Int) := by omega
      have hkey := keyOf_iv L[k].id (hid _ (List.getElem_mem hlt))
      obtain ⟨p2, hp2⟩ : ∃ p2, p2 = wo G (L.take (k + 1)) := ⟨_, rfl⟩
      rw [← hp2] at hst
      replace hp2 := Lib.hid hp2
      generalize L[k] = x at *
      generalize wo G (L.take k) = p at *
      have hn : (p.1.length + 1) * 56 ≤ 140737488355328 := by omega
      replace hfl := Lib.hid hfl
      have hhas := hF.out.has x.id
      have hbx : Ext wr (wr.alloc (.cells (fia x) 48)) := (Mod.refl _ wr).alloc _
      obtain ⟨z0, z1, z2, z3, z4⟩ := boxedF wr x
      obtain ⟨w3, hw3⟩ : ∃ w3, w3 = wr.alloc (.cells (fia x) 48) := ⟨_, rfl⟩
      rw [← hw3] at hbx z0 z1 z2 z3 z4
      have x3 := ext_trans hx hbx
      have M3 := ownsMap_mod hM hbx (fun h => h)
      obtain ⟨pb, hpb⟩ : ∃ pb, pb = wr.heap.size := ⟨_, rfl⟩
      rw [← hpb] at z0 z1 z2 z3 z4
      have x5 : Ext w3 (w3.alloc (.cells #[] 72)) := (Mod.refl _ w3).alloc _
      obtain ⟨w5, hw5⟩ : ∃ w5, w5 = w3.alloc (.cells #[] 72) := ⟨_, rfl⟩
      rw [← hw5] at x5
      have M5 := ownsMap_mod M3 x5 (fun h => h)
      have o5 := ho.ext (ext_trans hbx x5)
      have y5 := ext_trans x3 x5
      have hs5 : w2.heap.size ≤ w5.heap.size := Nat.le_trans hsw (ext_trans hbx x5).size
      have d0 := ext_cell x5 z0
      have d1 := ext_cell x5 z1
      have d2 := ext_cell x5 z2
      have d3 := ext_cell x5 z3
      have d4 := ext_cell x5 z4
      replace hpb := Lib.hid hpb
      replace hw3 := Lib.hid hw3
      replace hw5 := Lib.hid hw5
      clear ho hx hbx x5 x3 hM hsw
      by_cases hin : x.id ∈ p.2
      case pos =>
        have hh : Maps.has D (.int .i64 x.id) = true := by rw [hhas]; exact decide_eq_true hin
        have hF2 := hF.out.del hin
        have hs2 : Hid (p2 = (p.1, p.2.erase x.id)) := Lib.hid (by rw [hst]; unfold woS; rw [if_pos hin])
        replace hF2 := Lib.hid hF2
        clear hst hhas hF hin
        go_upto_region 13 with fail
        rw [← hw3.out, ← hpb.out]
        clear hw3 hpb c0 c1 c2 c3 c4
        go_upto_region 14 with (at_lookup; refine wpList_lookup_own_unit _ rfl _ _ 69 rfl 3 72 keyI Try.underlying69 (zeroU _) gs G.length _ rfl M3 _ _ rfl hkey ?_; rw [hh])
        rw [← hw5.out]
        clear hw5
        go_wp2_with (at_delete; refine wpList_delete_own _ rfl _ _ 69 3 rfl 72 keyI Try.underlying69 _ gs G.length D rfl M5 _ _ rfl hkey ?_; intro w6 M6 t6)
        have m6 : Mod (fun b => b = gs) w5 w6 := Mod.of_grown t6.grown of_some
        have o6 := OwnR.mod o5 m6 (fun b hb e => by have := hfr b hb; omega)
        have x6 : Ext w w6 := y5.trans m6 (fun _ _ h => h) (fun b hb h => by omega)
        exact ⟨⟨k + 1, _, by omega, by go_num, M6, by rw [← hp2.out, hs2.out]; exact hF2, by rw [← hp2.out, hs2.out]; exact o6, hfr, Nat.le_trans hs5 m6.size, x6⟩, by simp [intOf] <;> omega⟩
      have hh : Maps.has D (.int .i64 x.id) = false := by rw [hhas]; exact decide_eq_false hin
      have hs2 : Hid (p2 = (p.1 ++ [x], p.2)) := Lib.hid (by rw [hst]; unfold woS; rw [if_neg hin])
      clear hst hhas hin
      go_upto_region 13 with fail
      rw [← hw3.out, ← hpb.out]
      clear hw3 hpb c0 c1 c2 c3 c4
      go_upto_region 14 with (at_lookup; refine wpList_lookup_own_unit _ rfl _ _ 69 rfl 3 72 keyI Try.underlying69 (zeroU _) gs G.length _ rfl M3 _ _ rfl hkey ?_; rw [hh])
      rw [← hw5.out]
      clear hw5
      go_wp2_with ((with_reducible show wpList _ _ _ (⟨some 52, _, _, _, _, _⟩ :: _) _ _); refine wp_appR tyF fic_len (x := x) o5 rfl (fic_ok _) hn rfl (.tmp 49) (.tmp 51) rfl rfl rfl ?_; intro va wa ka1 ka2 ka3)
      have M6 := ownsMap_mod M5 ka2 (fun hb => by have := hfr gs hb; omega)
      exact ⟨⟨k + 1, _, by omega, by go_num, M6, by rw [← hp2.out, hs2.out]; exact hF, by rw [← hp2.out, hs2.out]; exact ka1, ka3.fresh hfr hs5, Nat.le_trans hs5 ka2.size, ext_app0 y5 (hfr.mono hws) ka2⟩, by simp [intOf] <;> omega⟩
end Go.Proofs.Ytmjkgibeljbloaa
