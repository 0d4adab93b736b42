/- schema: as many attributes and values as there may be. -/
import Derived.Test.YtdfjldlfimbimaaScD
namespace Go.Proofs.Ytdfjldlfimbimaa
open Go.RowKit Go.Maps
set_option maxRecDepth 100000

abbrev fo (a : Att) : List UInt8 := foldB a.typ
theorem MpAt.run_look1 {P : Program} {w : World} {t kt et : TypeId} {b : Nat} {D : List (ByteArray × Value)} (h : MpAt w b D) (ht : P.underlying t = some (.map kt et)) (hk : P.underlying kt = some .string) {z : Value} (hz : ∀ u : World, (zeroValue et).run P u = .ok z u) (s : ByteArray) :
    (Instr.lookup t (.map (some b)) (.string s) false).run P w = .ok ((lk s D).getD z) w := by
  obtain ⟨es, c, h1, h2⟩ := h
  have h3 := find_at s D es.toList 0 h2
  cases hl : lk s D with
  | none => simp [Instr.lookup, run_underlying ht, MapKept.run_getObj_map h1, MapKept.run_checkKey hk (show MapKept.IsKey .string (.string s) from trivial), MapKept.run_findKey hk (h3.1 hl), Result.andThen, hz]
  | some v =>
    obtain ⟨j, h4⟩ := h3.2 v hl
    simp [Instr.lookup, run_underlying ht, MapKept.run_getObj_map h1, MapKept.run_checkKey hk (show MapKept.IsKey .string (.string s) from trivial), MapKept.run_findKey hk h4, Result.andThen]
theorem oneV_look {G : List UInt8} : ∃ n, (lk ⟨G.toArray⟩ tyD).getD (.agg #[.int .i64 0, .bool false]) = .agg #[.int .i64 n, .bool (oneV G)] := by
  cases h : lk ⟨G.toArray⟩ tyD with
  | none => exact ⟨0, by unfold oneV; rw [h]; rfl⟩
  | some v =>
    obtain ⟨_, rfl⟩ := lk_in h
    exact ⟨_, by unfold oneV; rw [h]; rfl⟩
theorem counts_next (L : List Att) {k : Nat} (h : k < L.length) : (((L.take (k + 1)).map fo).Nodup ∧ ∀ a ∈ L.take (k + 1), goodA a) ↔ (((L.take k).map fo).Nodup ∧ ∀ a ∈ L.take k, goodA a) ∧ fo L[k] ∉ (L.take k).map fo ∧ goodA L[k] := by
  rw [List.take_succ_eq_append_getElem h, List.map_append, List.nodup_append]
  constructor
  · rintro ⟨⟨q1, _, q3⟩, q4⟩
    exact ⟨⟨q1, fun a ha => q4 a (List.mem_append_left _ ha)⟩, fun q => q3 _ q _ (List.mem_singleton.2 rfl) rfl, q4 _ (List.mem_append_right _ (List.mem_singleton.2 rfl))⟩
  · rintro ⟨⟨q1, q2⟩, q3, q4⟩
    refine ⟨⟨q1, by simp, fun x hx y hy e => ?_⟩, fun a ha => ?_⟩
    · rw [List.map_cons, List.map_nil, List.mem_singleton] at hy
      subst hy; subst e; exact q3 hx
    · rcases List.mem_append.1 ha with r | r
      · exact q2 a r
      · rw [List.mem_singleton.1 r]; exact q4
theorem counts_sub {L : List Att} (h : countsE L) (k : Nat) : ((L.take k).map fo).Nodup ∧ ∀ a ∈ L.take k, goodA a :=
  ⟨h.1.sublist ((List.take_sublist k L).map _), fun a ha => h.2.1 a (List.mem_of_mem_take ha)⟩
set_option maxHeartbeats 32000000 in
theorem scounted_any {w : World} {vd va : Value} {E : Ent} (hd : As w AllE vd E.dn) (ha : Ats w va E.ats) (hw : wE E ≤ 1000000) :
    Calls Try.prog 23 #[.agg #[vd, va]] w fun e w' => e = .returned (.bool (decide (countsE E.ats))) ∧ Ext w w' := by
  have hwa : wA E.ats ≤ 1000000 := by unfold wE at hw; omega
  have hgl := wA_ge E.ats
  have hfm : ∀ x ∈ E.ats, x.typ.length ≤ 1000000 ∧ x.vals.length ≤ 1000000 ∧ ∀ u ∈ x.vals, u.length ≤ 1000000 := fun x hx => by
    have h1 := wA_mem hx
    have h2 := wV_ge x.vals
    exact ⟨by omega, by omega, fun u hu => by have := wV_mem hu; omega⟩
  have hax := fun {wx : World} (x : Ext w wx) => (ha.ext x).open_
  obtain ⟨A, c, hva, -⟩ := ha.open_
  obtain ⟨A0, c0, hvd⟩ := Rc.shape hd
  obtain ⟨m, hm⟩ : ∃ n, n = E.ats.length := ⟨_, rfl⟩
  obtain ⟨m0, hm0⟩ : ∃ n, n = E.dn.length := ⟨_, rfl⟩
  rw [← hm] at hva hgl
  rw [← hm0] at hvd
  subst hva
  subst hvd
  have hM : m ≤ 1000000 := by omega
  obtain ⟨w1, hw1⟩ : ∃ x, x = w.alloc (.cells #[.slice A0 m0 c0, .slice A m c] 31) := ⟨_, rfl⟩
  obtain ⟨p, hp⟩ : ∃ p, p = w.heap.size := ⟨_, rfl⟩
  have x1 : Ext w w1 := by rw [hw1]; exact (Mod.refl _ w).alloc _
  have BP : Blk w1 p 31 #[.slice A0 m0 c0, .slice A m c] := by rw [hw1, hp]; exact Blk.new w _ _
  have hpc : ∀ {wx : World}, Ext w1 wx → wx.cell? ⟨p, 1, none⟩ = some (.slice A m c) := fun x => (BP.mod x (fun h => h)).cell 1
  have hpd : ∀ {wx : World}, Ext w1 wx → wx.cell? ⟨p, 0, none⟩ = some (.slice A0 m0 c0) := fun x => (BP.mod x (fun h => h)).cell 0
  replace hm := Lib.hid hm
  replace hm0 := Lib.hid hm0
  replace hw1 := Lib.hid hw1
  replace hp := Lib.hid hp
  clear BP hw
  have ht := types_any (w := w1)
  have hmm : ∀ wx : World, (Instr.makeMap 68 none).run Try.prog wx = .ok (.map (some wx.heap.size)) (wx.alloc (.map #[] 0)) := fun wx => by simp [Instr.makeMap, Result.andThen]
  go_enter Try.func23, Try.ntmps23
  go_upto_region 1 with fail
  rw [← hw1.out, ← hp.out]
  clear hw1 hp
  go_wp2_with fail
  refine ht.mono ?_
  rintro e w2 ⟨bt, rfl, -, hMt, x2⟩
  clear ht
  have M0 : SetU (w2.alloc (.map #[] 0)) w2.heap.size 0 (.map []) := World.ownsMap_made _ _ _ _
  have x3 : Ext w2 (w2.alloc (.map #[] 0)) := (Mod.refl _ w2).alloc _
  have hkt : ∀ {wx : World}, Ext w2 wx → MpAt wx bt tyD := fun q => hMt.mod q (fun h => h)
  have z2 : Ext w w2 := ext_trans x1 x2
  have p3 := hpc (ext_trans x2 x3)
  obtain ⟨bs, hbs⟩ : ∃ b, b = w2.heap.size := ⟨_, rfl⟩
  go_wp2_with fail
  rw [← hbs] at M0 ⊢
  obtain ⟨w3, hw3⟩ : ∃ x, x = w2.alloc (.map #[] 0) := ⟨_, rfl⟩
  rw [← hw3] at M0 x3 p3 ⊢
  have hb2 : w2.heap.size ≤ bs := by omega
  clear hw3 hbs
  go_loopw [15] (fun i wr => ∃ (k : Nat) (D : DataW Unit), k ≤ m ∧ i = .int .i64 k ∧ SetU wr bs k D ∧ Hid (IsSet D ((E.ats.take k).map fo)) ∧ Hid (((E.ats.take k).map fo).Nodup ∧ ∀ a ∈ E.ats.take k, goodA a) ∧ Ext w2 wr) (fun i _ => m - (intOf i).toNat)
  case atStart => exact ⟨0, _, Nat.zero_le _, rfl, M0, Lib.hid isSet_none, Lib.hid ⟨List.nodup_nil, fun a ha => by cases ha⟩, x3⟩
  case round =>
    clear M0 p3 hmm
    obtain ⟨k, D, hk, rfl, hM1, hS, hgd, hx⟩ := hrel
    by_cases hlt : k < m
    case neg =>
      have hbl : decide ((k : Int) < (m : Int)) = false := dfalseI (by omega)
      have hbn : decide (k < m) = false := dfalseI (by omega)
      rw [List.take_of_length_le (by have := hm.out; omega)] at hgd
      have p4 := hpc (ext_trans x2 hx)
      have hres : Hid (decide ((m : Int) ≤ 16) = decide (countsE E.ats)) := Lib.hid (by
        have hmo := hm.out
        by_cases q : m ≤ 16
        · rw [decide_eq_true (show (m : Int) ≤ 16 by omega), decide_eq_true (show countsE E.ats from ⟨hgd.out.1, hgd.out.2, by omega⟩)]
        · rw [decide_eq_false (show ¬ (m : Int) ≤ 16 by omega), decide_eq_false (show ¬ countsE E.ats from fun h => by have := h.2.2; omega)])
      clear hgd hS hM1
      go_wp2_with fail
      go_ret
      exact ⟨by rw [← hres.out]; (first | rfl | simp), ext_trans z2 hx⟩
    have hbl : decide ((k : Int) < (m : Int)) = true := dtrueI (by omega)
    have hbn : decide (k < m) = true := dtrueI (by omega)
    have hcn := counts_next E.ats (k := k) (by have := hm.out; omega)
    have hcs := fun h : countsE E.ats => counts_sub h (k + 1)
    have hmp : (E.ats.take (k + 1)).map fo = (E.ats.take k).map fo ++ [fo (E.ats[k]'(by have := hm.out; omega))] := by rw [List.take_succ_eq_append_getElem (by have := hm.out; omega), List.map_append]; rfl
    have l1 : k < E.ats.length := by have := hm.out; omega
    obtain ⟨A', c', hv, hat⟩ := hax (Mod.refl _ w)
    obtain ⟨ad, y, hA, a0w, a1w, hy⟩ := hat k l1
    have a0 := ext_cell (ext_trans z2 hx) a0w
    have a1 := ext_cell (ext_trans z2 hx) a1w
    clear a0w a1w
    injection hv with hv1 hvl hv3
    clear hvl
    subst hv1
    subst hv3
    subst hA
    have hkn := knownE_next E.ats l1
    have hnn := namedE_next E.ats l1
    have hfx := hfm _ (List.getElem_mem l1)
    have hxm : E.ats[k] ∈ E.ats := List.getElem_mem l1
    have hxk : E.ats[k]? = some E.ats[k] := List.getElem?_eq_getElem l1
    generalize E.ats[k] = x at *
    have hi0 : (0 : Int) ≤ (k : Int) := by omega
    have hi1 : (k : Int) < (m : Int) := by omega
    obtain ⟨Ay, cy, hvy, -, -, -, -⟩ := hy.open_
    obtain ⟨nx, hnx⟩ : ∃ n, n = x.vals.length := ⟨_, rfl⟩
    rw [← hnx] at hvy
    subst hvy
    replace hnx := Lib.hid hnx
    obtain ⟨wa, hwa⟩ : ∃ wa, wa = wr.alloc (.cells #[sv x.typ, .slice Ay nx cy] 43) := ⟨_, rfl⟩
    obtain ⟨ga, hga⟩ : ∃ ga, ga = wr.heap.size := ⟨_, rfl⟩
    have xa : Ext wr wa := by rw [hwa]; exact (Mod.refl _ wr).alloc _
    have BA : Blk wa ga 43 #[sv x.typ, .slice Ay nx cy] := by rw [hwa, hga]; exact Blk.new wr _ _
    have b0 : wa.cell? ⟨ga, 0, none⟩ = some (sv x.typ) := BA.cell 0
    have hbc : ∀ {wx : World}, Ext wa wx → wx.cell? ⟨ga, 0, none⟩ = some (sv x.typ) ∧ wx.cell? ⟨ga, 1, none⟩ = some (.slice Ay nx cy) := fun x => ⟨(BA.mod x (fun h => h)).cell 0, (BA.mod x (fun h => h)).cell 1⟩
    have hya : ∀ {wx : World}, Ext w wx → Ts wx AllE (.slice Ay nx cy) x.vals := fun q => hy.ext q
    have hgaw : wr.heap.size ≤ ga := by omega
    replace hwa := Lib.hid hwa
    replace hga := Lib.hid hga
    clear hat l1
    go_upto_region 6 with fail
    rw [← hwa.out, ← hga.out]
    clear hwa hga a0 a1
    have hf1 := fold_any (w := wa) x.typ (by have := hfx.1; omega)
    obtain ⟨G, hG⟩ : ∃ G, G = foldB x.typ := ⟨_, rfl⟩
    have hGl : G.length ≤ 1000000 := by rw [hG]; exact Nat.le_trans (foldB_len (s := x.typ)) hfx.1
    rw [← hG] at hf1
    replace hG := Lib.hid hG
    go_wp2_with fail
    refine hf1.mono ?_
    rintro e' w4 ⟨rfl, x4⟩
    clear hf1 hkn hnn
    have xa4 := ext_trans xa x4
    have y4 := ext_trans hx xa4
    have M4 := ownsMap_mod hM1 xa4 (fun h => h)
    have hkey := keyOf_sv G (by omega)
    have hhas : has D (.string G) = decide (G ∈ (E.ats.take k).map fo) := hS.out.2 G
    obtain ⟨q, hq⟩ : ∃ q, q = decide (G ∈ (E.ats.take k).map fo) := ⟨_, rfl⟩
    rw [← hq] at hhas
    replace hq := Lib.hid hq
    obtain ⟨w5, hw5⟩ : ∃ w5, w5 = w4.alloc (.cells #[] 69) := ⟨_, rfl⟩
    have x5 : Ext w4 w5 := by rw [hw5]; exact (Mod.refl _ w4).alloc _
    have xr5 := ext_trans xa4 x5
    have y5 := ext_trans hx xr5
    have M5 := ownsMap_mod M4 x5 (fun h => h)
    replace hw5 := Lib.hid hw5
    clear b0
    go_upto_region 8 with (at_lookup; refine wpList_lookup_own_unit _ rfl _ _ 68 rfl 9 69 keyS Try.underlying68 (zeroU _) bs k _ rfl M4 _ _ rfl hkey ?_; rw [hhas])
    rw [← hw5.out]
    clear hw5 M4 hhas
    cases q
    case true =>
      have hbad : Hid (decide (countsE E.ats) = false) := Lib.hid (dfalseI fun h => by
        have h2 := (hcn.1 (hcs h)).2.1
        have h3 := of_decide_eq_true hq.out.symm
        rw [hG.out] at h3
        exact h2 h3)
      clear hcn hcs hmp hS hgd
      go_wp2_with fail
      go_ret
      exact ⟨by rw [hbad.out]; rfl, ext_trans z2 y5⟩
    have hnot : fo x ∉ (E.ats.take k).map fo := by
      have h3 := of_decide_eq_false hq.out.symm
      rw [hG.out] at h3
      exact h3
    have hS2 : Hid (IsSet (D.put (.string G) (.agg [])) ((E.ats.take (k + 1)).map fo)) := Lib.hid (by rw [hmp, hG.out]; exact hS.out.put _)
    have hgA : Hid (goodA x → ((E.ats.take (k + 1)).map fo).Nodup ∧ ∀ a ∈ E.ats.take (k + 1), goodA a) := Lib.hid fun q => hcn.2 ⟨hgd.out, hnot, q⟩
    have hgB : Hid (¬ goodA x → decide (countsE E.ats) = false) := Lib.hid fun q => dfalseI fun h => q (h.2.1 x hxm)
    have hgo : Hid (goodA x ↔ nx ≠ 0 ∧ nx ≤ 16 ∧ (oneV G = true → nx ≤ 1)) := Lib.hid (by unfold goodA; rw [hnx.out, hG.out])
    obtain ⟨n9, hlo⟩ := oneV_look (G := G)
    generalize oneV G = oq at *
    clear hcn hcs hmp hS hgd hnot hq
    go_upto_region 11 with (at_mapUpdate; refine wpList_mapUpdate_own _ rfl _ _ _ 68 rfl 9 69 keyS Try.underlying68 _ bs k _ rfl M5 (by unfold maxLen; omega) _ _ _ rfl rfl hkey _ [] unitElem_mk ?_; intro w6 M6 g6)
    have x6 : Ext w2 w6 := y5.trans (Mod.of_grown (F := fun b => b = bs) g6 (fun b hb => by injection hb with hb; exact hb.symm)) (fun _ _ h => h) (fun b hb h => by omega)
    have xa6 : Mod (fun b => b = bs) wa w6 := (ext_trans x4 x5).trans (Mod.of_grown (F := fun b => b = bs) g6 (fun b hb => by injection hb with hb; exact hb.symm)) (fun _ _ h => h.elim) (fun b hb h => h)
    have B6 := BA.mod xa6 (fun h => by have := hM1.lt; omega)
    have b1 : w6.cell? ⟨ga, 1, none⟩ = some (.slice Ay nx cy) := B6.cell 1
    have hMt6 := hkt x6
    clear hkey xa6 g6
    by_cases c1 : nx = 0
    case pos =>
      have q1 : ((nx : Int) == 0) = true := by rw [beq_iff_eq]; omega
      have q2 : (nx == 0) = true := by rw [beq_iff_eq]; exact c1
      have hbad := Lib.hid (hgB.out fun q => (hgo.out.1 q).1 c1)
      clear hgA hgB hgo
      replace c1 := Lib.hid c1
      go_wp2_with fail
      go_ret
      exact ⟨by rw [hbad.out]; rfl, ext_trans z2 x6⟩
    have q1 : ((nx : Int) == 0) = false := by rw [beq_eq_false_iff_ne]; omega
    have q2 : (nx == 0) = false := by rw [beq_eq_false_iff_ne]; exact c1
    by_cases c2 : 16 < nx
    case pos =>
      have q3 : decide ((16 : Int) < (nx : Int)) = true := dtrueI (by omega)
      have q4 : decide (16 < nx) = true := dtrueI c2
      have hbad := Lib.hid (hgB.out fun q => by have := (hgo.out.1 q).2.1; omega)
      clear hgA hgB hgo
      go_wp2_with fail
      go_ret
      exact ⟨by rw [hbad.out]; rfl, ext_trans z2 x6⟩
    have q3 : decide ((16 : Int) < (nx : Int)) = false := dfalseI (by omega)
    have q4 : decide (16 < nx) = false := dfalseI c2
    have hlkr : (Instr.lookup 49 (.map (some bt)) (sv G) false).run Try.prog w6 = .ok (.agg #[.int .i64 n9, .bool oq]) w6 := by
      have h9 := hMt6.run_look1 (P := Try.prog) Try.underlying49 Try.underlying9 zeroK ⟨G.toArray⟩
      rw [hlo] at h9
      exact h9
    have hfd : ∀ wx : World, (Instr.field 51 (.agg #[.int .i64 n9, .bool oq]) 1).run Try.prog wx = .ok (.bool oq) wx := fun wx => by kernel_rfl
    clear hlo hMt6
    by_cases c3 : oq = true ∧ 1 < nx
    case pos =>
      obtain ⟨c4, c5⟩ := c3
      have q5 : decide ((1 : Int) < (nx : Int)) = true := dtrueI (by omega)
      have q6 : decide (1 < nx) = true := dtrueI c5
      have hbad := Lib.hid (hgB.out fun q => by have := (hgo.out.1 q).2.2 c4; omega)
      subst c4
      clear hgA hgB hgo
      go_wp2_with fail
      go_ret
      exact ⟨by rw [hbad.out]; rfl, ext_trans z2 x6⟩
    have hgood := Lib.hid (hgA.out (hgo.out.2 ⟨c1, by omega, fun q => by
      refine Decidable.byContradiction fun r => c3 ⟨q, by omega⟩⟩))
    clear hgA hgB hgo
    cases oq
    case false =>
      go_wp2_with fail
      exact ⟨⟨k + 1, _, by omega, by go_num, M6, hS2, hgood, x6⟩, by simp [intOf] <;> omega⟩
    have q5 : decide ((1 : Int) < (nx : Int)) = false := dfalseI (fun q => c3 ⟨rfl, by omega⟩)
    have q6 : decide (1 < nx) = false := dfalseI (fun q => c3 ⟨rfl, q⟩)
    clear c3
    go_wp2_with fail
    exact ⟨⟨k + 1, _, by omega, by go_num, M6, hS2, hgood, x6⟩, by simp [intOf] <;> omega⟩
end Go.Proofs.Ytdfjldlfimbimaa
