/- schema: the values of a type, by the document; an entry's own part among its values. -/
import Derived.Test.YtdfjldlfimbimaaScF
namespace Go.Proofs.Ytdfjldlfimbimaa
open Go.RowKit
set_option maxRecDepth 100000

set_option maxHeartbeats 8000000 in
theorem vals14_any {w : World} {vd va : Value} {e : Ent} {typ : List UInt8} (hd : As w AllE vd e.dn) (ha : Ats w va e.ats) (hw : wE e ≤ 1000000) (ht : typ.length ≤ 1000000) :
    Calls Try.prog 14 #[.agg #[vd, va], sv typ] w fun e' w' => ∃ v', e' = .returned v' ∧ Own w' 9 v' ((e.ats.flatMap (selE (foldB typ))).map sv) ∧ Ext w w' := by
  have hwa : wA e.ats ≤ 1000000 := by unfold wE at hw; omega
  have hgl := wA_ge e.ats
  have hfm : ∀ x ∈ e.ats, x.typ.length ≤ 1000000 ∧ x.vals.length ≤ 1000000 := fun x hx => by have := wA_mem hx; have := wV_ge x.vals; omega
  have hax := fun {wx : World} (x : Ext w wx) => (ha.ext x).open_
  obtain ⟨A, c, hva, -⟩ := ha.open_
  obtain ⟨A0, c0, hvd⟩ := Rc.shape hd
  obtain ⟨n, hn⟩ : ∃ n, n = e.ats.length := ⟨_, rfl⟩
  obtain ⟨n0, hn0⟩ : ∃ n, n = e.dn.length := ⟨_, rfl⟩
  rw [← hn] at hva hgl
  rw [← hn0] at hvd
  subst hva
  subst hvd
  have hN : n ≤ 1000000 := by omega
  obtain ⟨w1, hw1⟩ : ∃ x, x = w.alloc (.cells #[.slice A0 n0 c0, .slice A n c] 31) := ⟨_, rfl⟩
  obtain ⟨p, hp⟩ : ∃ p, p = w.heap.size := ⟨_, rfl⟩
  have x1 : Ext w w1 := by rw [hw1]; exact (Mod.refl _ w).alloc _
  have BP : Blk w1 p 31 #[.slice A0 n0 c0, .slice A n c] := by rw [hw1, hp]; exact Blk.new w _ _
  have hfT := fun wx => rfold_any (w := wx) typ (by omega)
  obtain ⟨F, hF⟩ : ∃ F, F = foldB typ := ⟨_, rfl⟩
  rw [← hF] at hfT ⊢
  have hpc : ∀ {wx : World}, Ext w1 wx → wx.cell? ⟨p, 1, none⟩ = some (.slice A n c) := fun x => (BP.mod x (fun h => h)).cell 1
  replace hF := Lib.hid hF
  replace hn := Lib.hid hn
  replace hn0 := Lib.hid hn0
  replace hw1 := Lib.hid hw1
  replace hp := Lib.hid hp
  have hws : w.heap.size ≤ w1.heap.size := x1.size
  clear ha hd hw hgl BP
  go_enter Try.func14, Try.ntmps14
  go_upto_region 1 with fail
  rw [← hw1.out, ← hp.out]
  clear hw1 hp
  go_wp2_with fail
  go_loopw [5, 6] (fun v i wr => ∃ k : Nat, k ≤ n ∧ i = .int .i64 k ∧ Own wr 9 v (((e.ats.take k).flatMap (selE F)).map sv) ∧ Fresh w1.heap.size v ∧ Ext w1 wr) (fun _ i _ => n - (intOf i).toNat)
  case atStart => exact ⟨0, Nat.zero_le _, rfl, Own.nil _ _, fresh_nil _ _ _, Mod.refl _ _⟩
  case round =>
    obtain ⟨k, hk, rfl, ho, hfr, hx⟩ := hrel
    have p1 := hpc hx
    by_cases hlt : k < n
    case neg =>
      have hbl : decide ((k : Int) < (n : Int)) = false := dfalseI (by omega)
      have hbn : decide (k < n) = false := dfalseI (by omega)
      rw [List.take_of_length_le (by have := hn.out; omega)] at ho
      go_wp2_with fail
      go_ret
      exact ⟨_, rfl, ho, ext_trans x1 hx⟩
    have hbl : decide ((k : Int) < (n : Int)) = true := dtrueI (by omega)
    have hbn : decide (k < n) = true := dtrueI (by omega)
    have l1 : k < e.ats.length := by have := hn.out; omega
    obtain ⟨A', c', hv, hat⟩ := hax (ext_trans x1 hx)
    obtain ⟨ad, y, hA, a0, a1, hy⟩ := hat k l1
    injection hv with hv1 hvl hv3
    clear hvl
    subst hv1
    subst hv3
    subst hA
    have hsn := selE_next F e.ats l1
    have hfx := hfm _ (List.getElem_mem l1)
    have hlen : ((e.ats.take k).flatMap (selE F)).length ≤ 1000000 := by
      have h1 := selE_len F (e.ats.take k)
      have h2 := sumF_take atW e.ats k
      rw [← wA_sum, ← wA_sum] at h2
      omega
    generalize e.ats[k] = x at *
    have hi0 : (0 : Int) ≤ (k : Int) := by omega
    have hi1 : (k : Int) < (n : Int) := by omega
    obtain ⟨Ay, cy, hvy, -, -, -, -⟩ := hy.open_
    obtain ⟨nx, hnx⟩ : ∃ n, n = x.vals.length := ⟨_, rfl⟩
    rw [← hnx] at hvy
    subst hvy
    replace hnx := Lib.hid hnx
    have hf1 := rfold_any (w := wr) x.typ (by omega)
    generalize hfo : foldB x.typ = G at *
    have hsel : selE F x = if G = F then x.vals else [] := by unfold selE; rw [hfo]
    replace hfo := Lib.hid hfo
    clear hat l1 hax
    go_wp2_with fail
    refine hf1.mono ?_
    rintro e' w2 ⟨rfl, x2⟩
    have hf2 := hfT w2
    clear hf1 hfT
    go_wp2_with fail
    refine hf2.mono ?_
    rintro e' w3 ⟨rfl, x3⟩
    have x23 := ext_trans x2 x3
    have b1 := ext_cell x23 a1
    have p3 := hpc (ext_trans hx x23)
    have ho3 := ho.mod x23 (fun _ _ h => h)
    have hy3 := hy.ext x23
    have hx3 := ext_trans hx x23
    clear hf2 ho hy x2 x3 x23 a0 a1 p1 hpc
    by_cases hgf : G = F
    · have hb1 : (G == F) = true := beq_iff_eq.2 hgf
      rw [if_pos hgf] at hsel
      rw [hsel] at hsn
      have hn1 := Lib.hid (show ((((e.ats.take k).flatMap (selE F)).map sv).length + (x.vals.map sv).length) * 16 ≤ 140737488355328 by rw [List.length_map, List.length_map]; omega)
      have hmp : Hid (((e.ats.take k).flatMap (selE F)).map sv ++ x.vals.map sv = ((e.ats.take (k + 1)).flatMap (selE F)).map sv) := Lib.hid (by rw [hsn, List.map_append])
      clear hsn hsel hgf
      go_wp2_with ((with_reducible show wpList _ _ _ (⟨some 31, _, _, _, _, _⟩ :: _) _ _); refine wp_app tySE ho3 hy3 (sv_ones _) rfl (.tmp 24) (.tmp 30) rfl rfl rfl hn1.out ?_; intro v4 w4 k1 k2 k3)
      exact ⟨⟨k + 1, by omega, by go_num, by rw [← hmp.out]; exact k1, k3.fresh hfr hx3.size, hx3.trans k2 (fun _ _ h => h) (fun b hb h => by have := hfr b h; omega)⟩, by simp [intOf] <;> omega⟩
    · have hb1 : (G == F) = false := beq_eq_false_iff_ne.2 hgf
      rw [if_neg hgf] at hsel
      rw [hsel, List.append_nil] at hsn
      replace hsn := Lib.hid hsn
      clear hsel hgf
      go_wp2_with fail
      exact ⟨⟨k + 1, by omega, by go_num, by rw [hsn.out]; exact ho3, hfr, hx3⟩, by simp [intOf] <;> omega⟩
theorem nameE_nil (L : List Att) : nameE [] L := fun p h => by cases h
theorem nameE_cons {P0 : Av} {D : List Av} {L : List Att} : nameE (P0 :: D) L ↔ ∃ a ∈ L, fo a = foldB P0.1 ∧ ∃ v ∈ a.vals, foldB v = foldB P0.2 :=
  ⟨fun h => h P0 rfl, fun h q e => by cases e; exact h⟩
set_option maxHeartbeats 32000000 in
theorem shasName_any {w : World} {vd va : Value} {E : Ent} {P0 : Av} {D0 : List Av} (hdn : E.dn = P0 :: D0) (hd : As w AllE vd E.dn) (ha : Ats w va E.ats) (hw : wE E ≤ 1000000) :
    Calls Try.prog 25 #[.agg #[vd, va]] w fun e w' => e = .returned (.bool (decide (nameE E.dn E.ats))) ∧ Ext w w' := by
  have hpl : P0.1.length + P0.2.length ≤ 1000000 := by
    have h1 := wD_mem (L := E.dn) (a := P0) (by rw [hdn]; exact List.mem_cons_self ..)
    unfold wE at hw
    omega
  have hwa : wA E.ats ≤ 1000000 := by unfold wE at hw; omega
  have hgl := wA_ge E.ats
  have hfm : ∀ x ∈ E.ats, x.typ.length ≤ 1000000 ∧ x.vals.length ≤ 1000000 ∧ ∀ u ∈ x.vals, u.length ≤ 1000000 := fun x hx => by
    have h1 := wA_mem hx
    have h2 := wV_ge x.vals
    exact ⟨by omega, by omega, fun u hu => by have := wV_mem hu; omega⟩
  have hax := fun {wx : World} (x : Ext w wx) => (ha.ext x).open_
  obtain ⟨A, c, hva, -⟩ := ha.open_
  obtain ⟨A0, c0, hvd⟩ := Rc.shape hd
  obtain ⟨m, hm⟩ : ∃ n, n = E.ats.length := ⟨_, rfl⟩
  obtain ⟨m0, hm0⟩ : ∃ n, n = E.dn.length := ⟨_, rfl⟩
  rw [← hm] at hva hgl
  rw [← hm0] at hvd
  subst hva
  subst hvd
  have hM : m ≤ 1000000 := by omega
  obtain ⟨w1, hw1⟩ : ∃ x, x = w.alloc (.cells #[.slice A0 m0 c0, .slice A m c] 31) := ⟨_, rfl⟩
  obtain ⟨p, hp⟩ : ∃ p, p = w.heap.size := ⟨_, rfl⟩
  have x1 : Ext w w1 := by rw [hw1]; exact (Mod.refl _ w).alloc _
  have BP : Blk w1 p 31 #[.slice A0 m0 c0, .slice A m c] := by rw [hw1, hp]; exact Blk.new w _ _
  have hpc : ∀ {wx : World}, Ext w1 wx → wx.cell? ⟨p, 1, none⟩ = some (.slice A m c) := fun x => (BP.mod x (fun h => h)).cell 1
  have hpd : ∀ {wx : World}, Ext w1 wx → wx.cell? ⟨p, 0, none⟩ = some (.slice A0 m0 c0) := fun x => (BP.mod x (fun h => h)).cell 0
  replace hm := Lib.hid hm
  replace hm0 := Lib.hid hm0
  replace hw1 := Lib.hid hw1
  replace hp := Lib.hid hp
  clear BP hw
  obtain ⟨_, _, he9, -, -, -, hd4⟩ := (hd.ext x1).open_ avc_len
  injection he9 with he1 he2 he3
  subst he1
  subst he3
  clear he2
  obtain ⟨ad0, hA0, -, d0, d1⟩ := As.at_ hd4 (i := 0) (by rw [hdn]; simp)
  subst hA0
  have hP0 : E.dn[0]'(by rw [hdn]; simp) = P0 := by simp [hdn]
  rw [hP0] at d0 d1
  have hadd : ad0.add (0 * 2) = ad0 := by cases ad0; simp [Addr.add]
  rw [hadd] at d0 d1
  have hm1 : 0 < m0 := by have := hm0.out; rw [hdn] at this; simp at this; omega
  have hm1i : (0 : Int) < (m0 : Int) := by omega
  have hnm : Hid (nameE E.dn E.ats ↔ ∃ a ∈ E.ats, fo a = foldB P0.1 ∧ ∃ v ∈ a.vals, foldB v = foldB P0.2) := Lib.hid (by rw [hdn]; exact nameE_cons)
  have hbk : ∀ {wx : World}, Ext w1 wx → wx.cell? ⟨p, 0, none⟩ = some (.slice (some ad0) m0 c0) ∧ wx.cell? ad0 = some (sv P0.1) ∧ wx.cell? ⟨ad0.block, ad0.off + 1, none⟩ = some (sv P0.2) := fun x => ⟨hpd x, ext_cell x d0, ext_cell x d1⟩
  have hf1 := fun wx : World => fold_any (w := wx) P0.1 (by omega)
  have hf2 := fun wx : World => fold_any (w := wx) P0.2 (by omega)
  obtain ⟨F, hF⟩ : ∃ F, F = foldB P0.1 := ⟨_, rfl⟩
  obtain ⟨V, hV⟩ : ∃ V, V = foldB P0.2 := ⟨_, rfl⟩
  rw [← hF] at hf1 hnm
  rw [← hV] at hf2 hnm
  have r0 : Ext w1 w1.drew := (Mod.refl _ w1).drew
  replace hF := Lib.hid hF
  replace hV := Lib.hid hV
  clear hP0 hadd hd4 hdn
  go_enter Try.func25, Try.ntmps25
  go_upto_region 1 with fail
  rw [← hw1.out, ← hp.out]
  clear hw1 hp
  refine wp_region_held_drew (S := fun wx => wx.cell? ⟨p, 0, none⟩ = some (.slice (some ad0) m0 c0) ∧ wx.cell? ad0 = some (sv P0.1) ∧ wx.cell? ⟨ad0.block, ad0.off + 1, none⟩ = some (sv P0.2)) (by kernel_rfl) (hbk r0) (fun hH => ?_)
  (refine wpAnyH_take (i := 0) (oi := ⟨_, _, _, _, _, _⟩) (v := ?tv101) rfl (by kernel_rfl) (by kernel_rfl) (by kernel_rfl) (fun _ _ _ h => h) (Or.inl ⟨by kernel_rfl, ?hy101⟩) hH ?rs101; (case hy101 => (intro wx hSw; (try dsimp only at hSw); go_simp; try with_reducible rfl)); try simp only [Act.put, List.setIfInBounds_toArray, List.set_cons_zero, List.set_cons_succ]; try simp only [List.getElem_toArray, List.getElem_cons_succ, List.getElem_cons_zero])
  (refine wpAnyH_take (i := 1) (oi := ⟨_, _, _, _, _, _⟩) (v := ?tv102) rfl (by kernel_rfl) (by kernel_rfl) (by kernel_rfl) (fun _ _ _ h => h) (Or.inl ⟨by kernel_rfl, ?hy102⟩) hH ?rs102; (case hy102 => (intro wx hSw; (try dsimp only at hSw); go_simp; try with_reducible rfl)); try simp only [Act.put, List.setIfInBounds_toArray, List.set_cons_zero, List.set_cons_succ]; try simp only [List.getElem_toArray, List.getElem_cons_succ, List.getElem_cons_zero])
  (refine wpAnyH_take (i := 2) (oi := ⟨_, _, _, _, _, _⟩) (v := ?tv103) rfl (by kernel_rfl) (by kernel_rfl) (by kernel_rfl) (fun _ _ _ h => h) (Or.inl ⟨by kernel_rfl, ?hy103⟩) hH ?rs103; (case hy103 => (intro wx hSw; (try dsimp only at hSw); go_simp; try with_reducible rfl)); try simp only [Act.put, List.setIfInBounds_toArray, List.set_cons_zero, List.set_cons_succ]; try simp only [List.getElem_toArray, List.getElem_cons_succ, List.getElem_cons_zero])
  (refine wpAnyH_take (i := 3) (oi := ⟨_, _, _, _, _, _⟩) (v := ?tv104) rfl (by kernel_rfl) (by kernel_rfl) (by kernel_rfl) (fun _ _ _ h => h) (Or.inl ⟨by kernel_rfl, ?hy104⟩) hH ?rs104; (case hy104 => (intro wx hSw; (try dsimp only at hSw); go_simp; try with_reducible rfl)); try simp only [Act.put, List.setIfInBounds_toArray, List.set_cons_zero, List.set_cons_succ]; try simp only [List.getElem_toArray, List.getElem_cons_succ, List.getElem_cons_zero])
  (refine wpAnyH_take (i := 4) (oi := ⟨_, _, _, _, _, _⟩) (v := ?tv105) rfl (by kernel_rfl) (by kernel_rfl) (by kernel_rfl) (fun _ _ _ h => h) (Or.inl ⟨by kernel_rfl, ?hy105⟩) hH ?rs105; (case hy105 => (intro wx hSw; (try dsimp only at hSw); go_simp; try with_reducible rfl)); try simp only [Act.put, List.setIfInBounds_toArray, List.set_cons_zero, List.set_cons_succ]; try simp only [List.getElem_toArray, List.getElem_cons_succ, List.getElem_cons_zero])
  (refine wpAnyH_take (i := 6) (oi := ⟨_, _, _, _, _, _⟩) (v := ?tv106) rfl (by kernel_rfl) (by kernel_rfl) (by kernel_rfl) (fun _ _ _ h => h) (Or.inl ⟨by kernel_rfl, ?hy106⟩) hH ?rs106; (case hy106 => (intro wx hSw; (try dsimp only at hSw); go_simp; try with_reducible rfl)); try simp only [Act.put, List.setIfInBounds_toArray, List.set_cons_zero, List.set_cons_succ]; try simp only [List.getElem_toArray, List.getElem_cons_succ, List.getElem_cons_zero])
  (refine wpAnyH_take (i := 7) (oi := ⟨_, _, _, _, _, _⟩) (v := ?tv107) rfl (by kernel_rfl) (by kernel_rfl) (by kernel_rfl) (fun _ _ _ h => h) (Or.inl ⟨by kernel_rfl, ?hy107⟩) hH ?rs107; (case hy107 => (intro wx hSw; (try dsimp only at hSw); go_simp; try with_reducible rfl)); try simp only [Act.put, List.setIfInBounds_toArray, List.set_cons_zero, List.set_cons_succ]; try simp only [List.getElem_toArray, List.getElem_cons_succ, List.getElem_cons_zero])
  (refine wpAnyH_take (i := 8) (oi := ⟨_, _, _, _, _, _⟩) (v := ?tv108) rfl (by kernel_rfl) (by kernel_rfl) (by kernel_rfl) (fun _ _ _ h => h) (Or.inl ⟨by kernel_rfl, ?hy108⟩) hH ?rs108; (case hy108 => (intro wx hSw; (try dsimp only at hSw); go_simp; try with_reducible rfl)); try simp only [Act.put, List.setIfInBounds_toArray, List.set_cons_zero, List.set_cons_succ]; try simp only [List.getElem_toArray, List.getElem_cons_succ, List.getElem_cons_zero])
  (refine wpAnyH_take (i := 9) (oi := ⟨_, _, _, _, _, _⟩) (v := ?tv109) rfl (by kernel_rfl) (by kernel_rfl) (by kernel_rfl) (fun _ _ _ h => h) (Or.inl ⟨by kernel_rfl, ?hy109⟩) hH ?rs109; (case hy109 => (intro wx hSw; (try dsimp only at hSw); go_simp; try with_reducible rfl)); try simp only [Act.put, List.setIfInBounds_toArray, List.set_cons_zero, List.set_cons_succ]; try simp only [List.getElem_toArray, List.getElem_cons_succ, List.getElem_cons_zero])
  (refine wpAnyH_take (i := 10) (oi := ⟨_, _, _, _, _, _⟩) (v := ?tv110) rfl (by kernel_rfl) (by kernel_rfl) (by kernel_rfl) (fun _ _ _ h => h) (Or.inl ⟨by kernel_rfl, ?hy110⟩) hH ?rs110; (case hy110 => (intro wx hSw; (try dsimp only at hSw); go_simp; try with_reducible rfl)); try simp only [Act.put, List.setIfInBounds_toArray, List.set_cons_zero, List.set_cons_succ]; try simp only [List.getElem_toArray, List.getElem_cons_succ, List.getElem_cons_zero])
  (refine wpAnyH_ready (rs := [5]) (by kernel_rfl) (by simp) ?_; refine AllReadyH.cons rfl (fun K hK => ?_) AllReadyH.nil; go_simp)
  refine (hf1 _).mono ?_
  rintro e wa ⟨rfl, xa⟩
  have q1 := ext_trans r0 xa
  (go_wp2_with fail; refine hK.out _ _ (hbk q1) (fun hH => ?_); clear hK K; try simp only [Act.put, List.setIfInBounds_toArray, List.set_cons_zero, List.set_cons_succ]; try simp only [List.getElem_toArray, List.getElem_cons_succ, List.getElem_cons_zero])
  (refine wpAnyH_ready (rs := [11]) (by kernel_rfl) (by simp) ?_; refine AllReadyH.cons rfl (fun K hK => ?_) AllReadyH.nil; go_simp)
  refine (hf2 _).mono ?_
  rintro e wb ⟨rfl, xb⟩
  have q2 := ext_trans q1 xb
  (go_wp2_with fail; refine hK.out _ _ (hbk q2) (fun hH => ?_); clear hK K; try simp only [Act.put, List.setIfInBounds_toArray, List.set_cons_zero, List.set_cons_succ]; try simp only [List.getElem_toArray, List.getElem_cons_succ, List.getElem_cons_zero])
  (refine wpAnyH_take (i := 12) (oi := ⟨_, _, _, _, _, _⟩) (v := ?tv111) rfl (by kernel_rfl) (by kernel_rfl) (by kernel_rfl) (fun _ _ _ h => h) (Or.inl ⟨by kernel_rfl, ?hy111⟩) hH ?rs111; (case hy111 => (intro wx hSw; (try dsimp only at hSw); go_simp; try with_reducible rfl)); try simp only [Act.put, List.setIfInBounds_toArray, List.set_cons_zero, List.set_cons_succ]; try simp only [List.getElem_toArray, List.getElem_cons_succ, List.getElem_cons_zero])
  (refine wpAnyH_take (i := 13) (oi := ⟨_, _, _, _, _, _⟩) (v := ?tv112) rfl (by kernel_rfl) (by kernel_rfl) (by kernel_rfl) (fun _ _ _ h => h) (Or.inl ⟨by kernel_rfl, ?hy112⟩) hH ?rs112; (case hy112 => (intro wx hSw; (try dsimp only at hSw); go_simp; try with_reducible rfl)); try simp only [Act.put, List.setIfInBounds_toArray, List.set_cons_zero, List.set_cons_succ]; try simp only [List.getElem_toArray, List.getElem_cons_succ, List.getElem_cons_zero])
  refine wpAnyH_done (by kernel_rfl) ?_ _
  have p3 := hpc q2
  have q2' := q2
  clear hbk hf1 hf2 d0 d1
  go_wp2_with fail
  go_loopw [24] (fun i wr => ∃ k : Nat, k ≤ m ∧ i = .int .i64 k ∧ Hid (∀ a ∈ E.ats.take k, ¬ (fo a = F ∧ ∃ v ∈ a.vals, foldB v = V)) ∧ Ext w1 wr) (fun i _ => m - (intOf i).toNat)
  case atStart => exact ⟨0, Nat.zero_le _, rfl, Lib.hid (fun a ha => by cases ha), q2'⟩
  case round =>
    clear p3 q2'
    obtain ⟨k, hk, rfl, hno, hx⟩ := hrel
    by_cases hlt : k < m
    case neg =>
      have hbl : decide ((k : Int) < (m : Int)) = false := dfalseI (by omega)
      have hbn : decide (k < m) = false := dfalseI (by omega)
      rw [List.take_of_length_le (by have := hm.out; omega)] at hno
      have hres : Hid (decide (nameE E.dn E.ats) = false) := Lib.hid (dfalseI fun h => by
        obtain ⟨a, ha, h1, h2⟩ := hnm.out.1 h
        exact hno.out a ha ⟨h1, h2⟩)
      clear hno
      go_wp2_with fail
      go_ret
      exact ⟨by rw [hres.out]; rfl, ext_trans x1 hx⟩
    have hbl : decide ((k : Int) < (m : Int)) = true := dtrueI (by omega)
    have hbn : decide (k < m) = true := dtrueI (by omega)
    have htk : E.ats.take (k + 1) = E.ats.take k ++ [E.ats[k]'(by have := hm.out; omega)] := List.take_succ_eq_append_getElem _
    have l1 : k < E.ats.length := by have := hm.out; omega
    obtain ⟨A', c', hv, hat⟩ := hax (Mod.refl _ w)
    obtain ⟨ad, y, hA, a0w, a1w, hy⟩ := hat k l1
    have a0 := ext_cell (ext_trans x1 hx) a0w
    have a1 := ext_cell (ext_trans x1 hx) a1w
    clear a0w a1w
    injection hv with hv1 hvl hv3
    clear hvl
    subst hv1
    subst hv3
    subst hA
    have hkn := knownE_next E.ats l1
    have hnn := namedE_next E.ats l1
    have hfx := hfm _ (List.getElem_mem l1)
    have hxm : E.ats[k] ∈ E.ats := List.getElem_mem l1
    have hxk : E.ats[k]? = some E.ats[k] := List.getElem?_eq_getElem l1
    generalize E.ats[k] = x at *
    have hi0 : (0 : Int) ≤ (k : Int) := by omega
    have hi1 : (k : Int) < (m : Int) := by omega
    obtain ⟨Ay, cy, hvy, -, -, -, -⟩ := hy.open_
    obtain ⟨nx, hnx⟩ : ∃ n, n = x.vals.length := ⟨_, rfl⟩
    rw [← hnx] at hvy
    subst hvy
    replace hnx := Lib.hid hnx
    obtain ⟨wa, hwa⟩ : ∃ wa, wa = wr.alloc (.cells #[sv x.typ, .slice Ay nx cy] 43) := ⟨_, rfl⟩
    obtain ⟨ga, hga⟩ : ∃ ga, ga = wr.heap.size := ⟨_, rfl⟩
    have xa : Ext wr wa := by rw [hwa]; exact (Mod.refl _ wr).alloc _
    have BA : Blk wa ga 43 #[sv x.typ, .slice Ay nx cy] := by rw [hwa, hga]; exact Blk.new wr _ _
    have b0 : wa.cell? ⟨ga, 0, none⟩ = some (sv x.typ) := BA.cell 0
    have hbc : ∀ {wx : World}, Ext wa wx → wx.cell? ⟨ga, 0, none⟩ = some (sv x.typ) ∧ wx.cell? ⟨ga, 1, none⟩ = some (.slice Ay nx cy) := fun x => ⟨(BA.mod x (fun h => h)).cell 0, (BA.mod x (fun h => h)).cell 1⟩
    have hya : ∀ {wx : World}, Ext w wx → Ts wx AllE (.slice Ay nx cy) x.vals := fun q => hy.ext q
    have hgaw : wr.heap.size ≤ ga := by omega
    replace hwa := Lib.hid hwa
    replace hga := Lib.hid hga
    clear hat l1
    go_upto_region 5 with fail
    rw [← hwa.out, ← hga.out]
    clear hwa hga a0 a1
    have hf1 := fold_any (w := wa) x.typ (by have := hfx.1; omega)
    obtain ⟨G, hG⟩ : ∃ G, G = foldB x.typ := ⟨_, rfl⟩
    rw [← hG] at hf1
    replace hG := Lib.hid hG
    have hmore : Hid (¬ (fo x = F ∧ ∃ v ∈ x.vals, foldB v = V) → ∀ a ∈ E.ats.take (k + 1), ¬ (fo a = F ∧ ∃ v ∈ a.vals, foldB v = V)) := Lib.hid fun q a ha => by
      rw [htk] at ha
      rcases List.mem_append.1 ha with r | r
      · exact hno.out a r
      · rw [List.mem_singleton.1 r]; exact q
    clear hkn hnn htk hno
    go_wp2_with fail
    refine hf1.mono ?_
    rintro e' w4 ⟨rfl, x4⟩
    have y4 := ext_trans hx (ext_trans xa x4)
    obtain ⟨b2, b3⟩ := hbc x4
    clear hf1 b0
    by_cases hGF : G = F
    case neg =>
      have q1 : (G != F) = true := by rw [bne_iff_ne]; exact hGF
      have q3 : (G == F) = false := by rw [beq_eq_false_iff_ne]; exact hGF
      have hn2 := Lib.hid (hmore.out fun h => hGF (hG.out.trans h.1))
      clear hmore
      go_wp2_with fail
      exact ⟨⟨k + 1, by omega, by go_num, hn2, y4⟩, by simp [intOf] <;> omega⟩
    have q1 : (G != F) = false := by rw [bne_eq_false_iff_eq]; exact hGF
    have q3 : (G == F) = true := by rw [beq_iff_eq]; exact hGF
    have hfF : Hid (fo x = F) := Lib.hid (hG.out.symm.trans hGF)
    replace hGF := Lib.hid hGF
    go_wp2_with fail
    go_loopw [36] (fun i wr => ∃ j : Nat, j ≤ nx ∧ i = .int .i64 j ∧ Hid (∀ v ∈ x.vals.take j, foldB v ≠ V) ∧ Ext w1 wr) (fun i _ => nx - (intOf i).toNat)
    case atStart => exact ⟨0, Nat.zero_le _, rfl, Lib.hid (fun a ha => by cases ha), y4⟩
    case round =>
      clear y4 b2 b3
      obtain ⟨j, hj, rfl, hjn, hxq⟩ := hrel
      by_cases hjl : j < nx
      case neg =>
        have hbj : decide ((j : Int) < (nx : Int)) = false := dfalseI (by omega)
        have hbj' : decide (j < nx) = false := dfalseI (by omega)
        rw [List.take_of_length_le (by have := hnx.out; omega)] at hjn
        have hn2 := Lib.hid (hmore.out fun h => by
          obtain ⟨v, hv, e⟩ := h.2
          exact hjn.out v hv e)
        clear hmore hjn
        go_wp2_with fail
        exact ⟨⟨k + 1, by omega, by go_num, hn2, hxq⟩, by simp [intOf] <;> omega⟩
      have hbj : decide ((j : Int) < (nx : Int)) = true := dtrueI (by omega)
      have hbj' : decide (j < nx) = true := dtrueI (by omega)
      have l2 : j < x.vals.length := by have := hnx.out; omega
      obtain ⟨Az, cz, hvz, -, -, -, hcz⟩ := Sl.open_ (hya (ext_trans x1 hxq))
      injection hvz with e1 e2 e3
      subst e1
      subst e3
      clear e2
      obtain ⟨ad2, hA2, -, c2⟩ := Cells.at_ hcz l2
      subst hA2
      have htk : x.vals.take (j + 1) = x.vals.take j ++ [x.vals[j]] := List.take_succ_eq_append_getElem l2
      have hum : x.vals[j] ∈ x.vals := List.getElem_mem l2
      generalize x.vals[j] = u at *
      have hf3 := fold_any (w := wr) u (by have := hfx.2.2 u hum; omega)
      obtain ⟨U, hU⟩ : ∃ U, U = foldB u := ⟨_, rfl⟩
      rw [← hU] at hf3
      replace hU := Lib.hid hU
      have hj0 : (0 : Int) ≤ (j : Int) := by omega
      have hj1 : (j : Int) < (nx : Int) := by omega
      replace htk := Lib.hid htk
      clear hcz
      go_wp2_with fail
      refine hf3.mono ?_
      rintro e' w6 ⟨rfl, x6⟩
      have y6 := ext_trans hxq x6
      clear hf3 c2
      by_cases hUV : U = V
      case pos =>
        have q5 : (U == V) = true := by rw [beq_iff_eq]; exact hUV
        have hres : Hid (decide (nameE E.dn E.ats) = true) := Lib.hid (dtrueI (hnm.out.2 ⟨x, hxm, hfF.out, u, hum, hU.out.symm.trans hUV⟩))
        replace hUV := Lib.hid hUV
        clear hjn hmore
        go_wp2_with fail
        go_ret
        exact ⟨by rw [hres.out]; rfl, ext_trans x1 y6⟩
      have q5 : (U == V) = false := by rw [beq_eq_false_iff_ne]; exact hUV
      have hjn2 : Hid (∀ v ∈ x.vals.take (j + 1), foldB v ≠ V) := Lib.hid (by
        rw [htk.out]
        intro v hv
        rcases List.mem_append.1 hv with r | r
        · exact hjn.out v r
        · rw [List.mem_singleton.1 r, ← hU.out]; exact hUV)
      clear hjn
      go_wp2_with fail
      exact ⟨⟨j + 1, by omega, by go_num, hjn2, y6⟩, by simp [intOf] <;> omega⟩
end Go.Proofs.Ytdfjldlfimbimaa
