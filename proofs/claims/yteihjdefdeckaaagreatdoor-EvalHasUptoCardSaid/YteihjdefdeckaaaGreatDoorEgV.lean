/- all values of a type, by the document. -/
import Derived.Test.YteihjdefdeckaaaGreatDoorEnx
import Derived.Deep.Cut
namespace Go.Proofs.YteihjdefdeckaaaGreatDoor
open Go.RowKit Go.WideShapes Go.ChangeShapes
set_option maxRecDepth 100000

def selE (F : List UInt8) (a : Att) : List (List UInt8) := if foldB a.typ = F then a.vals else []
theorem selE_len : ∀ (F : List UInt8) (L : List Att), (L.flatMap (selE F)).length ≤ wA L
  | _, [] => Nat.zero_le _
  | F, a :: L => by
    have h1 := selE_len F L
    have h2 := wV_ge a.vals
    have e : wA (a :: L) = 1 + a.typ.length + wV a.vals + wA L := rfl
    have h3 : (selE F a).length ≤ a.vals.length := by unfold selE; split <;> simp
    rw [List.flatMap_cons, List.length_append, e]; omega
theorem selE_next (F : List UInt8) (L : List Att) {k : Nat} (h : k < L.length) : (L.take (k + 1)).flatMap (selE F) = (L.take k).flatMap (selE F) ++ selE F L[k] := by
  rw [List.take_succ_eq_append_getElem h, List.flatMap_append, List.flatMap_cons, List.flatMap_nil, List.append_nil]
theorem sv_ones (l : List (List UInt8)) : ∀ u ∈ l.map sv, u.oneCell' = true := fun u hu => by obtain ⟨x, _, rfl⟩ := List.mem_map.1 hu; rfl
set_option maxHeartbeats 8000000 in
theorem vals14_any {w : World} {vd va : Value} {e : Ent} {typ : List UInt8} (hd : As w AllE vd e.dn) (ha : Ats w va e.ats) (hwa : wA e.ats ≤ 1000000) (ht : typ.length ≤ 1000000) :
    Calls Tryz.prog 33 #[.agg #[vd, va], sv typ] w fun e' w' => ∃ v', e' = .returned v' ∧ Own w' 9 v' ((e.ats.flatMap (selE (foldB typ))).map sv) ∧ Ext w w' := by
  have hgl := wA_ge e.ats
  have hfm : ∀ x ∈ e.ats, x.typ.length ≤ 1000000 ∧ x.vals.length ≤ 1000000 := fun x hx => by have := wA_mem hx; have := wV_ge x.vals; omega
  have hax := fun {wx : World} (x : Ext w wx) => (ha.ext x).open_
  obtain ⟨A, c, hva, -⟩ := ha.open_
  obtain ⟨A0, c0, hvd⟩ := Rc.shape hd
  obtain ⟨n, hn⟩ : ∃ n, n = e.ats.length := ⟨_, rfl⟩
  obtain ⟨n0, hn0⟩ : ∃ n, n = e.dn.length := ⟨_, rfl⟩
  rw [← hn] at hva hgl
  rw [← hn0] at hvd
  subst hva
  subst hvd
  have hN : n ≤ 1000000 := by omega
  obtain ⟨w1, hw1⟩ : ∃ x, x = w.alloc (.cells #[.slice A0 n0 c0, .slice A n c] 29) := ⟨_, rfl⟩
  obtain ⟨p, hp⟩ : ∃ p, p = w.heap.size := ⟨_, rfl⟩
  have x1 : Ext w w1 := by rw [hw1]; exact (Mod.refl _ w).alloc _
  have BP : Blk w1 p 29 #[.slice A0 n0 c0, .slice A n c] := by rw [hw1, hp]; exact Blk.new w _ _
  have hfT := fun wx => rfold_any (w := wx) typ (by omega)
  obtain ⟨F, hF⟩ : ∃ F, F = foldB typ := ⟨_, rfl⟩
  rw [← hF] at hfT ⊢
  have hpc : ∀ {wx : World}, Ext w1 wx → wx.cell? ⟨p, 1, none⟩ = some (.slice A n c) := fun x => (BP.mod x (fun h => h)).cell 1
  replace hF := Lib.hid hF
  replace hn := Lib.hid hn
  replace hn0 := Lib.hid hn0
  replace hw1 := Lib.hid hw1
  replace hp := Lib.hid hp
  have hws : w.heap.size ≤ w1.heap.size := x1.size
  clear ha hd hgl BP
  go_enter Tryz.func33, Tryz.ntmps33
  go_upto_region 1 with fail
  rw [← hw1.out, ← hp.out]
  clear hw1 hp
  go_wp2_with fail
  go_loopw [5, 6] (fun v i wr => ∃ k : Nat, k ≤ n ∧ i = .int .i64 k ∧ Own wr 9 v (((e.ats.take k).flatMap (selE F)).map sv) ∧ Fresh w1.heap.size v ∧ Ext w1 wr) (fun _ i _ => n - (intOf i).toNat)
  case atStart => exact ⟨0, Nat.zero_le _, rfl, Own.nil _ _, fresh_nil _ _ _, Mod.refl _ _⟩
  case round =>
    obtain ⟨k, hk, rfl, ho, hfr, hx⟩ := hrel
    have p1 := hpc hx
    by_cases hlt : k < n
    case neg =>
      have hbl : decide ((k : Int) < (n : Int)) = false := dfalse (by omega)
      have hbn : decide (k < n) = false := dfalse (by omega)
      rw [List.take_of_length_le (by have := hn.out; omega)] at ho
      go_wp2_with fail
      go_ret
      exact ⟨_, rfl, ho, ext_trans x1 hx⟩
    have hbl : decide ((k : Int) < (n : Int)) = true := dtrue (by omega)
    have hbn : decide (k < n) = true := dtrue (by omega)
    have l1 : k < e.ats.length := by have := hn.out; omega
    obtain ⟨A', c', hv, hat⟩ := hax (ext_trans x1 hx)
    obtain ⟨ad, y, hA, a0, a1, hy⟩ := hat k l1
    injection hv with hv1 hvl hv3
    clear hvl
    subst hv1
    subst hv3
    subst hA
    have hsn := selE_next F e.ats l1
    have hfx := hfm _ (List.getElem_mem l1)
    have hlen : ((e.ats.take k).flatMap (selE F)).length ≤ 1000000 := by
      have h1 := selE_len F (e.ats.take k)
      have h2 := sumF_take atW e.ats k
      rw [← wA_sum, ← wA_sum] at h2
      omega
    generalize e.ats[k] = x at *
    have hi0 : (0 : Int) ≤ (k : Int) := by omega
    have hi1 : (k : Int) < (n : Int) := by omega
    obtain ⟨Ay, cy, hvy, -, -, -, -⟩ := hy.open_
    obtain ⟨nx, hnx⟩ : ∃ n, n = x.vals.length := ⟨_, rfl⟩
    rw [← hnx] at hvy
    subst hvy
    replace hnx := Lib.hid hnx
    have hf1 := rfold_any (w := wr) x.typ (by omega)
    generalize hfo : foldB x.typ = G at *
    have hsel : selE F x = if G = F then x.vals else [] := by unfold selE; rw [hfo]
    replace hfo := Lib.hid hfo
    clear hat l1 hax
    go_wp2_with fail
    refine hf1.mono ?_
    rintro e' w2 ⟨rfl, x2⟩
    have hf2 := hfT w2
    clear hf1 hfT
    go_wp2_with fail
    refine hf2.mono ?_
    rintro e' w3 ⟨rfl, x3⟩
    have x23 := ext_trans x2 x3
    have b1 := ext_cell x23 a1
    have p3 := hpc (ext_trans hx x23)
    have ho3 := ho.mod x23 (fun _ _ h => h)
    have hy3 := hy.ext x23
    have hx3 := ext_trans hx x23
    clear hf2 ho hy x2 x3 x23 a0 a1 p1 hpc
    by_cases hgf : G = F
    · have hb1 : (G == F) = true := beq_iff_eq.2 hgf
      rw [if_pos hgf] at hsel
      rw [hsel] at hsn
      have hn1 := Lib.hid (show ((((e.ats.take k).flatMap (selE F)).map sv).length + (x.vals.map sv).length) * 16 ≤ 140737488355328 by rw [List.length_map, List.length_map]; omega)
      have hmp : Hid (((e.ats.take k).flatMap (selE F)).map sv ++ x.vals.map sv = ((e.ats.take (k + 1)).flatMap (selE F)).map sv) := Lib.hid (by rw [hsn, List.map_append])
      clear hsn hsel hgf
      go_wp2_with ((with_reducible show wpList _ _ _ (⟨some 31, _, _, _, _, _⟩ :: _) _ _); refine wp_app tySE ho3 hy3 (sv_ones _) rfl (.tmp 24) (.tmp 30) rfl rfl rfl hn1.out ?_; intro v4 w4 k1 k2 k3)
      exact ⟨⟨k + 1, by omega, by go_num, by rw [← hmp.out]; exact k1, k3.fresh hfr hx3.size, hx3.trans k2 (fun _ _ h => h) (fun b hb h => by have := hfr b h; omega)⟩, by simp [intOf] <;> omega⟩
    · have hb1 : (G == F) = false := beq_eq_false_iff_ne.2 hgf
      rw [if_neg hgf] at hsel
      rw [hsel, List.append_nil] at hsn
      replace hsn := Lib.hid hsn
      clear hsel hgf
      go_wp2_with fail
      exact ⟨⟨k + 1, by omega, by go_num, by rw [hsn.out]; exact ho3, hfr, hx3⟩, by simp [intOf] <;> omega⟩
set_option maxHeartbeats 8000000 in
theorem valuesE_any {w : World} {vd va : Value} {e : Ent} {typ : List UInt8} (hd : As w AllE vd e.dn) (ha : Ats w va e.ats) (hwa : wA e.ats ≤ 1000000) (ht : typ.length ≤ 1000000) :
    Calls Tryz.prog 32 #[.agg #[vd, va], sv typ] w fun e' w' => ∃ v', e' = .returned v' ∧ Own w' 9 v' ((e.ats.flatMap (selE (foldB typ))).map sv) ∧ Ext w w' := by
  have hgl := wA_ge e.ats
  have hfm : ∀ x ∈ e.ats, x.typ.length ≤ 1000000 ∧ x.vals.length ≤ 1000000 := fun x hx => by have := wA_mem hx; have := wV_ge x.vals; omega
  have hax := fun {wx : World} (x : Ext w wx) => (ha.ext x).open_
  obtain ⟨A, c, hva, -⟩ := ha.open_
  obtain ⟨A0, c0, hvd⟩ := Rc.shape hd
  obtain ⟨n, hn⟩ : ∃ n, n = e.ats.length := ⟨_, rfl⟩
  obtain ⟨n0, hn0⟩ : ∃ n, n = e.dn.length := ⟨_, rfl⟩
  rw [← hn] at hva hgl
  rw [← hn0] at hvd
  subst hva
  subst hvd
  have hN : n ≤ 1000000 := by omega
  obtain ⟨w1, hw1⟩ : ∃ x, x = w.alloc (.cells #[.slice A0 n0 c0, .slice A n c] 29) := ⟨_, rfl⟩
  obtain ⟨p, hp⟩ : ∃ p, p = w.heap.size := ⟨_, rfl⟩
  have x1 : Ext w w1 := by rw [hw1]; exact (Mod.refl _ w).alloc _
  have BP : Blk w1 p 29 #[.slice A0 n0 c0, .slice A n c] := by rw [hw1, hp]; exact Blk.new w _ _
  have hf0 := fold_any (w := w1) typ (by omega)
  obtain ⟨F, hF⟩ : ∃ F, F = foldB typ := ⟨_, rfl⟩
  rw [← hF] at hf0 ⊢
  replace hF := Lib.hid hF
  replace hn := Lib.hid hn
  replace hn0 := Lib.hid hn0
  replace hw1 := Lib.hid hw1
  replace hp := Lib.hid hp
  clear ha hd hgl
  go_enter Tryz.func32, Tryz.ntmps32
  go_upto_region 2 with fail
  rw [← hw1.out, ← hp.out]
  clear hw1 hp
  go_wp2_with fail
  refine hf0.mono ?_
  rintro e' w2 ⟨rfl, x2⟩
  have p1 : w2.cell? ⟨p, 1, none⟩ = some (.slice A n c) := (BP.mod x2 (fun h => h)).cell 1
  have y2 := ext_trans x1 x2
  clear hf0 x2 x1 BP
  go_wp2_with fail
  go_loopw [5, 13] (fun v i wr => ∃ k : Nat, k ≤ n ∧ i = .int .i64 k ∧ Own wr 9 v (((e.ats.take k).flatMap (selE F)).map sv) ∧ Fresh w.heap.size v ∧ Ext w wr) (fun _ i _ => n - (intOf i).toNat)
  case atStart => exact ⟨0, Nat.zero_le _, rfl, Own.nil _ _, fresh_nil _ _ _, y2⟩
  case round =>
    clear y2 p1
    obtain ⟨k, hk, rfl, ho, hfr, hx⟩ := hrel
    by_cases hlt : k < n
    case neg =>
      have hbl : decide ((k : Int) < (n : Int)) = false := dfalse (by omega)
      have hbn : decide (k < n) = false := dfalse (by omega)
      rw [List.take_of_length_le (by have := hn.out; omega)] at ho
      go_wp2_with fail
      go_ret
      exact ⟨_, rfl, ho, hx⟩
    have hbl : decide ((k : Int) < (n : Int)) = true := dtrue (by omega)
    have hbn : decide (k < n) = true := dtrue (by omega)
    have l1 : k < e.ats.length := by have := hn.out; omega
    obtain ⟨A', c', hv, hat⟩ := hax hx
    obtain ⟨ad, y, hA, a0, a1, hy⟩ := hat k l1
    injection hv with hv1 hvl hv3
    clear hvl
    subst hv1
    subst hv3
    subst hA
    have hsn := selE_next F e.ats l1
    have hfx := hfm _ (List.getElem_mem l1)
    have hlen : ((e.ats.take k).flatMap (selE F)).length ≤ 1000000 := by
      have h1 := selE_len F (e.ats.take k)
      have h2 := sumF_take atW e.ats k
      rw [← wA_sum, ← wA_sum] at h2
      omega
    generalize e.ats[k] = x at *
    have hi0 : (0 : Int) ≤ (k : Int) := by omega
    have hi1 : (k : Int) < (n : Int) := by omega
    obtain ⟨Ay, cy, hvy, -, -, -, -⟩ := hy.open_
    obtain ⟨nx, hnx⟩ : ∃ n, n = x.vals.length := ⟨_, rfl⟩
    rw [← hnx] at hvy
    subst hvy
    replace hnx := Lib.hid hnx
    obtain ⟨wa, hwa⟩ : ∃ wa, wa = wr.alloc (.cells #[sv x.typ, .slice Ay nx cy] 36) := ⟨_, rfl⟩
    obtain ⟨ga, hga⟩ : ∃ ga, ga = wr.heap.size := ⟨_, rfl⟩
    have xa : Ext wr wa := by rw [hwa]; exact (Mod.refl _ wr).alloc _
    have BA : Blk wa ga 36 #[sv x.typ, .slice Ay nx cy] := by rw [hwa, hga]; exact Blk.new wr _ _
    have b0 : wa.cell? ⟨ga, 0, none⟩ = some (sv x.typ) := BA.cell 0
    have hf1 := fold_any (w := wa) x.typ (by omega)
    generalize hfo : foldB x.typ = G at *
    have hsel : selE F x = if G = F then x.vals else [] := by unfold selE; rw [hfo]
    have hoa := ho.mod xa (fun _ _ h => h)
    have hya := hy.ext xa
    have hxa := ext_trans hx xa
    replace hwa := Lib.hid hwa
    replace hga := Lib.hid hga
    replace hfo := Lib.hid hfo
    clear hat l1 hax xa ho hy hx
    go_upto_region 6 with fail
    rw [← hwa.out, ← hga.out]
    clear hwa hga a0 a1
    go_wp2_with fail
    refine hf1.mono ?_
    rintro e' w3 ⟨rfl, x3⟩
    have B3 := BA.mod x3 (fun h => h)
    have b1 : w3.cell? ⟨ga, 1, none⟩ = some (.slice Ay nx cy) := B3.cell 1
    have ho3 := hoa.mod x3 (fun _ _ h => h)
    have hy3 := hya.ext x3
    have hx3 := ext_trans hxa x3
    clear hf1 hoa hya hxa x3 BA B3 b0
    by_cases hgf : G = F
    · have hb1 : (G == F) = true := beq_iff_eq.2 hgf
      rw [if_pos hgf] at hsel
      rw [hsel] at hsn
      have hn1 := Lib.hid (show ((((e.ats.take k).flatMap (selE F)).map sv).length + (x.vals.map sv).length) * 16 ≤ 140737488355328 by rw [List.length_map, List.length_map]; omega)
      have hmp : Hid (((e.ats.take k).flatMap (selE F)).map sv ++ x.vals.map sv = ((e.ats.take (k + 1)).flatMap (selE F)).map sv) := Lib.hid (by rw [hsn, List.map_append])
      clear hsn hsel hgf
      go_wp2_with ((with_reducible show wpList _ _ _ (⟨some 25, _, _, _, _, _⟩ :: _) _ _); refine wp_app tySE ho3 hy3 (sv_ones _) rfl (.tmp 22) (.tmp 24) rfl rfl rfl hn1.out ?_; intro v4 w4 k1 k2 k3)
      exact ⟨⟨k + 1, by omega, by go_num, by rw [← hmp.out]; exact k1, k3.fresh hfr hx3.size, hx3.trans k2 (fun _ _ h => h) (fun b hb h => by have := hfr b h; omega)⟩, by simp [intOf] <;> omega⟩
    · have hb1 : (G == F) = false := beq_eq_false_iff_ne.2 hgf
      rw [if_neg hgf] at hsel
      rw [hsel, List.append_nil] at hsn
      replace hsn := Lib.hid hsn
      clear hsel hgf
      go_wp2_with fail
      exact ⟨⟨k + 1, by omega, by go_num, by rw [hsn.out]; exact ho3, hfr, hx3⟩, by simp [intOf] <;> omega⟩
theorem selE_mem {F : List UInt8} : ∀ {L : List Att} {x : List UInt8}, x ∈ L.flatMap (selE F) → x.length ≤ wA L
  | a :: L, x, h => by
    have e : wA (a :: L) = 1 + a.typ.length + wV a.vals + wA L := rfl
    rw [List.flatMap_cons, List.mem_append] at h
    rcases h with h | h
    · have hx : x ∈ a.vals := by
        unfold selE at h
        split at h
        · exact h
        · cases h
      have := wV_mem hx
      omega
    · have := selE_mem h
      omega
end Go.Proofs.YteihjdefdeckaaaGreatDoor
