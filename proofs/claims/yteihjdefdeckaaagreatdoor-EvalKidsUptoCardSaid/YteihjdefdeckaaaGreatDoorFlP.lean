/- eval: the law EvalKids. -/
import Derived.Test.YteihjdefdeckaaaGreatDoorFlN
namespace Go.Proofs.YteihjdefdeckaaaGreatDoor
open Go.RowKit
set_option maxRecDepth 100000

theorem and_turn (a b c : Int) : and3 [c, a, b] = and3 [a, b, c] := by
  unfold and3 no3 un3
  simp only [List.any_cons, List.any_nil, Bool.or_false]
  rw [show ((c == 0) || ((a == 0) || (b == 0))) = ((a == 0) || ((b == 0) || (c == 0))) from by cases (a == 0) <;> cases (b == 0) <;> cases (c == 0) <;> rfl]
  rw [show ((c != 0 && c != 1) || ((a != 0 && a != 1) || (b != 0 && b != 1))) = ((a != 0 && a != 1) || ((b != 0 && b != 1) || (c != 0 && c != 1))) from by cases (a != 0 && a != 1) <;> cases (b != 0 && b != 1) <;> cases (c != 0 && c != 1) <;> rfl]
theorem or_turn (a b c : Int) : or3 [c, a, b] = or3 [a, b, c] := by
  unfold or3 yes3 un3
  simp only [List.any_cons, List.any_nil, Bool.or_false]
  rw [show ((c == 1) || ((a == 1) || (b == 1))) = ((a == 1) || ((b == 1) || (c == 1))) from by cases (a == 1) <;> cases (b == 1) <;> cases (c == 1) <;> rfl]
  rw [show ((c != 0 && c != 1) || ((a != 0 && a != 1) || (b != 0 && b != 1))) = ((a != 0 && a != 1) || ((b != 0 && b != 1) || (c != 0 && c != 1))) from by cases (a != 0 && a != 1) <;> cases (b != 0 && b != 1) <;> cases (c != 0 && c != 1) <;> rfl]
theorem isN_turn {m : Nat} {kd : Int} {F G H : Fi} (hk : kd = 0 ∨ kd = 1) : isN (m + 1) (ofK kd [H, F, G]) = isN (m + 1) (ofK kd [F, G, H]) := by
  unfold isN
  have hk2 : kd = 0 ∨ kd = 1 ∨ kd = 2 := by omega
  rw [one_ofK hk2, one_ofK hk2, nodes_ofK, nodes_ofK]
  simp only [List.map_cons, List.map_nil, List.sum_cons, List.sum_nil, List.all_cons, List.all_nil, List.length_cons, List.length_nil, Bool.and_true]
  rw [show 1 + (nodesN m H + (nodesN m F + (nodesN m G + 0))) = 1 + (nodesN m F + (nodesN m G + (nodesN m H + 0))) by omega]
  cases oneN m F (1 + 1) <;> cases oneN m G (1 + 1) <;> cases oneN m H (1 + 1) <;> simp
theorem topN_turn {m : Nat} {kd : Int} {F G H : Fi} {L : List Att} (hk : kd = 0 ∨ kd = 1) : topN (m + 1) (ofK kd [H, F, G]) L = topN (m + 1) (ofK kd [F, G, H]) L := by
  unfold topN
  rw [isN_turn hk]
  rcases hk with rfl | rfl
  · rw [eval_and (by simp), eval_and (by simp)]
    simp only [List.map_cons, List.map_nil]
    rw [and_turn]
  · rw [eval_or (by simp), eval_or (by simp)]
    simp only [List.map_cons, List.map_nil]
    rw [or_turn]
set_option maxHeartbeats 16000000 in
theorem lkids_any {n : Nat} {w : World} {F G H : Fi} {vsF vkF vsG vkG vsH vkH vd va : Value} {E : Ent} (hF : FilN n w F vsF vkF) (hG : FilN n w G vsG vkG) (hH : FilN n w H vsH vkH) (hd : As w AllE vd E.dn) (ha : Ats w va E.ats) (hwA : wA E.ats ≤ 1048576) (hM : Mxl w) :
    Calls Tryz.prog 6 #[.agg #[.int .i64 F.kind, sv F.typ, sv F.val, vsF, vkF], .agg #[.int .i64 G.kind, sv G.typ, sv G.val, vsG, vkG], .agg #[.int .i64 H.kind, sv H.typ, sv H.val, vsH, vkH], .agg #[vd, va]] w fun e w' => e = .returned (.bool true) ∧ Ext w w' := by
  obtain ⟨⟨YF1, YF2, YF3, rfl⟩, ZF1, ZF2, ZF3, rfl⟩ := hF.shape
  obtain ⟨⟨YG1, YG2, YG3, rfl⟩, ZG1, ZG2, ZG3, rfl⟩ := hG.shape
  obtain ⟨⟨YH1, YH2, YH3, rfl⟩, ZH1, ZH2, ZH3, rfl⟩ := hH.shape
  obtain ⟨D0, dn, dc, rfl⟩ : ∃ D0 dn dc, vd = .slice D0 dn dc := by obtain ⟨A, c, e⟩ := Rc.shape hd; exact ⟨A, _, c, e⟩
  obtain ⟨B0, bn, bc, rfl⟩ : ∃ B0 bn bc, va = .slice B0 bn bc := by obtain ⟨A, c, e, -⟩ := ha.open_; exact ⟨A, _, c, e⟩
  obtain ⟨wF0, hwF0⟩ : ∃ x, x = w.alloc (.cells #[.int .i64 F.kind, sv F.typ, sv F.val, .slice YF1 YF2 YF3, .slice ZF1 ZF2 ZF3] 25) := ⟨_, rfl⟩
  obtain ⟨wG, hwG⟩ : ∃ x, x = wF0.alloc (.cells #[.int .i64 G.kind, sv G.typ, sv G.val, .slice YG1 YG2 YG3, .slice ZG1 ZG2 ZG3] 25) := ⟨_, rfl⟩
  obtain ⟨wH, hwH⟩ : ∃ x, x = wG.alloc (.cells #[.int .i64 H.kind, sv H.typ, sv H.val, .slice YH1 YH2 YH3, .slice ZH1 ZH2 ZH3] 25) := ⟨_, rfl⟩
  obtain ⟨wE, hwE⟩ : ∃ x, x = wH.alloc (.cells #[.slice D0 dn dc, .slice B0 bn bc] 29) := ⟨_, rfl⟩
  obtain ⟨pF, hpF⟩ : ∃ p, p = w.heap.size := ⟨_, rfl⟩
  obtain ⟨pG, hpG⟩ : ∃ p, p = pF + 1 := ⟨_, rfl⟩
  obtain ⟨pH, hpH⟩ : ∃ p, p = pG + 1 := ⟨_, rfl⟩
  obtain ⟨pE, hpE⟩ : ∃ p, p = pH + 1 := ⟨_, rfl⟩
  have xF : Ext w wF0 := by rw [hwF0]; exact (Mod.refl _ _).alloc _
  have sF : wF0.heap.size = pG := by rw [hwF0, hpG, hpF]; simp
  have BF : Blk wF0 pF 25 #[.int .i64 F.kind, sv F.typ, sv F.val, .slice YF1 YF2 YF3, .slice ZF1 ZF2 ZF3] := by rw [hwF0, hpF]; exact Blk.new w _ _
  have xG : Ext wF0 wG := by rw [hwG]; exact (Mod.refl _ _).alloc _
  have sG : wG.heap.size = pH := by rw [hwG, hpH, ← sF]; simp
  have BG : Blk wG pG 25 #[.int .i64 G.kind, sv G.typ, sv G.val, .slice YG1 YG2 YG3, .slice ZG1 ZG2 ZG3] := by rw [hwG, ← sF]; exact Blk.new _ _ _
  have xH : Ext wG wH := by rw [hwH]; exact (Mod.refl _ _).alloc _
  have sH : wH.heap.size = pE := by rw [hwH, hpE, ← sG]; simp
  have BH : Blk wH pH 25 #[.int .i64 H.kind, sv H.typ, sv H.val, .slice YH1 YH2 YH3, .slice ZH1 ZH2 ZH3] := by rw [hwH, ← sG]; exact Blk.new _ _ _
  have xE : Ext wH wE := by rw [hwE]; exact (Mod.refl _ _).alloc _
  have BE : Blk wE pE 29 #[.slice D0 dn dc, .slice B0 bn bc] := by rw [hwE, ← sH]; exact Blk.new _ _ _
  have x1 : Ext w wE := ext_trans xF (ext_trans xG (ext_trans xH xE))
  have BF1 := BF.mod (ext_trans xG (ext_trans xH xE)) (fun h => h)
  have BG1 := BG.mod (ext_trans xH xE) (fun h => h)
  have BH1 := BH.mod xE (fun h => h)
  have hcc : ∀ {wx : World}, Ext wE wx → (wx.cell? ⟨pF, 0, none⟩ = some (.int .i64 F.kind) ∧ wx.cell? ⟨pF, 1, none⟩ = some (sv F.typ) ∧ wx.cell? ⟨pF, 2, none⟩ = some (sv F.val) ∧ wx.cell? ⟨pF, 3, none⟩ = some (.slice YF1 YF2 YF3) ∧ wx.cell? ⟨pF, 4, none⟩ = some (.slice ZF1 ZF2 ZF3)) ∧ (wx.cell? ⟨pG, 0, none⟩ = some (.int .i64 G.kind) ∧ wx.cell? ⟨pG, 1, none⟩ = some (sv G.typ) ∧ wx.cell? ⟨pG, 2, none⟩ = some (sv G.val) ∧ wx.cell? ⟨pG, 3, none⟩ = some (.slice YG1 YG2 YG3) ∧ wx.cell? ⟨pG, 4, none⟩ = some (.slice ZG1 ZG2 ZG3)) ∧ (wx.cell? ⟨pH, 0, none⟩ = some (.int .i64 H.kind) ∧ wx.cell? ⟨pH, 1, none⟩ = some (sv H.typ) ∧ wx.cell? ⟨pH, 2, none⟩ = some (sv H.val) ∧ wx.cell? ⟨pH, 3, none⟩ = some (.slice YH1 YH2 YH3) ∧ wx.cell? ⟨pH, 4, none⟩ = some (.slice ZH1 ZH2 ZH3)) ∧ wx.cell? ⟨pE, 0, none⟩ = some (.slice D0 dn dc) ∧ wx.cell? ⟨pE, 1, none⟩ = some (.slice B0 bn bc) := fun x => ⟨⟨(BF1.mod x (fun h => h)).cell 0, (BF1.mod x (fun h => h)).cell 1, (BF1.mod x (fun h => h)).cell 2, (BF1.mod x (fun h => h)).cell 3, (BF1.mod x (fun h => h)).cell 4⟩, ⟨(BG1.mod x (fun h => h)).cell 0, (BG1.mod x (fun h => h)).cell 1, (BG1.mod x (fun h => h)).cell 2, (BG1.mod x (fun h => h)).cell 3, (BG1.mod x (fun h => h)).cell 4⟩, ⟨(BH1.mod x (fun h => h)).cell 0, (BH1.mod x (fun h => h)).cell 1, (BH1.mod x (fun h => h)).cell 2, (BH1.mod x (fun h => h)).cell 3, (BH1.mod x (fun h => h)).cell 4⟩, (BE.mod x (fun h => h)).cell 0, (BE.mod x (fun h => h)).cell 1⟩
  obtain ⟨⟨f0, f1, f2, f3, f4⟩, ⟨g0, g1, g2, g3, g4⟩, ⟨h0, h1, h2, h3, h4⟩, e0, e1⟩ := hcc (Mod.refl _ wE)
  have hvF := fun {wx : World} (x : Ext w wx) => heavyF_any n (left := 200) (hF.ext x) (by omega) (by omega)
  have hvG := fun {wx : World} (x : Ext w wx) => heavyF_any n (left := 200) (hG.ext x) (by omega) (by omega)
  have hvH := fun {wx : World} (x : Ext w wx) => heavyF_any n (left := 200) (hH.ext x) (by omega) (by omega)
  have hgr := fun {wx : World} (x : Ext w wx) => great17_any (E := E) (hd.ext x) (ha.ext x) (by omega)
  have hkn := fun wx : World => known17_any (w := wx)
  have hWA : ∀ {wx wy : World} (k : Nat) (_ : k ≤ 1) (_ : Ext w wx) (_ : Ext (wx.alloc (.cells #[.int .i64 F.kind, sv F.typ, sv F.val, .slice YF1 YF2 YF3, .slice ZF1 ZF2 ZF3, .int .i64 G.kind, sv G.typ, sv G.val, .slice YG1 YG2 YG3, .slice ZG1 ZG2 ZG3, .int .i64 H.kind, sv H.typ, sv H.val, .slice YH1 YH2 YH3, .slice ZH1 ZH2 ZH3] 25)) wy), FilN (n + 1) wy (ofK k [F, G, H]) (.slice none 0 0) (.slice (some ⟨wx.heap.size, 0, none⟩) 3 3) := fun {wx wy} k hk x y => by
    have h := FilN.wrap (w := wx) (C := [(F, .slice YF1 YF2 YF3, .slice ZF1 ZF2 ZF3), (G, .slice YG1 YG2 YG3, .slice ZG1 ZG2 ZG3), (H, .slice YH1 YH2 YH3, .slice ZH1 ZH2 ZH3)]) (fun y hy => by
      simp only [List.mem_cons, List.not_mem_nil, or_false] at hy
      rcases hy with rfl | rfl | rfl
      · exact hF.ext x
      · exact hG.ext x
      · exact hH.ext x) (k : Int) (by omega) (by simp)
    exact FilN.ext h y
  have hIA : ∀ {wx : World} {b : Nat} (k : Nat), k ≤ 1 → FilN (n + 1) wx (ofK k [F, G, H]) (.slice none 0 0) (.slice (some ⟨b, 0, none⟩) 3 3) → wF n F ≤ 200 → wF n G ≤ 200 → wF n H ≤ 200 → Calls Tryz.prog 15 #[.agg #[.int .i64 k, sv [], sv [], .slice none 0 0, .slice (some ⟨b, 0, none⟩) 3 3]] wx fun e w' => e = .returned (.bool (isN (n + 1) (ofK k [F, G, H]))) ∧ Ext wx w' := fun {wx b} k hk hf h1 h2 h3 => by
    have h := rIsF_any hf (by have h9 := nodes_wF (n + 1) (ofK k [F, G, H]); rw [wF_ofK] at h9; simp only [List.map_cons, List.map_nil, List.sum_cons, List.sum_nil] at h9; omega)
    exact h
  have hEA : ∀ {wx : World} {b : Nat} (k : Nat), k ≤ 1 → FilN (n + 1) wx (ofK k [F, G, H]) (.slice none 0 0) (.slice (some ⟨b, 0, none⟩) 3 3) → Ext w wx → wF n F ≤ 200 → wF n G ≤ 200 → wF n H ≤ 200 → wA E.ats ≤ 2000 → Calls Tryz.prog 10 #[.agg #[.int .i64 k, sv [], sv [], .slice none 0 0, .slice (some ⟨b, 0, none⟩) 3 3], .agg #[.slice D0 dn dc, .slice B0 bn bc]] wx fun e w' => e = .returned (.int .i64 (topN (n + 1) (ofK k [F, G, H]) E.ats)) ∧ Ext wx w' := fun {wx b} k hk hf x h1 h2 h3 h4 => by
    have h := EvalT_any hf (hd.ext x) (ha.ext x) (by rw [wF_ofK]; simp only [List.map_cons, List.map_nil, List.sum_cons, List.sum_nil]; omega) (by omega) (hM.ext x)
    exact h
  have hWB : ∀ {wx wy : World} (k : Nat) (_ : k ≤ 1) (_ : Ext w wx) (_ : Ext (wx.alloc (.cells #[.int .i64 H.kind, sv H.typ, sv H.val, .slice YH1 YH2 YH3, .slice ZH1 ZH2 ZH3, .int .i64 F.kind, sv F.typ, sv F.val, .slice YF1 YF2 YF3, .slice ZF1 ZF2 ZF3, .int .i64 G.kind, sv G.typ, sv G.val, .slice YG1 YG2 YG3, .slice ZG1 ZG2 ZG3] 25)) wy), FilN (n + 1) wy (ofK k [H, F, G]) (.slice none 0 0) (.slice (some ⟨wx.heap.size, 0, none⟩) 3 3) := fun {wx wy} k hk x y => by
    have h := FilN.wrap (w := wx) (C := [(H, .slice YH1 YH2 YH3, .slice ZH1 ZH2 ZH3), (F, .slice YF1 YF2 YF3, .slice ZF1 ZF2 ZF3), (G, .slice YG1 YG2 YG3, .slice ZG1 ZG2 ZG3)]) (fun y hy => by
      simp only [List.mem_cons, List.not_mem_nil, or_false] at hy
      rcases hy with rfl | rfl | rfl
      · exact hH.ext x
      · exact hF.ext x
      · exact hG.ext x) (k : Int) (by omega) (by simp)
    exact FilN.ext h y
  have hIB : ∀ {wx : World} {b : Nat} (k : Nat), k ≤ 1 → FilN (n + 1) wx (ofK k [H, F, G]) (.slice none 0 0) (.slice (some ⟨b, 0, none⟩) 3 3) → wF n F ≤ 200 → wF n G ≤ 200 → wF n H ≤ 200 → Calls Tryz.prog 15 #[.agg #[.int .i64 k, sv [], sv [], .slice none 0 0, .slice (some ⟨b, 0, none⟩) 3 3]] wx fun e w' => e = .returned (.bool (isN (n + 1) (ofK k [F, G, H]))) ∧ Ext wx w' := fun {wx b} k hk hf h1 h2 h3 => by
    have h := rIsF_any hf (by have h9 := nodes_wF (n + 1) (ofK k [H, F, G]); rw [wF_ofK] at h9; simp only [List.map_cons, List.map_nil, List.sum_cons, List.sum_nil] at h9; omega)
    rw [isN_turn (by omega)] at h
    exact h
  have hEB : ∀ {wx : World} {b : Nat} (k : Nat), k ≤ 1 → FilN (n + 1) wx (ofK k [H, F, G]) (.slice none 0 0) (.slice (some ⟨b, 0, none⟩) 3 3) → Ext w wx → wF n F ≤ 200 → wF n G ≤ 200 → wF n H ≤ 200 → wA E.ats ≤ 2000 → Calls Tryz.prog 10 #[.agg #[.int .i64 k, sv [], sv [], .slice none 0 0, .slice (some ⟨b, 0, none⟩) 3 3], .agg #[.slice D0 dn dc, .slice B0 bn bc]] wx fun e w' => e = .returned (.int .i64 (topN (n + 1) (ofK k [F, G, H]) E.ats)) ∧ Ext wx w' := fun {wx b} k hk hf x h1 h2 h3 h4 => by
    have h := EvalT_any hf (hd.ext x) (ha.ext x) (by rw [wF_ofK]; simp only [List.map_cons, List.map_nil, List.sum_cons, List.sum_nil]; omega) (by omega) (hM.ext x)
    rw [topN_turn (by omega)] at h
    exact h
  obtain ⟨I, hI⟩ : ∃ f : Nat → Bool, ∀ k : Nat, isN (n + 1) (ofK k [F, G, H]) = f k := ⟨_, fun _ => rfl⟩
  obtain ⟨V, hV⟩ : ∃ f : Nat → Int, ∀ k : Nat, topN (n + 1) (ofK k [F, G, H]) E.ats = f k := ⟨_, fun _ => rfl⟩
  simp only [hI] at hIA hIB
  simp only [hV] at hEA hEB
  clear hI hV hd ha hF hG hH
  generalize wA E.ats = A at *
  generalize wF n F = WF at *
  generalize wF n G = WG at *
  generalize wF n H = WH at *
  replace hwF0 := Lib.hid hwF0
  replace hpF := Lib.hid hpF
  replace hwG := Lib.hid hwG
  replace hpG := Lib.hid hpG
  replace hwH := Lib.hid hwH
  replace hpH := Lib.hid hpH
  replace hwE := Lib.hid hwE
  replace hpE := Lib.hid hpE
  clear xF xG xH xE BF BG BH BE BF1 BG1 BH1 sF sG sH
  generalize F.kind = kdF at *
  generalize F.typ = TF at *
  generalize F.val = VF at *
  generalize G.kind = kdG at *
  generalize G.typ = TG at *
  generalize G.val = VG at *
  generalize H.kind = kdH at *
  generalize H.typ = TH at *
  generalize H.val = VH at *
  go_enter Tryz.func6, Tryz.ntmps6
  go_upto_region 1 with fail
  rw [← hpF.out, ← hpG.out, ← hpH.out, ← hpE.out]
  rw [show w.alloc (.cells #[.int .i64 kdF, sv TF, sv VF, .slice YF1 YF2 YF3, .slice ZF1 ZF2 ZF3] 25) = wF0 from hwF0.out.symm]
  rw [show wF0.alloc (.cells #[.int .i64 kdG, sv TG, sv VG, .slice YG1 YG2 YG3, .slice ZG1 ZG2 ZG3] 25) = wG from hwG.out.symm]
  rw [show wG.alloc (.cells #[.int .i64 kdH, sv TH, sv VH, .slice YH1 YH2 YH3, .slice ZH1 ZH2 ZH3] 25) = wH from hwH.out.symm]
  rw [show wH.alloc (.cells #[.slice D0 dn dc, .slice B0 bn bc] 29) = wE from hwE.out.symm]
  clear hwF0 hwG hwH hwE hpF hpG hpH hpE
  go_wp2_with fail
  refine (hvF (x1)).mono ?_
  rintro e w1 ⟨l1, rfl, hl1, z1⟩
  have y1 := z1
  clear f0 f1 f2 f3 f4 g0 g1 g2 g3 g4 h0 h1 h2 h3 h4 e0 e1
  obtain ⟨⟨fa0, fa1, fa2, fa3, fa4⟩, ⟨ga0, ga1, ga2, ga3, ga4⟩, ⟨ha0, ha1, ha2, ha3, ha4⟩, ea0, ea1⟩ := hcc (y1)
  clear hvF
  by_cases hn1 : l1 < 0
  · have hb : decide (l1 < 0) = true := dtrue hn1
    clear hWA hWB hIA hIB hEA hEB hvG hvH hgr
    go_wp2_with fail
    go_ret
    exact ⟨rfl, ext_trans x1 y1⟩
  have hb1 : decide (l1 < 0) = false := dfalse hn1
  have hw1 : WF ≤ 200 := by rcases hl1 with h | h <;> omega
  clear hl1
  go_wp2_with fail
  refine (hvG (ext_trans x1 y1)).mono ?_
  rintro e w2 ⟨l2, rfl, hl2, z2⟩
  have y2 := ext_trans y1 z2
  clear fa0 fa1 fa2 fa3 fa4 ga0 ga1 ga2 ga3 ga4 ha0 ha1 ha2 ha3 ha4 ea0 ea1
  obtain ⟨⟨fb0, fb1, fb2, fb3, fb4⟩, ⟨gb0, gb1, gb2, gb3, gb4⟩, ⟨hb0, hb1, hb2, hb3, hb4⟩, eb0, eb1⟩ := hcc (y2)
  clear hvG
  by_cases hn2 : l2 < 0
  · have hb : decide (l2 < 0) = true := dtrue hn2
    clear hWA hWB hIA hIB hEA hEB hvH hgr
    go_wp2_with fail
    go_ret
    exact ⟨rfl, ext_trans x1 y2⟩
  have hb2 : decide (l2 < 0) = false := dfalse hn2
  have hw2 : WG ≤ 200 := by rcases hl2 with h | h <;> omega
  clear hl2
  go_wp2_with fail
  refine (hvH (ext_trans x1 y2)).mono ?_
  rintro e w3 ⟨l3, rfl, hl3, z3⟩
  have y3 := ext_trans y2 z3
  clear fb0 fb1 fb2 fb3 fb4 gb0 gb1 gb2 gb3 gb4 hb0 hb1 hb2 hb3 hb4 eb0 eb1
  obtain ⟨⟨fc0, fc1, fc2, fc3, fc4⟩, ⟨gc0, gc1, gc2, gc3, gc4⟩, ⟨hc0, hc1, hc2, hc3, hc4⟩, ec0, ec1⟩ := hcc (y3)
  clear hvH
  by_cases hn3 : l3 < 0
  · have hb : decide (l3 < 0) = true := dtrue hn3
    clear hWA hWB hIA hIB hEA hEB hgr
    go_wp2_with fail
    go_ret
    exact ⟨rfl, ext_trans x1 y3⟩
  have hb3 : decide (l3 < 0) = false := dfalse hn3
  have hw3 : WH ≤ 200 := by rcases hl3 with h | h <;> omega
  clear hl3
  have hgr2 := hgr (ext_trans x1 y3)
  clear hgr
  by_cases hA : 2000 < A
  · rw [dtrue hA] at hgr2
    clear hWA hWB hIA hIB hEA hEB
    go_wp2_with fail
    refine hgr2.mono ?_
    rintro e w4 ⟨rfl, z4⟩
    go_wp2_with fail
    go_ret
    exact ⟨rfl, ext_trans x1 (ext_trans y3 z4)⟩
  rw [dfalse hA] at hgr2
  have hA2 : A ≤ 2000 := by omega
  go_wp2_with fail
  refine hgr2.mono ?_
  rintro e w4 ⟨rfl, z4⟩
  have y4 := ext_trans y3 z4
  clear fc0 fc1 fc2 fc3 fc4 gc0 gc1 gc2 gc3 gc4 hc0 hc1 hc2 hc3 hc4 ec0 ec1
  clear hgr2 y3 z4 hb1 hb2 hb3 hn1 hn2 hn3
  go_wp2_with fail
  go_loopw [9] (fun v wr => ∃ k : Nat, k ≤ 2 ∧ v = .int .i64 k ∧ Ext wE wr) (fun v _ => 2 - (intOf v).toNat)
  case atStart => exact ⟨0, by omega, rfl, y4⟩
  case round =>
    clear y4
    obtain ⟨k, hk2, rfl, x⟩ := hrel
    by_cases hk : k ≤ 1
    case neg =>
      have hbl : decide ((k : Int) ≤ 1) = false := dfalse (by omega)
      have hbn : decide (k ≤ 1) = false := dfalse (by omega)
      clear hWA hWB hIA hIB hEA hEB
      go_wp2_with fail
      refine (hkn _).mono ?_
      rintro e w9 ⟨rfl, x9⟩
      go_wp2_with fail
      go_ret
      exact ⟨rfl, ext_trans x1 (ext_trans x x9)⟩
    have hbl : decide ((k : Int) ≤ 1) = true := dtrue (by omega)
    have hbn : decide (k ≤ 1) = true := dtrue (by omega)
    have iA := fun {wx : World} {b : Nat} => hIA (wx := wx) (b := b) k hk
    have iB := fun {wx : World} {b : Nat} => hIB (wx := wx) (b := b) k hk
    have eA := fun {wx : World} {b : Nat} => hEA (wx := wx) (b := b) k hk
    have eB := fun {wx : World} {b : Nat} => hEB (wx := wx) (b := b) k hk
    have fA := fun {wy : World} (y : Ext (wr.alloc (.cells #[.int .i64 kdF, sv TF, sv VF, .slice YF1 YF2 YF3, .slice ZF1 ZF2 ZF3, .int .i64 kdG, sv TG, sv VG, .slice YG1 YG2 YG3, .slice ZG1 ZG2 ZG3, .int .i64 kdH, sv TH, sv VH, .slice YH1 YH2 YH3, .slice ZH1 ZH2 ZH3] 25)) wy) => hWA k hk (ext_trans x1 x) y
    have j2 : Ext wr ((wr.alloc (.cells #[.int .i64 kdF, sv TF, sv VF, .slice YF1 YF2 YF3, .slice ZF1 ZF2 ZF3, .int .i64 kdG, sv TG, sv VG, .slice YG1 YG2 YG3, .slice ZG1 ZG2 ZG3, .int .i64 kdH, sv TH, sv VH, .slice YH1 YH2 YH3, .slice ZH1 ZH2 ZH3] 25)).alloc (.cells #[.int .i64 k, .string ⟨#[]⟩, .string ⟨#[]⟩, .slice none 0 0, .slice (some ⟨wr.heap.size, 0, none⟩) 3 3] 25)) := ((Mod.refl _ wr).alloc _).alloc _
    have fB := fun {wy : World} (y : Ext (((wr.alloc (.cells #[.int .i64 kdF, sv TF, sv VF, .slice YF1 YF2 YF3, .slice ZF1 ZF2 ZF3, .int .i64 kdG, sv TG, sv VG, .slice YG1 YG2 YG3, .slice ZG1 ZG2 ZG3, .int .i64 kdH, sv TH, sv VH, .slice YH1 YH2 YH3, .slice ZH1 ZH2 ZH3] 25)).alloc (.cells #[.int .i64 k, .string ⟨#[]⟩, .string ⟨#[]⟩, .slice none 0 0, .slice (some ⟨wr.heap.size, 0, none⟩) 3 3] 25)).alloc (.cells #[.int .i64 kdH, sv TH, sv VH, .slice YH1 YH2 YH3, .slice ZH1 ZH2 ZH3, .int .i64 kdF, sv TF, sv VF, .slice YF1 YF2 YF3, .slice ZF1 ZF2 ZF3, .int .i64 kdG, sv TG, sv VG, .slice YG1 YG2 YG3, .slice ZG1 ZG2 ZG3] 25)) wy) => hWB (wx := ((wr.alloc (.cells #[.int .i64 kdF, sv TF, sv VF, .slice YF1 YF2 YF3, .slice ZF1 ZF2 ZF3, .int .i64 kdG, sv TG, sv VG, .slice YG1 YG2 YG3, .slice ZG1 ZG2 ZG3, .int .i64 kdH, sv TH, sv VH, .slice YH1 YH2 YH3, .slice ZH1 ZH2 ZH3] 25)).alloc (.cells #[.int .i64 k, .string ⟨#[]⟩, .string ⟨#[]⟩, .slice none 0 0, .slice (some ⟨wr.heap.size, 0, none⟩) 3 3] 25))) k hk (ext_trans x1 (ext_trans x j2)) y
    rw [show ((wr.alloc (.cells #[.int .i64 kdF, sv TF, sv VF, .slice YF1 YF2 YF3, .slice ZF1 ZF2 ZF3, .int .i64 kdG, sv TG, sv VG, .slice YG1 YG2 YG3, .slice ZG1 ZG2 ZG3, .int .i64 kdH, sv TH, sv VH, .slice YH1 YH2 YH3, .slice ZH1 ZH2 ZH3] 25)).alloc (.cells #[.int .i64 k, .string ⟨#[]⟩, .string ⟨#[]⟩, .slice none 0 0, .slice (some ⟨wr.heap.size, 0, none⟩) 3 3] 25)).heap.size = wr.heap.size + 1 + 1 by simp] at fB
    have j4 : Ext ((wr.alloc (.cells #[.int .i64 kdF, sv TF, sv VF, .slice YF1 YF2 YF3, .slice ZF1 ZF2 ZF3, .int .i64 kdG, sv TG, sv VG, .slice YG1 YG2 YG3, .slice ZG1 ZG2 ZG3, .int .i64 kdH, sv TH, sv VH, .slice YH1 YH2 YH3, .slice ZH1 ZH2 ZH3] 25)).alloc (.cells #[.int .i64 k, .string ⟨#[]⟩, .string ⟨#[]⟩, .slice none 0 0, .slice (some ⟨wr.heap.size, 0, none⟩) 3 3] 25)) ((((wr.alloc (.cells #[.int .i64 kdF, sv TF, sv VF, .slice YF1 YF2 YF3, .slice ZF1 ZF2 ZF3, .int .i64 kdG, sv TG, sv VG, .slice YG1 YG2 YG3, .slice ZG1 ZG2 ZG3, .int .i64 kdH, sv TH, sv VH, .slice YH1 YH2 YH3, .slice ZH1 ZH2 ZH3] 25)).alloc (.cells #[.int .i64 k, .string ⟨#[]⟩, .string ⟨#[]⟩, .slice none 0 0, .slice (some ⟨wr.heap.size, 0, none⟩) 3 3] 25)).alloc (.cells #[.int .i64 kdH, sv TH, sv VH, .slice YH1 YH2 YH3, .slice ZH1 ZH2 ZH3, .int .i64 kdF, sv TF, sv VF, .slice YF1 YF2 YF3, .slice ZF1 ZF2 ZF3, .int .i64 kdG, sv TG, sv VG, .slice YG1 YG2 YG3, .slice ZG1 ZG2 ZG3] 25)).alloc (.cells #[.int .i64 k, .string ⟨#[]⟩, .string ⟨#[]⟩, .slice none 0 0, .slice (some ⟨wr.heap.size + 1 + 1, 0, none⟩) 3 3] 25)) := ((Mod.refl _ _).alloc _).alloc _
    have BA : Blk ((wr.alloc (.cells #[.int .i64 kdF, sv TF, sv VF, .slice YF1 YF2 YF3, .slice ZF1 ZF2 ZF3, .int .i64 kdG, sv TG, sv VG, .slice YG1 YG2 YG3, .slice ZG1 ZG2 ZG3, .int .i64 kdH, sv TH, sv VH, .slice YH1 YH2 YH3, .slice ZH1 ZH2 ZH3] 25)).alloc (.cells #[.int .i64 k, .string ⟨#[]⟩, .string ⟨#[]⟩, .slice none 0 0, .slice (some ⟨wr.heap.size, 0, none⟩) 3 3] 25)) (wr.heap.size + 1) 25 #[.int .i64 k, .string ⟨#[]⟩, .string ⟨#[]⟩, .slice none 0 0, .slice (some ⟨wr.heap.size, 0, none⟩) 3 3] := by have h := Blk.new (wr.alloc (.cells #[.int .i64 kdF, sv TF, sv VF, .slice YF1 YF2 YF3, .slice ZF1 ZF2 ZF3, .int .i64 kdG, sv TG, sv VG, .slice YG1 YG2 YG3, .slice ZG1 ZG2 ZG3, .int .i64 kdH, sv TH, sv VH, .slice YH1 YH2 YH3, .slice ZH1 ZH2 ZH3] 25)) 25 #[.int .i64 k, .string ⟨#[]⟩, .string ⟨#[]⟩, .slice none 0 0, .slice (some ⟨wr.heap.size, 0, none⟩) 3 3]; rw [show (wr.alloc (.cells #[.int .i64 kdF, sv TF, sv VF, .slice YF1 YF2 YF3, .slice ZF1 ZF2 ZF3, .int .i64 kdG, sv TG, sv VG, .slice YG1 YG2 YG3, .slice ZG1 ZG2 ZG3, .int .i64 kdH, sv TH, sv VH, .slice YH1 YH2 YH3, .slice ZH1 ZH2 ZH3] 25)).heap.size = wr.heap.size + 1 by simp] at h; exact h
    have BB : Blk ((((wr.alloc (.cells #[.int .i64 kdF, sv TF, sv VF, .slice YF1 YF2 YF3, .slice ZF1 ZF2 ZF3, .int .i64 kdG, sv TG, sv VG, .slice YG1 YG2 YG3, .slice ZG1 ZG2 ZG3, .int .i64 kdH, sv TH, sv VH, .slice YH1 YH2 YH3, .slice ZH1 ZH2 ZH3] 25)).alloc (.cells #[.int .i64 k, .string ⟨#[]⟩, .string ⟨#[]⟩, .slice none 0 0, .slice (some ⟨wr.heap.size, 0, none⟩) 3 3] 25)).alloc (.cells #[.int .i64 kdH, sv TH, sv VH, .slice YH1 YH2 YH3, .slice ZH1 ZH2 ZH3, .int .i64 kdF, sv TF, sv VF, .slice YF1 YF2 YF3, .slice ZF1 ZF2 ZF3, .int .i64 kdG, sv TG, sv VG, .slice YG1 YG2 YG3, .slice ZG1 ZG2 ZG3] 25)).alloc (.cells #[.int .i64 k, .string ⟨#[]⟩, .string ⟨#[]⟩, .slice none 0 0, .slice (some ⟨wr.heap.size + 1 + 1, 0, none⟩) 3 3] 25)) (wr.heap.size + 1 + 1 + 1) 25 #[.int .i64 k, .string ⟨#[]⟩, .string ⟨#[]⟩, .slice none 0 0, .slice (some ⟨wr.heap.size + 1 + 1, 0, none⟩) 3 3] := by have h := Blk.new (((wr.alloc (.cells #[.int .i64 kdF, sv TF, sv VF, .slice YF1 YF2 YF3, .slice ZF1 ZF2 ZF3, .int .i64 kdG, sv TG, sv VG, .slice YG1 YG2 YG3, .slice ZG1 ZG2 ZG3, .int .i64 kdH, sv TH, sv VH, .slice YH1 YH2 YH3, .slice ZH1 ZH2 ZH3] 25)).alloc (.cells #[.int .i64 k, .string ⟨#[]⟩, .string ⟨#[]⟩, .slice none 0 0, .slice (some ⟨wr.heap.size, 0, none⟩) 3 3] 25)).alloc (.cells #[.int .i64 kdH, sv TH, sv VH, .slice YH1 YH2 YH3, .slice ZH1 ZH2 ZH3, .int .i64 kdF, sv TF, sv VF, .slice YF1 YF2 YF3, .slice ZF1 ZF2 ZF3, .int .i64 kdG, sv TG, sv VG, .slice YG1 YG2 YG3, .slice ZG1 ZG2 ZG3] 25)) 25 #[.int .i64 k, .string ⟨#[]⟩, .string ⟨#[]⟩, .slice none 0 0, .slice (some ⟨wr.heap.size + 1 + 1, 0, none⟩) 3 3]; rw [show (((wr.alloc (.cells #[.int .i64 kdF, sv TF, sv VF, .slice YF1 YF2 YF3, .slice ZF1 ZF2 ZF3, .int .i64 kdG, sv TG, sv VG, .slice YG1 YG2 YG3, .slice ZG1 ZG2 ZG3, .int .i64 kdH, sv TH, sv VH, .slice YH1 YH2 YH3, .slice ZH1 ZH2 ZH3] 25)).alloc (.cells #[.int .i64 k, .string ⟨#[]⟩, .string ⟨#[]⟩, .slice none 0 0, .slice (some ⟨wr.heap.size, 0, none⟩) 3 3] 25)).alloc (.cells #[.int .i64 kdH, sv TH, sv VH, .slice YH1 YH2 YH3, .slice ZH1 ZH2 ZH3, .int .i64 kdF, sv TF, sv VF, .slice YF1 YF2 YF3, .slice ZF1 ZF2 ZF3, .int .i64 kdG, sv TG, sv VG, .slice YG1 YG2 YG3, .slice ZG1 ZG2 ZG3] 25)).heap.size = wr.heap.size + 1 + 1 + 1 by simp] at h; exact h
    have hab : ∀ {wx : World}, Ext ((((wr.alloc (.cells #[.int .i64 kdF, sv TF, sv VF, .slice YF1 YF2 YF3, .slice ZF1 ZF2 ZF3, .int .i64 kdG, sv TG, sv VG, .slice YG1 YG2 YG3, .slice ZG1 ZG2 ZG3, .int .i64 kdH, sv TH, sv VH, .slice YH1 YH2 YH3, .slice ZH1 ZH2 ZH3] 25)).alloc (.cells #[.int .i64 k, .string ⟨#[]⟩, .string ⟨#[]⟩, .slice none 0 0, .slice (some ⟨wr.heap.size, 0, none⟩) 3 3] 25)).alloc (.cells #[.int .i64 kdH, sv TH, sv VH, .slice YH1 YH2 YH3, .slice ZH1 ZH2 ZH3, .int .i64 kdF, sv TF, sv VF, .slice YF1 YF2 YF3, .slice ZF1 ZF2 ZF3, .int .i64 kdG, sv TG, sv VG, .slice YG1 YG2 YG3, .slice ZG1 ZG2 ZG3] 25)).alloc (.cells #[.int .i64 k, .string ⟨#[]⟩, .string ⟨#[]⟩, .slice none 0 0, .slice (some ⟨wr.heap.size + 1 + 1, 0, none⟩) 3 3] 25)) wx → (wx.cell? ⟨wr.heap.size + 1, 0, none⟩ = some (.int .i64 k) ∧ wx.cell? ⟨wr.heap.size + 1, 1, none⟩ = some (sv []) ∧ wx.cell? ⟨wr.heap.size + 1, 2, none⟩ = some (sv []) ∧ wx.cell? ⟨wr.heap.size + 1, 3, none⟩ = some (.slice none 0 0) ∧ wx.cell? ⟨wr.heap.size + 1, 4, none⟩ = some (.slice (some ⟨wr.heap.size, 0, none⟩) 3 3)) ∧ wx.cell? ⟨wr.heap.size + 1 + 1 + 1, 0, none⟩ = some (.int .i64 k) ∧ wx.cell? ⟨wr.heap.size + 1 + 1 + 1, 1, none⟩ = some (sv []) ∧ wx.cell? ⟨wr.heap.size + 1 + 1 + 1, 2, none⟩ = some (sv []) ∧ wx.cell? ⟨wr.heap.size + 1 + 1 + 1, 3, none⟩ = some (.slice none 0 0) ∧ wx.cell? ⟨wr.heap.size + 1 + 1 + 1, 4, none⟩ = some (.slice (some ⟨wr.heap.size + 1 + 1, 0, none⟩) 3 3) := fun x => have B := BA.mod (ext_trans j4 x) (fun h => h); have C := BB.mod x (fun h => h); ⟨⟨B.cell 0, B.cell 1, B.cell 2, B.cell 3, B.cell 4⟩, C.cell 0, C.cell 1, C.cell 2, C.cell 3, C.cell 4⟩
    clear hWA hWB hIA hIB hEA hEB BA BB
    obtain ⟨⟨f0, f1, f2, f3, f4⟩, ⟨g0, g1, g2, g3, g4⟩, ⟨h0, h1, h2, h3, h4⟩, e0, e1⟩ := hcc (x)
    obtain ⟨⟨fz0, fz1, fz2, fz3, fz4⟩, ⟨gz0, gz1, gz2, gz3, gz4⟩, ⟨hz0, hz1, hz2, hz3, hz4⟩, ez0, ez1⟩ := hcc (ext_trans x j2)
    obtain ⟨⟨fy0, fy1, fy2, fy3, fy4⟩, ⟨gy0, gy1, gy2, gy3, gy4⟩, ⟨hy0, hy1, hy2, hy3, hy4⟩, ey0, ey1⟩ := hcc (ext_trans x (ext_trans j2 j4))
    have fA4 := fun {wy : World} (y : Ext ((((wr.alloc (.cells #[.int .i64 kdF, sv TF, sv VF, .slice YF1 YF2 YF3, .slice ZF1 ZF2 ZF3, .int .i64 kdG, sv TG, sv VG, .slice YG1 YG2 YG3, .slice ZG1 ZG2 ZG3, .int .i64 kdH, sv TH, sv VH, .slice YH1 YH2 YH3, .slice ZH1 ZH2 ZH3] 25)).alloc (.cells #[.int .i64 k, .string ⟨#[]⟩, .string ⟨#[]⟩, .slice none 0 0, .slice (some ⟨wr.heap.size, 0, none⟩) 3 3] 25)).alloc (.cells #[.int .i64 kdH, sv TH, sv VH, .slice YH1 YH2 YH3, .slice ZH1 ZH2 ZH3, .int .i64 kdF, sv TF, sv VF, .slice YF1 YF2 YF3, .slice ZF1 ZF2 ZF3, .int .i64 kdG, sv TG, sv VG, .slice YG1 YG2 YG3, .slice ZG1 ZG2 ZG3] 25)).alloc (.cells #[.int .i64 k, .string ⟨#[]⟩, .string ⟨#[]⟩, .slice none 0 0, .slice (some ⟨wr.heap.size + 1 + 1, 0, none⟩) 3 3] 25)) wy) => fA (ext_trans ((Mod.refl _ _).alloc _) (ext_trans j4 y))
    have fB4 := fun {wy : World} (y : Ext ((((wr.alloc (.cells #[.int .i64 kdF, sv TF, sv VF, .slice YF1 YF2 YF3, .slice ZF1 ZF2 ZF3, .int .i64 kdG, sv TG, sv VG, .slice YG1 YG2 YG3, .slice ZG1 ZG2 ZG3, .int .i64 kdH, sv TH, sv VH, .slice YH1 YH2 YH3, .slice ZH1 ZH2 ZH3] 25)).alloc (.cells #[.int .i64 k, .string ⟨#[]⟩, .string ⟨#[]⟩, .slice none 0 0, .slice (some ⟨wr.heap.size, 0, none⟩) 3 3] 25)).alloc (.cells #[.int .i64 kdH, sv TH, sv VH, .slice YH1 YH2 YH3, .slice ZH1 ZH2 ZH3, .int .i64 kdF, sv TF, sv VF, .slice YF1 YF2 YF3, .slice ZF1 ZF2 ZF3, .int .i64 kdG, sv TG, sv VG, .slice YG1 YG2 YG3, .slice ZG1 ZG2 ZG3] 25)).alloc (.cells #[.int .i64 k, .string ⟨#[]⟩, .string ⟨#[]⟩, .slice none 0 0, .slice (some ⟨wr.heap.size + 1 + 1, 0, none⟩) 3 3] 25)) wy) => fB (ext_trans ((Mod.refl _ _).alloc _) y)
    have k4 : Ext wE ((((wr.alloc (.cells #[.int .i64 kdF, sv TF, sv VF, .slice YF1 YF2 YF3, .slice ZF1 ZF2 ZF3, .int .i64 kdG, sv TG, sv VG, .slice YG1 YG2 YG3, .slice ZG1 ZG2 ZG3, .int .i64 kdH, sv TH, sv VH, .slice YH1 YH2 YH3, .slice ZH1 ZH2 ZH3] 25)).alloc (.cells #[.int .i64 k, .string ⟨#[]⟩, .string ⟨#[]⟩, .slice none 0 0, .slice (some ⟨wr.heap.size, 0, none⟩) 3 3] 25)).alloc (.cells #[.int .i64 kdH, sv TH, sv VH, .slice YH1 YH2 YH3, .slice ZH1 ZH2 ZH3, .int .i64 kdF, sv TF, sv VF, .slice YF1 YF2 YF3, .slice ZF1 ZF2 ZF3, .int .i64 kdG, sv TG, sv VG, .slice YG1 YG2 YG3, .slice ZG1 ZG2 ZG3] 25)).alloc (.cells #[.int .i64 k, .string ⟨#[]⟩, .string ⟨#[]⟩, .slice none 0 0, .slice (some ⟨wr.heap.size + 1 + 1, 0, none⟩) 3 3] 25)) := ext_trans x (ext_trans j2 j4)
    obtain ⟨w5, hw5⟩ : ∃ x, x = ((((wr.alloc (.cells #[.int .i64 kdF, sv TF, sv VF, .slice YF1 YF2 YF3, .slice ZF1 ZF2 ZF3, .int .i64 kdG, sv TG, sv VG, .slice YG1 YG2 YG3, .slice ZG1 ZG2 ZG3, .int .i64 kdH, sv TH, sv VH, .slice YH1 YH2 YH3, .slice ZH1 ZH2 ZH3] 25)).alloc (.cells #[.int .i64 k, .string ⟨#[]⟩, .string ⟨#[]⟩, .slice none 0 0, .slice (some ⟨wr.heap.size, 0, none⟩) 3 3] 25)).alloc (.cells #[.int .i64 kdH, sv TH, sv VH, .slice YH1 YH2 YH3, .slice ZH1 ZH2 ZH3, .int .i64 kdF, sv TF, sv VF, .slice YF1 YF2 YF3, .slice ZF1 ZF2 ZF3, .int .i64 kdG, sv TG, sv VG, .slice YG1 YG2 YG3, .slice ZG1 ZG2 ZG3] 25)).alloc (.cells #[.int .i64 k, .string ⟨#[]⟩, .string ⟨#[]⟩, .slice none 0 0, .slice (some ⟨wr.heap.size + 1 + 1, 0, none⟩) 3 3] 25)) := ⟨_, rfl⟩
    rw [← hw5] at hab fA4 fB4 k4
    have hall : ∀ {wx : World}, Ext w5 wx → ((wx.cell? ⟨wr.heap.size + 1, 0, none⟩ = some (.int .i64 k) ∧ wx.cell? ⟨wr.heap.size + 1, 1, none⟩ = some (sv []) ∧ wx.cell? ⟨wr.heap.size + 1, 2, none⟩ = some (sv []) ∧ wx.cell? ⟨wr.heap.size + 1, 3, none⟩ = some (.slice none 0 0) ∧ wx.cell? ⟨wr.heap.size + 1, 4, none⟩ = some (.slice (some ⟨wr.heap.size, 0, none⟩) 3 3)) ∧ wx.cell? ⟨wr.heap.size + 1 + 1 + 1, 0, none⟩ = some (.int .i64 k) ∧ wx.cell? ⟨wr.heap.size + 1 + 1 + 1, 1, none⟩ = some (sv []) ∧ wx.cell? ⟨wr.heap.size + 1 + 1 + 1, 2, none⟩ = some (sv []) ∧ wx.cell? ⟨wr.heap.size + 1 + 1 + 1, 3, none⟩ = some (.slice none 0 0) ∧ wx.cell? ⟨wr.heap.size + 1 + 1 + 1, 4, none⟩ = some (.slice (some ⟨wr.heap.size + 1 + 1, 0, none⟩) 3 3)) ∧ wx.cell? ⟨pE, 0, none⟩ = some (.slice D0 dn dc) ∧ wx.cell? ⟨pE, 1, none⟩ = some (.slice B0 bn bc) := fun x => ⟨hab x, (hcc (ext_trans k4 x)).2.2.2⟩
    replace hw5 := Lib.hid hw5
    generalize I k = bb at iA iB
    generalize V k = v at eA eB
    have hbb : (bb != bb) = false := by simp
    have hbe : (bb == bb) = true := by simp
    have hvv : (v != v) = false := by simp
    have hve : (v == v) = true := by simp
    clear fA fB hab j2 j4
    go_upto_region 8 with fail
    rw [show ((((wr.alloc (.cells #[.int .i64 kdF, sv TF, sv VF, .slice YF1 YF2 YF3, .slice ZF1 ZF2 ZF3, .int .i64 kdG, sv TG, sv VG, .slice YG1 YG2 YG3, .slice ZG1 ZG2 ZG3, .int .i64 kdH, sv TH, sv VH, .slice YH1 YH2 YH3, .slice ZH1 ZH2 ZH3] 25)).alloc (.cells #[.int .i64 k, .string ⟨#[]⟩, .string ⟨#[]⟩, .slice none 0 0, .slice (some ⟨wr.heap.size, 0, none⟩) 3 3] 25)).alloc (.cells #[.int .i64 kdH, sv TH, sv VH, .slice YH1 YH2 YH3, .slice ZH1 ZH2 ZH3, .int .i64 kdF, sv TF, sv VF, .slice YF1 YF2 YF3, .slice ZF1 ZF2 ZF3, .int .i64 kdG, sv TG, sv VG, .slice YG1 YG2 YG3, .slice ZG1 ZG2 ZG3] 25)).alloc (.cells #[.int .i64 k, .string ⟨#[]⟩, .string ⟨#[]⟩, .slice none 0 0, .slice (some ⟨wr.heap.size + 1 + 1, 0, none⟩) 3 3] 25)) = w5 from hw5.out.symm]
    have z0 : Ext w5 w5.drew := (Mod.refl _ _).drew
    clear f0 f1 f2 f3 f4 g0 g1 g2 g3 g4 h0 h1 h2 h3 h4 e0 e1
    clear fz0 fz1 fz2 fz3 fz4 gz0 gz1 gz2 gz3 gz4 hz0 hz1 hz2 hz3 hz4 ez0 ez1
    clear fy0 fy1 fy2 fy3 fy4 gy0 gy1 gy2 gy3 gy4 hy0 hy1 hy2 hy3 hy4 ey0 ey1
    go_region_held3 (fun wx => ((wx.cell? ⟨wr.heap.size + 1, 0, none⟩ = some (.int .i64 k) ∧ wx.cell? ⟨wr.heap.size + 1, 1, none⟩ = some (sv []) ∧ wx.cell? ⟨wr.heap.size + 1, 2, none⟩ = some (sv []) ∧ wx.cell? ⟨wr.heap.size + 1, 3, none⟩ = some (.slice none 0 0) ∧ wx.cell? ⟨wr.heap.size + 1, 4, none⟩ = some (.slice (some ⟨wr.heap.size, 0, none⟩) 3 3)) ∧ wx.cell? ⟨wr.heap.size + 1 + 1 + 1, 0, none⟩ = some (.int .i64 k) ∧ wx.cell? ⟨wr.heap.size + 1 + 1 + 1, 1, none⟩ = some (sv []) ∧ wx.cell? ⟨wr.heap.size + 1 + 1 + 1, 2, none⟩ = some (sv []) ∧ wx.cell? ⟨wr.heap.size + 1 + 1 + 1, 3, none⟩ = some (.slice none 0 0) ∧ wx.cell? ⟨wr.heap.size + 1 + 1 + 1, 4, none⟩ = some (.slice (some ⟨wr.heap.size + 1 + 1, 0, none⟩) 3 3)) ∧ wx.cell? ⟨pE, 0, none⟩ = some (.slice D0 dn dc) ∧ wx.cell? ⟨pE, 1, none⟩ = some (.slice B0 bn bc)) (first | exact hall z0 | exact hall z1 | exact hall z2 | exact hall z3 | exact hall z4) (first
      | (go_at_call 15; (with_reducible refine (iA (fA4 z0) hw1 hw2 hw3).mono ?_); rintro e5 w6 ⟨rfl, x6⟩; have z1 := ext_trans z0 x6)
      | (go_at_call 15; (with_reducible refine (iB (fB4 z1) hw1 hw2 hw3).mono ?_); rintro e6 w7 ⟨rfl, x7⟩; have z2 := ext_trans z1 x7)
      | (go_at_call 10; (with_reducible refine (eA (fA4 z2) (ext_trans x1 (ext_trans k4 z2)) hw1 hw2 hw3 hA2).mono ?_); rintro e7 w8 ⟨rfl, x8⟩; have z3 := ext_trans z2 x8)
      | (go_at_call 10; (with_reducible refine (eB (fB4 z3) (ext_trans x1 (ext_trans k4 z3)) hw1 hw2 hw3 hA2).mono ?_); rintro e8 w9 ⟨rfl, x9⟩; have z4 := ext_trans z3 x9))
    go_wp2_with fail
    exact ⟨⟨k + 1, by omega, by go_num, ext_trans k4 z4⟩, by simp [intOf] <;> omega⟩
end Go.Proofs.YteihjdefdeckaaaGreatDoor
