/- table: what lies between two keys, and behind the second. -/
import Derived.Test.YthohghnfiicndaaDoorTabT
namespace Go.Proofs.YthohghnfiicndaaDoor
open Go.RowKit Go.Maps Go.WideMaps
set_option maxRecDepth 100000

theorem scan_split {L : List Ce} (hs : sortedC L) {a m : List UInt8} (hm : m ≠ []) (ham : Op.bytesLess m a = false) : scanC L a m ++ scanC L m [] = scanC L a [] := by
  have hp : ∀ x y, lessC x y = true → Op.bytesLess y.key m = true → Op.bytesLess x.key m = true := fun x y h1 h2 => key_le h1 h2
  have e1 := take_filter hs (fun c => Op.bytesLess c.key m) hp
  have e2 := drop_filter hs (fun c => Op.bytesLess c.key m) hp
  have e3 : L = (L.filter fun c => Op.bytesLess c.key m) ++ (L.filter fun c => !Op.bytesLess c.key m) := by
    rw [← e1, ← e2, List.takeWhile_append_dropWhile]
  have hmb : (m == []) = false := beq_eq_false_iff_ne.2 hm
  have hlow : ∀ k, Op.bytesLess k a = true → Op.bytesLess k m = true := fun k hk => by
    by_cases e : a = m
    · rw [← e]; exact hk
    · have := less_asym a m e
      rw [ham] at this
      exact less_trans k a m hk (by rw [this]; rfl)
  have f1 : scanC L a m = (L.filter fun c => Op.bytesLess c.key m).filter fun c => !Op.bytesLess c.key a := by
    unfold scanC
    rw [List.filter_filter]
    congr 1
    funext c
    rw [hmb, Bool.false_or]
  have f2 : scanC L m [] = (L.filter fun c => !Op.bytesLess c.key m).filter fun c => !Op.bytesLess c.key a := by
    unfold scanC
    rw [List.filter_filter]
    congr 1
    funext c
    simp only [beq_self_eq_true, Bool.true_or, Bool.and_true]
    cases h1 : Op.bytesLess c.key m
    · cases h2 : Op.bytesLess c.key a
      · rfl
      · rw [hlow _ h2] at h1; cases h1
    · simp
  have f3 : scanC L a [] = L.filter fun c => !Op.bytesLess c.key a := by
    unfold scanC
    congr 1
    funext c
    simp
  rw [f1, f2, ← List.filter_append, ← e3, f3]

set_option maxHeartbeats 16000000 in
theorem splits8_any {w : World} {S : Nat → Prop} {v : Value} {L : List Ce} {a m : List UInt8} (h : Cs w S v L) (hf : LFits L) (ha : a.length ≤ 140737488351232) (hm : m.length ≤ 140737488351232) (hN : Nib w) :
    Calls Tryd.prog 8 #[v, sv a, sv m] w fun e w' => e = .returned (.bool true) ∧ Ext w w' := by
  have hza := sv_size a
  have hzm := sv_size m
  have hc1 := heavy8_any h hf
  have hcs := fun {wx : World} (x : Ext w wx) => Rc.ext h x
  obtain ⟨A, cp, rfl, -, -, -, -⟩ := h.open_ cel_len
  go_enter Tryd.func8, Tryd.ntmps8
  go_wp2_with fail
  refine hc1.mono ?_
  rintro e w1 ⟨q, rfl, hq, x1⟩
  clear hc1 h
  cases q with
  | true =>
    go_wp2_with fail
    go_ret
    exact ⟨rfl, x1⟩
  | false =>
  obtain ⟨hw, hl⟩ := hq rfl
  have hc2 := rise_any (hcs x1) (by omega)
  clear hq
  go_wp2_with fail
  refine hc2.mono ?_
  rintro e w2 ⟨rfl, x2⟩
  have y2 := ext_trans x1 x2
  clear hc2 x1 x2
  by_cases hr : riseN L = 0
  case neg =>
    have hb : ((riseN L : Int) != 0) = true := by rw [bne_iff_ne]; omega
    generalize riseN L = n at *
    go_wp2_with fail
    go_ret
    exact ⟨rfl, y2⟩
  have hb : ((riseN L : Int) != 0) = false := by rw [bne_eq_false_iff_eq]; omega
  by_cases h0 : L = []
  · have hb0 : ((L.length : Int) == 0) = true := by rw [h0]; rfl
    generalize riseN L = n at *
    go_wp2_with fail
    go_ret
    exact ⟨rfl, y2⟩
  have hpos : 0 < L.length := List.length_pos_iff.2 h0
  have hb0 : ((L.length : Int) == 0) = false := by rw [beq_eq_false_iff_ne]; omega
  by_cases hlen : 200 < a.length + m.length
  · have hb1 : decide ((200 : Int) < (a.length : Int) + (m.length : Int)) = true := dtrue (by omega)
    generalize riseN L = n at *
    go_wp2_with fail
    go_ret
    exact ⟨rfl, y2⟩
  have hb1 : decide ((200 : Int) < (a.length : Int) + (m.length : Int)) = false := dfalse (by omega)
  cases hma : Op.bytesLess m a
  case true =>
    generalize riseN L = n at *
    go_wp2_with fail
    go_ret
    exact ⟨rfl, y2⟩
  case false =>
  by_cases hm0 : m = []
  · have hb2 : m.isEmpty = true := by rw [hm0]; rfl
    clear hm0 hza hzm
    generalize riseN L = n at *
    go_wp2_with fail
    go_ret
    exact ⟨rfl, y2⟩
  have hb2 : m.isEmpty = false := List.isEmpty_eq_false_iff.2 hm0
  have hsp := scan_split (sorted_of (riseN_zero hr).2) hm0 hma
  have hsc := fun {S : Nat → Prop} {wx : World} {u : Value} (x y : List UInt8) (h : TL S wx u L) => scan_any (a := x) (b := y) h (build_of hr h0 (by omega))
  have hln := fun x y => scan_len L x y
  have hB := build_of hr h0 (by omega)
  have hc3 := build_any (hcs y2) (by omega) (hN.mod y2 (fun h => h))
  rw [hB] at hc3
  have hop := fun {S : Nat → Prop} {wx : World} {v : Value} (h : Bs wx S v (buildB L)) (n : Nib wx) => opened_any h n hB (by omega) hl
  generalize riseN L = n at *
  generalize buildB L = fr at *
  go_wp2_with fail
  refine hc3.mono ?_
  rintro e w3 ⟨v3, rfl, o3, f3, x3⟩
  have y3 := ext_trans y2 x3
  have hc4 := hop o3.sl (hN.mod y3 (fun h => h))
  clear hc3 hop
  go_wp2_with fail
  refine hc4.mono ?_
  rintro e w4 ⟨g, rfl, T, x4⟩
  have y4 := ext_trans y3 x4
  clear hc4
  have l1 := hln a m
  have l2 := hln m []
  have l3 := hln a []
  obtain ⟨w5, hw5⟩ : ∃ w5, w5 = w4.alloc (.cells #[] 37) := ⟨_, rfl⟩
  obtain ⟨ge, hge⟩ : ∃ ge, ge = w4.heap.size := ⟨_, rfl⟩
  have x5 : Ext w4 w5 := by rw [hw5]; exact (Mod.refl _ w4).alloc _
  have oE : OwnC w5 (.slice (some ⟨ge, 0, none⟩) 0 0) [] := by rw [hw5, hge]; exact OwnR.empty cel 4 w4 37
  have fE : Fresh w4.heap.size (.slice (some ⟨ge, 0, none⟩) 0 0) := by rw [hge]; exact fresh_new w4 0 0
  have y5 := ext_trans y4 x5
  have T5 := T.ext x5
  have hs1 := hsc a m T5
  replace hw5 := Lib.hid hw5
  replace hge := Lib.hid hge
  replace hsp := Lib.hid hsp
  clear hza hzm
  go_upto_region 7 with fail
  go_wp2_with fail
  rw [← hw5.out, ← hge.out]
  refine hs1.mono ?_
  rintro e w6 ⟨v6, rfl, o6, f6, x6⟩
  have oE6 := OwnR.ext oE x6
  have x46 := ext_trans x5 x6
  have n1 : (([] : List Ce).length + (scanC L a m).length) * 48 ≤ 140737488355328 := by simp only [List.length_nil]; omega
  have n2 : (([] ++ scanC L a m).length + (scanC L m []).length) * 48 ≤ 140737488355328 := by rw [List.nil_append]; omega
  replace n1 := Lib.hid n1
  replace n2 := Lib.hid n2
  clear hs1 T5 oE y5 x5 x6 hln l1 l2 hlen hb1 hma hm0 hb2 hge
  generalize hX : scanC L a m = X at *
  generalize hY : scanC L m [] = Y at *
  generalize hZ : scanC L a [] = Z at *
  go_wp2_with ((with_reducible show wpList _ _ _ (⟨some 66, _, _, _, _, _⟩ :: _) _ _); refine wp_appRm tyC oE6 o6.rc (fun x _ => cel_ok x) n1.out rfl (.tmp 61) (.tmp 65) rfl rfl rfl ?_; intro v7 w7 k1 k2 k3)
  have x47 := ext_app0 x46 fE k2
  have f7 := k3.fresh fE x46.size
  have hs2 := hsc m [] (T.ext x47)
  rw [hY] at hs2
  clear k2 k3 oE6 o6 f6 x46 fE
  refine hs2.mono ?_
  rintro e w8 ⟨v8, rfl, o8, f8, x8⟩
  have k8 := OwnR.ext k1 x8
  have x48 := ext_trans x47 x8
  clear hs2 k1
  go_wp2_with ((with_reducible show wpList _ _ _ (⟨some 70, _, _, _, _, _⟩ :: _) _ _); refine wp_appRm tyC k8 o8.rc (fun x _ => cel_ok x) n2.out rfl (.tmp 66) (.tmp 69) rfl rfl rfl ?_; intro v9 w9 j1 j2 j3)
  have x49 := ext_app0 x48 f7 j2
  have hs3 := hsc a [] (T.ext x49)
  rw [hZ] at hs3
  refine hs3.mono ?_
  rintro e w10 ⟨v10, rfl, o10, f10, x10⟩
  have j10 := OwnR.ext j1 x10
  have x410 := ext_trans x49 x10
  have y10 := ext_trans y4 x410
  have hc9 := cells8_any j10.rc o10.rc (by rw [List.nil_append, hsp.out]; omega)
  rw [List.nil_append, hsp.out, decide_eq_true rfl] at hc9
  clear hs3 j1 j2 j3 k8 o8 f8 x8 x48 x49
  go_wp2_with fail
  refine hc9.mono ?_
  rintro e w11 ⟨rfl, x11⟩
  have y11 := ext_trans y10 x11
  go_wp2_with fail
  refine (known8_any (hN.mod y11 (fun h => h))).mono ?_
  rintro e w12 ⟨rfl, x12⟩
  go_wp2_with fail
  go_ret
  exact ⟨rfl, ext_trans y11 x12⟩
end Go.Proofs.YthohghnfiicndaaDoor
