/- keep: KeepApart. -/
import Derived.Test.YtnmfkfjeihjkeaaDoorKpG
namespace Go.Proofs.YtnmfkfjeihjkeaaDoor
open Go.RowKit Go.Maps Go.WideMaps
set_option maxRecDepth 100000

section
variable {w w0 wj wa : World} {v y : Value} {d : Ds}
theorem hold_clear (H : Hold w0 wj v d) (hx : Ext wj wa) (p : List UInt8) {T : Nat → Prop} {stay : Tx} (hy : Ts wa T y stay) (hl : stay.length ≤ 1000000) {d' : Ds} {n : Nat} (he : clearD d p stay = (d', n)) :
    Calls Tryd.prog 20 #[v, sv p, y] wa fun e w' => e = .returned (ev n) ∧ Hold w0 w' v d' := by
  have := held_call (d' := (clearD d p stay).1) H hx fun U _ hdk => clear_any hdk p hy hl
  rw [he] at this
  exact this.mono fun e w' ⟨h1, h2, _⟩ => ⟨h1, h2⟩
theorem hold_list (H : Hold w0 wj v d) :
    Calls Tryd.prog 30 #[v] wj fun e w' => ∃ u, e = .returned u ∧ OwnT w' u (nms d.L) ∧ Fresh wj.heap.size u ∧ Ext wj w' := by
  obtain ⟨T, h1, _⟩ := H
  exact list_any h1
end
abbrev nP1 : List UInt8 := [112, 45, 49]
abbrev nP2 : List UInt8 := [112, 45, 50]
abbrev nQ : List UInt8 := [113]
def sv1 (x p : List UInt8) : Fi := ⟨x, frec p, (frec p).length⟩
theorem ap_save {L L' : Fis} {x p : List UInt8} (hr : Rise L) (h1 : 1 ≤ x.length) (h2 : x.length ≤ 60) (ht : getF L (x ++ [126]) = none) (hs : sumB L + (12 + p.length) ≤ 1048576) (hl : L.length < 4096) (he : putF L (sv1 x p) = L') : saveD (st L) x p = (st L', 0) := by
  have := save_ok (r := 1048576) (l := 0) (L := L) (fu := false) (x := x) (p := p) hr h1 h2 ht hs hl (by simp)
  rw [this, ← he]
  rfl
theorem ap_less12 : Op.bytesLess nP2 nP1 = false := by decide
theorem ap_lessq1 : Op.bytesLess nQ nP1 = false := by decide
theorem ap_lessq2 : Op.bytesLess nQ nP2 = false := by decide
section
variable {a b c p : List UInt8}
theorem ap_1 (h : a.length ≤ 5000) : saveD (newD 1048576) nP1 a = (st [sv1 nP1 a], 0) := ap_save (L := []) List.Pairwise.nil (by decide) (by decide) rfl (by simp [sumB]; omega) (by simp) rfl
theorem ap_2 (h : a.length + b.length ≤ 5000) : saveD (st [sv1 nP1 a]) nP2 b = (st [sv1 nP1 a, sv1 nP2 b], 0) :=
  ap_save (by simp [Rise, nms, riseT]) (by decide) (by decide) rfl (by simp [sumB, sv1, frec_len]; omega) (by simp) (by simp [putF, sv1, ap_less12])
theorem ap_3 (h : a.length + b.length + c.length ≤ 5000) : saveD (st [sv1 nP1 a, sv1 nP2 b]) nQ c = (st [sv1 nP1 a, sv1 nP2 b, sv1 nQ c], 0) :=
  ap_save (by simp [Rise, nms, riseT, sv1]; decide) (by decide) (by decide) rfl (by simp [sumB, sv1, frec_len]; omega) (by simp) (by simp [putF, sv1, ap_lessq1, ap_lessq2])
theorem ap_rise (x y z : List UInt8) : Rise [sv1 nP1 x, sv1 nP2 y, sv1 nQ z] := by simp [Rise, nms, riseT, sv1]; decide
theorem ap_4 (h : a.length + b.length + c.length ≤ 5000) : saveD (st [sv1 nP1 a, sv1 nP2 b, sv1 nQ c]) nP2 (b ++ a) = (st [sv1 nP1 a, sv1 nP2 (b ++ a), sv1 nQ c], 0) :=
  ap_save (ap_rise _ _ _) (by decide) (by decide) rfl (by simp [sumB, sv1, frec_len]; omega) (by simp) (by simp [putF, sv1, ap_less12])
theorem ap_crash (draw : Int) : crashD draw (st [sv1 nP1 a, sv1 nP2 b, sv1 nQ c]) = st [sv1 nP1 a, sv1 nP2 b, sv1 nQ c] := crash_all (by
  intro f hf
  simp only [List.mem_cons, List.not_mem_nil, or_false] at hf
  rcases hf with rfl | rfl | rfl <;> rfl)
theorem ap_l1 (h : a.length ≤ 5000) : loadD (st [sv1 nP1 a, sv1 nP2 b, sv1 nQ c]) nP1 = (a, 0) := load_saved (n := (frec a).length) rfl (by omega)
theorem ap_l2 (h : b.length ≤ 5000) : loadD (st [sv1 nP1 a, sv1 nP2 b, sv1 nQ c]) nP2 = (b, 0) := load_saved (n := (frec b).length) rfl (by omega)
theorem ap_clear : clearD (st [sv1 nP1 a, sv1 nP2 b, sv1 nQ c]) [112, 45] [nP2, nQ] = (st [sv1 nP2 b, sv1 nQ c], 0) := by
  have e : goneN (nms (st [sv1 nP1 a, sv1 nP2 b, sv1 nQ c]).L) [112, 45] [nP2, nQ] = [nP1] := by
    show goneN [nP1, nP2, nQ] [112, 45] [nP2, nQ] = [nP1]
    decide
  unfold clearD
  rw [e]
  rfl
theorem ap_l3 : loadD (st [sv1 nP2 b, sv1 nQ c]) nP1 = ([], 7) := load_none rfl
theorem ap_l4 (h : c.length ≤ 5000) : loadD (st [sv1 nP2 b, sv1 nQ c]) nQ = (c, 0) := load_saved (n := (frec c).length) rfl (by omega)
end
section
variable {P : Program} {w : World} {t e : TypeId} {z : Value} {bytes : Nat} {ops : Array Oper} {o : Oper} {a : Act} {Q : Exit → Act → World → Prop} {S : Nat → Prop}
theorem step_appG {K : Act → World → Prop} {E : Prop} (d : Tmp) (hT : SliceTy P t e z bytes) {v y : Value} {xs news : List Value} (hown : Own w e v xs) (hr : Sl w S y news) (h1 : ∀ u ∈ news, u.oneCell' = true) (hn : (xs.length + news.length) * bytes ≤ 140737488355328)
    (hw : Region.wanted o (yielded ops a.tmps) = true) (hd : o.dst = some d) (s yy : Operand) (ho : o.op = .call { callee := .builtin .append, args := #[s, yy], argTypes := #[t, t] }) (hs : a.eval s = v) (hy : a.eval yy = y)
    (h : ∀ v' w', Own w' e v' (xs ++ news) → Mod (own v) w w' → Next w.heap.size v v' → K (a.put o.dst v') w') : if Region.wanted o (yielded ops a.tmps) = true then Oper.wp P o a w K Q else E := by
  rw [if_pos hw]
  obtain ⟨v', w', hrun, h2, h3, h4⟩ := run_app (P := P) hT o.type hown hr h1 hn
  unfold Oper.wp execOp
  simp only [ho, resolve, invoke, builtin, Sem.run_bind, Sem.run_pure, Result.andThen_ok, List.map_toArray, List.map_cons, List.map_nil, hs, hy, hrun]
  simp only [Oper.upon, hd]
  have := h v' w' h2 h3 h4
  rw [hd] at this
  exact this
/-- append(v, ys...) at an operation whose guard is met. -/
theorem wp_appg {rest : List Oper} (d : Tmp) (hT : SliceTy P t e z bytes) {v y : Value} {xs news : List Value} (hown : Own w e v xs) (hr : Sl w S y news) (h1 : ∀ u ∈ news, u.oneCell' = true) (hn : (xs.length + news.length) * bytes ≤ 140737488355328)
    (hw : Region.wanted o (yielded ops a.tmps) = true) (hd : o.dst = some d) (s yy : Operand) (ho : o.op = .call { callee := .builtin .append, args := #[s, yy], argTypes := #[t, t] }) (hs : a.eval s = v) (hy : a.eval yy = y)
    (h : ∀ v' w', Own w' e v' (xs ++ news) → Mod (own v) w w' → Next w.heap.size v v' → wpList P ops Q rest (a.put o.dst v') w') : wpList P ops Q (o :: rest) a w :=
  wpList_step fun K hK => step_appG d hT hown hr h1 hn hw hd s yy ho hs hy fun v' w' k1 k2 k3 => hK _ _ (h v' w' k1 k2 k3)
end
set_option maxHeartbeats 16000000 in
theorem apart_any {w : World} {va vb vc : Value} {a b c : List UInt8} {draw : Int} (ha0 : Bs w (fun _ => True) va a) (hb0 : Bs w (fun _ => True) vb b) (hc0 : Bs w (fun _ => True) vc c) (la : a.length ≤ 140737488351232) (lb : b.length ≤ 140737488351232) (lc : c.length ≤ 140737488351232) (hdr : -9223372036854775808 ≤ draw ∧ draw ≤ 9223372036854775807) (hN : Nib w) :
    Calls Tryd.prog 6 #[va, vb, vc, .int .i64 draw] w fun e w' => e = .returned (.bool true) ∧ Ext w w' := by
  have ha := ha0.old
  have hb := hb0.old
  have hc := hc0.old
  obtain ⟨A1, c1, rfl, p1, p2, p3, p4⟩ := ha.open_
  obtain ⟨A2, c2, rfl, q1, q2, q3, q4⟩ := hb.open_
  obtain ⟨A3, c3, rfl, r1, r2, r3, r4⟩ := hc.open_
  clear ha0 hb0 hc0 p4 q4 r4
  by_cases hbig : 5000 < a.length + b.length + c.length
  · have hbb : decide ((5000 : Int) < (a.length : Int) + (b.length : Int) + (c.length : Int)) = true := dtrue (by omega)
    go_enter Tryd.func6, Tryd.ntmps6
    go_wp2_with fail
    go_ret
    exact ⟨rfl, Mod.refl _ _⟩
  have hbb : decide ((5000 : Int) < (a.length : Int) + (b.length : Int) + (c.length : Int)) = false := dfalse (by omega)
  go_enter Tryd.func6, Tryd.ntmps6
  go_wp2_with fail
  refine (new_hold (w0 := w) 1048576 (by omega) (by omega) (Mod.refl _ _)).mono ?_
  rintro e w1 ⟨bd, rfl, H1⟩
  have hca := hold_save H1 ((Mod.refl _ _).alloc _) nP1 (by decide) (row_one (ha.mod H1.xt (fun _ _ _ h => h))) hN (by simp; omega) (d' := st [sv1 nP1 a]) (n := 0) (by simpa using ap_1 (a := a) (by omega))
  clear H1
  go_wp2_with fail
  refine hca.mono ?_
  rintro e w2 ⟨rfl, H2⟩
  clear hca
  have hca := hold_save H2 ((Mod.refl _ _).alloc _) nP2 (by decide) (row_one (hb.mod H2.xt (fun _ _ _ h => h))) hN (by simp; omega) (d' := st [sv1 nP1 a, sv1 nP2 b]) (n := 0) (by simpa using ap_2 (a := a) (b := b) (by omega))
  clear H2
  go_wp2_with fail
  refine hca.mono ?_
  rintro e w3 ⟨rfl, H3⟩
  clear hca
  have hca := hold_save H3 ((Mod.refl _ _).alloc _) nQ (by decide) (row_one (hc.mod H3.xt (fun _ _ _ h => h))) hN (by simp; omega) (d' := st [sv1 nP1 a, sv1 nP2 b, sv1 nQ c]) (n := 0) (by simpa using ap_3 (a := a) (b := b) (c := c) (by omega))
  clear H3
  go_wp2_with fail
  refine hca.mono ?_
  rintro e w4 ⟨rfl, H4⟩
  clear hca
  have hca := hold_save H4 ((Mod.refl _ _).alloc _) nP2 (by decide) (Rw.two 32 (hb.mod H4.xt (fun _ _ _ h => h)) (ha.mod H4.xt (fun _ _ _ h => h))) hN (by simp; omega) (d' := st [sv1 nP1 a, sv1 nP2 (b ++ a), sv1 nQ c]) (n := 0) (by simpa using ap_4 (a := a) (b := b) (c := c) (by omega))
  clear H4
  go_wp2_with fail
  refine hca.mono ?_
  rintro e w5 ⟨rfl, H5⟩
  clear hca
  have hca := hold_crash H5 draw hdr.2 (ap_crash draw)
  clear H5
  go_wp2_with fail
  refine hca.mono ?_
  rintro e w6 ⟨rfl, H6⟩
  clear hca
  have hca := hold_load H6 nP1 (by decide) hN (ap_l1 (by omega))
  clear H6
  go_wp2_with fail
  refine hca.mono ?_
  rintro e w7 ⟨u7, rfl, o7, f7, x7, H7⟩
  clear hca
  have hca := hold_load H7 nP2 (by decide) hN (ap_l2 (by simp; omega))
  clear H7
  go_wp2_with fail
  refine hca.mono ?_
  rintro e w8 ⟨u8, rfl, o8, f8, x8, H8⟩
  clear hca
  have o7' := o7.mod x8 (fun _ _ h => h)
  have hsm := same_any o7'.sl (ha.mod H8.xt (fun _ _ _ h => h))
  rw [dtrue rfl] at hsm
  clear o7 o7' f7 x7 f8 x8
  go_wp2_with fail
  refine hsm.mono ?_
  rintro e w9 ⟨rfl, k9, rfl⟩
  clear hsm
  have yE : Ext w ((w8.drewN k9).alloc (.cells #[] 5)) := (H8.xt.drewN k9).alloc _
  have xE : Ext w8 ((w8.drewN k9).alloc (.cells #[] 5)) := ((Mod.refl _ w8).drewN k9).alloc _
  have oE := Own.empty (w8.drewN k9) 5
  have fE : Fresh w8.heap.size (.slice (some ⟨w8.heap.size, 0, none⟩) 0 0) := fun k hk => by
    have e : w8.heap.size = k := by simpa [Value.ownBlock] using hk
    omega
  have rE := hb.mod yE (fun _ _ _ h => h)
  have n1 : (([] : List Value).length + (b.map bv).length) * 1 ≤ 140737488355328 := by rw [List.length_map, List.length_nil]; omega
  have n2 : ((b.map bv).length + (a.map bv).length) * 1 ≤ 140737488355328 := by rw [List.length_map, List.length_map]; omega
  have hfa : ∀ (v : Value) (wx : World), Own wx 5 v (([] : List Value) ++ b.map bv) → Mod (own (.slice (some ⟨w8.heap.size, 0, none⟩) 0 0)) ((w8.drewN k9).alloc (.cells #[] 5)) wx → Next ((w8.drewN k9).alloc (.cells #[] 5)).heap.size (.slice (some ⟨w8.heap.size, 0, none⟩) 0 0) v →
      Own wx 5 v (b.map bv) ∧ Ext w8 wx ∧ Fresh w8.heap.size v := fun v wx o m n => ⟨by simpa using o, ext_app0 xE fE m, n.fresh fE xE.size⟩
  replace hfa := Lib.hid hfa
  have x8 := H8.xt
  go_wp2_with (first
    | ((with_reducible show wpList _ _ _ (⟨some 94, _, _, _, _, _⟩ :: _) _ _); refine wp_appg 94 tyB oE rE (bv_one _) n1 rfl rfl (.tmp 92) (.tmp 93) rfl rfl rfl ?_; intro v13 w13 o13 m13 n13; obtain ⟨k1, k2, k3⟩ := hfa.out v13 w13 o13 m13 n13; clear o13 m13 n13 hfa; have hA13 := ha.mod (ext_trans x8 k2) (fun _ _ _ h => h))
    | ((with_reducible show wpList _ _ _ (⟨some 96, _, _, _, _, _⟩ :: _) _ _); refine wp_appg 96 tyB k1 hA13 (bv_one _) n2 rfl rfl (.tmp 94) (.tmp 95) rfl rfl rfl ?_; intro v14 w14 o14 m14 n14))
  have q8 := ext_app0 k2 k3 m14
  have o14' : Own w14 5 v14 ((b ++ a).map bv) := by rw [List.map_append]; exact o14
  have hsm := same_any (o8.mod q8 (fun _ _ h => h)).sl o14'.sl
  rw [dtrue rfl] at hsm
  have H14 := H8.ext q8
  clear o14 o14' m14 n14 q8 k1 k2 k3 hA13 H8 o8 x8 yE xE oE fE rE ha hb
  refine hsm.mono ?_
  rintro e w15 ⟨rfl, k15, rfl⟩
  clear hsm
  have H15 := H14.ext ((Mod.refl _ w14).drewN k15)
  have hcc := hold_clear H15 ((Mod.refl _ _).alloc _) [112, 45] (two_names (w14.drewN k15) nP2 nQ) (by decide) ap_clear
  clear H14 H15
  go_wp2_with fail
  refine hcc.mono ?_
  rintro e w16 ⟨rfl, H16⟩
  clear hcc
  have hcl := hold_load H16 nP1 (by decide) hN ap_l3
  clear H16
  go_wp2_with fail
  refine hcl.mono ?_
  rintro e w17 ⟨u17, rfl, -, -, -, H17⟩
  clear hcl
  have hcl := hold_load H17 nQ (by decide) hN (ap_l4 (by omega))
  clear H17
  go_wp2_with fail
  refine hcl.mono ?_
  rintro e w18 ⟨u18, rfl, o18, -, -, H18⟩
  clear hcl
  have hsm := same_any o18.sl (hc.mod H18.xt (fun _ _ _ h => h))
  rw [dtrue rfl] at hsm
  clear o18
  go_wp2_with fail
  refine hsm.mono ?_
  rintro e w19 ⟨rfl, k19, rfl⟩
  clear hsm hc
  have H19 := H18.ext ((Mod.refl _ w18).drewN k19)
  have hcl := hold_list H19
  clear H18
  go_wp2_with fail
  refine hcl.mono ?_
  rintro e w20 ⟨u20, rfl, o20, -, x20⟩
  clear hcl
  have y20 := ext_trans H19.xt x20
  have xa : Ext w20 (w20.alloc (.cells #[sv nP2, sv nQ] 9)) := (Mod.refl _ _).alloc _
  have hct := texts3_any (o20.sl.mod xa (fun _ _ _ h => h)) (two_names w20 nP2 nQ)
  rw [dtrue (show nms (st [sv1 nP2 (b ++ a), sv1 nQ c]).L = [nP2, nQ] from rfl)] at hct
  clear o20 H19 x20
  go_wp2_with fail
  refine hct.mono ?_
  rintro e w21 ⟨rfl, x21⟩
  have y21 := ext_trans (ext_trans y20 xa) x21
  have hkn := known4_any (hN.ext y21)
  clear hct x21 y20 xa
  go_wp2_with fail
  refine hkn.mono ?_
  rintro e w22 ⟨rfl, x22⟩
  go_wp2_with fail
  go_ret
  exact ⟨rfl, ext_trans y21 x22⟩
end Go.Proofs.YtnmfkfjeihjkeaaDoor
