/- DnkeyOrder: the walk. -/
import Derived.Test.YtbdkdbfcbakgmaaDnJ
import Derived.Test.YtbdkdbfcbakgmaaOrd
import Derived.WalkLawsBesides
namespace Go.Proofs.Ytbdkdbfcbakgmaa
open Go.RowKit
set_option maxRecDepth 100000

section
variable {P : Program} {w : World} {t e : TypeId} {z : Value} {k bytes : Nat} {ops : Array Oper} {rest : List Oper} {o : Oper} {a : Act} {Q : Exit → Act → World → Prop} {α : Type} {f : α → List Value} {S : Nat → Prop}
/-- append(v, ys...), whole rows of records. -/
theorem wp_appRs (hT : SliceTyK P t e z k bytes) {v y : Value} {L M : List α} (hown : OwnR f k w e v L) (hr : Rc f k w S y M) (h1 : ∀ x, ∀ u ∈ f x, u.oneCell' = true) (hn : (L.length + M.length) * bytes ≤ 140737488355328)
    (hgd : o.guard = none) (s x : Operand) (ho : o.op = .call { callee := .builtin .append, args := #[s, x], argTypes := #[t, t] }) (hs : a.eval s = v) (hx : a.eval x = y)
    (h : ∀ v' w', OwnR f k w' e v' (L ++ M) → Mod (own v) w w' → Next w.heap.size v v' → wpList P ops Q rest (a.put o.dst v') w') : wpList P ops Q (o :: rest) a w :=
  wp_appk hT hown hr (fun u hu => by obtain ⟨x, _, hx⟩ := List.mem_flatMap.1 hu; exact h1 x u hx) hgd s x ho hs hx hn fun v' w' k1 k2 k3 => h v' w' (by unfold OwnR; rw [List.length_append, List.flatMap_append]; exact k1) k2 k3
theorem OwnR.empty (f : α → List Value) (k : Nat) (w : World) (e : TypeId) : OwnR f k (w.alloc (.cells #[] e)) e (.slice (some ⟨w.heap.size, 0, none⟩) 0 0) [] :=
  ⟨by simp, .inr ⟨w.heap.size, 0, #[], rfl, Nat.zero_le _, heap_alloc_new w _, Nat.le_refl _, Nat.zero_le _, by simp, by simp⟩⟩
theorem fresh_new (w : World) (n c : Nat) : Fresh w.heap.size (.slice (some ⟨w.heap.size, 0, none⟩) n c) := fun k hk => by have : w.heap.size = k := Option.some.inj hk; omega
end
/-- What came in lies in memory that is there. -/
theorem Rc.there {α : Type} {f : α → List Value} {k : Nat} {w w' : World} {S : Nat → Prop} {v : Value} {L : List α} (h : Rc f k w S v L) (hx : Ext w w') : Rc f k w' (fun b => b < w'.heap.size) v L :=
  (h.mono (T := fun b => b < w.heap.size) (fun b hb _ => hb)).ext hx |>.mono (fun b hb _ => hb)

set_option maxHeartbeats 8000000 in
theorem dnkeyOrder_walk {w : World} {v0 v1 v2 v3 : Value} {a b c d : List Av} (h0 : As w (fun _ => True) v0 a) (h1 : As w (fun _ => True) v1 b) (h2 : As w (fun _ => True) v2 c) (h3 : As w (fun _ => True) v3 d) (f0 : Fits a) (f1 : Fits b) (f2 : Fits c) (f3 : Fits d) :
    Calls Try.prog 15 #[v0, v1, v2, v3] w fun e w' => e = .returned (.bool true) ∧ Ext w w' := by
  obtain ⟨A2, cc2, rfl⟩ := h2.shape
  go_enter Try.func15, Try.ntmps15
  go_wp2_with fail
  refine (heavy19_any h0 f0).mono ?_
  rintro e w1 ⟨q, rfl, g0, x1⟩
  cases q
  case true =>
    go_wp2_with fail
    go_ret
    exact ⟨rfl, x1⟩
  replace g0 := Lib.hid (g0 rfl)
  go_wp2_with fail
  refine (heavy19_any (h1.ext x1) f1).mono ?_
  rintro e w2 ⟨q, rfl, g1, x2⟩
  replace x2 := ext_trans x1 x2
  cases q
  case true =>
    go_wp2_with fail
    go_ret
    exact ⟨rfl, x2⟩
  replace g1 := Lib.hid (g1 rfl)
  go_wp2_with fail
  refine (heavy19_any (h2.ext x2) f2).mono ?_
  rintro e w3 ⟨q, rfl, g2, x3⟩
  replace x3 := ext_trans x2 x3
  cases q
  case true =>
    go_wp2_with fail
    go_ret
    exact ⟨rfl, x3⟩
  replace g2 := Lib.hid (g2 rfl)
  go_wp2_with fail
  refine (heavy19_any (h3.ext x3) f3).mono ?_
  rintro e w4 ⟨q, rfl, g3, x4⟩
  replace x4 := ext_trans x3 x4
  clear x1 x2 x3
  cases q
  case true =>
    go_wp2_with fail
    go_ret
    exact ⟨rfl, x4⟩
  replace g3 := Lib.hid (g3 rfl)
  have wm : wN (c ++ a) ≤ 3000 := by rw [wN_append]; have := g0.out; have := g2.out; omega
  have wn : wN (d ++ b) ≤ 3000 := by rw [wN_append]; have := g1.out; have := g3.out; omega
  have l0 := wN_len a
  have l1 := wN_len b
  have l2 := wN_len c
  have l3 := wN_len d
  have n1 := Lib.hid (show (([] : List Av).length + c.length) * 32 ≤ 140737488355328 by have := g2.out; simp; omega)
  have n2 := Lib.hid (show ((([] : List Av) ++ c).length + a.length) * 32 ≤ 140737488355328 by have := g2.out; have := g0.out; simp; omega)
  have n3 := Lib.hid (show (([] : List Av).length + d.length) * 32 ≤ 140737488355328 by have := g3.out; simp; omega)
  have n4 := Lib.hid (show ((([] : List Av) ++ d).length + b.length) * 32 ≤ 140737488355328 by have := g3.out; have := g1.out; simp; omega)
  clear l0 l1 l2 l3
  have oe := OwnR.empty avc 2 w4 37
  have xe : Ext w (w4.alloc (.cells #[] 37)) := x4.alloc _
  have fe := fresh_new w4 0 0
  go_wp2_with (first
    | ((with_reducible show wpList _ _ _ (⟨some 29, _, _, _, _, _⟩ :: _) _ _); refine wp_appRs tyA oe (h2.ext xe) avc_ok n1.out rfl (.tmp 27) (.tmp 28) rfl rfl rfl ?_; intro va w5 o1 m1 e1; have x5 : Ext w w5 := ext_app0 xe (fe.mono x4.size) m1; have fa := e1.fresh fe (by simp))
    | ((with_reducible show wpList _ _ _ (⟨some 31, _, _, _, _, _⟩ :: _) _ _); refine wp_appRs tyA o1 (h0.ext x5) avc_ok n2.out rfl (.tmp 29) (.tmp 30) rfl rfl rfl ?_; intro vm w6 o2 m2 e2; have x6 : Ext w w6 := ext_app0 x5 (fa.mono x4.size) m2; have fm := e2.fresh (fa.mono x4.size) x5.size; have oe2 := OwnR.empty avc 2 w6 37; have xe2 : Ext w (w6.alloc (.cells #[] 37)) := x6.alloc _; have fe2 := fresh_new w6 0 0)
    | ((with_reducible show wpList _ _ _ (⟨some 34, _, _, _, _, _⟩ :: _) _ _); refine wp_appRs tyA oe2 (h3.ext xe2) avc_ok n3.out rfl (.tmp 32) (.tmp 33) rfl rfl rfl ?_; intro vb w7 o3 m3 e3; have x7 : Ext w w7 := ext_app0 xe2 (fe2.mono x6.size) m3; have fb := e3.fresh fe2 (by simp))
    | ((with_reducible show wpList _ _ _ (⟨some 36, _, _, _, _, _⟩ :: _) _ _); refine wp_appRs tyA o3 (h1.ext x7) avc_ok n4.out rfl (.tmp 34) (.tmp 35) rfl rfl rfl ?_; intro vn w8 o4 m4 e4; have x8 : Ext w w8 := ext_app0 x7 (fb.mono x6.size) m4))
  have x68 : Ext w6 w8 := ext_app0 (ext_app0 ((Mod.refl _ w6).alloc _) fe2 m3) fb m4
  have hM : As w8 (fun b => b < w8.heap.size) vm (c ++ a) := Rc.there o2.rc x68
  have hN : As w8 (fun b => b < w8.heap.size) vn (d ++ b) := Rc.there o4.rc (Mod.refl _ w8)
  have h0' : As w8 (fun b => b < w8.heap.size) v0 a := Rc.there h0 x8
  have h1' : As w8 (fun b => b < w8.heap.size) v1 b := Rc.there h1 x8
  clear o1 o2 o3 o4 oe oe2 m1 m2 m3 m4 e1 e2 e3 e4 fa fb fe fe2 fm xe xe2 x4 x5 x6 x7 x68 n1 n2 n3 n4 h0 h1 h3
  have lc : c.length ≤ 1500 := Nat.le_trans (wN_len c) g2.out
  refine (ris_any hM (fits_of (by omega))).mono ?_
  rintro e wx ⟨rfl, hwx⟩
  subst hwx
  by_cases c1 : isName (c ++ a)
  case neg =>
    rw [decide_eq_false c1]
    go_wp2_with fail
    refine known19_any.mono ?_
    rintro e wz ⟨rfl, xz⟩
    go_wp2_with fail
    go_ret
    exact ⟨rfl, ext_trans x8 xz⟩
  rw [decide_eq_true c1]
  go_wp2_with fail
  refine (ris_any hN (fits_of (by omega))).mono ?_
  rintro e wx ⟨rfl, hwx⟩
  subst hwx
  by_cases c2 : isName (d ++ b)
  case neg =>
    rw [decide_eq_false c2]
    go_wp2_with fail
    refine known19_any.mono ?_
    rintro e wz ⟨rfl, xz⟩
    go_wp2_with fail
    go_ret
    exact ⟨rfl, ext_trans x8 xz⟩
  rw [decide_eq_true c2]
  go_wp2_with fail
  refine (runder_any h0' h1' f0 f1).mono ?_
  rintro e w9 ⟨rfl, x9⟩
  have h09 := Rc.there h0' x9
  have h19 := Rc.there h1' x9
  have hM9 := Rc.there hM x9
  have hN9 := Rc.there hN x9
  replace x9 := ext_trans x8 x9
  clear h0' h1' hM hN x8
  by_cases c3 : underN a b
  case pos =>
    rw [decide_eq_true c3]
    go_wp2_with fail
    refine known19_any.mono ?_
    rintro e wz ⟨rfl, xz⟩
    go_wp2_with fail
    go_ret
    exact ⟨rfl, ext_trans x9 xz⟩
  rw [decide_eq_false c3]
  go_wp2_with fail
  refine (runder_any h19 h09 f1 f0).mono ?_
  rintro e w10 ⟨rfl, x10⟩
  have h0a := Rc.there h09 x10
  have h1a := Rc.there h19 x10
  have hMa := Rc.there hM9 x10
  have hNa := Rc.there hN9 x10
  replace x10 := ext_trans x9 x10
  clear h09 h19 hM9 hN9 x9
  by_cases c4 : underN b a
  case pos =>
    rw [decide_eq_true c4]
    go_wp2_with fail
    refine known19_any.mono ?_
    rintro e wz ⟨rfl, xz⟩
    go_wp2_with fail
    go_ret
    exact ⟨rfl, ext_trans x10 xz⟩
  rw [decide_eq_false c4]
  have F1 := key_order c1 c2 c3 c4
  have F2 := key_leq c a
  have F3 : c.length ≠ 0 → _ := fun h => key_less (c := c) a h
  have ka := fun (wx : World) (hx : Ext w10 wx) => key_any (Rc.there h0a hx) (by have := g0.out; omega)
  have kb := fun (wx : World) (hx : Ext w10 wx) => key_any (Rc.there h1a hx) (by have := g1.out; omega)
  have km := fun (wx : World) (hx : Ext w10 wx) => key_any (Rc.there hMa hx) (by omega)
  have kn := fun (wx : World) (hx : Ext w10 wx) => key_any (Rc.there hNa hx) (by omega)
  clear h0a h1a hMa hNa c1 c2 c3 c4 g0 g1 g2 g3 wm wn f0 f1 f2 f3
  generalize keyB a = K0 at *
  generalize keyB b = K1 at *
  generalize keyB (c ++ a) = K2 at *
  generalize keyB (d ++ b) = K3 at *
  replace ka := Lib.hid ka
  replace kb := Lib.hid kb
  replace km := Lib.hid km
  replace kn := Lib.hid kn
  obtain ⟨q1, hq1⟩ : ∃ q1, q1 = Op.bytesLess K0 K1 := ⟨_, rfl⟩
  have hq2 : Op.bytesLess K2 K3 = q1 := by rw [hq1, F1]
  replace hq1 := hq1.symm
  clear F1
  go_wp2_with fail
  refine (ka.out _ (Mod.refl _ _)).mono ?_
  rintro e w11 ⟨rfl, x11⟩
  go_wp2_with fail
  refine (kb.out _ x11).mono ?_
  rintro e w12 ⟨rfl, x12⟩
  replace x12 := ext_trans x11 x12
  go_wp2_with fail
  refine (km.out _ x12).mono ?_
  rintro e w13 ⟨rfl, x13⟩
  replace x13 := ext_trans x12 x13
  go_wp2_with fail
  refine (kn.out _ x13).mono ?_
  rintro e w14 ⟨rfl, x14⟩
  replace x14 := ext_trans x13 x14
  have hqq : (q1 == q1) = true := by simp
  go_wp2_with fail
  refine (ka.out _ x14).mono ?_
  rintro e w15 ⟨rfl, x15⟩
  replace x15 := ext_trans x14 x15
  go_wp2_with fail
  refine (km.out _ x15).mono ?_
  rintro e w16 ⟨rfl, x16⟩
  replace x16 := ext_trans x15 x16
  have fin : ∀ wx, Ext w10 wx → Ext w wx := fun wx hx => ext_trans x10 hx
  clear x11 x12 x13 x14 x15
  by_cases hc0 : c.length = 0
  · have hb : ((c.length : Int) == 0) = true := by rw [hc0]; rfl
    go_wp2_with fail
    refine known19_any.mono ?_
    rintro e wz ⟨rfl, xz⟩
    go_wp2_with fail
    go_ret
    exact ⟨rfl, fin _ (ext_trans x16 xz)⟩
  · have hb : ((c.length : Int) == 0) = false := by rw [beq_eq_false_iff_ne]; omega
    replace F3 := F3 hc0
    go_wp2_with fail
    refine (ka.out _ x16).mono ?_
    rintro e w17 ⟨rfl, x17⟩
    replace x17 := ext_trans x16 x17
    go_wp2_with fail
    refine (km.out _ x17).mono ?_
    rintro e w18 ⟨rfl, x18⟩
    replace x18 := ext_trans x17 x18
    go_wp2_with fail
    refine known19_any.mono ?_
    rintro e wz ⟨rfl, xz⟩
    go_wp2_with fail
    go_ret
    exact ⟨rfl, fin _ (ext_trans x18 xz)⟩
end Go.Proofs.Ytbdkdbfcbakgmaa
