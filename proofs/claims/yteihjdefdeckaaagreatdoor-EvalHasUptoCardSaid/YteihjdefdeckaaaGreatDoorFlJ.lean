/- eval: what a filter says of an entry. -/
import Derived.Test.YteihjdefdeckaaaGreatDoorFlI
import Derived.Test.YteihjdefdeckaaaGreatDoorEgV
namespace Go.Proofs.YteihjdefdeckaaaGreatDoor
open Go.RowKit
set_option maxRecDepth 100000

def evalN : Nat → Fi → List Att → Int
  | 0, _, _ => 2
  | n + 1, F, L => if F.kids.length = 0 then itemB F.kind F.typ F.val F.subs (L.flatMap (selE (foldB F.typ))) else if F.kind = 0 then and3 (F.kids.map (evalN n · L)) else if F.kind = 1 then or3 (F.kids.map (evalN n · L)) else not3 ((F.kids.map (evalN n · L)).headD 0)
theorem evalN_succ (n : Nat) (F : Fi) (L : List Att) : evalN (n + 1) F L = if F.kids.length = 0 then itemB F.kind F.typ F.val F.subs (L.flatMap (selE (foldB F.typ))) else if F.kind = 0 then and3 (F.kids.map (evalN n · L)) else if F.kind = 1 then or3 (F.kids.map (evalN n · L)) else not3 ((F.kids.map (evalN n · L)).headD 0) := rfl
theorem one_cases {n deep : Nat} {F : Fi} (h : oneN (n + 1) F deep = true) : ((F.kind = 0 ∨ F.kind = 1 ∨ F.kind = 2) ∧ 1 ≤ F.kids.length ∧ ∀ x ∈ F.kids, oneN n x (deep + 1) = true) ∨ (F.kind ≠ 0 ∧ F.kind ≠ 1 ∧ F.kind ≠ 2 ∧ F.kids.length = 0) := by
  rw [oneN_succ] at h
  unfold oneB at h
  split at h
  · cases h
  split at h
  · rename_i hk
    rw [Bool.and_eq_true] at h
    exact .inl ⟨hk, (of_decide_eq_true h.1).2.2.2.1, fun x hx => List.all_eq_true.1 h.2 x hx⟩
  · rename_i hk
    right
    refine ⟨fun e => hk (.inl e), fun e => hk (.inr (.inl e)), fun e => hk (.inr (.inr e)), ?_⟩
    split at h
    · exact (of_decide_eq_true h).2.2.2
    split at h
    · exact (of_decide_eq_true h).2.2.2
    split at h
    · exact (of_decide_eq_true h).2.2.2
    · cases h
theorem ints_snoc {α : Type} (f : α → Int) {K : List α} {k : Nat} (h : k < K.length) : ((K.take (k + 1)).map f).map iv = ((K.take k).map f).map iv ++ [iv (f K[k])] := by
  rw [List.take_succ_eq_append_getElem h, List.map_append, List.map_append]; rfl
theorem hk2 (q : Nat) : ((q : Int) == 0) = decide (q = 0) := nat0 q
/-- What eval says, of filters at most n deep. -/
def EvalIH (n : Nat) : Prop := ∀ {w : World} {F : Fi} {vs vk vd va : Value} {E : Ent} {deep : Nat}, FilN n w F vs vk → oneN n F deep = true → As w AllE vd E.dn → Ats w va E.ats → wF n F ≤ 900000 → wA E.ats ≤ 900000 → Mxl w →
  Calls Tryz.prog 17 #[.agg #[.int .i64 F.kind, sv F.typ, sv F.val, vs, vk], .agg #[vd, va]] w fun e w' => e = .returned (.int .i64 (evalN n F E.ats)) ∧ Ext w w'
set_option maxHeartbeats 16000000 in
theorem evalF0 {n : Nat} {w : World} {F : Fi} {vs vk vd va : Value} {E : Ent} (h : FilN (n + 1) w F vs vk) (hd : As w AllE vd E.dn) (ha : Ats w va E.ats) (hw : wF (n + 1) F ≤ 900000) (hwA : wA E.ats ≤ 900000) (hM : Mxl w) (hk0 : F.kind ≠ 0) (hk1 : F.kind ≠ 1) (hk2 : F.kind ≠ 2) (hq0 : F.kids.length = 0) :
    Calls Tryz.prog 17 #[.agg #[.int .i64 F.kind, sv F.typ, sv F.val, vs, vk], .agg #[vd, va]] w fun e w' => e = .returned (.int .i64 (itemB F.kind F.typ F.val F.subs (E.ats.flatMap (selE (foldB F.typ))))) ∧ Ext w w' := by
  have hfl := h.fl hw
  obtain ⟨hFB, ⟨As_, cs, es⟩, hS, A, ca, ek, hop⟩ := h.open_
  have hkl := hFB.kl
  have hsh := h.shape
  obtain ⟨D0, dn, dc, rfl⟩ : ∃ D0 dn dc, vd = .slice D0 dn dc := by obtain ⟨A, c, e⟩ := Rc.shape hd; exact ⟨A, _, c, e⟩
  obtain ⟨B0, bn, bc, rfl⟩ : ∃ B0 bn bc, va = .slice B0 bn bc := by obtain ⟨A, c, e, -⟩ := ha.open_; exact ⟨A, _, c, e⟩
  have hax := fun {wx : World} (x : Ext w wx) => And.intro (hd.ext x) (ha.ext x)
  obtain ⟨L, hL⟩ : ∃ L, L = E.ats := ⟨_, rfl⟩
  have htl := hfl.tl
  have h7 := fun {wx : World} (x : Ext w wx) => valuesE_any (e := E) (typ := F.typ) (hax x).1 (hax x).2 (by omega) (by omega)
  have h8 := fun {wx : World} (x : Ext w wx) {v : Value} (hv : Ss wx AllE v (E.ats.flatMap (selE (foldB F.typ)))) => item_any (hfl.ext x) hv (fun y hy => by have := selE_mem hy; omega) (hM.ext x)
  generalize E.ats.flatMap (selE (foldB F.typ)) = VL at *
  generalize F.kind = kd at *
  generalize F.typ = T at *
  generalize F.val = V at *
  obtain ⟨m, hm⟩ : ∃ m, m = F.subs.length := ⟨_, rfl⟩
  generalize F.subs = B at *
  rw [← hm] at es
  rw [hq0] at ek
  subst es ek
  replace hm := Lib.hid hm
  generalize itemB kd T V B VL = R at *
  clear hS hop hsh hkl hFB h hfl hd ha
  obtain ⟨w0, hw0⟩ : ∃ x, x = w.alloc (.cells #[.int .i64 kd, sv T, sv V, .slice As_ m cs, .slice A 0 ca] 25) := ⟨_, rfl⟩
  obtain ⟨w1, hw1⟩ : ∃ x, x = w0.alloc (.cells #[.slice D0 dn dc, .slice B0 bn bc] 29) := ⟨_, rfl⟩
  obtain ⟨p, hp⟩ : ∃ p, p = w.heap.size := ⟨_, rfl⟩
  obtain ⟨g, hg⟩ : ∃ g, g = p + 1 := ⟨_, rfl⟩
  have hgs : w0.heap.size = g := by rw [hw0, hg, hp]; simp
  have x0 : Ext w w0 := by rw [hw0]; exact (Mod.refl _ w).alloc _
  have x01 : Ext w0 w1 := by rw [hw1]; exact (Mod.refl _ w0).alloc _
  have x1 := ext_trans x0 x01
  have BP0 : Blk w0 p 25 #[.int .i64 kd, sv T, sv V, .slice As_ m cs, .slice A 0 ca] := by rw [hw0, hp]; exact Blk.new w _ _
  have BP := BP0.mod x01 (fun h => h)
  have BG : Blk w1 g 29 #[.slice D0 dn dc, .slice B0 bn bc] := by rw [hw1, ← hgs]; exact Blk.new w0 _ _
  have hcc : ∀ {wx : World}, Ext w1 wx → (wx.cell? ⟨p, 0, none⟩ = some (.int .i64 kd) ∧ wx.cell? ⟨p, 1, none⟩ = some (sv T) ∧ wx.cell? ⟨p, 2, none⟩ = some (sv V) ∧ wx.cell? ⟨p, 3, none⟩ = some (.slice As_ m cs) ∧ wx.cell? ⟨p, 4, none⟩ = some (.slice A 0 ca)) ∧ wx.cell? ⟨g, 0, none⟩ = some (.slice D0 dn dc) ∧ wx.cell? ⟨g, 1, none⟩ = some (.slice B0 bn bc) := fun x => ⟨⟨(BP.mod x (fun h => h)).cell 0, (BP.mod x (fun h => h)).cell 1, (BP.mod x (fun h => h)).cell 2, (BP.mod x (fun h => h)).cell 3, (BP.mod x (fun h => h)).cell 4⟩, (BG.mod x (fun h => h)).cell 0, (BG.mod x (fun h => h)).cell 1⟩
  obtain ⟨⟨p0, p1, p2, p3, p4⟩, g0, g1⟩ := hcc (Mod.refl _ w1)
  have hw00 := Lib.hid hw0
  clear hw0
  replace hw1 := Lib.hid hw1
  replace hp := Lib.hid hp
  replace hg := Lib.hid hg
  replace hL := Lib.hid hL
  clear BP0 BP BG x0 x01 hax
  have e0 : (kd == 0) = false := by rw [beq_eq_false_iff_ne]; exact hk0
  have e1 : (kd == 1) = false := by rw [beq_eq_false_iff_ne]; exact hk1
  have e2 : (kd == 2) = false := by rw [beq_eq_false_iff_ne]; exact hk2
  clear hk0 hk1 hk2 hq0
  go_enter Tryz.func17, Tryz.ntmps17
  go_upto_region 1 with fail
  rw [← hp.out]
  rw [show w.alloc (.cells #[.int .i64 kd, sv T, sv V, .slice As_ m cs, .slice A 0 ca] 25) = w0 from hw00.out.symm]
  rw [← hg.out, show w0.alloc (.cells #[.slice D0 dn dc, .slice B0 bn bc] 29) = w1 from hw1.out.symm]
  clear hw1 hw00 hp hg
  go_wp2_with fail
  go_loopw [5, 11] (fun l i wr => l = .slice none 0 0 ∧ i = .int .i64 0 ∧ wr = w1) (fun _ _ _ => 0)
  case atStart => exact ⟨rfl, rfl, rfl⟩
  case round =>
    obtain ⟨rfl, rfl, rfl⟩ := hrel
    go_upto_region 14 with fail
    have z0 : Ext wr wr.drew := (Mod.refl _ wr).drew
    go_region_held3 (fun wx => (wx.cell? ⟨p, 0, none⟩ = some (.int .i64 kd) ∧ wx.cell? ⟨p, 1, none⟩ = some (sv T) ∧ wx.cell? ⟨p, 2, none⟩ = some (sv V) ∧ wx.cell? ⟨p, 3, none⟩ = some (.slice As_ m cs) ∧ wx.cell? ⟨p, 4, none⟩ = some (.slice A 0 ca)) ∧ wx.cell? ⟨g, 0, none⟩ = some (.slice D0 dn dc) ∧ wx.cell? ⟨g, 1, none⟩ = some (.slice B0 bn bc)) (first | exact hcc z0 | exact hcc z1 | exact hcc z2) (first
      | (go_at_call 32; (with_reducible refine (h7 (ext_trans x1 z0)).mono ?_); rintro e w9 ⟨v9, rfl, o9, x9⟩; have z1 := ext_trans z0 x9; have h9 := h8 (ext_trans x1 z1) (o9.sl.mono (T := AllE) (fun _ _ _ => trivial)))
      | (go_at_call 13; (with_reducible refine h9.mono ?_); rintro e w10 ⟨rfl, x10⟩; have z2 := ext_trans z1 x10))
    go_wp2_with fail
    go_ret
    exact ⟨rfl, ext_trans x1 z2⟩
set_option maxHeartbeats 16000000 in
theorem evalF1 {n : Nat} {w : World} {F : Fi} {vs vk vd va : Value} {E : Ent} (h : FilN (n + 1) w F vs vk) (hd : As w AllE vd E.dn) (ha : Ats w va E.ats) (hw : wF (n + 1) F ≤ 900000) (hwA : wA E.ats ≤ 900000) (hM : Mxl w) {deep : Nat} (ih : EvalIH n) (hk : F.kind = 0 ∨ F.kind = 1 ∨ F.kind = 2) (hq1 : 1 ≤ F.kids.length) (hone : ∀ x ∈ F.kids, oneN n x (deep + 1) = true) :
    Calls Tryz.prog 17 #[.agg #[.int .i64 F.kind, sv F.typ, sv F.val, vs, vk], .agg #[vd, va]] w fun e w' => e = .returned (.int .i64 (if F.kind = 0 then and3 (F.kids.map (evalN n · E.ats)) else if F.kind = 1 then or3 (F.kids.map (evalN n · E.ats)) else not3 ((F.kids.map (evalN n · E.ats)).headD 0))) ∧ Ext w w' := by
  obtain ⟨hFB, ⟨As_, cs, es⟩, hS, A, ca, ek, hop⟩ := h.open_
  have hkl := hFB.kl
  have hsh := h.shape
  obtain ⟨D0, dn, dc, rfl⟩ : ∃ D0 dn dc, vd = .slice D0 dn dc := by obtain ⟨A, c, e⟩ := Rc.shape hd; exact ⟨A, _, c, e⟩
  obtain ⟨B0, bn, bc, rfl⟩ : ∃ B0 bn bc, va = .slice B0 bn bc := by obtain ⟨A, c, e, -⟩ := ha.open_; exact ⟨A, _, c, e⟩
  have hax := fun {wx : World} (x : Ext w wx) => And.intro (hd.ext x) (ha.ext x)
  obtain ⟨L, hL⟩ : ∃ L, L = E.ats := ⟨_, rfl⟩
  rw [wF_succ] at hw
  have hwk : ∀ x ∈ F.kids, wF n x ≤ 900000 := fun x hx => by have := sum_mem (wF n) F.kids x hx; omega
  obtain ⟨K, hKs⟩ : ∃ T, T = F.kids := ⟨_, rfl⟩
  rw [← hKs] at hkl ek hop hone hwk hq1 ⊢
  generalize F.kind = kd at *
  generalize F.typ = T at *
  generalize F.val = V at *
  obtain ⟨m, hm⟩ : ∃ m, m = F.subs.length := ⟨_, rfl⟩
  obtain ⟨q, hq⟩ : ∃ m, m = K.length := ⟨_, rfl⟩
  rw [← hm] at es
  rw [← hq] at ek hkl hq1
  subst es ek
  have hMne : Hid ((K.map (evalN n · E.ats)).headD 0 = (K.map (evalN n · E.ats)).getD 0 0 ∧ (K.map (evalN n · E.ats)).length = q) := Lib.hid ⟨by cases K <;> rfl, by rw [List.length_map, hq]⟩
  obtain ⟨R, hR⟩ : ∃ R, R = (if kd = 0 then and3 (K.map (evalN n · E.ats)) else if kd = 1 then or3 (K.map (evalN n · E.ats)) else not3 ((K.map (evalN n · E.ats)).headD 0)) := ⟨_, rfl⟩
  rw [← hR]
  replace hR := Lib.hid hR
  replace hm := Lib.hid hm
  replace hq := Lib.hid hq
  replace hKs := Lib.hid hKs
  clear hS hsh hFB h hd ha hw
  obtain ⟨w0, hw0⟩ : ∃ x, x = w.alloc (.cells #[.int .i64 kd, sv T, sv V, .slice As_ m cs, .slice A q ca] 25) := ⟨_, rfl⟩
  obtain ⟨w1, hw1⟩ : ∃ x, x = w0.alloc (.cells #[.slice D0 dn dc, .slice B0 bn bc] 29) := ⟨_, rfl⟩
  obtain ⟨p, hp⟩ : ∃ p, p = w.heap.size := ⟨_, rfl⟩
  obtain ⟨g, hg⟩ : ∃ g, g = p + 1 := ⟨_, rfl⟩
  have hgs : w0.heap.size = g := by rw [hw0, hg, hp]; simp
  have x0 : Ext w w0 := by rw [hw0]; exact (Mod.refl _ w).alloc _
  have x01 : Ext w0 w1 := by rw [hw1]; exact (Mod.refl _ w0).alloc _
  have x1 := ext_trans x0 x01
  have BP0 : Blk w0 p 25 #[.int .i64 kd, sv T, sv V, .slice As_ m cs, .slice A q ca] := by rw [hw0, hp]; exact Blk.new w _ _
  have BP := BP0.mod x01 (fun h => h)
  have BG : Blk w1 g 29 #[.slice D0 dn dc, .slice B0 bn bc] := by rw [hw1, ← hgs]; exact Blk.new w0 _ _
  have hcc : ∀ {wx : World}, Ext w1 wx → (wx.cell? ⟨p, 0, none⟩ = some (.int .i64 kd) ∧ wx.cell? ⟨p, 1, none⟩ = some (sv T) ∧ wx.cell? ⟨p, 2, none⟩ = some (sv V) ∧ wx.cell? ⟨p, 3, none⟩ = some (.slice As_ m cs) ∧ wx.cell? ⟨p, 4, none⟩ = some (.slice A q ca)) ∧ wx.cell? ⟨g, 0, none⟩ = some (.slice D0 dn dc) ∧ wx.cell? ⟨g, 1, none⟩ = some (.slice B0 bn bc) := fun x => ⟨⟨(BP.mod x (fun h => h)).cell 0, (BP.mod x (fun h => h)).cell 1, (BP.mod x (fun h => h)).cell 2, (BP.mod x (fun h => h)).cell 3, (BP.mod x (fun h => h)).cell 4⟩, (BG.mod x (fun h => h)).cell 0, (BG.mod x (fun h => h)).cell 1⟩
  obtain ⟨⟨p0, p1, p2, p3, p4⟩, g0, g1⟩ := hcc (Mod.refl _ w1)
  have hw00 := Lib.hid hw0
  clear hw0
  replace hw1 := Lib.hid hw1
  replace hp := Lib.hid hp
  replace hg := Lib.hid hg
  replace hL := Lib.hid hL
  clear BP0 BP BG x0 x01
  go_enter Tryz.func17, Tryz.ntmps17
  go_upto_region 1 with fail
  rw [← hp.out]
  rw [show w.alloc (.cells #[.int .i64 kd, sv T, sv V, .slice As_ m cs, .slice A q ca] 25) = w0 from hw00.out.symm]
  rw [← hg.out, show w0.alloc (.cells #[.slice D0 dn dc, .slice B0 bn bc] 29) = w1 from hw1.out.symm]
  clear hw1 hw00 hp hg
  go_wp2_with fail
  go_loopw [5, 11] (fun l i wr => ∃ k : Nat, k ≤ q ∧ i = .int .i64 k ∧ Own wr 3 l (((K.take k).map (evalN n · E.ats)).map iv) ∧ Fresh w1.heap.size l ∧ Ext w1 wr) (fun _ i _ => q - (intOf i).toNat)
  case atStart => exact ⟨0, Nat.zero_le _, rfl, Own.nil _ _, fresh_nil _ _ _, Mod.refl _ _⟩
  case round =>
    clear p0 p1 p2 p3 p4 g0 g1
    obtain ⟨k, hkq, rfl, ho, hf, hx⟩ := hrel
    obtain ⟨⟨p0, p1, p2, p3, p4⟩, g0, g1⟩ := hcc hx
    by_cases hlt : k < q
    case neg =>
      have hbl : decide ((k : Int) < (q : Int)) = false := dfalse (by omega)
      have hbn : decide (k < q) = false := dfalse (by omega)
      have hkm : K.take k = K := List.take_of_length_le (by have := hq.out; omega)
      rw [hkm] at ho
      have hml := hMne.out.2
      have hmh := hMne.out.1
      generalize K.map (evalN n · E.ats) = M at *
      have hs := ho.sl
      obtain ⟨A1, c1, rfl⟩ := ho.shape
      rw [List.length_map, hml] at hs hf ho
      have ha := and_any hs
      have ho2 := or_any hs
      obtain ⟨A9, c9, e9, _, _, _, h9⟩ := Sl.open_ (f := iv) hs
      injection e9 with e9 e10 e11
      clear e10 e11
      subst e9
      obtain ⟨ag, e2, _, h6⟩ := Cells.at_ (f := iv) h9 (k := 0) (by omega)
      subst e2
      clear h9
      have h60 : wr.cell? ag = some (iv M[0]) := by simpa [Addr.add] using h6
      have hM0 : M.getD 0 0 = M[0] := by rw [List.getD_eq_getElem?_getD, List.getElem?_eq_getElem (by omega)]; rfl
      have hnt := fun wx : World => not_any (w := wx) M[0]
      rw [List.length_map, hml]
      have hi1 : (0 : Int) < (q : Int) := by omega
      generalize M[0] = m0 at *
      have hr : Hid (R = (if kd = 0 then and3 M else if kd = 1 then or3 M else not3 m0)) := Lib.hid (by rw [hR.out, hmh, hM0])
      clear hR hMne hml hmh hM0 hs ho hop hone hwk ih
      by_cases hk0 : kd = 0
      · have hr2 : Hid (R = and3 M) := Lib.hid (by rw [hr.out, if_pos hk0])
        have e0 : (kd == 0) = true := by rw [hk0]; rfl
        clear hr hk0 hk hnt ho2
        generalize and3 M = r at *
        go_wp2_with fail
        refine ha.mono ?_
        rintro e w9 ⟨rfl, rfl⟩
        go_wp2_with fail
        go_ret
        exact ⟨by rw [hr2.out]; rfl, ext_trans x1 hx⟩
      have e0 : (kd == 0) = false := by rw [beq_eq_false_iff_ne]; exact hk0
      by_cases hk1 : kd = 1
      · have hr2 : Hid (R = or3 M) := Lib.hid (by rw [hr.out, if_neg hk0, if_pos hk1])
        have e1 : (kd == 1) = true := by rw [hk1]; rfl
        clear hr hk1 hk0 hk hnt ha
        generalize or3 M = r at *
        go_wp2_with fail
        refine ho2.mono ?_
        rintro e w9 ⟨rfl, rfl⟩
        go_wp2_with fail
        go_ret
        exact ⟨by rw [hr2.out]; rfl, ext_trans x1 hx⟩
      have e1 : (kd == 1) = false := by rw [beq_eq_false_iff_ne]; exact hk1
      have hr2 : Hid (R = not3 m0) := Lib.hid (by rw [hr.out, if_neg hk0, if_neg hk1])
      have e2 : (kd == 2) = true := by rw [beq_iff_eq]; omega
      clear hr hk1 hk0 hk ha ho2
      generalize not3 m0 = r at *
      go_wp2_with fail
      refine (hnt _).mono ?_
      rintro e w9 ⟨rfl, rfl⟩
      go_wp2_with fail
      go_ret
      exact ⟨by rw [hr2.out]; rfl, ext_trans x1 hx⟩
    have hbl : decide ((k : Int) < (q : Int)) = true := dtrue (by omega)
    have hbn : decide (k < q) = true := dtrue (by omega)
    have hi0 : (0 : Int) ≤ (k : Int) := by omega
    have hi1 : (k : Int) < (q : Int) := by omega
    have hkb : k < K.length := by have := hq.out; omega
    obtain ⟨ag, ys, yk, e2, c0, c1, c2, c3, c4, h7⟩ := hop k hkb
    subst e2
    obtain ⟨⟨Y1, Y2, Y3, rfl⟩, Z1, Z2, Z3, rfl⟩ := h7.shape
    have y2 := ext_trans x1 hx
    have b0 := c0
    have b1 := c1
    have b2 := c2
    have b3 := c3
    have b4 := c4
    replace c0 := ext_cell y2 c0
    replace c1 := ext_cell y2 c1
    replace c2 := ext_cell y2 c2
    replace c3 := ext_cell y2 c3
    replace c4 := ext_cell y2 c4
    have hsn := ints_snoc (evalN n · E.ats) hkb
    have hon := hone _ (List.getElem_mem hkb)
    have hwx := hwk _ (List.getElem_mem hkb)
    generalize K[k] = x at *
    have hc5 := fun {wx : World} (x' : Ext w wx) => ih (w := wx) (deep := deep + 1) (h7.ext x') hon (hax x').1 (hax x').2 hwx hwA (hM.ext x')
    generalize evalN n x E.ats = r at *
    replace hsn := Lib.hid hsn
    clear h7 hkb hon hwx hop hone hwk ih hR hMne
    have y5 := y2.alloc (.cells #[.int .i64 x.kind, sv x.typ, sv x.val, .slice Y1 Y2 Y3, .slice Z1 Z2 Z3] 25)
    have x5 := hx.alloc (.cells #[.int .i64 x.kind, sv x.typ, sv x.val, .slice Y1 Y2 Y3, .slice Z1 Z2 Z3] 25)
    have ho5 := ho.alloc (.cells #[.int .i64 x.kind, sv x.typ, sv x.val, .slice Y1 Y2 Y3, .slice Z1 Z2 Z3] 25)
    have g5 := (hcc x5).2
    go_wp2_with fail
    refine (hc5 y5).mono ?_
    rintro e w9 ⟨rfl, x9⟩
    have ho9 := ho5.mod x9 (fun _ _ h => h)
    have hx9 := ext_trans x5 x9
    clear hc5 ho ho5 c0 c1 c2 c3 c4 g5
    go_wp2_with ((with_reducible show wpList _ _ _ (⟨some 20, _, _, _, _, _⟩ :: _) _ _); refine wp_app tyI (ho9.alloc _) (Sl.one _ 3 (iv r)) (fun u hu => by rw [List.mem_singleton.1 hu]; rfl) rfl (.tmp 15) (.tmp 19) rfl rfl rfl ?hn ?_; rotate_right; intro v1 w4 o4 m4 n4)
    case hn => simp; omega
    exact ⟨⟨k + 1, by omega, by go_num, by rw [hsn.out]; exact o4, (n4.sooner (by simp)).fresh hf hx9.size, ext_app0 hx9 hf (mod_app m4)⟩, by simp [intOf] <;> omega⟩
theorem evalF_step {n : Nat} {w : World} {F : Fi} {vs vk vd va : Value} {E : Ent} (h : FilN (n + 1) w F vs vk) (hd : As w AllE vd E.dn) (ha : Ats w va E.ats) (hw : wF (n + 1) F ≤ 900000) (hwA : wA E.ats ≤ 900000) (hM : Mxl w) {deep : Nat} (ih : EvalIH n) (hone : oneN (n + 1) F deep = true) :
    Calls Tryz.prog 17 #[.agg #[.int .i64 F.kind, sv F.typ, sv F.val, vs, vk], .agg #[vd, va]] w fun e w' => e = .returned (.int .i64 (evalN (n + 1) F E.ats)) ∧ Ext w w' := by
  rw [evalN_succ]
  rcases one_cases hone with ⟨hk, hq1, hall⟩ | ⟨h0, h1, h2, hq0⟩
  · rw [if_neg (by omega)]
    exact evalF1 h hd ha hw hwA hM ih hk hq1 hall
  · rw [if_pos hq0]
    exact evalF0 h hd ha hw hwA hM h0 h1 h2 hq0
theorem evalF_any : ∀ n, EvalIH n
  | 0 => fun h => h.elim
  | n + 1 => fun h hone hd ha hw hwA hM => evalF_step h hd ha hw hwA hM (evalF_any n) hone
/-- What eval says, of filters at most n deep. -/
def REvalIH (n : Nat) : Prop := ∀ {w : World} {F : Fi} {vs vk vd va : Value} {E : Ent} {deep : Nat}, FilN n w F vs vk → oneN n F deep = true → As w AllE vd E.dn → Ats w va E.ats → wF n F ≤ 900000 → wA E.ats ≤ 900000 →
  Calls Tryz.prog 18 #[.agg #[.int .i64 F.kind, sv F.typ, sv F.val, vs, vk], .agg #[vd, va]] w fun e w' => e = .returned (.int .i64 (evalN n F E.ats)) ∧ Ext w w'
set_option maxHeartbeats 16000000 in
theorem revalF0 {n : Nat} {w : World} {F : Fi} {vs vk vd va : Value} {E : Ent} (h : FilN (n + 1) w F vs vk) (hd : As w AllE vd E.dn) (ha : Ats w va E.ats) (hw : wF (n + 1) F ≤ 900000) (hwA : wA E.ats ≤ 900000) (hk0 : F.kind ≠ 0) (hk1 : F.kind ≠ 1) (hk2 : F.kind ≠ 2) (hq0 : F.kids.length = 0) :
    Calls Tryz.prog 18 #[.agg #[.int .i64 F.kind, sv F.typ, sv F.val, vs, vk], .agg #[vd, va]] w fun e w' => e = .returned (.int .i64 (itemB F.kind F.typ F.val F.subs (E.ats.flatMap (selE (foldB F.typ))))) ∧ Ext w w' := by
  have hfl := h.fl hw
  obtain ⟨hFB, ⟨As_, cs, es⟩, hS, A, ca, ek, hop⟩ := h.open_
  have hkl := hFB.kl
  have hsh := h.shape
  obtain ⟨D0, dn, dc, rfl⟩ : ∃ D0 dn dc, vd = .slice D0 dn dc := by obtain ⟨A, c, e⟩ := Rc.shape hd; exact ⟨A, _, c, e⟩
  obtain ⟨B0, bn, bc, rfl⟩ : ∃ B0 bn bc, va = .slice B0 bn bc := by obtain ⟨A, c, e, -⟩ := ha.open_; exact ⟨A, _, c, e⟩
  have hax := fun {wx : World} (x : Ext w wx) => And.intro (hd.ext x) (ha.ext x)
  obtain ⟨L, hL⟩ : ∃ L, L = E.ats := ⟨_, rfl⟩
  have htl := hfl.tl
  have h7 := fun {wx : World} (x : Ext w wx) => vals14_any (e := E) (typ := F.typ) (hax x).1 (hax x).2 (by omega) (by omega)
  have h8 := fun {wx : World} (x : Ext w wx) {v : Value} (hv : Ss wx AllE v (E.ats.flatMap (selE (foldB F.typ)))) => ritem_any (hfl.ext x) hv (fun y hy => by have := selE_mem hy; omega)
  generalize E.ats.flatMap (selE (foldB F.typ)) = VL at *
  generalize F.kind = kd at *
  generalize F.typ = T at *
  generalize F.val = V at *
  obtain ⟨m, hm⟩ : ∃ m, m = F.subs.length := ⟨_, rfl⟩
  generalize F.subs = B at *
  rw [← hm] at es
  rw [hq0] at ek
  subst es ek
  replace hm := Lib.hid hm
  generalize itemB kd T V B VL = R at *
  clear hS hop hsh hkl hFB h hfl hd ha
  obtain ⟨w0, hw0⟩ : ∃ x, x = w.alloc (.cells #[.int .i64 kd, sv T, sv V, .slice As_ m cs, .slice A 0 ca] 25) := ⟨_, rfl⟩
  obtain ⟨w1, hw1⟩ : ∃ x, x = w0.alloc (.cells #[.slice D0 dn dc, .slice B0 bn bc] 29) := ⟨_, rfl⟩
  obtain ⟨p, hp⟩ : ∃ p, p = w.heap.size := ⟨_, rfl⟩
  obtain ⟨g, hg⟩ : ∃ g, g = p + 1 := ⟨_, rfl⟩
  have hgs : w0.heap.size = g := by rw [hw0, hg, hp]; simp
  have x0 : Ext w w0 := by rw [hw0]; exact (Mod.refl _ w).alloc _
  have x01 : Ext w0 w1 := by rw [hw1]; exact (Mod.refl _ w0).alloc _
  have x1 := ext_trans x0 x01
  have BP0 : Blk w0 p 25 #[.int .i64 kd, sv T, sv V, .slice As_ m cs, .slice A 0 ca] := by rw [hw0, hp]; exact Blk.new w _ _
  have BP := BP0.mod x01 (fun h => h)
  have BG : Blk w1 g 29 #[.slice D0 dn dc, .slice B0 bn bc] := by rw [hw1, ← hgs]; exact Blk.new w0 _ _
  have hcc : ∀ {wx : World}, Ext w1 wx → (wx.cell? ⟨p, 0, none⟩ = some (.int .i64 kd) ∧ wx.cell? ⟨p, 1, none⟩ = some (sv T) ∧ wx.cell? ⟨p, 2, none⟩ = some (sv V) ∧ wx.cell? ⟨p, 3, none⟩ = some (.slice As_ m cs) ∧ wx.cell? ⟨p, 4, none⟩ = some (.slice A 0 ca)) ∧ wx.cell? ⟨g, 0, none⟩ = some (.slice D0 dn dc) ∧ wx.cell? ⟨g, 1, none⟩ = some (.slice B0 bn bc) := fun x => ⟨⟨(BP.mod x (fun h => h)).cell 0, (BP.mod x (fun h => h)).cell 1, (BP.mod x (fun h => h)).cell 2, (BP.mod x (fun h => h)).cell 3, (BP.mod x (fun h => h)).cell 4⟩, (BG.mod x (fun h => h)).cell 0, (BG.mod x (fun h => h)).cell 1⟩
  obtain ⟨⟨p0, p1, p2, p3, p4⟩, g0, g1⟩ := hcc (Mod.refl _ w1)
  have hw00 := Lib.hid hw0
  clear hw0
  replace hw1 := Lib.hid hw1
  replace hp := Lib.hid hp
  replace hg := Lib.hid hg
  replace hL := Lib.hid hL
  clear BP0 BP BG x0 x01 hax
  have e0 : (kd == 0) = false := by rw [beq_eq_false_iff_ne]; exact hk0
  have e1 : (kd == 1) = false := by rw [beq_eq_false_iff_ne]; exact hk1
  have e2 : (kd == 2) = false := by rw [beq_eq_false_iff_ne]; exact hk2
  clear hk0 hk1 hk2 hq0
  go_enter Tryz.func18, Tryz.ntmps18
  go_upto_region 1 with fail
  rw [← hp.out]
  rw [show w.alloc (.cells #[.int .i64 kd, sv T, sv V, .slice As_ m cs, .slice A 0 ca] 25) = w0 from hw00.out.symm]
  rw [← hg.out, show w0.alloc (.cells #[.slice D0 dn dc, .slice B0 bn bc] 29) = w1 from hw1.out.symm]
  clear hw1 hw00 hp hg
  go_upto_region 2 with fail
  have z0 : Ext w1 w1.drew := (Mod.refl _ w1).drew
  go_region_held3 (fun wx => (wx.cell? ⟨p, 0, none⟩ = some (.int .i64 kd) ∧ wx.cell? ⟨p, 1, none⟩ = some (sv T) ∧ wx.cell? ⟨p, 2, none⟩ = some (sv V) ∧ wx.cell? ⟨p, 3, none⟩ = some (.slice As_ m cs) ∧ wx.cell? ⟨p, 4, none⟩ = some (.slice A 0 ca)) ∧ wx.cell? ⟨g, 0, none⟩ = some (.slice D0 dn dc) ∧ wx.cell? ⟨g, 1, none⟩ = some (.slice B0 bn bc)) (first | exact hcc z0 | exact hcc z1 | exact hcc z2) (first
    | (go_at_call 33; (with_reducible refine (h7 (ext_trans x1 z0)).mono ?_); rintro e w9 ⟨v9, rfl, o9, x9⟩; have z1 := ext_trans z0 x9; have h9 := h8 (ext_trans x1 z1) (o9.sl.mono (T := AllE) (fun _ _ _ => trivial)))
    | (go_at_call 14; (with_reducible refine h9.mono ?_); rintro e w10 ⟨rfl, x10⟩; have z2 := ext_trans z1 x10))
  go_wp2_with fail
  go_ret
  exact ⟨rfl, ext_trans x1 z2⟩
set_option maxHeartbeats 16000000 in
theorem revalF1 {n : Nat} {w : World} {F : Fi} {vs vk vd va : Value} {E : Ent} (h : FilN (n + 1) w F vs vk) (hd : As w AllE vd E.dn) (ha : Ats w va E.ats) (hw : wF (n + 1) F ≤ 900000) (hwA : wA E.ats ≤ 900000) {deep : Nat} (ih : REvalIH n) (hk : F.kind = 0 ∨ F.kind = 1 ∨ F.kind = 2) (hq1 : 1 ≤ F.kids.length) (hone : ∀ x ∈ F.kids, oneN n x (deep + 1) = true) :
    Calls Tryz.prog 18 #[.agg #[.int .i64 F.kind, sv F.typ, sv F.val, vs, vk], .agg #[vd, va]] w fun e w' => e = .returned (.int .i64 (if F.kind = 0 then and3 (F.kids.map (evalN n · E.ats)) else if F.kind = 1 then or3 (F.kids.map (evalN n · E.ats)) else not3 ((F.kids.map (evalN n · E.ats)).headD 0))) ∧ Ext w w' := by
  obtain ⟨hFB, ⟨As_, cs, es⟩, hS, A, ca, ek, hop⟩ := h.open_
  have hkl := hFB.kl
  have hsh := h.shape
  obtain ⟨D0, dn, dc, rfl⟩ : ∃ D0 dn dc, vd = .slice D0 dn dc := by obtain ⟨A, c, e⟩ := Rc.shape hd; exact ⟨A, _, c, e⟩
  obtain ⟨B0, bn, bc, rfl⟩ : ∃ B0 bn bc, va = .slice B0 bn bc := by obtain ⟨A, c, e, -⟩ := ha.open_; exact ⟨A, _, c, e⟩
  have hax := fun {wx : World} (x : Ext w wx) => And.intro (hd.ext x) (ha.ext x)
  obtain ⟨L, hL⟩ : ∃ L, L = E.ats := ⟨_, rfl⟩
  rw [wF_succ] at hw
  have hwk : ∀ x ∈ F.kids, wF n x ≤ 900000 := fun x hx => by have := sum_mem (wF n) F.kids x hx; omega
  obtain ⟨K, hKs⟩ : ∃ T, T = F.kids := ⟨_, rfl⟩
  rw [← hKs] at hkl ek hop hone hwk hq1 ⊢
  generalize F.kind = kd at *
  generalize F.typ = T at *
  generalize F.val = V at *
  obtain ⟨m, hm⟩ : ∃ m, m = F.subs.length := ⟨_, rfl⟩
  obtain ⟨q, hq⟩ : ∃ m, m = K.length := ⟨_, rfl⟩
  rw [← hm] at es
  rw [← hq] at ek hkl hq1
  subst es ek
  have hMne : Hid ((K.map (evalN n · E.ats)).headD 0 = (K.map (evalN n · E.ats)).getD 0 0 ∧ (K.map (evalN n · E.ats)).length = q) := Lib.hid ⟨by cases K <;> rfl, by rw [List.length_map, hq]⟩
  obtain ⟨R, hR⟩ : ∃ R, R = (if kd = 0 then and3 (K.map (evalN n · E.ats)) else if kd = 1 then or3 (K.map (evalN n · E.ats)) else not3 ((K.map (evalN n · E.ats)).headD 0)) := ⟨_, rfl⟩
  rw [← hR]
  replace hR := Lib.hid hR
  replace hm := Lib.hid hm
  replace hq := Lib.hid hq
  replace hKs := Lib.hid hKs
  clear hS hsh hFB h hd ha hw
  obtain ⟨w0, hw0⟩ : ∃ x, x = w.alloc (.cells #[.int .i64 kd, sv T, sv V, .slice As_ m cs, .slice A q ca] 25) := ⟨_, rfl⟩
  obtain ⟨w1, hw1⟩ : ∃ x, x = w0.alloc (.cells #[.slice D0 dn dc, .slice B0 bn bc] 29) := ⟨_, rfl⟩
  obtain ⟨p, hp⟩ : ∃ p, p = w.heap.size := ⟨_, rfl⟩
  obtain ⟨g, hg⟩ : ∃ g, g = p + 1 := ⟨_, rfl⟩
  have hgs : w0.heap.size = g := by rw [hw0, hg, hp]; simp
  have x0 : Ext w w0 := by rw [hw0]; exact (Mod.refl _ w).alloc _
  have x01 : Ext w0 w1 := by rw [hw1]; exact (Mod.refl _ w0).alloc _
  have x1 := ext_trans x0 x01
  have BP0 : Blk w0 p 25 #[.int .i64 kd, sv T, sv V, .slice As_ m cs, .slice A q ca] := by rw [hw0, hp]; exact Blk.new w _ _
  have BP := BP0.mod x01 (fun h => h)
  have BG : Blk w1 g 29 #[.slice D0 dn dc, .slice B0 bn bc] := by rw [hw1, ← hgs]; exact Blk.new w0 _ _
  have hcc : ∀ {wx : World}, Ext w1 wx → (wx.cell? ⟨p, 0, none⟩ = some (.int .i64 kd) ∧ wx.cell? ⟨p, 1, none⟩ = some (sv T) ∧ wx.cell? ⟨p, 2, none⟩ = some (sv V) ∧ wx.cell? ⟨p, 3, none⟩ = some (.slice As_ m cs) ∧ wx.cell? ⟨p, 4, none⟩ = some (.slice A q ca)) ∧ wx.cell? ⟨g, 0, none⟩ = some (.slice D0 dn dc) ∧ wx.cell? ⟨g, 1, none⟩ = some (.slice B0 bn bc) := fun x => ⟨⟨(BP.mod x (fun h => h)).cell 0, (BP.mod x (fun h => h)).cell 1, (BP.mod x (fun h => h)).cell 2, (BP.mod x (fun h => h)).cell 3, (BP.mod x (fun h => h)).cell 4⟩, (BG.mod x (fun h => h)).cell 0, (BG.mod x (fun h => h)).cell 1⟩
  obtain ⟨⟨p0, p1, p2, p3, p4⟩, g0, g1⟩ := hcc (Mod.refl _ w1)
  have hw00 := Lib.hid hw0
  clear hw0
  replace hw1 := Lib.hid hw1
  replace hp := Lib.hid hp
  replace hg := Lib.hid hg
  replace hL := Lib.hid hL
  clear BP0 BP BG x0 x01
  have hb0 : ((q : Int) == 0) = false := by rw [beq_eq_false_iff_ne]; omega
  go_enter Tryz.func18, Tryz.ntmps18
  go_upto_region 1 with fail
  rw [← hp.out]
  rw [show w.alloc (.cells #[.int .i64 kd, sv T, sv V, .slice As_ m cs, .slice A q ca] 25) = w0 from hw00.out.symm]
  rw [← hg.out, show w0.alloc (.cells #[.slice D0 dn dc, .slice B0 bn bc] 29) = w1 from hw1.out.symm]
  clear hw1 hw00 hp hg
  go_wp2_with fail
  go_loopw [5, 6] (fun l i wr => ∃ k : Nat, k ≤ q ∧ i = .int .i64 k ∧ Own wr 3 l (((K.take k).map (evalN n · E.ats)).map iv) ∧ Fresh w1.heap.size l ∧ Ext w1 wr) (fun _ i _ => q - (intOf i).toNat)
  case atStart => exact ⟨0, Nat.zero_le _, rfl, Own.nil _ _, fresh_nil _ _ _, Mod.refl _ _⟩
  case round =>
    clear p0 p1 p2 p3 p4 g0 g1
    obtain ⟨k, hkq, rfl, ho, hf, hx⟩ := hrel
    obtain ⟨⟨p0, p1, p2, p3, p4⟩, g0, g1⟩ := hcc hx
    by_cases hlt : k < q
    case neg =>
      have hbl : decide ((k : Int) < (q : Int)) = false := dfalse (by omega)
      have hbn : decide (k < q) = false := dfalse (by omega)
      have hkm : K.take k = K := List.take_of_length_le (by have := hq.out; omega)
      rw [hkm] at ho
      have hml := hMne.out.2
      have hmh := hMne.out.1
      generalize K.map (evalN n · E.ats) = M at *
      have hs := ho.sl
      obtain ⟨A1, c1, rfl⟩ := ho.shape
      rw [List.length_map, hml] at hs hf ho
      have ha := rand_any hs
      have ho2 := ror_any hs
      obtain ⟨A9, c9, e9, _, _, _, h9⟩ := Sl.open_ (f := iv) hs
      injection e9 with e9 e10 e11
      clear e10 e11
      subst e9
      obtain ⟨ag, e2, _, h6⟩ := Cells.at_ (f := iv) h9 (k := 0) (by omega)
      subst e2
      clear h9
      have h60 : wr.cell? ag = some (iv M[0]) := by simpa [Addr.add] using h6
      have hM0 : M.getD 0 0 = M[0] := by rw [List.getD_eq_getElem?_getD, List.getElem?_eq_getElem (by omega)]; rfl
      have hnt := fun wx : World => rnot_any (w := wx) M[0]
      rw [List.length_map, hml]
      have hi1 : (0 : Int) < (q : Int) := by omega
      generalize M[0] = m0 at *
      have hr : Hid (R = (if kd = 0 then and3 M else if kd = 1 then or3 M else not3 m0)) := Lib.hid (by rw [hR.out, hmh, hM0])
      clear hR hMne hml hmh hM0 hs ho hop hone hwk ih
      by_cases hk0 : kd = 0
      · have hr2 : Hid (R = and3 M) := Lib.hid (by rw [hr.out, if_pos hk0])
        have e0 : (kd == 0) = true := by rw [hk0]; rfl
        clear hr hk0 hk hnt ho2
        generalize and3 M = r at *
        go_wp2_with fail
        refine ha.mono ?_
        rintro e w9 ⟨rfl, rfl⟩
        go_wp2_with fail
        go_ret
        exact ⟨by rw [hr2.out]; rfl, ext_trans x1 hx⟩
      have e0 : (kd == 0) = false := by rw [beq_eq_false_iff_ne]; exact hk0
      by_cases hk1 : kd = 1
      · have hr2 : Hid (R = or3 M) := Lib.hid (by rw [hr.out, if_neg hk0, if_pos hk1])
        have e1 : (kd == 1) = true := by rw [hk1]; rfl
        clear hr hk1 hk0 hk hnt ha
        generalize or3 M = r at *
        go_wp2_with fail
        refine ho2.mono ?_
        rintro e w9 ⟨rfl, rfl⟩
        go_wp2_with fail
        go_ret
        exact ⟨by rw [hr2.out]; rfl, ext_trans x1 hx⟩
      have e1 : (kd == 1) = false := by rw [beq_eq_false_iff_ne]; exact hk1
      have hr2 : Hid (R = not3 m0) := Lib.hid (by rw [hr.out, if_neg hk0, if_neg hk1])
      have e2 : (kd == 2) = true := by rw [beq_iff_eq]; omega
      clear hr hk1 hk0 hk ha ho2
      generalize not3 m0 = r at *
      go_wp2_with fail
      refine (hnt _).mono ?_
      rintro e w9 ⟨rfl, rfl⟩
      go_wp2_with fail
      go_ret
      exact ⟨by rw [hr2.out]; rfl, ext_trans x1 hx⟩
    have hbl : decide ((k : Int) < (q : Int)) = true := dtrue (by omega)
    have hbn : decide (k < q) = true := dtrue (by omega)
    have hi0 : (0 : Int) ≤ (k : Int) := by omega
    have hi1 : (k : Int) < (q : Int) := by omega
    have hkb : k < K.length := by have := hq.out; omega
    obtain ⟨ag, ys, yk, e2, c0, c1, c2, c3, c4, h7⟩ := hop k hkb
    subst e2
    obtain ⟨⟨Y1, Y2, Y3, rfl⟩, Z1, Z2, Z3, rfl⟩ := h7.shape
    have y2 := ext_trans x1 hx
    have b0 := c0
    have b1 := c1
    have b2 := c2
    have b3 := c3
    have b4 := c4
    replace c0 := ext_cell y2 c0
    replace c1 := ext_cell y2 c1
    replace c2 := ext_cell y2 c2
    replace c3 := ext_cell y2 c3
    replace c4 := ext_cell y2 c4
    have hsn := ints_snoc (evalN n · E.ats) hkb
    have hon := hone _ (List.getElem_mem hkb)
    have hwx := hwk _ (List.getElem_mem hkb)
    generalize K[k] = x at *
    have hc5 := fun {wx : World} (x' : Ext w wx) => ih (w := wx) (deep := deep + 1) (h7.ext x') hon (hax x').1 (hax x').2 hwx hwA
    have hcell : ∀ {wx : World}, Ext wr wx → (wx.cell? (ag.add (k * 5)) = some (.int .i64 x.kind) ∧ wx.cell? ⟨(ag.add (k * 5)).block, (ag.add (k * 5)).off + 1, none⟩ = some (sv x.typ) ∧ wx.cell? ⟨(ag.add (k * 5)).block, (ag.add (k * 5)).off + 2, none⟩ = some (sv x.val) ∧ wx.cell? ⟨(ag.add (k * 5)).block, (ag.add (k * 5)).off + 3, none⟩ = some (.slice Y1 Y2 Y3) ∧ wx.cell? ⟨(ag.add (k * 5)).block, (ag.add (k * 5)).off + 4, none⟩ = some (.slice Z1 Z2 Z3)) ∧ wx.cell? ⟨p, 4, none⟩ = some (.slice (some ag) q ca) ∧ wx.cell? ⟨g, 0, none⟩ = some (.slice D0 dn dc) ∧ wx.cell? ⟨g, 1, none⟩ = some (.slice B0 bn bc) := fun y => ⟨⟨ext_cell y c0, ext_cell y c1, ext_cell y c2, ext_cell y c3, ext_cell y c4⟩, (hcc (ext_trans hx y)).1.2.2.2.2, (hcc (ext_trans hx y)).2⟩
    have hcell3 : ∀ {wx : World}, Ext w1 wx → (wx.cell? (ag.add (k * 5)) = some (.int .i64 x.kind) ∧ wx.cell? ⟨(ag.add (k * 5)).block, (ag.add (k * 5)).off + 1, none⟩ = some (sv x.typ) ∧ wx.cell? ⟨(ag.add (k * 5)).block, (ag.add (k * 5)).off + 2, none⟩ = some (sv x.val) ∧ wx.cell? ⟨(ag.add (k * 5)).block, (ag.add (k * 5)).off + 3, none⟩ = some (.slice Y1 Y2 Y3) ∧ wx.cell? ⟨(ag.add (k * 5)).block, (ag.add (k * 5)).off + 4, none⟩ = some (.slice Z1 Z2 Z3)) ∧ wx.cell? ⟨p, 4, none⟩ = some (.slice (some ag) q ca) ∧ wx.cell? ⟨g, 0, none⟩ = some (.slice D0 dn dc) ∧ wx.cell? ⟨g, 1, none⟩ = some (.slice B0 bn bc) := fun y => ⟨⟨ext_cell (ext_trans x1 y) b0, ext_cell (ext_trans x1 y) b1, ext_cell (ext_trans x1 y) b2, ext_cell (ext_trans x1 y) b3, ext_cell (ext_trans x1 y) b4⟩, (hcc y).1.2.2.2.2, (hcc y).2⟩
    have hn : Hid (((((K.take k).map (evalN n · E.ats)).map iv).length + [iv (evalN n x E.ats)].length) * 8 ≤ 140737488355328) := Lib.hid (by simp only [List.length_map, List.length_take, List.length_singleton]; omega)
    generalize evalN n x E.ats = r at *
    replace hsn := Lib.hid hsn
    clear h7 hkb hon hwx hop hone hwk ih hR hMne
    have h1c : ∀ u ∈ [iv r], u.oneCell' = true := fun u hu => by rw [List.mem_singleton.1 hu]; rfl
    have z0 : Ext wr wr.drew := (Mod.refl _ wr).drew
    go_upto_region 7 with fail
    go_region_held3 (fun wx => (wx.cell? (ag.add (k * 5)) = some (.int .i64 x.kind) ∧ wx.cell? ⟨(ag.add (k * 5)).block, (ag.add (k * 5)).off + 1, none⟩ = some (sv x.typ) ∧ wx.cell? ⟨(ag.add (k * 5)).block, (ag.add (k * 5)).off + 2, none⟩ = some (sv x.val) ∧ wx.cell? ⟨(ag.add (k * 5)).block, (ag.add (k * 5)).off + 3, none⟩ = some (.slice Y1 Y2 Y3) ∧ wx.cell? ⟨(ag.add (k * 5)).block, (ag.add (k * 5)).off + 4, none⟩ = some (.slice Z1 Z2 Z3)) ∧ wx.cell? ⟨p, 4, none⟩ = some (.slice (some ag) q ca) ∧ wx.cell? ⟨g, 0, none⟩ = some (.slice D0 dn dc) ∧ wx.cell? ⟨g, 1, none⟩ = some (.slice B0 bn bc)) (first | exact hcell z0 | exact hcell z1 | exact hcell (z1.alloc _) | exact hcell3 z3) (first
      | (go_at_call 18; (with_reducible refine (hc5 (ext_trans y2 z0)).mono ?_); rintro e w9 ⟨rfl, x9⟩; have z1 := ext_trans z0 x9; have ho9 := (ho.mod z0 (fun _ _ h => h)).mod x9 (fun _ _ h => h); have hx9 := ext_trans hx z1)
      | ((with_reducible refine step_app 33 tyI (ho9.alloc _) (Sl.one w9 3 (iv r)) h1c hn.out rfl rfl (.tmp 24) (.tmp 32) rfl rfl rfl ?_); intro v1 w4 o4 m4 n4; have z3 := ext_app0 hx9 hf (mod_app m4)))
    go_wp2_with fail
    exact ⟨⟨k + 1, by omega, by go_num, by rw [hsn.out]; exact o4, (n4.sooner (by simp)).fresh hf hx9.size, z3⟩, by simp [intOf] <;> omega⟩
theorem revalF_step {n : Nat} {w : World} {F : Fi} {vs vk vd va : Value} {E : Ent} (h : FilN (n + 1) w F vs vk) (hd : As w AllE vd E.dn) (ha : Ats w va E.ats) (hw : wF (n + 1) F ≤ 900000) (hwA : wA E.ats ≤ 900000) {deep : Nat} (ih : REvalIH n) (hone : oneN (n + 1) F deep = true) :
    Calls Tryz.prog 18 #[.agg #[.int .i64 F.kind, sv F.typ, sv F.val, vs, vk], .agg #[vd, va]] w fun e w' => e = .returned (.int .i64 (evalN (n + 1) F E.ats)) ∧ Ext w w' := by
  rw [evalN_succ]
  rcases one_cases hone with ⟨hk, hq1, hall⟩ | ⟨h0, h1, h2, hq0⟩
  · rw [if_neg (by omega)]
    exact revalF1 h hd ha hw hwA ih hk hq1 hall
  · rw [if_pos hq0]
    exact revalF0 h hd ha hw hwA h0 h1 h2 hq0
theorem revalF_any : ∀ n, REvalIH n
  | 0 => fun h => h.elim
  | n + 1 => fun h hone hd ha hw hwA => revalF_step h hd ha hw hwA (revalF_any n) hone
end Go.Proofs.YteihjdefdeckaaaGreatDoor
