/- AclFirst: the walk. -/
import Derived.Test.YtbdkdbfcbakgmaaAclG
import Derived.Deep.RegionHeld3
import Derived.Deep.DeepCutAuto
import Derived.BigQuiet
namespace Go.Proofs.Ytbdkdbfcbakgmaa
open Go.RowKit
set_option maxRecDepth 100000

theorem tyR : SliceTyK Try.prog 41 46 (.agg #[.int .i64 0, .slice none 0 0, .slice none 0 0, .bool false, .string ⟨#[]⟩, .int .i64 0, .bool false]) 7 96 := ⟨Try.underlying41, by kernel_rfl, rfl, by decide, by decide⟩

set_option maxHeartbeats 8000000 in
theorem aclFirst_walk {w : World} {v0 v1 vw vt : Value} {C D : List LRul} {W T : List Av} {ty : List UInt8} {right : Int} (h0 : Rl w (fun _ => True) v0 C) (h1 : Rl w (fun _ => True) v1 D) (hW : As w (fun _ => True) vw W) (hT : As w (fun _ => True) vt T)
    (f0 : ∀ c ∈ C, RFits c.1) (f1 : ∀ c ∈ D, RFits c.1) (l0 : C.length * 96 ≤ 140737488351232) (l1 : D.length * 96 ≤ 140737488351232) (fW : Fits W) (fT : Fits T) (hty : ty.length ≤ 140737488351232) (hr1 : -9223372036854775808 ≤ right) (hr2 : right ≤ 9223372036854775807) :
    Calls Try.prog 12 #[v0, v1, vw, vt, sv ty, .int .i64 right] w fun e w' => e = .returned (.bool true) ∧ Ext w w' := by
  have there : ∀ (wx : World) (v : Value) (C : List LRul), Rl w (fun _ => True) v C → Ext w wx → Rl wx (fun b => b < wx.heap.size) v C := fun wx v C h hx =>
    ⟨Rc.there h.1 hx, fun c hc => ⟨Rc.there (h.2 c hc).1 hx, Rc.there (h.2 c hc).2 hx⟩⟩
  have hz := sv_size ty
  obtain ⟨A1, c1, hv1⟩ := h1.1.shape
  obtain ⟨A0, c0, hv0⟩ := h0.1.shape
  obtain ⟨Aw, cw, hvw⟩ := hW.shape
  obtain ⟨At, ct, hvt⟩ := hT.shape
  subst hv1 hv0 hvw hvt
  go_enter Try.func12, Try.ntmps12
  go_wp2_with fail
  refine (great_any (there w _ C h0 (Mod.refl _ _)) f0 (by omega)).mono ?_
  rintro e w1 ⟨q, rfl, g0, x1⟩
  cases q
  case true =>
    go_wp2_with fail
    go_ret
    exact ⟨rfl, x1⟩
  replace g0 := Lib.hid (g0 rfl)
  go_wp2_with fail
  refine (great_any (there w1 _ D h1 x1) f1 (by omega)).mono ?_
  rintro e w2 ⟨q, rfl, g1, x2⟩
  replace x2 := ext_trans x1 x2
  cases q
  case true =>
    go_wp2_with fail
    go_ret
    exact ⟨rfl, x2⟩
  replace g1 := Lib.hid (g1 rfl)
  have hn : Sl (w2.alloc (.cells #[.slice Aw W.length cw, .slice At T.length ct] 22)) (fun b => b = w2.heap.size) (.slice (some ⟨w2.heap.size, 0, none⟩) 2 2) [.slice Aw W.length cw, .slice At T.length ct] := Sl.lit w2 22 [_, _] (by simp [maxLen])
  have xa : Ext w (w2.alloc (.cells #[.slice Aw W.length cw, .slice At T.length ct] 22)) := x2.alloc _
  go_wp2_with fail
  refine (heavy18_any (T := fun _ => True) hn (fun x hx => by
    simp only [List.mem_cons, List.not_mem_nil, or_false] at hx
    rcases hx with rfl | rfl
    · exact ⟨W, hW.ext xa, fW⟩
    · exact ⟨T, hT.ext xa, fT⟩)).mono ?_
  rintro e w3 ⟨q, rfl, x3⟩
  replace x3 := ext_trans xa x3
  clear hn xa x1 x2
  cases q
  case true =>
    go_wp2_with fail
    go_ret
    exact ⟨rfl, x3⟩
  by_cases ht : 100 < ty.length
  · have hb : decide ((100 : Int) < (ty.length : Int)) = true := dtrue (by omega)
    go_wp2_with fail
    go_ret
    exact ⟨rfl, x3⟩
  have hb : decide ((100 : Int) < (ty.length : Int)) = false := dfalse (by omega)
  by_cases hr : right = 1 ∨ right = 2 ∨ right = 4 ∨ right = 8
  case neg =>
    have b1 : (right != 1) = true := by rw [bne_iff_ne]; omega
    have b2 : (right != 2) = true := by rw [bne_iff_ne]; omega
    have b3 : (right != 4) = true := by rw [bne_iff_ne]; omega
    have b4 : (right != 8) = true := by rw [bne_iff_ne]; omega
    go_wp2_with fail
    go_ret
    exact ⟨rfl, x3⟩
  have hcov : coversR 15 right := by rcases hr with rfl | rfl | rfl | rfl <;> decide
  obtain ⟨gr, hgr⟩ : ∃ gr : Bool, gr = ((D.length : Int) % 2 == 0) := ⟨_, rfl⟩
  have hfit : fitsR ⟨0, [], [], true, [], 15, gr⟩ W T ty right := by
    refine ⟨⟨.inl ⟨.inl rfl, rfl⟩, .inl rfl, ⟨by simp, fun a ha => by cases ha⟩, (by decide : (15 : Int) ≠ 0), (by decide : bits .andNot .i64 15 15 = 0)⟩, hcov, .inl rfl, .inl rfl, ?_⟩
    show (if true = true then underN T [] else sameN T [])
    rw [if_pos rfl]
    exact ⟨by simp, by simp [sameN, norm]⟩
  have hno : ¬ fitsR ⟨3, [], [], false, [], 16, false⟩ W T ty right := fun h => by
    have := h.1.2.2.2.2
    revert this
    decide
  have E1 : firstR W T ty right ((C ++ [(⟨⟨0, [], [], true, [], 15, gr⟩, .slice none 0 0, .slice none 0 0⟩ : LRul)] ++ D).map (·.1)) = firstR W T ty right ((C ++ [(⟨⟨0, [], [], true, [], 15, gr⟩, .slice none 0 0, .slice none 0 0⟩ : LRul)]).map (·.1)) := by
    simp only [List.map_append, List.map_cons, List.map_nil, List.append_assoc, List.cons_append, List.nil_append]
    exact firstR_behind hfit _ _
  have E2 : firstR W T ty right (([(⟨⟨3, [], [], false, [], 16, false⟩, .slice none 0 0, .slice none 0 0⟩ : LRul)] ++ (C ++ [(⟨⟨0, [], [], true, [], 15, gr⟩, .slice none 0 0, .slice none 0 0⟩ : LRul)])).map (·.1)) = firstR W T ty right ((C ++ [(⟨⟨0, [], [], true, [], 15, gr⟩, .slice none 0 0, .slice none 0 0⟩ : LRul)]).map (·.1)) := by
    rw [List.map_append]
    exact firstR_ahead hno _
  have E3 : C.length = 0 → firstR W T ty right ((C ++ [(⟨⟨0, [], [], true, [], 15, gr⟩, .slice none 0 0, .slice none 0 0⟩ : LRul)]).map (·.1)) = gr := fun h => by
    have : C = [] := List.eq_nil_of_length_eq_zero h
    subst this
    show (if fitsR _ W T ty right then gr else _) = gr
    rw [if_pos hfit]
  obtain ⟨al, hal⟩ : ∃ al : LRul, al = (⟨⟨0, [], [], true, [], 15, gr⟩, .slice none 0 0, .slice none 0 0⟩ : LRul) := ⟨_, rfl⟩
  obtain ⟨no, hnn⟩ : ∃ no : LRul, no = (⟨⟨3, [], [], false, [], 16, false⟩, .slice none 0 0, .slice none 0 0⟩ : LRul) := ⟨_, rfl⟩
  rw [← hal] at E1 E2 E3
  rw [← hnn] at E2
  have LA : ∀ wx S, Laid wx S al := fun wx S => by rw [hal]; exact ⟨Rc.nil _ _ _ _, Rc.nil _ _ _ _⟩
  have LN : ∀ wx S, Laid wx S no := fun wx S => by rw [hnn]; exact ⟨Rc.nil _ _ _ _, Rc.nil _ _ _ _⟩
  have fz : Fits [] := ⟨fun a ha => (by cases ha), by simp⟩
  have FA : RFits al.1 := by rw [hal]; exact ⟨fz, fz, by simp⟩
  have FN : RFits no.1 := by rw [hnn]; exact ⟨fz, fz, by simp⟩
  have okC : ∀ x ∈ C, ∀ u ∈ rcell x, u.oneCell' = true := fun x hx => (h0.2 x hx).ok
  have okD : ∀ x ∈ D, ∀ u ∈ rcell x, u.oneCell' = true := fun x hx => (h1.2 x hx).ok
  have okA : ∀ x ∈ [al], ∀ u ∈ rcell x, u.oneCell' = true := fun x hx => by simp at hx; subst hx; exact (LA w (fun _ => True)).ok
  have okN : ∀ x ∈ [no], ∀ u ∈ rcell x, u.oneCell' = true := fun x hx => by simp at hx; subst hx; exact (LN w (fun _ => True)).ok
  have okL : ∀ x ∈ C ++ [al], ∀ u ∈ rcell x, u.oneCell' = true := fun x hx => (List.mem_append.1 hx).elim (okC x) (okA x)
  have n1 := Lib.hid (show (([] : List LRul).length + C.length) * 96 ≤ 140737488355328 by have := g0.out; simp only [List.length_nil, List.length_append, List.length_cons]; try omega)
  have n2 := Lib.hid (show (([] ++ C : List LRul).length + [al].length) * 96 ≤ 140737488355328 by have := g0.out; simp only [List.length_nil, List.length_append, List.length_cons]; try omega)
  have n3 := Lib.hid (show (([] : List LRul).length + (C ++ [al]).length) * 96 ≤ 140737488355328 by have := g0.out; simp only [List.length_nil, List.length_append, List.length_cons]; try omega)
  have n4 := Lib.hid (show (([] ++ (C ++ [al]) : List LRul).length + D.length) * 96 ≤ 140737488355328 by have := g0.out; have := g1.out; simp only [List.length_nil, List.length_append, List.length_cons]; try omega)
  have n5 := Lib.hid (show ([no].length + (C ++ [al]).length) * 96 ≤ 140737488355328 by have := g0.out; simp only [List.length_nil, List.length_append, List.length_cons]; try omega)
  have hae : (rcell al).toArray = #[.int .i64 0, .slice none 0 0, .slice none 0 0, .bool true, .string ⟨#[]⟩, .int .i64 15, .bool gr] := by rw [hal]
  have hne : (rcell no).toArray = #[.int .i64 3, .slice none 0 0, .slice none 0 0, .bool false, .string ⟨#[]⟩, .int .i64 16, .bool false] := by rw [hnn]
  have lim : C.length ≤ 81 ∧ D.length ≤ 81 := ⟨g0.out, g1.out⟩
  replace hgr := hgr.symm
  replace hal := Lib.hid hal
  replace hnn := Lib.hid hnn
  clear hfit hno hcov g0 g1
  have split : ∃ b1 b2 b3 b4 : Bool, (right != 1) = b1 ∧ (right != 2) = b2 ∧ (right != 4) = b3 ∧ (right != 8) = b4 ∧ ((b1 = false) ∨ (b1 = true ∧ b2 = false) ∨ (b1 = true ∧ b2 = true ∧ b3 = false) ∨ (b1 = true ∧ b2 = true ∧ b3 = true ∧ b4 = false)) := by
    rcases hr with rfl | rfl | rfl | rfl
    · exact ⟨_, _, _, _, rfl, rfl, rfl, rfl, .inl rfl⟩
    · exact ⟨_, _, _, _, rfl, rfl, rfl, rfl, .inr (.inl ⟨rfl, rfl⟩)⟩
    · exact ⟨_, _, _, _, rfl, rfl, rfl, rfl, .inr (.inr (.inl ⟨rfl, rfl, rfl⟩))⟩
    · exact ⟨_, _, _, _, rfl, rfl, rfl, rfl, .inr (.inr (.inr ⟨rfl, rfl, rfl, rfl⟩))⟩
  obtain ⟨b1, b2, b3, b4, k1, k2, k3, k4, hsp⟩ := split
  clear hr
  rcases hsp with rfl | ⟨rfl, rfl⟩ | ⟨rfl, rfl, rfl⟩ | ⟨rfl, rfl, rfl, rfl⟩
  · go_wp2_with fail
    have x4 : Ext w (w3.alloc (.cells #[.int .i64 0, .slice none 0 0, .slice none 0 0, .bool true, .string ⟨#[]⟩, .int .i64 15, .bool gr] 46)) := x3.alloc _
    have B4 := Blk.new w3 46 #[.int .i64 0, .slice none 0 0, .slice none 0 0, .bool true, .string ⟨#[]⟩, .int .i64 15, .bool gr]
    generalize (w3.alloc (.cells #[.int .i64 0, .slice none 0 0, .slice none 0 0, .bool true, .string ⟨#[]⟩, .int .i64 15, .bool gr] 46)) = w4 at *
    go_cut [0, 1, 2, 3, 4, 5, 12, 13, 14] (fun s0 s1 s2 s3 s4 s5 s12 s13 s14 wx => s0 = .slice A0 C.length c0 ∧ s1 = .slice A1 D.length c1 ∧ s2 = .slice Aw W.length cw ∧ s3 = .slice At T.length ct ∧ s4 = sv ty ∧ s5 = .int .i64 right ∧ s12 = .bool false ∧ s13 = .pointer (some ⟨w3.heap.size, 0, none⟩) ∧ OwnR rcell 7 wx 46 s14 (C ++ [al]) ∧ Fresh w4.heap.size s14 ∧ Ext w4 wx)
    case first =>
      have hc : ∀ wx, Ext w4 wx → wx.cell? ⟨w3.heap.size, 0, none⟩ = some (.int .i64 0) ∧ wx.cell? ⟨w3.heap.size, 1, none⟩ = some (.slice none 0 0) ∧ wx.cell? ⟨w3.heap.size, 2, none⟩ = some (.slice none 0 0) ∧ wx.cell? ⟨w3.heap.size, 3, none⟩ = some (.bool true) ∧ wx.cell? ⟨w3.heap.size, 4, none⟩ = some (.string ⟨#[]⟩) ∧ wx.cell? ⟨w3.heap.size, 5, none⟩ = some (.int .i64 15) ∧ wx.cell? ⟨w3.heap.size, 6, none⟩ = some (.bool gr) := fun wx hx => blk7 (B4.mod hx (fun h => h))
      have q0 : Ext w4 w4.drew := (Mod.refl _ w4).drew
      have hRC := fun (wx : World) (hx : Ext w4 wx) => (h0.1.ext (ext_trans x4 hx))
      have oA := OwnR.empty rcell 7 w4.drew 46
      have fA := fresh_new w4.drew 0 0
      have oB := (OwnR.empty rcell 7 w4.drew 46).alloc (.cells #[.int .i64 0, .slice none 0 0, .slice none 0 0, .bool true, .string ⟨#[]⟩, .int .i64 15, .bool gr] 46)
      have oC := OwnR.empty rcell 7 (w4.drew.alloc (.cells #[.int .i64 0, .slice none 0 0, .slice none 0 0, .bool true, .string ⟨#[]⟩, .int .i64 15, .bool gr] 46)) 46
      have eX := Rc.lit1 rcell_len w4.drew 46 al
      have eB := Rc.lit1 rcell_len (w4.drew.alloc (.cells #[] 46)) 46 al
      rw [hae] at eX eB
      replace hae := Lib.hid hae
      replace hne := Lib.hid hne
      have zE : (w4.drew.alloc (.cells #[] 46)).heap.size = w4.drew.heap.size + 1 := by simp
      have zX : (w4.drew.alloc (.cells #[.int .i64 0, .slice none 0 0, .slice none 0 0, .bool true, .string ⟨#[]⟩, .int .i64 15, .bool gr] 46)).heap.size = w4.drew.heap.size + 1 := by simp
      rw [zE] at eB
      rw [zX] at oC
      clear zE zX
      have fC : Fresh w4.drew.heap.size (.slice (some ⟨w4.drew.heap.size + 1, 0, none⟩) 0 0) := fun k hk => by have : w4.drew.heap.size + 1 = k := Option.some.inj hk; omega
      have qE : Ext w4 (w4.drew.alloc (.cells #[] 46)) := q0.alloc _
      have qX : Ext w4 (w4.drew.alloc (.cells #[.int .i64 0, .slice none 0 0, .slice none 0 0, .bool true, .string ⟨#[]⟩, .int .i64 15, .bool gr] 46)) := q0.alloc _
      have qEX : Ext w4 ((w4.drew.alloc (.cells #[] 46)).alloc (.cells #[.int .i64 0, .slice none 0 0, .slice none 0 0, .bool true, .string ⟨#[]⟩, .int .i64 15, .bool gr] 46)) := qE.alloc _
      have qXE : Ext w4 ((w4.drew.alloc (.cells #[.int .i64 0, .slice none 0 0, .slice none 0 0, .bool true, .string ⟨#[]⟩, .int .i64 15, .bool gr] 46)).alloc (.cells #[] 46)) := qX.alloc _
      have rA := hRC _ qE
      have rB := hRC _ qEX
      have rC := hRC _ qXE
      replace okC := Lib.hid okC
      replace okA := Lib.hid okA
      go_region_held3 (fun w' => w'.cell? ⟨w3.heap.size, 0, none⟩ = some (.int .i64 0) ∧ w'.cell? ⟨w3.heap.size, 1, none⟩ = some (.slice none 0 0) ∧ w'.cell? ⟨w3.heap.size, 2, none⟩ = some (.slice none 0 0) ∧ w'.cell? ⟨w3.heap.size, 3, none⟩ = some (.bool true) ∧ w'.cell? ⟨w3.heap.size, 4, none⟩ = some (.string ⟨#[]⟩) ∧ w'.cell? ⟨w3.heap.size, 5, none⟩ = some (.int .i64 15) ∧ w'.cell? ⟨w3.heap.size, 6, none⟩ = some (.bool gr)) (first | exact hc _ q0 | exact hc _ (q0.alloc _) | exact hc _ ((q0.alloc _).alloc _) | exact hc _ q1 | exact hc _ (q1.alloc _) | exact hc _ q2) (first
        | (refine step_appRs 59 tyR oA rA okC.out n1.out rfl rfl (.tmp 57) (.tmp 58) rfl rfl rfl ?_; intro va wa ka1 ka2 ka3; have q1 := ext_app0 qE fA ka2; have ga := ka3.fresh fA qE.size; have eA := Rc.lit1 rcell_len wa 46 al; rw [hae.out] at eA)
        | (refine step_appRs 59 tyR oB rB okC.out n1.out rfl rfl (.tmp 57) (.tmp 58) rfl rfl rfl ?_; intro vb wb kb1 kb2 kb3; have q1 := ext_app0 qEX fA kb2; have gb := kb3.fresh fA qEX.size; have eB2 := eB.mod kb2 (fun b _ hb hF => by have h1 : w4.drew.heap.size = b := Option.some.inj hF; omega))
        | (refine step_appRs 59 tyR oC rC okC.out n1.out rfl rfl (.tmp 57) (.tmp 58) rfl rfl rfl ?_; intro vc wc kc1 kc2 kc3; have q1 := ext_app0 qXE fC kc2; have gc := kc3.fresh fC qXE.size; have eC2 := (eX.ext ((Mod.refl _ (w4.drew.alloc (.cells #[.int .i64 0, .slice none 0 0, .slice none 0 0, .bool true, .string ⟨#[]⟩, .int .i64 15, .bool gr] 46))).alloc _)).mod kc2 (fun b _ hb hF => by have h1 : w4.drew.heap.size + 1 = b := Option.some.inj hF; omega))
        | (refine step_appRs 62 tyR (ka1.alloc _) eA okA.out n2.out rfl rfl (.tmp 59) (.tmp 61) rfl rfl rfl ?_; intro vd wd kd1 kd2 kd3; have q2 := ext_app0 (q1.alloc _) ga kd2; have gd := kd3.fresh ga (q1.alloc _).size)
        | (refine step_appRs 62 tyR kb1 eB2 okA.out n2.out rfl rfl (.tmp 59) (.tmp 61) rfl rfl rfl ?_; intro vd wd kd1 kd2 kd3; have q2 := ext_app0 q1 gb kd2; have gd := kd3.fresh gb q1.size)
        | (refine step_appRs 62 tyR kc1 eC2 okA.out n2.out rfl rfl (.tmp 59) (.tmp 61) rfl rfl rfl ?_; intro vd wd kd1 kd2 kd3; have q2 := ext_app0 q1 gc kd2; have gd := kd3.fresh gc q1.size))
      all_goals go_wp2_with fail
      all_goals go_meet
      all_goals exact ⟨rfl, rfl, rfl, rfl, rfl, rfl, rfl, rfl, kd1, gd, q2⟩
    case rest =>
      obtain ⟨rfl, rfl, rfl, rfl, rfl, rfl, rfl, rfl, o1, f14, x5⟩ := hcut
      obtain ⟨s14, hs14⟩ : ∃ s14, s14 = u14 := ⟨_, rfl⟩
      subst hs14
      have B5 := B4.mod x5 (fun h => h)
      have xw := ext_trans x4 x5
      clear B4
      have hmay : ∀ (wx : World) (v : Value) (L : List LRul), Ext w wx → Rl wx (fun b => b < wx.heap.size) v L → (∀ c ∈ L, RFits c.1) → L.length ≤ 1000 → Calls Try.prog 41 #[v, .slice none 0 0, .slice Aw W.length cw, .slice At T.length ct, sv ty, .int .i64 right] wx fun e w' => e = .returned (.bool (firstR W T ty right (L.map (·.1)))) ∧ Ext wx w' := by
        intro wx v L hx hL hfL hll
        have := may_any hL hfL (by omega) (Rc.nil avc 2 wx (fun b => b < wx.heap.size)) (Rc.there hW hx) (Rc.there hT hx) fz fW fT hty hr1 hr2
        rwa [mayR_none] at this
      have fL : ∀ c ∈ C ++ [al], RFits c.1 := fun c hc => (List.mem_append.1 hc).elim (f0 c) (fun h => by simp at h; subst h; exact FA)
      have RL : ∀ wx, Ext wc wx → Rl wx (fun b => b < wx.heap.size) s14 (C ++ [al]) := fun wx hx => ⟨Rc.there o1.rc hx, fun c hc => (List.mem_append.1 hc).elim (fun h => (there wx _ C h0 (ext_trans xw hx)).2 c h) (fun h => by simp at h; subst h; exact LA _ _)⟩
      have r1 := hmay wc s14 (C ++ [al]) xw (RL wc (Mod.refl _ _)) fL (by simp; omega)
      generalize hqa : firstR W T ty right ((C ++ [al]).map (·.1)) = qa at *
      replace hqa := Lib.hid hqa
      replace okL := Lib.hid okL
      replace okD := Lib.hid okD
      replace okN := Lib.hid okN
      replace hgr := Lib.hid hgr
      go_wp2_with fail
      refine r1.mono ?_
      rintro e w6 ⟨rfl, x6⟩
      have B6 := B5.mod x6 (fun h => h)
      have xc6 : Ext wc w6 := x6
      have xw6 := ext_trans xw x6
      clear B5 r1
      have oe := OwnR.empty rcell 7 w6 46
      have fe := fresh_new w6 0 0
      have xe : Ext w6 (w6.alloc (.cells #[] 46)) := (Mod.refl _ w6).alloc _
      have rl6 := (RL _ (ext_trans xc6 xe)).1
      go_wp2_with (first
        | ((with_reducible show wpList _ _ _ (⟨some 71, _, _, _, _, _⟩ :: _) _ _); refine wp_appRm tyR oe rl6 okL.out n3.out rfl (.tmp 69) (.tmp 70) rfl rfl rfl ?_; intro va wa ka1 ka2 ka3; have q1 : Ext w6 wa := ext_app0 xe fe ka2; have ga : Fresh w6.heap.size va := ka3.fresh fe xe.size; have rd := h1.1.ext (ext_trans xw6 q1))
        | ((with_reducible show wpList _ _ _ (⟨some 73, _, _, _, _, _⟩ :: _) _ _); refine wp_appRm tyR ka1 rd okD.out n4.out rfl (.tmp 71) (.tmp 72) rfl rfl rfl ?_; intro vb wb kb1 kb2 kb3; have q2 : Ext w6 wb := ext_app0 q1 ga kb2))
      have xwb := ext_trans xw6 q2
      have r2 := hmay wb vb (C ++ [al] ++ D) xwb ⟨Rc.there kb1.rc (Mod.refl _ _), fun c hc => (List.mem_append.1 hc).elim (fun h => (RL wb (ext_trans xc6 q2)).2 c h) (fun h => (there wb _ D h1 xwb).2 c h)⟩ (fun c hc => (List.mem_append.1 hc).elim (fL c) (f1 c)) (by simp; omega)
      rw [E1] at r2
      refine r2.mono ?_
      rintro e w7 ⟨rfl, x7⟩
      have B7 := (B6.mod q2 (fun h => h)).mod x7 (fun h => h)
      have xc7 := ext_trans (ext_trans xc6 q2) x7
      have xw7 := ext_trans xwb x7
      clear B6 r2 ka1 ka2 ka3 kb1 kb2 kb3 oe fe xe rl6 rd q1 q2 ga
      have xn1 : Ext w7 (w7.alloc (.cells #[.int .i64 3, .slice none 0 0, .slice none 0 0, .bool false, .string ⟨#[]⟩, .int .i64 16, .bool false] 46)) := (Mod.refl _ w7).alloc _
      have on := OwnR.lit1 rcell_len (w7.alloc (.cells #[.int .i64 3, .slice none 0 0, .slice none 0 0, .bool false, .string ⟨#[]⟩, .int .i64 16, .bool false] 46)) 46 no
      have xn2 : Ext w7 ((w7.alloc (.cells #[.int .i64 3, .slice none 0 0, .slice none 0 0, .bool false, .string ⟨#[]⟩, .int .i64 16, .bool false] 46)).alloc (.cells #[.int .i64 3, .slice none 0 0, .slice none 0 0, .bool false, .string ⟨#[]⟩, .int .i64 16, .bool false] 46)) := xn1.alloc _
      rw [hne] at on
      have zn : (w7.alloc (.cells #[.int .i64 3, .slice none 0 0, .slice none 0 0, .bool false, .string ⟨#[]⟩, .int .i64 16, .bool false] 46)).heap.size = w7.heap.size + 1 := by simp
      rw [zn] at on
      clear zn
      replace hne := Lib.hid hne
      have fn : Fresh w7.heap.size (.slice (some ⟨w7.heap.size + 1, 0, none⟩) 1 1) := fun k hk => by have : w7.heap.size + 1 = k := Option.some.inj hk; omega
      have rl7 := (RL _ (ext_trans xc7 xn2)).1
      go_wp2_with ((with_reducible show wpList _ _ _ (⟨some 83, _, _, _, _, _⟩ :: _) _ _); refine wp_appRm tyR on rl7 okL.out n5.out rfl (.tmp 81) (.tmp 82) rfl rfl rfl ?_; intro vd wd kd1 kd2 kd3; have q3 : Ext w7 wd := ext_app0 xn2 fn kd2)
      have xwd := ext_trans xw7 q3
      have r3 := hmay wd vd ([no] ++ (C ++ [al])) xwd ⟨Rc.there kd1.rc (Mod.refl _ _), fun c hc => (List.mem_append.1 hc).elim (fun h => by simp at h; subst h; exact LN _ _) (fun h => (RL wd (ext_trans xc7 q3)).2 c h)⟩ (fun c hc => (List.mem_append.1 hc).elim (fun h => by simp at h; subst h; exact FN) (fL c)) (by simp; omega)
      rw [E2] at r3
      refine r3.mono ?_
      rintro e w8 ⟨rfl, x8⟩
      have B8 := (B7.mod q3 (fun h => h)).mod x8 (fun h => h)
      have xw8 := ext_trans xwd x8
      have c8 := (blk7 B8).2.2.2.2.2.2
      clear B7 r3 kd1 kd2 kd3 on xn1 xn2 rl7 q3
      have hqq : (qa == qa) = true := by simp
      by_cases hC0 : C.length = 0
      · have kC : decide (0 < C.length) = false := dfalse (by omega)
        have hqg : qa = gr := E3 hC0
        subst hqg
        clear E1 E2 E3 hC0
        go_wp2_with fail
        refine known18_any.mono ?_
        rintro e w9 ⟨rfl, x9⟩
        go_wp2_with fail
        go_ret
        exact ⟨rfl, ext_trans xw8 x9⟩
      · have kC : decide (0 < C.length) = true := dtrue (by omega)
        clear E1 E2 E3
        go_wp2_with fail
        refine known18_any.mono ?_
        rintro e w9 ⟨rfl, x9⟩
        go_wp2_with fail
        go_ret
        exact ⟨rfl, ext_trans xw8 x9⟩
  · go_wp2_with fail
    have x4 : Ext w (w3.alloc (.cells #[.int .i64 0, .slice none 0 0, .slice none 0 0, .bool true, .string ⟨#[]⟩, .int .i64 15, .bool gr] 46)) := x3.alloc _
    have B4 := Blk.new w3 46 #[.int .i64 0, .slice none 0 0, .slice none 0 0, .bool true, .string ⟨#[]⟩, .int .i64 15, .bool gr]
    generalize (w3.alloc (.cells #[.int .i64 0, .slice none 0 0, .slice none 0 0, .bool true, .string ⟨#[]⟩, .int .i64 15, .bool gr] 46)) = w4 at *
    go_cut [0, 1, 2, 3, 4, 5, 12, 13, 14] (fun s0 s1 s2 s3 s4 s5 s12 s13 s14 wx => s0 = .slice A0 C.length c0 ∧ s1 = .slice A1 D.length c1 ∧ s2 = .slice Aw W.length cw ∧ s3 = .slice At T.length ct ∧ s4 = sv ty ∧ s5 = .int .i64 right ∧ s12 = .bool false ∧ s13 = .pointer (some ⟨w3.heap.size, 0, none⟩) ∧ OwnR rcell 7 wx 46 s14 (C ++ [al]) ∧ Fresh w4.heap.size s14 ∧ Ext w4 wx)
    case first =>
      have hc : ∀ wx, Ext w4 wx → wx.cell? ⟨w3.heap.size, 0, none⟩ = some (.int .i64 0) ∧ wx.cell? ⟨w3.heap.size, 1, none⟩ = some (.slice none 0 0) ∧ wx.cell? ⟨w3.heap.size, 2, none⟩ = some (.slice none 0 0) ∧ wx.cell? ⟨w3.heap.size, 3, none⟩ = some (.bool true) ∧ wx.cell? ⟨w3.heap.size, 4, none⟩ = some (.string ⟨#[]⟩) ∧ wx.cell? ⟨w3.heap.size, 5, none⟩ = some (.int .i64 15) ∧ wx.cell? ⟨w3.heap.size, 6, none⟩ = some (.bool gr) := fun wx hx => blk7 (B4.mod hx (fun h => h))
      have q0 : Ext w4 w4.drew := (Mod.refl _ w4).drew
      have hRC := fun (wx : World) (hx : Ext w4 wx) => (h0.1.ext (ext_trans x4 hx))
      have oA := OwnR.empty rcell 7 w4.drew 46
      have fA := fresh_new w4.drew 0 0
      have oB := (OwnR.empty rcell 7 w4.drew 46).alloc (.cells #[.int .i64 0, .slice none 0 0, .slice none 0 0, .bool true, .string ⟨#[]⟩, .int .i64 15, .bool gr] 46)
      have oC := OwnR.empty rcell 7 (w4.drew.alloc (.cells #[.int .i64 0, .slice none 0 0, .slice none 0 0, .bool true, .string ⟨#[]⟩, .int .i64 15, .bool gr] 46)) 46
      have eX := Rc.lit1 rcell_len w4.drew 46 al
      have eB := Rc.lit1 rcell_len (w4.drew.alloc (.cells #[] 46)) 46 al
      rw [hae] at eX eB
      replace hae := Lib.hid hae
      replace hne := Lib.hid hne
      have zE : (w4.drew.alloc (.cells #[] 46)).heap.size = w4.drew.heap.size + 1 := by simp
      have zX : (w4.drew.alloc (.cells #[.int .i64 0, .slice none 0 0, .slice none 0 0, .bool true, .string ⟨#[]⟩, .int .i64 15, .bool gr] 46)).heap.size = w4.drew.heap.size + 1 := by simp
      rw [zE] at eB
      rw [zX] at oC
      clear zE zX
      have fC : Fresh w4.drew.heap.size (.slice (some ⟨w4.drew.heap.size + 1, 0, none⟩) 0 0) := fun k hk => by have : w4.drew.heap.size + 1 = k := Option.some.inj hk; omega
      have qE : Ext w4 (w4.drew.alloc (.cells #[] 46)) := q0.alloc _
      have qX : Ext w4 (w4.drew.alloc (.cells #[.int .i64 0, .slice none 0 0, .slice none 0 0, .bool true, .string ⟨#[]⟩, .int .i64 15, .bool gr] 46)) := q0.alloc _
      have qEX : Ext w4 ((w4.drew.alloc (.cells #[] 46)).alloc (.cells #[.int .i64 0, .slice none 0 0, .slice none 0 0, .bool true, .string ⟨#[]⟩, .int .i64 15, .bool gr] 46)) := qE.alloc _
      have qXE : Ext w4 ((w4.drew.alloc (.cells #[.int .i64 0, .slice none 0 0, .slice none 0 0, .bool true, .string ⟨#[]⟩, .int .i64 15, .bool gr] 46)).alloc (.cells #[] 46)) := qX.alloc _
      have rA := hRC _ qE
      have rB := hRC _ qEX
      have rC := hRC _ qXE
      replace okC := Lib.hid okC
      replace okA := Lib.hid okA
      go_region_held3 (fun w' => w'.cell? ⟨w3.heap.size, 0, none⟩ = some (.int .i64 0) ∧ w'.cell? ⟨w3.heap.size, 1, none⟩ = some (.slice none 0 0) ∧ w'.cell? ⟨w3.heap.size, 2, none⟩ = some (.slice none 0 0) ∧ w'.cell? ⟨w3.heap.size, 3, none⟩ = some (.bool true) ∧ w'.cell? ⟨w3.heap.size, 4, none⟩ = some (.string ⟨#[]⟩) ∧ w'.cell? ⟨w3.heap.size, 5, none⟩ = some (.int .i64 15) ∧ w'.cell? ⟨w3.heap.size, 6, none⟩ = some (.bool gr)) (first | exact hc _ q0 | exact hc _ (q0.alloc _) | exact hc _ ((q0.alloc _).alloc _) | exact hc _ q1 | exact hc _ (q1.alloc _) | exact hc _ q2) (first
        | (refine step_appRs 59 tyR oA rA okC.out n1.out rfl rfl (.tmp 57) (.tmp 58) rfl rfl rfl ?_; intro va wa ka1 ka2 ka3; have q1 := ext_app0 qE fA ka2; have ga := ka3.fresh fA qE.size; have eA := Rc.lit1 rcell_len wa 46 al; rw [hae.out] at eA)
        | (refine step_appRs 59 tyR oB rB okC.out n1.out rfl rfl (.tmp 57) (.tmp 58) rfl rfl rfl ?_; intro vb wb kb1 kb2 kb3; have q1 := ext_app0 qEX fA kb2; have gb := kb3.fresh fA qEX.size; have eB2 := eB.mod kb2 (fun b _ hb hF => by have h1 : w4.drew.heap.size = b := Option.some.inj hF; omega))
        | (refine step_appRs 59 tyR oC rC okC.out n1.out rfl rfl (.tmp 57) (.tmp 58) rfl rfl rfl ?_; intro vc wc kc1 kc2 kc3; have q1 := ext_app0 qXE fC kc2; have gc := kc3.fresh fC qXE.size; have eC2 := (eX.ext ((Mod.refl _ (w4.drew.alloc (.cells #[.int .i64 0, .slice none 0 0, .slice none 0 0, .bool true, .string ⟨#[]⟩, .int .i64 15, .bool gr] 46))).alloc _)).mod kc2 (fun b _ hb hF => by have h1 : w4.drew.heap.size + 1 = b := Option.some.inj hF; omega))
        | (refine step_appRs 62 tyR (ka1.alloc _) eA okA.out n2.out rfl rfl (.tmp 59) (.tmp 61) rfl rfl rfl ?_; intro vd wd kd1 kd2 kd3; have q2 := ext_app0 (q1.alloc _) ga kd2; have gd := kd3.fresh ga (q1.alloc _).size)
        | (refine step_appRs 62 tyR kb1 eB2 okA.out n2.out rfl rfl (.tmp 59) (.tmp 61) rfl rfl rfl ?_; intro vd wd kd1 kd2 kd3; have q2 := ext_app0 q1 gb kd2; have gd := kd3.fresh gb q1.size)
        | (refine step_appRs 62 tyR kc1 eC2 okA.out n2.out rfl rfl (.tmp 59) (.tmp 61) rfl rfl rfl ?_; intro vd wd kd1 kd2 kd3; have q2 := ext_app0 q1 gc kd2; have gd := kd3.fresh gc q1.size))
      all_goals go_wp2_with fail
      all_goals go_meet
      all_goals exact ⟨rfl, rfl, rfl, rfl, rfl, rfl, rfl, rfl, kd1, gd, q2⟩
    case rest =>
      obtain ⟨rfl, rfl, rfl, rfl, rfl, rfl, rfl, rfl, o1, f14, x5⟩ := hcut
      obtain ⟨s14, hs14⟩ : ∃ s14, s14 = u14 := ⟨_, rfl⟩
      subst hs14
      have B5 := B4.mod x5 (fun h => h)
      have xw := ext_trans x4 x5
      clear B4
      have hmay : ∀ (wx : World) (v : Value) (L : List LRul), Ext w wx → Rl wx (fun b => b < wx.heap.size) v L → (∀ c ∈ L, RFits c.1) → L.length ≤ 1000 → Calls Try.prog 41 #[v, .slice none 0 0, .slice Aw W.length cw, .slice At T.length ct, sv ty, .int .i64 right] wx fun e w' => e = .returned (.bool (firstR W T ty right (L.map (·.1)))) ∧ Ext wx w' := by
        intro wx v L hx hL hfL hll
        have := may_any hL hfL (by omega) (Rc.nil avc 2 wx (fun b => b < wx.heap.size)) (Rc.there hW hx) (Rc.there hT hx) fz fW fT hty hr1 hr2
        rwa [mayR_none] at this
      have fL : ∀ c ∈ C ++ [al], RFits c.1 := fun c hc => (List.mem_append.1 hc).elim (f0 c) (fun h => by simp at h; subst h; exact FA)
      have RL : ∀ wx, Ext wc wx → Rl wx (fun b => b < wx.heap.size) s14 (C ++ [al]) := fun wx hx => ⟨Rc.there o1.rc hx, fun c hc => (List.mem_append.1 hc).elim (fun h => (there wx _ C h0 (ext_trans xw hx)).2 c h) (fun h => by simp at h; subst h; exact LA _ _)⟩
      have r1 := hmay wc s14 (C ++ [al]) xw (RL wc (Mod.refl _ _)) fL (by simp; omega)
      generalize hqa : firstR W T ty right ((C ++ [al]).map (·.1)) = qa at *
      replace hqa := Lib.hid hqa
      replace okL := Lib.hid okL
      replace okD := Lib.hid okD
      replace okN := Lib.hid okN
      replace hgr := Lib.hid hgr
      go_wp2_with fail
      refine r1.mono ?_
      rintro e w6 ⟨rfl, x6⟩
      have B6 := B5.mod x6 (fun h => h)
      have xc6 : Ext wc w6 := x6
      have xw6 := ext_trans xw x6
      clear B5 r1
      have oe := OwnR.empty rcell 7 w6 46
      have fe := fresh_new w6 0 0
      have xe : Ext w6 (w6.alloc (.cells #[] 46)) := (Mod.refl _ w6).alloc _
      have rl6 := (RL _ (ext_trans xc6 xe)).1
      go_wp2_with (first
        | ((with_reducible show wpList _ _ _ (⟨some 71, _, _, _, _, _⟩ :: _) _ _); refine wp_appRm tyR oe rl6 okL.out n3.out rfl (.tmp 69) (.tmp 70) rfl rfl rfl ?_; intro va wa ka1 ka2 ka3; have q1 : Ext w6 wa := ext_app0 xe fe ka2; have ga : Fresh w6.heap.size va := ka3.fresh fe xe.size; have rd := h1.1.ext (ext_trans xw6 q1))
        | ((with_reducible show wpList _ _ _ (⟨some 73, _, _, _, _, _⟩ :: _) _ _); refine wp_appRm tyR ka1 rd okD.out n4.out rfl (.tmp 71) (.tmp 72) rfl rfl rfl ?_; intro vb wb kb1 kb2 kb3; have q2 : Ext w6 wb := ext_app0 q1 ga kb2))
      have xwb := ext_trans xw6 q2
      have r2 := hmay wb vb (C ++ [al] ++ D) xwb ⟨Rc.there kb1.rc (Mod.refl _ _), fun c hc => (List.mem_append.1 hc).elim (fun h => (RL wb (ext_trans xc6 q2)).2 c h) (fun h => (there wb _ D h1 xwb).2 c h)⟩ (fun c hc => (List.mem_append.1 hc).elim (fL c) (f1 c)) (by simp; omega)
      rw [E1] at r2
      refine r2.mono ?_
      rintro e w7 ⟨rfl, x7⟩
      have B7 := (B6.mod q2 (fun h => h)).mod x7 (fun h => h)
      have xc7 := ext_trans (ext_trans xc6 q2) x7
      have xw7 := ext_trans xwb x7
      clear B6 r2 ka1 ka2 ka3 kb1 kb2 kb3 oe fe xe rl6 rd q1 q2 ga
      have xn1 : Ext w7 (w7.alloc (.cells #[.int .i64 3, .slice none 0 0, .slice none 0 0, .bool false, .string ⟨#[]⟩, .int .i64 16, .bool false] 46)) := (Mod.refl _ w7).alloc _
      have on := OwnR.lit1 rcell_len (w7.alloc (.cells #[.int .i64 3, .slice none 0 0, .slice none 0 0, .bool false, .string ⟨#[]⟩, .int .i64 16, .bool false] 46)) 46 no
      have xn2 : Ext w7 ((w7.alloc (.cells #[.int .i64 3, .slice none 0 0, .slice none 0 0, .bool false, .string ⟨#[]⟩, .int .i64 16, .bool false] 46)).alloc (.cells #[.int .i64 3, .slice none 0 0, .slice none 0 0, .bool false, .string ⟨#[]⟩, .int .i64 16, .bool false] 46)) := xn1.alloc _
      rw [hne] at on
      have zn : (w7.alloc (.cells #[.int .i64 3, .slice none 0 0, .slice none 0 0, .bool false, .string ⟨#[]⟩, .int .i64 16, .bool false] 46)).heap.size = w7.heap.size + 1 := by simp
      rw [zn] at on
      clear zn
      replace hne := Lib.hid hne
      have fn : Fresh w7.heap.size (.slice (some ⟨w7.heap.size + 1, 0, none⟩) 1 1) := fun k hk => by have : w7.heap.size + 1 = k := Option.some.inj hk; omega
      have rl7 := (RL _ (ext_trans xc7 xn2)).1
      go_wp2_with ((with_reducible show wpList _ _ _ (⟨some 83, _, _, _, _, _⟩ :: _) _ _); refine wp_appRm tyR on rl7 okL.out n5.out rfl (.tmp 81) (.tmp 82) rfl rfl rfl ?_; intro vd wd kd1 kd2 kd3; have q3 : Ext w7 wd := ext_app0 xn2 fn kd2)
      have xwd := ext_trans xw7 q3
      have r3 := hmay wd vd ([no] ++ (C ++ [al])) xwd ⟨Rc.there kd1.rc (Mod.refl _ _), fun c hc => (List.mem_append.1 hc).elim (fun h => by simp at h; subst h; exact LN _ _) (fun h => (RL wd (ext_trans xc7 q3)).2 c h)⟩ (fun c hc => (List.mem_append.1 hc).elim (fun h => by simp at h; subst h; exact FN) (fL c)) (by simp; omega)
      rw [E2] at r3
      refine r3.mono ?_
      rintro e w8 ⟨rfl, x8⟩
      have B8 := (B7.mod q3 (fun h => h)).mod x8 (fun h => h)
      have xw8 := ext_trans xwd x8
      have c8 := (blk7 B8).2.2.2.2.2.2
      clear B7 r3 kd1 kd2 kd3 on xn1 xn2 rl7 q3
      have hqq : (qa == qa) = true := by simp
      by_cases hC0 : C.length = 0
      · have kC : decide (0 < C.length) = false := dfalse (by omega)
        have hqg : qa = gr := E3 hC0
        subst hqg
        clear E1 E2 E3 hC0
        go_wp2_with fail
        refine known18_any.mono ?_
        rintro e w9 ⟨rfl, x9⟩
        go_wp2_with fail
        go_ret
        exact ⟨rfl, ext_trans xw8 x9⟩
      · have kC : decide (0 < C.length) = true := dtrue (by omega)
        clear E1 E2 E3
        go_wp2_with fail
        refine known18_any.mono ?_
        rintro e w9 ⟨rfl, x9⟩
        go_wp2_with fail
        go_ret
        exact ⟨rfl, ext_trans xw8 x9⟩
  · go_wp2_with fail
    have x4 : Ext w (w3.alloc (.cells #[.int .i64 0, .slice none 0 0, .slice none 0 0, .bool true, .string ⟨#[]⟩, .int .i64 15, .bool gr] 46)) := x3.alloc _
    have B4 := Blk.new w3 46 #[.int .i64 0, .slice none 0 0, .slice none 0 0, .bool true, .string ⟨#[]⟩, .int .i64 15, .bool gr]
    generalize (w3.alloc (.cells #[.int .i64 0, .slice none 0 0, .slice none 0 0, .bool true, .string ⟨#[]⟩, .int .i64 15, .bool gr] 46)) = w4 at *
    go_cut [0, 1, 2, 3, 4, 5, 12, 13, 14] (fun s0 s1 s2 s3 s4 s5 s12 s13 s14 wx => s0 = .slice A0 C.length c0 ∧ s1 = .slice A1 D.length c1 ∧ s2 = .slice Aw W.length cw ∧ s3 = .slice At T.length ct ∧ s4 = sv ty ∧ s5 = .int .i64 right ∧ s12 = .bool false ∧ s13 = .pointer (some ⟨w3.heap.size, 0, none⟩) ∧ OwnR rcell 7 wx 46 s14 (C ++ [al]) ∧ Fresh w4.heap.size s14 ∧ Ext w4 wx)
    case first =>
      have hc : ∀ wx, Ext w4 wx → wx.cell? ⟨w3.heap.size, 0, none⟩ = some (.int .i64 0) ∧ wx.cell? ⟨w3.heap.size, 1, none⟩ = some (.slice none 0 0) ∧ wx.cell? ⟨w3.heap.size, 2, none⟩ = some (.slice none 0 0) ∧ wx.cell? ⟨w3.heap.size, 3, none⟩ = some (.bool true) ∧ wx.cell? ⟨w3.heap.size, 4, none⟩ = some (.string ⟨#[]⟩) ∧ wx.cell? ⟨w3.heap.size, 5, none⟩ = some (.int .i64 15) ∧ wx.cell? ⟨w3.heap.size, 6, none⟩ = some (.bool gr) := fun wx hx => blk7 (B4.mod hx (fun h => h))
      have q0 : Ext w4 w4.drew := (Mod.refl _ w4).drew
      have hRC := fun (wx : World) (hx : Ext w4 wx) => (h0.1.ext (ext_trans x4 hx))
      have oA := OwnR.empty rcell 7 w4.drew 46
      have fA := fresh_new w4.drew 0 0
      have oB := (OwnR.empty rcell 7 w4.drew 46).alloc (.cells #[.int .i64 0, .slice none 0 0, .slice none 0 0, .bool true, .string ⟨#[]⟩, .int .i64 15, .bool gr] 46)
      have oC := OwnR.empty rcell 7 (w4.drew.alloc (.cells #[.int .i64 0, .slice none 0 0, .slice none 0 0, .bool true, .string ⟨#[]⟩, .int .i64 15, .bool gr] 46)) 46
      have eX := Rc.lit1 rcell_len w4.drew 46 al
      have eB := Rc.lit1 rcell_len (w4.drew.alloc (.cells #[] 46)) 46 al
      rw [hae] at eX eB
      replace hae := Lib.hid hae
      replace hne := Lib.hid hne
      have zE : (w4.drew.alloc (.cells #[] 46)).heap.size = w4.drew.heap.size + 1 := by simp
      have zX : (w4.drew.alloc (.cells #[.int .i64 0, .slice none 0 0, .slice none 0 0, .bool true, .string ⟨#[]⟩, .int .i64 15, .bool gr] 46)).heap.size = w4.drew.heap.size + 1 := by simp
      rw [zE] at eB
      rw [zX] at oC
      clear zE zX
      have fC : Fresh w4.drew.heap.size (.slice (some ⟨w4.drew.heap.size + 1, 0, none⟩) 0 0) := fun k hk => by have : w4.drew.heap.size + 1 = k := Option.some.inj hk; omega
      have qE : Ext w4 (w4.drew.alloc (.cells #[] 46)) := q0.alloc _
      have qX : Ext w4 (w4.drew.alloc (.cells #[.int .i64 0, .slice none 0 0, .slice none 0 0, .bool true, .string ⟨#[]⟩, .int .i64 15, .bool gr] 46)) := q0.alloc _
      have qEX : Ext w4 ((w4.drew.alloc (.cells #[] 46)).alloc (.cells #[.int .i64 0, .slice none 0 0, .slice none 0 0, .bool true, .string ⟨#[]⟩, .int .i64 15, .bool gr] 46)) := qE.alloc _
      have qXE : Ext w4 ((w4.drew.alloc (.cells #[.int .i64 0, .slice none 0 0, .slice none 0 0, .bool true, .string ⟨#[]⟩, .int .i64 15, .bool gr] 46)).alloc (.cells #[] 46)) := qX.alloc _
      have rA := hRC _ qE
      have rB := hRC _ qEX
      have rC := hRC _ qXE
      replace okC := Lib.hid okC
      replace okA := Lib.hid okA
      go_region_held3 (fun w' => w'.cell? ⟨w3.heap.size, 0, none⟩ = some (.int .i64 0) ∧ w'.cell? ⟨w3.heap.size, 1, none⟩ = some (.slice none 0 0) ∧ w'.cell? ⟨w3.heap.size, 2, none⟩ = some (.slice none 0 0) ∧ w'.cell? ⟨w3.heap.size, 3, none⟩ = some (.bool true) ∧ w'.cell? ⟨w3.heap.size, 4, none⟩ = some (.string ⟨#[]⟩) ∧ w'.cell? ⟨w3.heap.size, 5, none⟩ = some (.int .i64 15) ∧ w'.cell? ⟨w3.heap.size, 6, none⟩ = some (.bool gr)) (first | exact hc _ q0 | exact hc _ (q0.alloc _) | exact hc _ ((q0.alloc _).alloc _) | exact hc _ q1 | exact hc _ (q1.alloc _) | exact hc _ q2) (first
        | (refine step_appRs 59 tyR oA rA okC.out n1.out rfl rfl (.tmp 57) (.tmp 58) rfl rfl rfl ?_; intro va wa ka1 ka2 ka3; have q1 := ext_app0 qE fA ka2; have ga := ka3.fresh fA qE.size; have eA := Rc.lit1 rcell_len wa 46 al; rw [hae.out] at eA)
        | (refine step_appRs 59 tyR oB rB okC.out n1.out rfl rfl (.tmp 57) (.tmp 58) rfl rfl rfl ?_; intro vb wb kb1 kb2 kb3; have q1 := ext_app0 qEX fA kb2; have gb := kb3.fresh fA qEX.size; have eB2 := eB.mod kb2 (fun b _ hb hF => by have h1 : w4.drew.heap.size = b := Option.some.inj hF; omega))
        | (refine step_appRs 59 tyR oC rC okC.out n1.out rfl rfl (.tmp 57) (.tmp 58) rfl rfl rfl ?_; intro vc wc kc1 kc2 kc3; have q1 := ext_app0 qXE fC kc2; have gc := kc3.fresh fC qXE.size; have eC2 := (eX.ext ((Mod.refl _ (w4.drew.alloc (.cells #[.int .i64 0, .slice none 0 0, .slice none 0 0, .bool true, .string ⟨#[]⟩, .int .i64 15, .bool gr] 46))).alloc _)).mod kc2 (fun b _ hb hF => by have h1 : w4.drew.heap.size + 1 = b := Option.some.inj hF; omega))
        | (refine step_appRs 62 tyR (ka1.alloc _) eA okA.out n2.out rfl rfl (.tmp 59) (.tmp 61) rfl rfl rfl ?_; intro vd wd kd1 kd2 kd3; have q2 := ext_app0 (q1.alloc _) ga kd2; have gd := kd3.fresh ga (q1.alloc _).size)
        | (refine step_appRs 62 tyR kb1 eB2 okA.out n2.out rfl rfl (.tmp 59) (.tmp 61) rfl rfl rfl ?_; intro vd wd kd1 kd2 kd3; have q2 := ext_app0 q1 gb kd2; have gd := kd3.fresh gb q1.size)
        | (refine step_appRs 62 tyR kc1 eC2 okA.out n2.out rfl rfl (.tmp 59) (.tmp 61) rfl rfl rfl ?_; intro vd wd kd1 kd2 kd3; have q2 := ext_app0 q1 gc kd2; have gd := kd3.fresh gc q1.size))
      all_goals go_wp2_with fail
      all_goals go_meet
      all_goals exact ⟨rfl, rfl, rfl, rfl, rfl, rfl, rfl, rfl, kd1, gd, q2⟩
    case rest =>
      obtain ⟨rfl, rfl, rfl, rfl, rfl, rfl, rfl, rfl, o1, f14, x5⟩ := hcut
      obtain ⟨s14, hs14⟩ : ∃ s14, s14 = u14 := ⟨_, rfl⟩
      subst hs14
      have B5 := B4.mod x5 (fun h => h)
      have xw := ext_trans x4 x5
      clear B4
      have hmay : ∀ (wx : World) (v : Value) (L : List LRul), Ext w wx → Rl wx (fun b => b < wx.heap.size) v L → (∀ c ∈ L, RFits c.1) → L.length ≤ 1000 → Calls Try.prog 41 #[v, .slice none 0 0, .slice Aw W.length cw, .slice At T.length ct, sv ty, .int .i64 right] wx fun e w' => e = .returned (.bool (firstR W T ty right (L.map (·.1)))) ∧ Ext wx w' := by
        intro wx v L hx hL hfL hll
        have := may_any hL hfL (by omega) (Rc.nil avc 2 wx (fun b => b < wx.heap.size)) (Rc.there hW hx) (Rc.there hT hx) fz fW fT hty hr1 hr2
        rwa [mayR_none] at this
      have fL : ∀ c ∈ C ++ [al], RFits c.1 := fun c hc => (List.mem_append.1 hc).elim (f0 c) (fun h => by simp at h; subst h; exact FA)
      have RL : ∀ wx, Ext wc wx → Rl wx (fun b => b < wx.heap.size) s14 (C ++ [al]) := fun wx hx => ⟨Rc.there o1.rc hx, fun c hc => (List.mem_append.1 hc).elim (fun h => (there wx _ C h0 (ext_trans xw hx)).2 c h) (fun h => by simp at h; subst h; exact LA _ _)⟩
      have r1 := hmay wc s14 (C ++ [al]) xw (RL wc (Mod.refl _ _)) fL (by simp; omega)
      generalize hqa : firstR W T ty right ((C ++ [al]).map (·.1)) = qa at *
      replace hqa := Lib.hid hqa
      replace okL := Lib.hid okL
      replace okD := Lib.hid okD
      replace okN := Lib.hid okN
      replace hgr := Lib.hid hgr
      go_wp2_with fail
      refine r1.mono ?_
      rintro e w6 ⟨rfl, x6⟩
      have B6 := B5.mod x6 (fun h => h)
      have xc6 : Ext wc w6 := x6
      have xw6 := ext_trans xw x6
      clear B5 r1
      have oe := OwnR.empty rcell 7 w6 46
      have fe := fresh_new w6 0 0
      have xe : Ext w6 (w6.alloc (.cells #[] 46)) := (Mod.refl _ w6).alloc _
      have rl6 := (RL _ (ext_trans xc6 xe)).1
      go_wp2_with (first
        | ((with_reducible show wpList _ _ _ (⟨some 71, _, _, _, _, _⟩ :: _) _ _); refine wp_appRm tyR oe rl6 okL.out n3.out rfl (.tmp 69) (.tmp 70) rfl rfl rfl ?_; intro va wa ka1 ka2 ka3; have q1 : Ext w6 wa := ext_app0 xe fe ka2; have ga : Fresh w6.heap.size va := ka3.fresh fe xe.size; have rd := h1.1.ext (ext_trans xw6 q1))
        | ((with_reducible show wpList _ _ _ (⟨some 73, _, _, _, _, _⟩ :: _) _ _); refine wp_appRm tyR ka1 rd okD.out n4.out rfl (.tmp 71) (.tmp 72) rfl rfl rfl ?_; intro vb wb kb1 kb2 kb3; have q2 : Ext w6 wb := ext_app0 q1 ga kb2))
      have xwb := ext_trans xw6 q2
      have r2 := hmay wb vb (C ++ [al] ++ D) xwb ⟨Rc.there kb1.rc (Mod.refl _ _), fun c hc => (List.mem_append.1 hc).elim (fun h => (RL wb (ext_trans xc6 q2)).2 c h) (fun h => (there wb _ D h1 xwb).2 c h)⟩ (fun c hc => (List.mem_append.1 hc).elim (fL c) (f1 c)) (by simp; omega)
      rw [E1] at r2
      refine r2.mono ?_
      rintro e w7 ⟨rfl, x7⟩
      have B7 := (B6.mod q2 (fun h => h)).mod x7 (fun h => h)
      have xc7 := ext_trans (ext_trans xc6 q2) x7
      have xw7 := ext_trans xwb x7
      clear B6 r2 ka1 ka2 ka3 kb1 kb2 kb3 oe fe xe rl6 rd q1 q2 ga
      have xn1 : Ext w7 (w7.alloc (.cells #[.int .i64 3, .slice none 0 0, .slice none 0 0, .bool false, .string ⟨#[]⟩, .int .i64 16, .bool false] 46)) := (Mod.refl _ w7).alloc _
      have on := OwnR.lit1 rcell_len (w7.alloc (.cells #[.int .i64 3, .slice none 0 0, .slice none 0 0, .bool false, .string ⟨#[]⟩, .int .i64 16, .bool false] 46)) 46 no
      have xn2 : Ext w7 ((w7.alloc (.cells #[.int .i64 3, .slice none 0 0, .slice none 0 0, .bool false, .string ⟨#[]⟩, .int .i64 16, .bool false] 46)).alloc (.cells #[.int .i64 3, .slice none 0 0, .slice none 0 0, .bool false, .string ⟨#[]⟩, .int .i64 16, .bool false] 46)) := xn1.alloc _
      rw [hne] at on
      have zn : (w7.alloc (.cells #[.int .i64 3, .slice none 0 0, .slice none 0 0, .bool false, .string ⟨#[]⟩, .int .i64 16, .bool false] 46)).heap.size = w7.heap.size + 1 := by simp
      rw [zn] at on
      clear zn
      replace hne := Lib.hid hne
      have fn : Fresh w7.heap.size (.slice (some ⟨w7.heap.size + 1, 0, none⟩) 1 1) := fun k hk => by have : w7.heap.size + 1 = k := Option.some.inj hk; omega
      have rl7 := (RL _ (ext_trans xc7 xn2)).1
      go_wp2_with ((with_reducible show wpList _ _ _ (⟨some 83, _, _, _, _, _⟩ :: _) _ _); refine wp_appRm tyR on rl7 okL.out n5.out rfl (.tmp 81) (.tmp 82) rfl rfl rfl ?_; intro vd wd kd1 kd2 kd3; have q3 : Ext w7 wd := ext_app0 xn2 fn kd2)
      have xwd := ext_trans xw7 q3
      have r3 := hmay wd vd ([no] ++ (C ++ [al])) xwd ⟨Rc.there kd1.rc (Mod.refl _ _), fun c hc => (List.mem_append.1 hc).elim (fun h => by simp at h; subst h; exact LN _ _) (fun h => (RL wd (ext_trans xc7 q3)).2 c h)⟩ (fun c hc => (List.mem_append.1 hc).elim (fun h => by simp at h; subst h; exact FN) (fL c)) (by simp; omega)
      rw [E2] at r3
      refine r3.mono ?_
      rintro e w8 ⟨rfl, x8⟩
      have B8 := (B7.mod q3 (fun h => h)).mod x8 (fun h => h)
      have xw8 := ext_trans xwd x8
      have c8 := (blk7 B8).2.2.2.2.2.2
      clear B7 r3 kd1 kd2 kd3 on xn1 xn2 rl7 q3
      have hqq : (qa == qa) = true := by simp
      by_cases hC0 : C.length = 0
      · have kC : decide (0 < C.length) = false := dfalse (by omega)
        have hqg : qa = gr := E3 hC0
        subst hqg
        clear E1 E2 E3 hC0
        go_wp2_with fail
        refine known18_any.mono ?_
        rintro e w9 ⟨rfl, x9⟩
        go_wp2_with fail
        go_ret
        exact ⟨rfl, ext_trans xw8 x9⟩
      · have kC : decide (0 < C.length) = true := dtrue (by omega)
        clear E1 E2 E3
        go_wp2_with fail
        refine known18_any.mono ?_
        rintro e w9 ⟨rfl, x9⟩
        go_wp2_with fail
        go_ret
        exact ⟨rfl, ext_trans xw8 x9⟩
  · go_wp2_with fail
    have x4 : Ext w (w3.alloc (.cells #[.int .i64 0, .slice none 0 0, .slice none 0 0, .bool true, .string ⟨#[]⟩, .int .i64 15, .bool gr] 46)) := x3.alloc _
    have B4 := Blk.new w3 46 #[.int .i64 0, .slice none 0 0, .slice none 0 0, .bool true, .string ⟨#[]⟩, .int .i64 15, .bool gr]
    generalize (w3.alloc (.cells #[.int .i64 0, .slice none 0 0, .slice none 0 0, .bool true, .string ⟨#[]⟩, .int .i64 15, .bool gr] 46)) = w4 at *
    go_cut [0, 1, 2, 3, 4, 5, 12, 13, 14] (fun s0 s1 s2 s3 s4 s5 s12 s13 s14 wx => s0 = .slice A0 C.length c0 ∧ s1 = .slice A1 D.length c1 ∧ s2 = .slice Aw W.length cw ∧ s3 = .slice At T.length ct ∧ s4 = sv ty ∧ s5 = .int .i64 right ∧ s12 = .bool false ∧ s13 = .pointer (some ⟨w3.heap.size, 0, none⟩) ∧ OwnR rcell 7 wx 46 s14 (C ++ [al]) ∧ Fresh w4.heap.size s14 ∧ Ext w4 wx)
    case first =>
      have hc : ∀ wx, Ext w4 wx → wx.cell? ⟨w3.heap.size, 0, none⟩ = some (.int .i64 0) ∧ wx.cell? ⟨w3.heap.size, 1, none⟩ = some (.slice none 0 0) ∧ wx.cell? ⟨w3.heap.size, 2, none⟩ = some (.slice none 0 0) ∧ wx.cell? ⟨w3.heap.size, 3, none⟩ = some (.bool true) ∧ wx.cell? ⟨w3.heap.size, 4, none⟩ = some (.string ⟨#[]⟩) ∧ wx.cell? ⟨w3.heap.size, 5, none⟩ = some (.int .i64 15) ∧ wx.cell? ⟨w3.heap.size, 6, none⟩ = some (.bool gr) := fun wx hx => blk7 (B4.mod hx (fun h => h))
      have q0 : Ext w4 w4.drew := (Mod.refl _ w4).drew
      have hRC := fun (wx : World) (hx : Ext w4 wx) => (h0.1.ext (ext_trans x4 hx))
      have oA := OwnR.empty rcell 7 w4.drew 46
      have fA := fresh_new w4.drew 0 0
      have oB := (OwnR.empty rcell 7 w4.drew 46).alloc (.cells #[.int .i64 0, .slice none 0 0, .slice none 0 0, .bool true, .string ⟨#[]⟩, .int .i64 15, .bool gr] 46)
      have oC := OwnR.empty rcell 7 (w4.drew.alloc (.cells #[.int .i64 0, .slice none 0 0, .slice none 0 0, .bool true, .string ⟨#[]⟩, .int .i64 15, .bool gr] 46)) 46
      have eX := Rc.lit1 rcell_len w4.drew 46 al
      have eB := Rc.lit1 rcell_len (w4.drew.alloc (.cells #[] 46)) 46 al
      rw [hae] at eX eB
      replace hae := Lib.hid hae
      replace hne := Lib.hid hne
      have zE : (w4.drew.alloc (.cells #[] 46)).heap.size = w4.drew.heap.size + 1 := by simp
      have zX : (w4.drew.alloc (.cells #[.int .i64 0, .slice none 0 0, .slice none 0 0, .bool true, .string ⟨#[]⟩, .int .i64 15, .bool gr] 46)).heap.size = w4.drew.heap.size + 1 := by simp
      rw [zE] at eB
      rw [zX] at oC
      clear zE zX
      have fC : Fresh w4.drew.heap.size (.slice (some ⟨w4.drew.heap.size + 1, 0, none⟩) 0 0) := fun k hk => by have : w4.drew.heap.size + 1 = k := Option.some.inj hk; omega
      have qE : Ext w4 (w4.drew.alloc (.cells #[] 46)) := q0.alloc _
      have qX : Ext w4 (w4.drew.alloc (.cells #[.int .i64 0, .slice none 0 0, .slice none 0 0, .bool true, .string ⟨#[]⟩, .int .i64 15, .bool gr] 46)) := q0.alloc _
      have qEX : Ext w4 ((w4.drew.alloc (.cells #[] 46)).alloc (.cells #[.int .i64 0, .slice none 0 0, .slice none 0 0, .bool true, .string ⟨#[]⟩, .int .i64 15, .bool gr] 46)) := qE.alloc _
      have qXE : Ext w4 ((w4.drew.alloc (.cells #[.int .i64 0, .slice none 0 0, .slice none 0 0, .bool true, .string ⟨#[]⟩, .int .i64 15, .bool gr] 46)).alloc (.cells #[] 46)) := qX.alloc _
      have rA := hRC _ qE
      have rB := hRC _ qEX
      have rC := hRC _ qXE
      replace okC := Lib.hid okC
      replace okA := Lib.hid okA
      go_region_held3 (fun w' => w'.cell? ⟨w3.heap.size, 0, none⟩ = some (.int .i64 0) ∧ w'.cell? ⟨w3.heap.size, 1, none⟩ = some (.slice none 0 0) ∧ w'.cell? ⟨w3.heap.size, 2, none⟩ = some (.slice none 0 0) ∧ w'.cell? ⟨w3.heap.size, 3, none⟩ = some (.bool true) ∧ w'.cell? ⟨w3.heap.size, 4, none⟩ = some (.string ⟨#[]⟩) ∧ w'.cell? ⟨w3.heap.size, 5, none⟩ = some (.int .i64 15) ∧ w'.cell? ⟨w3.heap.size, 6, none⟩ = some (.bool gr)) (first | exact hc _ q0 | exact hc _ (q0.alloc _) | exact hc _ ((q0.alloc _).alloc _) | exact hc _ q1 | exact hc _ (q1.alloc _) | exact hc _ q2) (first
        | (refine step_appRs 59 tyR oA rA okC.out n1.out rfl rfl (.tmp 57) (.tmp 58) rfl rfl rfl ?_; intro va wa ka1 ka2 ka3; have q1 := ext_app0 qE fA ka2; have ga := ka3.fresh fA qE.size; have eA := Rc.lit1 rcell_len wa 46 al; rw [hae.out] at eA)
        | (refine step_appRs 59 tyR oB rB okC.out n1.out rfl rfl (.tmp 57) (.tmp 58) rfl rfl rfl ?_; intro vb wb kb1 kb2 kb3; have q1 := ext_app0 qEX fA kb2; have gb := kb3.fresh fA qEX.size; have eB2 := eB.mod kb2 (fun b _ hb hF => by have h1 : w4.drew.heap.size = b := Option.some.inj hF; omega))
        | (refine step_appRs 59 tyR oC rC okC.out n1.out rfl rfl (.tmp 57) (.tmp 58) rfl rfl rfl ?_; intro vc wc kc1 kc2 kc3; have q1 := ext_app0 qXE fC kc2; have gc := kc3.fresh fC qXE.size; have eC2 := (eX.ext ((Mod.refl _ (w4.drew.alloc (.cells #[.int .i64 0, .slice none 0 0, .slice none 0 0, .bool true, .string ⟨#[]⟩, .int .i64 15, .bool gr] 46))).alloc _)).mod kc2 (fun b _ hb hF => by have h1 : w4.drew.heap.size + 1 = b := Option.some.inj hF; omega))
        | (refine step_appRs 62 tyR (ka1.alloc _) eA okA.out n2.out rfl rfl (.tmp 59) (.tmp 61) rfl rfl rfl ?_; intro vd wd kd1 kd2 kd3; have q2 := ext_app0 (q1.alloc _) ga kd2; have gd := kd3.fresh ga (q1.alloc _).size)
        | (refine step_appRs 62 tyR kb1 eB2 okA.out n2.out rfl rfl (.tmp 59) (.tmp 61) rfl rfl rfl ?_; intro vd wd kd1 kd2 kd3; have q2 := ext_app0 q1 gb kd2; have gd := kd3.fresh gb q1.size)
        | (refine step_appRs 62 tyR kc1 eC2 okA.out n2.out rfl rfl (.tmp 59) (.tmp 61) rfl rfl rfl ?_; intro vd wd kd1 kd2 kd3; have q2 := ext_app0 q1 gc kd2; have gd := kd3.fresh gc q1.size))
      all_goals go_wp2_with fail
      all_goals go_meet
      all_goals exact ⟨rfl, rfl, rfl, rfl, rfl, rfl, rfl, rfl, kd1, gd, q2⟩
    case rest =>
      obtain ⟨rfl, rfl, rfl, rfl, rfl, rfl, rfl, rfl, o1, f14, x5⟩ := hcut
      obtain ⟨s14, hs14⟩ : ∃ s14, s14 = u14 := ⟨_, rfl⟩
      subst hs14
      have B5 := B4.mod x5 (fun h => h)
      have xw := ext_trans x4 x5
      clear B4
      have hmay : ∀ (wx : World) (v : Value) (L : List LRul), Ext w wx → Rl wx (fun b => b < wx.heap.size) v L → (∀ c ∈ L, RFits c.1) → L.length ≤ 1000 → Calls Try.prog 41 #[v, .slice none 0 0, .slice Aw W.length cw, .slice At T.length ct, sv ty, .int .i64 right] wx fun e w' => e = .returned (.bool (firstR W T ty right (L.map (·.1)))) ∧ Ext wx w' := by
        intro wx v L hx hL hfL hll
        have := may_any hL hfL (by omega) (Rc.nil avc 2 wx (fun b => b < wx.heap.size)) (Rc.there hW hx) (Rc.there hT hx) fz fW fT hty hr1 hr2
        rwa [mayR_none] at this
      have fL : ∀ c ∈ C ++ [al], RFits c.1 := fun c hc => (List.mem_append.1 hc).elim (f0 c) (fun h => by simp at h; subst h; exact FA)
      have RL : ∀ wx, Ext wc wx → Rl wx (fun b => b < wx.heap.size) s14 (C ++ [al]) := fun wx hx => ⟨Rc.there o1.rc hx, fun c hc => (List.mem_append.1 hc).elim (fun h => (there wx _ C h0 (ext_trans xw hx)).2 c h) (fun h => by simp at h; subst h; exact LA _ _)⟩
      have r1 := hmay wc s14 (C ++ [al]) xw (RL wc (Mod.refl _ _)) fL (by simp; omega)
      generalize hqa : firstR W T ty right ((C ++ [al]).map (·.1)) = qa at *
      replace hqa := Lib.hid hqa
      replace okL := Lib.hid okL
      replace okD := Lib.hid okD
      replace okN := Lib.hid okN
      replace hgr := Lib.hid hgr
      go_wp2_with fail
      refine r1.mono ?_
      rintro e w6 ⟨rfl, x6⟩
      have B6 := B5.mod x6 (fun h => h)
      have xc6 : Ext wc w6 := x6
      have xw6 := ext_trans xw x6
      clear B5 r1
      have oe := OwnR.empty rcell 7 w6 46
      have fe := fresh_new w6 0 0
      have xe : Ext w6 (w6.alloc (.cells #[] 46)) := (Mod.refl _ w6).alloc _
      have rl6 := (RL _ (ext_trans xc6 xe)).1
      go_wp2_with (first
        | ((with_reducible show wpList _ _ _ (⟨some 71, _, _, _, _, _⟩ :: _) _ _); refine wp_appRm tyR oe rl6 okL.out n3.out rfl (.tmp 69) (.tmp 70) rfl rfl rfl ?_; intro va wa ka1 ka2 ka3; have q1 : Ext w6 wa := ext_app0 xe fe ka2; have ga : Fresh w6.heap.size va := ka3.fresh fe xe.size; have rd := h1.1.ext (ext_trans xw6 q1))
        | ((with_reducible show wpList _ _ _ (⟨some 73, _, _, _, _, _⟩ :: _) _ _); refine wp_appRm tyR ka1 rd okD.out n4.out rfl (.tmp 71) (.tmp 72) rfl rfl rfl ?_; intro vb wb kb1 kb2 kb3; have q2 : Ext w6 wb := ext_app0 q1 ga kb2))
      have xwb := ext_trans xw6 q2
      have r2 := hmay wb vb (C ++ [al] ++ D) xwb ⟨Rc.there kb1.rc (Mod.refl _ _), fun c hc => (List.mem_append.1 hc).elim (fun h => (RL wb (ext_trans xc6 q2)).2 c h) (fun h => (there wb _ D h1 xwb).2 c h)⟩ (fun c hc => (List.mem_append.1 hc).elim (fL c) (f1 c)) (by simp; omega)
      rw [E1] at r2
      refine r2.mono ?_
      rintro e w7 ⟨rfl, x7⟩
      have B7 := (B6.mod q2 (fun h => h)).mod x7 (fun h => h)
      have xc7 := ext_trans (ext_trans xc6 q2) x7
      have xw7 := ext_trans xwb x7
      clear B6 r2 ka1 ka2 ka3 kb1 kb2 kb3 oe fe xe rl6 rd q1 q2 ga
      have xn1 : Ext w7 (w7.alloc (.cells #[.int .i64 3, .slice none 0 0, .slice none 0 0, .bool false, .string ⟨#[]⟩, .int .i64 16, .bool false] 46)) := (Mod.refl _ w7).alloc _
      have on := OwnR.lit1 rcell_len (w7.alloc (.cells #[.int .i64 3, .slice none 0 0, .slice none 0 0, .bool false, .string ⟨#[]⟩, .int .i64 16, .bool false] 46)) 46 no
      have xn2 : Ext w7 ((w7.alloc (.cells #[.int .i64 3, .slice none 0 0, .slice none 0 0, .bool false, .string ⟨#[]⟩, .int .i64 16, .bool false] 46)).alloc (.cells #[.int .i64 3, .slice none 0 0, .slice none 0 0, .bool false, .string ⟨#[]⟩, .int .i64 16, .bool false] 46)) := xn1.alloc _
      rw [hne] at on
      have zn : (w7.alloc (.cells #[.int .i64 3, .slice none 0 0, .slice none 0 0, .bool false, .string ⟨#[]⟩, .int .i64 16, .bool false] 46)).heap.size = w7.heap.size + 1 := by simp
      rw [zn] at on
      clear zn
      replace hne := Lib.hid hne
      have fn : Fresh w7.heap.size (.slice (some ⟨w7.heap.size + 1, 0, none⟩) 1 1) := fun k hk => by have : w7.heap.size + 1 = k := Option.some.inj hk; omega
      have rl7 := (RL _ (ext_trans xc7 xn2)).1
      go_wp2_with ((with_reducible show wpList _ _ _ (⟨some 83, _, _, _, _, _⟩ :: _) _ _); refine wp_appRm tyR on rl7 okL.out n5.out rfl (.tmp 81) (.tmp 82) rfl rfl rfl ?_; intro vd wd kd1 kd2 kd3; have q3 : Ext w7 wd := ext_app0 xn2 fn kd2)
      have xwd := ext_trans xw7 q3
      have r3 := hmay wd vd ([no] ++ (C ++ [al])) xwd ⟨Rc.there kd1.rc (Mod.refl _ _), fun c hc => (List.mem_append.1 hc).elim (fun h => by simp at h; subst h; exact LN _ _) (fun h => (RL wd (ext_trans xc7 q3)).2 c h)⟩ (fun c hc => (List.mem_append.1 hc).elim (fun h => by simp at h; subst h; exact FN) (fL c)) (by simp; omega)
      rw [E2] at r3
      refine r3.mono ?_
      rintro e w8 ⟨rfl, x8⟩
      have B8 := (B7.mod q3 (fun h => h)).mod x8 (fun h => h)
      have xw8 := ext_trans xwd x8
      have c8 := (blk7 B8).2.2.2.2.2.2
      clear B7 r3 kd1 kd2 kd3 on xn1 xn2 rl7 q3
      have hqq : (qa == qa) = true := by simp
      by_cases hC0 : C.length = 0
      · have kC : decide (0 < C.length) = false := dfalse (by omega)
        have hqg : qa = gr := E3 hC0
        subst hqg
        clear E1 E2 E3 hC0
        go_wp2_with fail
        refine known18_any.mono ?_
        rintro e w9 ⟨rfl, x9⟩
        go_wp2_with fail
        go_ret
        exact ⟨rfl, ext_trans xw8 x9⟩
      · have kC : decide (0 < C.length) = true := dtrue (by omega)
        clear E1 E2 E3
        go_wp2_with fail
        refine known18_any.mono ?_
        rintro e w9 ⟨rfl, x9⟩
        go_wp2_with fail
        go_ret
        exact ⟨rfl, ext_trans xw8 x9⟩
end Go.Proofs.Ytbdkdbfcbakgmaa
