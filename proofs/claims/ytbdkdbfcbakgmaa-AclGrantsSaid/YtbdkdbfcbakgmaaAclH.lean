/- AclGrants: the walk. -/
import Derived.Test.YtbdkdbfcbakgmaaAclF
namespace Go.Proofs.Ytbdkdbfcbakgmaa
open Go.RowKit
set_option maxRecDepth 100000

theorem firstR_more {W T : List Av} {ty : List UInt8} {right : Int} (r : Rul) : ∀ {L : List Rul}, firstR W T ty right L = true → firstR W T ty right (L ++ [r]) = true
  | [], h => by simp [firstR] at h
  | a :: L, h => by
    simp only [List.cons_append, firstR] at h ⊢
    by_cases hf : fitsR a W T ty right
    · rw [if_pos hf] at h ⊢; exact h
    · rw [if_neg hf] at h ⊢; exact firstR_more r h
theorem firstR_same {W T : List Av} {ty : List UInt8} {right : Int} {r : Rul} (hr : r.grant = false) : ∀ L : List Rul, firstR W T ty right (L ++ [r]) = firstR W T ty right L
  | [] => by simp [firstR, hr]
  | a :: L => by
    simp only [List.cons_append, firstR]
    rw [firstR_same hr L]

set_option maxHeartbeats 8000000 in
theorem aclGrants_walk {w : World} {v0 vw vt : Value} {C : List LRul} {cc : LRul} {Wn Tn : List Av} {ty : List UInt8} {right : Int} (h0 : Rl w (fun _ => True) v0 C) (hcl : Laid w (fun _ => True) cc) (hW : As w (fun _ => True) vw Wn) (hT : As w (fun _ => True) vt Tn)
    (f0 : ∀ c ∈ C, RFits c.1) (f1 : RFits cc.1) (l0 : C.length * 96 ≤ 140737488351232) (fW : Fits Wn) (fT : Fits Tn) (hty : ty.length ≤ 140737488351232) (hr1 : -9223372036854775808 ≤ right) (hr2 : right ≤ 9223372036854775807) :
    Calls Try.prog 14 #[v0, .agg (rarr cc), vw, vt, sv ty, .int .i64 right] w fun e w' => e = .returned (.bool true) ∧ Ext w w' := by
  have there : ∀ (wx : World) (v : Value) (C : List LRul), Rl w (fun _ => True) v C → Ext w wx → Rl wx (fun b => b < wx.heap.size) v C := fun wx v C h hx =>
    ⟨Rc.there h.1 hx, fun c hc => ⟨Rc.there (h.2 c hc).1 hx, Rc.there (h.2 c hc).2 hx⟩⟩
  have hz := sv_size ty
  obtain ⟨A0, c0, hv0⟩ := h0.1.shape
  obtain ⟨Aw, cw, hvw⟩ := hW.shape
  obtain ⟨At, ct, hvt⟩ := hT.shape
  subst hv0 hvw hvt
  obtain ⟨r, x, y⟩ := cc
  obtain ⟨An, cn, hxx⟩ := hcl.1.shape
  obtain ⟨Ab, cb, hyy⟩ := hcl.2.shape
  simp only at hxx hyy
  subst hxx
  subst hyy
  have B0 := Blk.new w 46 #[.int .i64 r.who, .slice An r.name.length cn, .slice Ab r.base.length cb, .bool r.sub, sv r.typ, .int .i64 r.rights, .bool r.grant]
  have x0 : Ext w (w.alloc (.cells #[.int .i64 r.who, .slice An r.name.length cn, .slice Ab r.base.length cb, .bool r.sub, sv r.typ, .int .i64 r.rights, .bool r.grant] 46)) := (Mod.refl _ w).alloc _
  have fz : Fits [] := ⟨fun a ha => (by cases ha), by simp⟩
  go_enter Try.func14, Try.ntmps14
  go_wp2_with fail
  refine (great_any (there _ _ C h0 x0) f0 (by omega)).mono ?_
  rintro e w1 ⟨q, rfl, g0, x1⟩
  have B1 := B0.mod x1 (fun h => h)
  replace x1 := ext_trans x0 x1
  clear x0 B0
  cases q
  case true =>
    go_wp2_with fail
    go_ret
    exact ⟨rfl, x1⟩
  replace g0 := Lib.hid (g0 rfl)
  have c7 := blk7 B1
  obtain ⟨c70, c71, c72, c73, c74, c75, c76⟩ := c7
  have xl : Ext w (w1.alloc (.cells #[.int .i64 r.who, .slice An r.name.length cn, .slice Ab r.base.length cb, .bool r.sub, sv r.typ, .int .i64 r.rights, .bool r.grant] 46)) := x1.alloc _
  have hl1 : Rl (w1.alloc (.cells #[.int .i64 r.who, .slice An r.name.length cn, .slice Ab r.base.length cb, .bool r.sub, sv r.typ, .int .i64 r.rights, .bool r.grant] 46)) (fun b => b < (w1.alloc (.cells #[.int .i64 r.who, .slice An r.name.length cn, .slice Ab r.base.length cb, .bool r.sub, sv r.typ, .int .i64 r.rights, .bool r.grant] 46)).heap.size) (.slice (some ⟨w1.heap.size, 0, none⟩) 1 1) [(r, .slice An r.name.length cn, .slice Ab r.base.length cb)] := by
    refine ⟨Rc.there (Rc.lit1 rcell_len w1 46 (r, .slice An r.name.length cn, .slice Ab r.base.length cb)) (Mod.refl _ _), fun c hc => ?_⟩
    simp at hc; subst hc
    exact ⟨Rc.there hcl.1 xl, Rc.there hcl.2 xl⟩
  go_wp2_with fail
  refine (great_any hl1 (fun c hc => by simp at hc; subst hc; exact f1) (by simp)).mono ?_
  rintro e w2 ⟨q, rfl, _, x2⟩
  have B2 := (B1.alloc (.cells #[.int .i64 r.who, .slice An r.name.length cn, .slice Ab r.base.length cb, .bool r.sub, sv r.typ, .int .i64 r.rights, .bool r.grant] 46)).mod x2 (fun h => h)
  replace x2 := ext_trans xl x2
  clear xl hl1 B1 x1 c70 c71 c72 c73 c74 c75 c76
  cases q
  case true =>
    go_wp2_with fail
    go_ret
    exact ⟨rfl, x2⟩
  have hn : Sl (w2.alloc (.cells #[.slice Aw Wn.length cw, .slice At Tn.length ct] 22)) (fun b => b = w2.heap.size) (.slice (some ⟨w2.heap.size, 0, none⟩) 2 2) [.slice Aw Wn.length cw, .slice At Tn.length ct] := Sl.lit w2 22 [_, _] (by simp [maxLen])
  have xa : Ext w (w2.alloc (.cells #[.slice Aw Wn.length cw, .slice At Tn.length ct] 22)) := x2.alloc _
  go_wp2_with fail
  refine (heavy18_any (T := fun _ => True) hn (fun x hx => by
    simp only [List.mem_cons, List.not_mem_nil, or_false] at hx
    rcases hx with rfl | rfl
    · exact ⟨Wn, hW.ext xa, fW⟩
    · exact ⟨Tn, hT.ext xa, fT⟩)).mono ?_
  rintro e w3 ⟨q, rfl, x3⟩
  have B3 := (B2.alloc _).mod x3 (fun h => h)
  replace x3 := ext_trans xa x3
  clear hn xa x2 B2
  cases q
  case true =>
    go_wp2_with fail
    go_ret
    exact ⟨rfl, x3⟩
  by_cases ht : 100 < ty.length
  · have hb : decide ((100 : Int) < (ty.length : Int)) = true := dtrue (by omega)
    go_wp2_with fail
    go_ret
    exact ⟨rfl, x3⟩
  have hb : decide ((100 : Int) < (ty.length : Int)) = false := dfalse (by omega)
  have hmay : ∀ (wx : World) (v : Value) (L : List LRul), Ext w wx → Rl wx (fun b => b < wx.heap.size) v L → (∀ c ∈ L, RFits c.1) → L.length ≤ 1000 → Calls Try.prog 41 #[v, .slice none 0 0, .slice Aw Wn.length cw, .slice At Tn.length ct, sv ty, .int .i64 right] wx fun e w' => e = .returned (.bool (firstR Wn Tn ty right (L.map (·.1)))) ∧ Ext wx w' := by
    intro wx v L hx hL hfL hll
    have := may_any hL hfL (by omega) (Rc.nil avc 2 wx (fun b => b < wx.heap.size)) (Rc.there hW hx) (Rc.there hT hx) fz fW fT hty hr1 hr2
    rwa [mayR_none] at this
  have lim := g0.out
  have okC : ∀ x ∈ C, ∀ u ∈ rcell x, u.oneCell' = true := fun x hx => (h0.2 x hx).ok
  replace okC := Lib.hid okC
  have n1 := Lib.hid (show (([] : List LRul).length + C.length) * 96 ≤ 140737488355328 by simp only [List.length_nil]; omega)
  have n2 := Lib.hid (show (([] ++ C : List LRul).length + 1) * 96 ≤ 140737488355328 by simp only [List.nil_append]; omega)
  have hL : Laid w (fun _ => True) (r, .slice An r.name.length cn, .slice Ab r.base.length cb) := hcl
  have hF : RFits r := f1
  clear g0 hcl f1
  go_wp2_with fail
  refine (hmay w3 _ C x3 (there _ _ C h0 x3) f0 (by omega)).mono ?_
  rintro e w4 ⟨rfl, x4⟩
  have B4 := B3.mod x4 (fun h => h)
  replace x4 := ext_trans x3 x4
  clear B3 x3
  have c46 := (blk7 B4).2.2.2.2.2.2
  have z46 := B4.frozen 6
  obtain ⟨qa, hqa⟩ : ∃ qa, qa = firstR Wn Tn ty right (C.map (·.1)) := ⟨_, rfl⟩
  rw [← hqa]
  replace hqa := Lib.hid hqa
  go_wp2_with fail
  have x5 : Ext w (w4.setCell ⟨w.heap.size, 6, none⟩ (.bool true)) := x4.setCell (fun h => by have : w.heap.size < w.heap.size := h; omega) _
  have B5 : Blk (w4.setCell ⟨w.heap.size, 6, none⟩ (.bool true)) w.heap.size 46 #[.int .i64 r.who, .slice An r.name.length cn, .slice Ab r.base.length cb, .bool r.sub, sv r.typ, .int .i64 r.rights, .bool true] := B4.set_ 6 _
  clear B4 c46 z46 x4
  generalize w4.setCell ⟨w.heap.size, 6, none⟩ (.bool true) = w5 at *
  go_cut [0, 2, 3, 4, 5, 7, 12, 13, 14] (fun s0 s2 s3 s4 s5 s7 s12 s13 s14 wx => s0 = .slice A0 C.length c0 ∧ s2 = .slice Aw Wn.length cw ∧ s3 = .slice At Tn.length ct ∧ s4 = sv ty ∧ s5 = .int .i64 right ∧ s7 = .pointer (some ⟨w.heap.size, 0, none⟩) ∧ s12 = .bool false ∧ s13 = .bool qa ∧ s14 = .bool (firstR Wn Tn ty right (([] ++ C ++ [((({ r with grant := true } : Rul), .slice An r.name.length cn, .slice Ab r.base.length cb) : LRul)]).map (fun c : LRul => c.1))) ∧ Ext w5 wx)
  case first =>
    have hc : ∀ wx, Ext w5 wx → wx.cell? ⟨w.heap.size, 0, none⟩ = some (.int .i64 r.who) ∧ wx.cell? ⟨w.heap.size, 1, none⟩ = some (.slice An r.name.length cn) ∧ wx.cell? ⟨w.heap.size, 2, none⟩ = some (.slice Ab r.base.length cb) ∧ wx.cell? ⟨w.heap.size, 3, none⟩ = some (.bool r.sub) ∧ wx.cell? ⟨w.heap.size, 4, none⟩ = some (sv r.typ) ∧ wx.cell? ⟨w.heap.size, 5, none⟩ = some (.int .i64 r.rights) ∧ wx.cell? ⟨w.heap.size, 6, none⟩ = some (.bool true) := fun wx hx => blk7 (B5.mod hx (fun h => h))
    have q0 : Ext w5 w5.drew := (Mod.refl _ w5).drew
    have hRC := fun (wx : World) (hx : Ext w5 wx) => (h0.1.ext (ext_trans x5 hx))
    have oA := OwnR.empty rcell 7 w5.drew 46
    have fA := fresh_new w5.drew 0 0
    have oB := (OwnR.empty rcell 7 w5.drew 46).alloc (.cells #[.int .i64 r.who, .slice An r.name.length cn, .slice Ab r.base.length cb, .bool r.sub, sv r.typ, .int .i64 r.rights, .bool true] 46)
    have oC := OwnR.empty rcell 7 (w5.drew.alloc (.cells #[.int .i64 r.who, .slice An r.name.length cn, .slice Ab r.base.length cb, .bool r.sub, sv r.typ, .int .i64 r.rights, .bool true] 46)) 46
    have eX : Rc rcell 7 (w5.drew.alloc (.cells #[.int .i64 r.who, .slice An r.name.length cn, .slice Ab r.base.length cb, .bool r.sub, sv r.typ, .int .i64 r.rights, .bool true] 46)) (fun b => b = w5.drew.heap.size) (.slice (some ⟨w5.drew.heap.size, 0, none⟩) 1 1) [((({ r with grant := true } : Rul), .slice An r.name.length cn, .slice Ab r.base.length cb) : LRul)] := Rc.lit1 rcell_len w5.drew 46 ((({ r with grant := true } : Rul), .slice An r.name.length cn, .slice Ab r.base.length cb) : LRul)
    have zE : (w5.drew.alloc (.cells #[] 46)).heap.size = w5.drew.heap.size + 1 := by simp
    have zX : (w5.drew.alloc (.cells #[.int .i64 r.who, .slice An r.name.length cn, .slice Ab r.base.length cb, .bool r.sub, sv r.typ, .int .i64 r.rights, .bool true] 46)).heap.size = w5.drew.heap.size + 1 := by simp
    have eB : Rc rcell 7 ((w5.drew.alloc (.cells #[] 46)).alloc (.cells #[.int .i64 r.who, .slice An r.name.length cn, .slice Ab r.base.length cb, .bool r.sub, sv r.typ, .int .i64 r.rights, .bool true] 46)) (fun b => b = (w5.drew.alloc (.cells #[] 46)).heap.size) (.slice (some ⟨(w5.drew.alloc (.cells #[] 46)).heap.size, 0, none⟩) 1 1) [((({ r with grant := true } : Rul), .slice An r.name.length cn, .slice Ab r.base.length cb) : LRul)] := Rc.lit1 rcell_len (w5.drew.alloc (.cells #[] 46)) 46 ((({ r with grant := true } : Rul), .slice An r.name.length cn, .slice Ab r.base.length cb) : LRul)
    rw [zE] at eB
    rw [zX] at oC
    clear zE zX
    have fC : Fresh w5.drew.heap.size (.slice (some ⟨w5.drew.heap.size + 1, 0, none⟩) 0 0) := fun k hk => by have : w5.drew.heap.size + 1 = k := Option.some.inj hk; omega
    have qE : Ext w5 (w5.drew.alloc (.cells #[] 46)) := q0.alloc _
    have qX : Ext w5 (w5.drew.alloc (.cells #[.int .i64 r.who, .slice An r.name.length cn, .slice Ab r.base.length cb, .bool r.sub, sv r.typ, .int .i64 r.rights, .bool true] 46)) := q0.alloc _
    have qEX : Ext w5 ((w5.drew.alloc (.cells #[] 46)).alloc (.cells #[.int .i64 r.who, .slice An r.name.length cn, .slice Ab r.base.length cb, .bool r.sub, sv r.typ, .int .i64 r.rights, .bool true] 46)) := qE.alloc _
    have qXE : Ext w5 ((w5.drew.alloc (.cells #[.int .i64 r.who, .slice An r.name.length cn, .slice Ab r.base.length cb, .bool r.sub, sv r.typ, .int .i64 r.rights, .bool true] 46)).alloc (.cells #[] 46)) := qX.alloc _
    have rA := hRC _ qE
    have rB := hRC _ qEX
    have rC := hRC _ qXE
    have okA : ∀ x ∈ [((({ r with grant := true } : Rul), .slice An r.name.length cn, .slice Ab r.base.length cb) : LRul)], ∀ u ∈ rcell x, u.oneCell' = true := fun x hx => by simp at hx; subst hx; exact rcell_ok ⟨⟨_, _, _, rfl⟩, ⟨_, _, _, rfl⟩⟩
    replace okA := Lib.hid okA
    have hM : ∀ (wx : World) (v : Value), Ext w5 wx → OwnR rcell 7 wx 46 v ([] ++ C ++ [((({ r with grant := true } : Rul), .slice An r.name.length cn, .slice Ab r.base.length cb) : LRul)]) → Calls Try.prog 41 #[v, .slice none 0 0, .slice Aw Wn.length cw, .slice At Tn.length ct, sv ty, .int .i64 right] wx fun e w' => e = .returned (.bool (firstR Wn Tn ty right (([] ++ C ++ [((({ r with grant := true } : Rul), .slice An r.name.length cn, .slice Ab r.base.length cb) : LRul)]).map (fun c : LRul => c.1)))) ∧ Ext wx w' := fun wx v hx ho =>
      hmay wx v _ (ext_trans x5 hx) ⟨Rc.there ho.rc (Mod.refl _ _), fun c hc => (List.mem_append.1 hc).elim (fun h => (there wx _ C h0 (ext_trans x5 hx)).2 c (by simpa using h)) (fun h => by simp at h; subst h; exact ⟨Rc.there hL.1 (ext_trans x5 hx), Rc.there hL.2 (ext_trans x5 hx)⟩)⟩ (fun c hc => (List.mem_append.1 hc).elim (fun h => f0 c (by simpa using h)) (fun h => by simp at h; subst h; exact hF)) (by simp; omega)
    replace hM := Lib.hid hM
    go_region_held3 (fun w' => w'.cell? ⟨w.heap.size, 0, none⟩ = some (.int .i64 r.who) ∧ w'.cell? ⟨w.heap.size, 1, none⟩ = some (.slice An r.name.length cn) ∧ w'.cell? ⟨w.heap.size, 2, none⟩ = some (.slice Ab r.base.length cb) ∧ w'.cell? ⟨w.heap.size, 3, none⟩ = some (.bool r.sub) ∧ w'.cell? ⟨w.heap.size, 4, none⟩ = some (sv r.typ) ∧ w'.cell? ⟨w.heap.size, 5, none⟩ = some (.int .i64 r.rights) ∧ w'.cell? ⟨w.heap.size, 6, none⟩ = some (.bool true)) (first | exact hc _ q0 | exact hc _ qE | exact hc _ qX | exact hc _ qEX | exact hc _ qXE | exact hc _ q1 | exact hc _ (q1.alloc _) | exact hc _ q2 | exact hc _ q3) (first
      | (refine step_appRs 43 tyR oA rA okC.out n1.out rfl rfl (.tmp 41) (.tmp 42) rfl rfl rfl ?_; intro va wa ka1 ka2 ka3; have q1 := ext_app0 qE fA ka2; have ga := ka3.fresh fA qE.size; have eA : Rc rcell 7 (wa.alloc (.cells #[.int .i64 r.who, .slice An r.name.length cn, .slice Ab r.base.length cb, .bool r.sub, sv r.typ, .int .i64 r.rights, .bool true] 46)) (fun b => b = wa.heap.size) (.slice (some ⟨wa.heap.size, 0, none⟩) 1 1) [((({ r with grant := true } : Rul), .slice An r.name.length cn, .slice Ab r.base.length cb) : LRul)] := Rc.lit1 rcell_len wa 46 ((({ r with grant := true } : Rul), .slice An r.name.length cn, .slice Ab r.base.length cb) : LRul))
      | (refine step_appRs 43 tyR oB rB okC.out n1.out rfl rfl (.tmp 41) (.tmp 42) rfl rfl rfl ?_; intro vb wb kb1 kb2 kb3; have q1 := ext_app0 qEX fA kb2; have gb := kb3.fresh fA qEX.size; have eB2 := eB.mod kb2 (fun b _ hb hF => by have h1 : w5.drew.heap.size = b := Option.some.inj hF; omega))
      | (refine step_appRs 43 tyR oC rC okC.out n1.out rfl rfl (.tmp 41) (.tmp 42) rfl rfl rfl ?_; intro vc wc kc1 kc2 kc3; have q1 := ext_app0 qXE fC kc2; have gc := kc3.fresh fC qXE.size; have eC2 := (eX.ext ((Mod.refl _ (w5.drew.alloc (.cells #[.int .i64 r.who, .slice An r.name.length cn, .slice Ab r.base.length cb, .bool r.sub, sv r.typ, .int .i64 r.rights, .bool true] 46))).alloc _)).mod kc2 (fun b _ hb hF => by have h1 : w5.drew.heap.size + 1 = b := Option.some.inj hF; omega))
      | (refine step_appRs 46 tyR (ka1.alloc _) eA okA.out n2.out rfl rfl (.tmp 43) (.tmp 45) rfl rfl rfl ?_; intro vd wd kd1 kd2 kd3; have q2 := ext_app0 (q1.alloc _) ga kd2)
      | (refine step_appRs 46 tyR kb1 eB2 okA.out n2.out rfl rfl (.tmp 43) (.tmp 45) rfl rfl rfl ?_; intro vd wd kd1 kd2 kd3; have q2 := ext_app0 q1 gb kd2)
      | (refine step_appRs 46 tyR kc1 eC2 okA.out n2.out rfl rfl (.tmp 43) (.tmp 45) rfl rfl rfl ?_; intro vd wd kd1 kd2 kd3; have q2 := ext_app0 q1 gc kd2)
      | (go_at_call 41; refine (hM.out wd vd q2 kd1).mono ?_; rintro e we ⟨rfl, xe⟩; have q3 := ext_trans q2 xe))
    all_goals go_wp2_with fail
    all_goals go_meet
    all_goals exact ⟨rfl, rfl, rfl, rfl, rfl, rfl, rfl, rfl, by simp, q3⟩
  case rest =>
    obtain ⟨rfl, rfl, rfl, rfl, rfl, rfl, rfl, rfl, rfl, x6⟩ := hcut
    have B6 := B5.mod x6 (fun h => h)
    replace x6 := ext_trans x5 x6
    clear B5 x5
    have c66 := (blk7 B6).2.2.2.2.2.2
    have z66 := B6.frozen 6
    obtain ⟨qb, hqb⟩ : ∃ qb, qb = firstR Wn Tn ty right (([] ++ C ++ [((({ r with grant := true } : Rul), .slice An r.name.length cn, .slice Ab r.base.length cb) : LRul)]).map (fun c : LRul => c.1)) := ⟨_, rfl⟩
    rw [← hqb]
    replace hqb := Lib.hid hqb
    go_wp2_with fail
    have x7 : Ext w (wc.setCell ⟨w.heap.size, 6, none⟩ (.bool false)) := x6.setCell (fun h => by have : w.heap.size < w.heap.size := h; omega) _
    have B7 : Blk (wc.setCell ⟨w.heap.size, 6, none⟩ (.bool false)) w.heap.size 46 #[.int .i64 r.who, .slice An r.name.length cn, .slice Ab r.base.length cb, .bool r.sub, sv r.typ, .int .i64 r.rights, .bool false] := B6.set_ 6 _
    clear B6 c66 z66 x6
    generalize wc.setCell ⟨w.heap.size, 6, none⟩ (.bool false) = w7 at *
    go_cut [12, 13, 14, 15] (fun s12 s13 s14 s15 wx => s12 = .bool false ∧ s13 = .bool qa ∧ s14 = .bool qb ∧ s15 = .bool (firstR Wn Tn ty right (([] ++ C ++ [((({ r with grant := false } : Rul), .slice An r.name.length cn, .slice Ab r.base.length cb) : LRul)]).map (fun c : LRul => c.1))) ∧ Ext w7 wx)
    case first =>
      have hc : ∀ wx, Ext w7 wx → wx.cell? ⟨w.heap.size, 0, none⟩ = some (.int .i64 r.who) ∧ wx.cell? ⟨w.heap.size, 1, none⟩ = some (.slice An r.name.length cn) ∧ wx.cell? ⟨w.heap.size, 2, none⟩ = some (.slice Ab r.base.length cb) ∧ wx.cell? ⟨w.heap.size, 3, none⟩ = some (.bool r.sub) ∧ wx.cell? ⟨w.heap.size, 4, none⟩ = some (sv r.typ) ∧ wx.cell? ⟨w.heap.size, 5, none⟩ = some (.int .i64 r.rights) ∧ wx.cell? ⟨w.heap.size, 6, none⟩ = some (.bool false) := fun wx hx => blk7 (B7.mod hx (fun h => h))
      have q0 : Ext w7 w7.drew := (Mod.refl _ w7).drew
      have hRC := fun (wx : World) (hx : Ext w7 wx) => (h0.1.ext (ext_trans x7 hx))
      have oA := OwnR.empty rcell 7 w7.drew 46
      have fA := fresh_new w7.drew 0 0
      have oB := (OwnR.empty rcell 7 w7.drew 46).alloc (.cells #[.int .i64 r.who, .slice An r.name.length cn, .slice Ab r.base.length cb, .bool r.sub, sv r.typ, .int .i64 r.rights, .bool false] 46)
      have oC := OwnR.empty rcell 7 (w7.drew.alloc (.cells #[.int .i64 r.who, .slice An r.name.length cn, .slice Ab r.base.length cb, .bool r.sub, sv r.typ, .int .i64 r.rights, .bool false] 46)) 46
      have eX : Rc rcell 7 (w7.drew.alloc (.cells #[.int .i64 r.who, .slice An r.name.length cn, .slice Ab r.base.length cb, .bool r.sub, sv r.typ, .int .i64 r.rights, .bool false] 46)) (fun b => b = w7.drew.heap.size) (.slice (some ⟨w7.drew.heap.size, 0, none⟩) 1 1) [((({ r with grant := false } : Rul), .slice An r.name.length cn, .slice Ab r.base.length cb) : LRul)] := Rc.lit1 rcell_len w7.drew 46 ((({ r with grant := false } : Rul), .slice An r.name.length cn, .slice Ab r.base.length cb) : LRul)
      have zE : (w7.drew.alloc (.cells #[] 46)).heap.size = w7.drew.heap.size + 1 := by simp
      have zX : (w7.drew.alloc (.cells #[.int .i64 r.who, .slice An r.name.length cn, .slice Ab r.base.length cb, .bool r.sub, sv r.typ, .int .i64 r.rights, .bool false] 46)).heap.size = w7.drew.heap.size + 1 := by simp
      have eB : Rc rcell 7 ((w7.drew.alloc (.cells #[] 46)).alloc (.cells #[.int .i64 r.who, .slice An r.name.length cn, .slice Ab r.base.length cb, .bool r.sub, sv r.typ, .int .i64 r.rights, .bool false] 46)) (fun b => b = (w7.drew.alloc (.cells #[] 46)).heap.size) (.slice (some ⟨(w7.drew.alloc (.cells #[] 46)).heap.size, 0, none⟩) 1 1) [((({ r with grant := false } : Rul), .slice An r.name.length cn, .slice Ab r.base.length cb) : LRul)] := Rc.lit1 rcell_len (w7.drew.alloc (.cells #[] 46)) 46 ((({ r with grant := false } : Rul), .slice An r.name.length cn, .slice Ab r.base.length cb) : LRul)
      rw [zE] at eB
      rw [zX] at oC
      clear zE zX
      have fC : Fresh w7.drew.heap.size (.slice (some ⟨w7.drew.heap.size + 1, 0, none⟩) 0 0) := fun k hk => by have : w7.drew.heap.size + 1 = k := Option.some.inj hk; omega
      have qE : Ext w7 (w7.drew.alloc (.cells #[] 46)) := q0.alloc _
      have qX : Ext w7 (w7.drew.alloc (.cells #[.int .i64 r.who, .slice An r.name.length cn, .slice Ab r.base.length cb, .bool r.sub, sv r.typ, .int .i64 r.rights, .bool false] 46)) := q0.alloc _
      have qEX : Ext w7 ((w7.drew.alloc (.cells #[] 46)).alloc (.cells #[.int .i64 r.who, .slice An r.name.length cn, .slice Ab r.base.length cb, .bool r.sub, sv r.typ, .int .i64 r.rights, .bool false] 46)) := qE.alloc _
      have qXE : Ext w7 ((w7.drew.alloc (.cells #[.int .i64 r.who, .slice An r.name.length cn, .slice Ab r.base.length cb, .bool r.sub, sv r.typ, .int .i64 r.rights, .bool false] 46)).alloc (.cells #[] 46)) := qX.alloc _
      have rA := hRC _ qE
      have rB := hRC _ qEX
      have rC := hRC _ qXE
      have okA : ∀ x ∈ [((({ r with grant := false } : Rul), .slice An r.name.length cn, .slice Ab r.base.length cb) : LRul)], ∀ u ∈ rcell x, u.oneCell' = true := fun x hx => by simp at hx; subst hx; exact rcell_ok ⟨⟨_, _, _, rfl⟩, ⟨_, _, _, rfl⟩⟩
      replace okA := Lib.hid okA
      have hM : ∀ (wx : World) (v : Value), Ext w7 wx → OwnR rcell 7 wx 46 v ([] ++ C ++ [((({ r with grant := false } : Rul), .slice An r.name.length cn, .slice Ab r.base.length cb) : LRul)]) → Calls Try.prog 41 #[v, .slice none 0 0, .slice Aw Wn.length cw, .slice At Tn.length ct, sv ty, .int .i64 right] wx fun e w' => e = .returned (.bool (firstR Wn Tn ty right (([] ++ C ++ [((({ r with grant := false } : Rul), .slice An r.name.length cn, .slice Ab r.base.length cb) : LRul)]).map (fun c : LRul => c.1)))) ∧ Ext wx w' := fun wx v hx ho =>
        hmay wx v _ (ext_trans x7 hx) ⟨Rc.there ho.rc (Mod.refl _ _), fun c hc => (List.mem_append.1 hc).elim (fun h => (there wx _ C h0 (ext_trans x7 hx)).2 c (by simpa using h)) (fun h => by simp at h; subst h; exact ⟨Rc.there hL.1 (ext_trans x7 hx), Rc.there hL.2 (ext_trans x7 hx)⟩)⟩ (fun c hc => (List.mem_append.1 hc).elim (fun h => f0 c (by simpa using h)) (fun h => by simp at h; subst h; exact hF)) (by simp; omega)
      replace hM := Lib.hid hM
      go_region_held3 (fun w' => w'.cell? ⟨w.heap.size, 0, none⟩ = some (.int .i64 r.who) ∧ w'.cell? ⟨w.heap.size, 1, none⟩ = some (.slice An r.name.length cn) ∧ w'.cell? ⟨w.heap.size, 2, none⟩ = some (.slice Ab r.base.length cb) ∧ w'.cell? ⟨w.heap.size, 3, none⟩ = some (.bool r.sub) ∧ w'.cell? ⟨w.heap.size, 4, none⟩ = some (sv r.typ) ∧ w'.cell? ⟨w.heap.size, 5, none⟩ = some (.int .i64 r.rights) ∧ w'.cell? ⟨w.heap.size, 6, none⟩ = some (.bool false)) (first | exact hc _ q0 | exact hc _ qE | exact hc _ qX | exact hc _ qEX | exact hc _ qXE | exact hc _ q1 | exact hc _ (q1.alloc _) | exact hc _ q2 | exact hc _ q3) (first
        | (refine step_appRs 55 tyR oA rA okC.out n1.out rfl rfl (.tmp 53) (.tmp 54) rfl rfl rfl ?_; intro va wa ka1 ka2 ka3; have q1 := ext_app0 qE fA ka2; have ga := ka3.fresh fA qE.size; have eA : Rc rcell 7 (wa.alloc (.cells #[.int .i64 r.who, .slice An r.name.length cn, .slice Ab r.base.length cb, .bool r.sub, sv r.typ, .int .i64 r.rights, .bool false] 46)) (fun b => b = wa.heap.size) (.slice (some ⟨wa.heap.size, 0, none⟩) 1 1) [((({ r with grant := false } : Rul), .slice An r.name.length cn, .slice Ab r.base.length cb) : LRul)] := Rc.lit1 rcell_len wa 46 ((({ r with grant := false } : Rul), .slice An r.name.length cn, .slice Ab r.base.length cb) : LRul))
        | (refine step_appRs 55 tyR oB rB okC.out n1.out rfl rfl (.tmp 53) (.tmp 54) rfl rfl rfl ?_; intro vb wb kb1 kb2 kb3; have q1 := ext_app0 qEX fA kb2; have gb := kb3.fresh fA qEX.size; have eB2 := eB.mod kb2 (fun b _ hb hF => by have h1 : w7.drew.heap.size = b := Option.some.inj hF; omega))
        | (refine step_appRs 55 tyR oC rC okC.out n1.out rfl rfl (.tmp 53) (.tmp 54) rfl rfl rfl ?_; intro vc wc kc1 kc2 kc3; have q1 := ext_app0 qXE fC kc2; have gc := kc3.fresh fC qXE.size; have eC2 := (eX.ext ((Mod.refl _ (w7.drew.alloc (.cells #[.int .i64 r.who, .slice An r.name.length cn, .slice Ab r.base.length cb, .bool r.sub, sv r.typ, .int .i64 r.rights, .bool false] 46))).alloc _)).mod kc2 (fun b _ hb hF => by have h1 : w7.drew.heap.size + 1 = b := Option.some.inj hF; omega))
        | (refine step_appRs 58 tyR (ka1.alloc _) eA okA.out n2.out rfl rfl (.tmp 55) (.tmp 57) rfl rfl rfl ?_; intro vd wd kd1 kd2 kd3; have q2 := ext_app0 (q1.alloc _) ga kd2)
        | (refine step_appRs 58 tyR kb1 eB2 okA.out n2.out rfl rfl (.tmp 55) (.tmp 57) rfl rfl rfl ?_; intro vd wd kd1 kd2 kd3; have q2 := ext_app0 q1 gb kd2)
        | (refine step_appRs 58 tyR kc1 eC2 okA.out n2.out rfl rfl (.tmp 55) (.tmp 57) rfl rfl rfl ?_; intro vd wd kd1 kd2 kd3; have q2 := ext_app0 q1 gc kd2)
        | (go_at_call 41; refine (hM.out wd vd q2 kd1).mono ?_; rintro e we ⟨rfl, xe⟩; have q3 := ext_trans q2 xe))
      all_goals go_wp2_with fail
      all_goals go_meet
      all_goals exact ⟨rfl, rfl, rfl, by simp, q3⟩
    case rest =>
      obtain ⟨rfl, rfl, rfl, rfl, x8⟩ := hcut
      replace x8 := ext_trans x7 x8
      have hqc : firstR Wn Tn ty right (([] ++ C ++ [((({ r with grant := false } : Rul), .slice An r.name.length cn, .slice Ab r.base.length cb) : LRul)]).map (fun c : LRul => c.1)) = qa := by
        rw [List.map_append, List.nil_append]
        exact (firstR_same rfl _).trans hqa.out.symm
      rw [hqc]
      have hab : qa = true → qb = true := fun h => by
        rw [hqb.out, List.map_append, List.nil_append]
        exact firstR_more _ (by rw [← hqa.out]; exact h)
      have hqq : (qa == qa) = true := by simp
      clear hqc
      cases qa
      · go_wp2_with fail
        refine known18_any.mono ?_
        rintro e w9 ⟨rfl, x9⟩
        go_wp2_with fail
        go_ret
        exact ⟨rfl, ext_trans x8 x9⟩
      · have hb1 := hab rfl
        subst hb1
        go_wp2_with fail
        refine known18_any.mono ?_
        rintro e w9 ⟨rfl, x9⟩
        go_wp2_with fail
        go_ret
        exact ⟨rfl, ext_trans x8 x9⟩
end Go.Proofs.Ytbdkdbfcbakgmaa
