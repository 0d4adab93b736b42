/- AclSays: the walk. -/
import Derived.Test.YtbdkdbfcbakgmaaAclK
import Derived.Deep.RegionHeld3
namespace Go.Proofs.Ytbdkdbfcbakgmaa
open Go.RowKit
set_option maxRecDepth 100000

set_option maxHeartbeats 8000000 in
theorem aclSays_walk {w : World} {v0 vr vw vt : Value} {C : List LRul} {Rt Wn Tn : List Av} {ty : List UInt8} {right : Int} (h0 : Rl w (fun _ => True) v0 C) (hR : As w (fun _ => True) vr Rt) (hW : As w (fun _ => True) vw Wn) (hT : As w (fun _ => True) vt Tn)
    (f0 : ∀ c ∈ C, RFits c.1) (i0 : ∀ c ∈ C, RInt c.1) (l0 : C.length * 96 ≤ 140737488351232) (fR : Fits Rt) (fW : Fits Wn) (fT : Fits Tn) (hty : ty.length ≤ 140737488351232) (hr1 : -9223372036854775808 ≤ right) (hr2 : right ≤ 9223372036854775807) :
    Calls Try.prog 11 #[v0, vr, vw, vt, sv ty, .int .i64 right] w fun e w' => e = .returned (.bool true) ∧ Ext w w' := by
  have there : ∀ (wx : World), Ext w wx → Rl wx (fun b => b < wx.heap.size) v0 C := fun wx hx =>
    ⟨Rc.there h0.1 hx, fun c hc => ⟨Rc.there (h0.2 c hc).1 hx, Rc.there (h0.2 c hc).2 hx⟩⟩
  have hz := sv_size ty
  obtain ⟨A0, c0, hv0, r1, r2, r3, r4⟩ := h0.1.open_ rcell_len
  obtain ⟨Ar, cr, hvr⟩ := hR.shape
  obtain ⟨Aw, cw, hvw⟩ := hW.shape
  obtain ⟨At, ct, hvt⟩ := hT.shape
  subst hv0 hvr hvw hvt
  go_enter Try.func11, Try.ntmps11
  go_wp2_with fail
  refine (great_any (there _ (Mod.refl _ _)) f0 (by omega)).mono ?_
  rintro e w1 ⟨q, rfl, g0, x1⟩
  cases q
  case true =>
    go_wp2_with fail
    go_ret
    exact ⟨rfl, x1⟩
  replace g0 := Lib.hid (g0 rfl)
  have hn : Sl (w1.alloc (.cells #[.slice Ar Rt.length cr, .slice Aw Wn.length cw, .slice At Tn.length ct] 22)) (fun b => b = w1.heap.size) (.slice (some ⟨w1.heap.size, 0, none⟩) 3 3) [.slice Ar Rt.length cr, .slice Aw Wn.length cw, .slice At Tn.length ct] := Sl.lit w1 22 [_, _, _] (by simp [maxLen])
  have xa : Ext w (w1.alloc (.cells #[.slice Ar Rt.length cr, .slice Aw Wn.length cw, .slice At Tn.length ct] 22)) := x1.alloc _
  go_wp2_with fail
  refine (heavy18_any (T := fun _ => True) hn (fun x hx => by
    simp only [List.mem_cons, List.not_mem_nil, or_false] at hx
    rcases hx with rfl | rfl | rfl
    · exact ⟨Rt, hR.ext xa, fR⟩
    · exact ⟨Wn, hW.ext xa, fW⟩
    · exact ⟨Tn, hT.ext xa, fT⟩)).mono ?_
  rintro e w3 ⟨q, rfl, x3⟩
  replace x3 := ext_trans xa x3
  clear hn xa x1
  cases q
  case true =>
    go_wp2_with fail
    go_ret
    exact ⟨rfl, x3⟩
  by_cases ht : 100 < ty.length
  · have hb : decide ((100 : Int) < (ty.length : Int)) = true := dtrue (by omega)
    go_wp2_with fail
    go_ret
    exact ⟨rfl, x3⟩
  have hb : decide ((100 : Int) < (ty.length : Int)) = false := dfalse (by omega)
  have lim := g0.out
  clear g0
  go_wp2_with fail
  go_loopw [13] (fun i wr => ∃ k : Nat, k ≤ C.length ∧ i = .int .i64 k ∧ Ext w wr) (fun i _ => C.length - (intOf i).toNat)
  case atStart => exact ⟨0, by omega, rfl, x3⟩
  case round =>
    clear hb ht
    obtain ⟨k, hk, rfl, hxr⟩ := hrel
    by_cases hlt : k < C.length
    · have hbl : decide ((k : Int) < (C.length : Int)) = true := dtrue (by omega)
      obtain ⟨ad, hA, hS, e0, e1, e2, e3, e4, e5, e6⟩ := rule_at (r4.ext hxr) hlt
      subst hA
      have hi0 : (0 : Int) ≤ (k : Int) := by omega
      have hi1 : (k : Int) < (C.length : Int) := by omega
      have hL := h0.2 _ (List.getElem_mem hlt)
      have hF := f0 _ (List.getElem_mem hlt)
      have hI := i0 _ (List.getElem_mem hlt)
      generalize C[k] = cc at *
      obtain ⟨r, x, y⟩ := cc
      obtain ⟨An, cn, hxx⟩ := hL.1.shape
      obtain ⟨Ab, cb, hyy⟩ := hL.2.shape
      simp only at hxx hyy
      subst hxx
      subst hyy
      simp only at e0 e1 e2 e3 e4 e5 e6
      have hx : ∀ wx, Ext wr wx → wx.cell? (ad.add (k * 7)) = some (.int .i64 r.who) ∧ wx.cell? ⟨(ad.add (k * 7)).block, (ad.add (k * 7)).off + 1, none⟩ = some (.slice An r.name.length cn) ∧ wx.cell? ⟨(ad.add (k * 7)).block, (ad.add (k * 7)).off + 2, none⟩ = some (.slice Ab r.base.length cb) ∧ wx.cell? ⟨(ad.add (k * 7)).block, (ad.add (k * 7)).off + 3, none⟩ = some (.bool r.sub) ∧ wx.cell? ⟨(ad.add (k * 7)).block, (ad.add (k * 7)).off + 4, none⟩ = some (sv r.typ) ∧ wx.cell? ⟨(ad.add (k * 7)).block, (ad.add (k * 7)).off + 5, none⟩ = some (.int .i64 r.rights) ∧ wx.cell? ⟨(ad.add (k * 7)).block, (ad.add (k * 7)).off + 6, none⟩ = some (.bool r.grant) := fun wx hm =>
        ⟨(hm.cell (lt_of_cell e0) (fun h => h)).trans e0, (hm.cell (lt_of_cell e1) (fun h => h)).trans e1, (hm.cell (lt_of_cell e2) (fun h => h)).trans e2, (hm.cell (lt_of_cell e3) (fun h => h)).trans e3, (hm.cell (lt_of_cell e4) (fun h => h)).trans e4, (hm.cell (lt_of_cell e5) (fun h => h)).trans e5, (hm.cell (lt_of_cell e6) (fun h => h)).trans e6⟩
      clear e0 e1 e2 e3 e4 e5 e6
      have q0 : Ext wr wr.drew := (Mod.refl _ wr).drew
      have hL' : ∀ wx, Ext wr wx → Laid wx (fun b => b < wx.heap.size) (r, .slice An r.name.length cn, .slice Ab r.base.length cb) := fun wx hm => ⟨Rc.there hL.1 (ext_trans hxr hm), Rc.there hL.2 (ext_trans hxr hm)⟩
      obtain ⟨q, hq⟩ : ∃ q : Bool, q = decide (isRule r) := ⟨_, rfl⟩
      have m1 := fun wx (hm : Ext wr wx) => ruleIs_any (c := (r, .slice An r.name.length cn, .slice Ab r.base.length cb)) (hL' wx hm) hF
      have m2 := fun wx (hm : Ext wr wx) => risR_any (c := (r, .slice An r.name.length cn, .slice Ab r.base.length cb)) (hL' wx hm) hF hI
      simp only [← hq] at m1 m2
      have hqq : (q != q) = false := by simp
      replace m1 := Lib.hid m1
      replace m2 := Lib.hid m2
      clear hq hL hL'
      go_wp2_with fail
      go_region_held3 (fun w' => w'.cell? (ad.add (k * 7)) = some (.int .i64 r.who) ∧ w'.cell? ⟨(ad.add (k * 7)).block, (ad.add (k * 7)).off + 1, none⟩ = some (.slice An r.name.length cn) ∧ w'.cell? ⟨(ad.add (k * 7)).block, (ad.add (k * 7)).off + 2, none⟩ = some (.slice Ab r.base.length cb) ∧ w'.cell? ⟨(ad.add (k * 7)).block, (ad.add (k * 7)).off + 3, none⟩ = some (.bool r.sub) ∧ w'.cell? ⟨(ad.add (k * 7)).block, (ad.add (k * 7)).off + 4, none⟩ = some (sv r.typ) ∧ w'.cell? ⟨(ad.add (k * 7)).block, (ad.add (k * 7)).off + 5, none⟩ = some (.int .i64 r.rights) ∧ w'.cell? ⟨(ad.add (k * 7)).block, (ad.add (k * 7)).off + 6, none⟩ = some (.bool r.grant)) (first | exact hx _ q0 | exact hx _ q1 | exact hx _ q2) (first | (go_at_call 39; refine (m1.out _ q0).mono ?_; rintro e w4 ⟨rfl, s1⟩; have q1 := ext_trans q0 s1) | (go_at_call 40; refine (m2.out _ q1).mono ?_; rintro e w5 ⟨rfl, s2⟩; have q2 := ext_trans q1 s2))
      go_wp2_with fail
      exact ⟨⟨k + 1, by omega, by go_num, ext_trans hxr q2⟩, by simp [intOf] <;> omega⟩
    · have hbl : decide ((k : Int) < (C.length : Int)) = false := dfalse (by omega)
      have m1 := may_any (there wr hxr) f0 (by omega) (Rc.there hR hxr) (Rc.there hW hxr) (Rc.there hT hxr) fR fW fT hty hr1 hr2
      have m2 := fun wx (hx : Ext w wx) => rmay_any (there wx hx) f0 i0 (by omega) (Rc.there hR hx) (Rc.there hW hx) (Rc.there hT hx) fR fW fT hty hr2
      have m3 := fun wx (hx : Ext w wx) => check_any (there wx hx) f0 i0 (by omega)
      have m4 := fun wx (hx : Ext w wx) => rcheck_any (there wx hx) f0 i0 (by omega)
      generalize mayR (C.map (·.1)) Rt Wn Tn ty right = qa at *
      generalize decide (areRules (C.map (·.1))) = qb at *
      have hqq : (qa == qa) = true := by simp
      have hqr : (qb == qb) = true := by simp
      replace m1 := Lib.hid m1
      replace m2 := Lib.hid m2
      replace m3 := Lib.hid m3
      replace m4 := Lib.hid m4
      go_wp2_with fail
      refine m1.out.mono ?_
      rintro e w4 ⟨rfl, x4⟩
      replace x4 := ext_trans hxr x4
      go_wp2_with fail
      refine (m2.out _ x4).mono ?_
      rintro e w5 ⟨rfl, x5⟩
      replace x5 := ext_trans x4 x5
      go_wp2_with fail
      refine (m3.out _ x5).mono ?_
      rintro e w6 ⟨rfl, x6⟩
      replace x6 := ext_trans x5 x6
      go_wp2_with fail
      refine (m4.out _ x6).mono ?_
      rintro e w7 ⟨rfl, x7⟩
      replace x7 := ext_trans x6 x7
      go_wp2_with fail
      refine known18_any.mono ?_
      rintro e w9 ⟨rfl, x9⟩
      go_wp2_with fail
      go_ret
      exact ⟨rfl, ext_trans x7 x9⟩
end Go.Proofs.Ytbdkdbfcbakgmaa
