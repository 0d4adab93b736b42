/- AclRoot: the walk. -/
import Derived.Test.YtbdkdbfcbakgmaaAclK
namespace Go.Proofs.Ytbdkdbfcbakgmaa
open Go.RowKit
set_option maxRecDepth 100000

set_option maxHeartbeats 8000000 in
theorem aclRoot_walk {w : World} {v0 vr vt : Value} {C : List LRul} {Rt Tn : List Av} {ty : List UInt8} {right : Int} (h0 : Rl w (fun _ => True) v0 C) (hR : As w (fun _ => True) vr Rt) (hT : As w (fun _ => True) vt Tn)
    (f0 : ∀ c ∈ C, RFits c.1) (i0 : ∀ c ∈ C, RInt c.1) (l0 : C.length * 96 ≤ 140737488351232) (fR : Fits Rt) (fT : Fits Tn) (hty : ty.length ≤ 140737488351232) (hr1 : -9223372036854775808 ≤ right) (hr2 : right ≤ 9223372036854775807) :
    Calls Try.prog 13 #[v0, vr, vt, sv ty, .int .i64 right] w fun e w' => e = .returned (.bool true) ∧ Ext w w' := by
  have there : ∀ (wx : World), Ext w wx → Rl wx (fun b => b < wx.heap.size) v0 C := fun wx hx =>
    ⟨Rc.there h0.1 hx, fun c hc => ⟨Rc.there (h0.2 c hc).1 hx, Rc.there (h0.2 c hc).2 hx⟩⟩
  have hz := sv_size ty
  have hrl : Rt.length < 9223372036854775807 := by have := fR.2; omega
  obtain ⟨A0, c0, hv0⟩ := h0.1.shape
  obtain ⟨Ar, cr, hvr⟩ := hR.shape
  obtain ⟨At, ct, hvt⟩ := hT.shape
  subst hv0 hvr hvt
  have fz : Fits [] := ⟨fun a ha => (by cases ha), by simp⟩
  go_enter Try.func13, Try.ntmps13
  go_wp2_with fail
  refine (great_any (there _ (Mod.refl _ _)) f0 (by omega)).mono ?_
  rintro e w1 ⟨q, rfl, g0, x1⟩
  cases q
  case true =>
    go_wp2_with fail
    go_ret
    exact ⟨rfl, x1⟩
  replace g0 := Lib.hid (g0 rfl)
  have hn : Sl (w1.alloc (.cells #[.slice Ar Rt.length cr, .slice At Tn.length ct] 22)) (fun b => b = w1.heap.size) (.slice (some ⟨w1.heap.size, 0, none⟩) 2 2) [.slice Ar Rt.length cr, .slice At Tn.length ct] := Sl.lit w1 22 [_, _] (by simp [maxLen])
  have xa : Ext w (w1.alloc (.cells #[.slice Ar Rt.length cr, .slice At Tn.length ct] 22)) := x1.alloc _
  go_wp2_with fail
  refine (heavy18_any (T := fun _ => True) hn (fun x hx => by
    simp only [List.mem_cons, List.not_mem_nil, or_false] at hx
    rcases hx with rfl | rfl
    · exact ⟨Rt, hR.ext xa, fR⟩
    · exact ⟨Tn, hT.ext xa, fT⟩)).mono ?_
  rintro e w3 ⟨q, rfl, x3⟩
  replace x3 := ext_trans xa x3
  clear hn xa x1
  cases q
  case true =>
    go_wp2_with fail
    go_ret
    exact ⟨rfl, x3⟩
  by_cases ht : 100 < ty.length
  · have hb : decide ((100 : Int) < (ty.length : Int)) = true := dtrue (by omega)
    go_wp2_with fail
    go_ret
    exact ⟨rfl, x3⟩
  have hb : decide ((100 : Int) < (ty.length : Int)) = false := dfalse (by omega)
  have lim := g0.out
  have m1 := may_any (there w3 x3) f0 (by omega) (Rc.there hR x3) (Rc.there hR x3) (Rc.there hT x3) fR fR fT hty hr1 hr2
  have hzl : ∀ wx, Rl wx (fun b => b < wx.heap.size) (.slice none 0 0) [] := fun wx => ⟨Rc.nil _ _ _ _, fun c hc => by cases hc⟩
  have m3 := fun wx (hx : Ext w wx) => may_any (hzl wx) (fun c hc => by cases hc) (by simp) (Rc.nil avc 2 wx (fun b => b < wx.heap.size)) (Rc.there hR hx) (Rc.there hT hx) fz fR fT hty hr1 hr2
  have e3 : mayR (([] : List LRul).map (·.1)) [] Rt Tn ty right = false := by rw [mayR_none]; rfl
  rw [e3] at m3
  by_cases hr0 : 0 < Rt.length
  · have kr : decide (0 < Rt.length) = true := dtrue hr0
    have e1 : mayR (C.map (·.1)) Rt Rt Tn ty right = true := by
      unfold mayR
      rw [decide_eq_true ⟨hr0, show sameN Rt Rt from rfl⟩, Bool.true_or]
    rw [e1] at m1
    clear e1 e3 g0
    replace m3 := Lib.hid m3
    go_wp2_with fail
    refine m1.mono ?_
    rintro e w4 ⟨rfl, x4⟩
    replace x4 := ext_trans x3 x4
    clear m1
    go_wp2_with fail
    refine (m3.out _ x4).mono ?_
    rintro e w5 ⟨rfl, x5⟩
    replace x5 := ext_trans x4 x5
    go_wp2_with fail
    refine known18_any.mono ?_
    rintro e w9 ⟨rfl, x9⟩
    go_wp2_with fail
    go_ret
    exact ⟨rfl, ext_trans x5 x9⟩
  · have kr : decide (0 < Rt.length) = false := dfalse hr0
    have hRn : Rt = [] := List.eq_nil_of_length_eq_zero (by omega)
    have e1 : mayR (C.map (·.1)) Rt Rt Tn ty right = firstR [] Tn ty right (C.map (·.1)) := by rw [hRn, mayR_none]
    have m2 := fun wx (hx : Ext w wx) => rmay_any (there wx hx) f0 i0 (by omega) (Rc.nil avc 2 wx (fun b => b < wx.heap.size)) (Rc.nil avc 2 wx (fun b => b < wx.heap.size)) (Rc.there hT hx) fz fz fT hty hr2
    rw [e1] at m1
    rw [mayR_none] at m2
    generalize firstR [] Tn ty right (C.map (·.1)) = qa at *
    clear e1 e3 g0 hRn
    replace m3 := Lib.hid m3
    replace m2 := Lib.hid m2
    go_wp2_with fail
    refine m1.mono ?_
    rintro e w4 ⟨rfl, x4⟩
    replace x4 := ext_trans x3 x4
    clear m1
    go_wp2_with fail
    refine (m2.out _ x4).mono ?_
    rintro e w5 ⟨rfl, x5⟩
    replace x5 := ext_trans x4 x5
    have hqq : (qa == qa) = true := by simp
    go_wp2_with fail
    refine (m3.out _ x5).mono ?_
    rintro e w6 ⟨rfl, x6⟩
    replace x6 := ext_trans x5 x6
    go_wp2_with fail
    refine known18_any.mono ?_
    rintro e w9 ⟨rfl, x9⟩
    go_wp2_with fail
    go_ret
    exact ⟨rfl, ext_trans x6 x9⟩
end Go.Proofs.Ytbdkdbfcbakgmaa
