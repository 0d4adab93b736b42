/- msg: the document's texts, sameMods, sameAttrs, kind. -/
import Derived.Test.YtoockogceobfgaaGreatMfCm
import Derived.Deep.RegionHeld3
import Derived.Test.YtoockogceobfgaaGreatMgRb
import Derived.Test.YtoockogceobfgaaGreatMgHam
namespace Go.Proofs.YtoockogceobfgaaGreat
open Go.RowKit
set_option maxRecDepth 100000

set_option maxHeartbeats 8000000 in
theorem rtexts25_any {w : World} {S S' : Nat → Prop} {v v' : Value} {L M : List (List UInt8)} (h : Ss w S v L) (h' : Ss w S' v' M) :
    Calls Tryz.prog 37 #[v, v'] w fun e w' => e = .returned (.bool (decide (L = M))) ∧ Ext w w' := by
  obtain ⟨A, c, rfl, h1, h2, h3, h4⟩ := h.open_
  obtain ⟨B, d, rfl, j1, j2, j3, j4⟩ := h'.open_
  by_cases hl : L.length = M.length
  case neg =>
    have hb : ((L.length : Int) != (M.length : Int)) = true := by rw [bne_iff_ne]; omega
    go_enter Tryz.func37, Tryz.ntmps37
    go_wp2_with fail
    go_ret
    exact ⟨by rw [dfalse (fun h => hl (by rw [h]))]; rfl, Mod.refl _ _⟩
  have hb : ((L.length : Int) != (M.length : Int)) = false := by rw [bne_eq_false_iff_eq]; omega
  replace hl := Lib.hid hl
  go_enter Tryz.func37, Tryz.ntmps37
  go_wp2_with fail
  go_loopw [5] (fun i wr => ∃ k : Nat, k ≤ L.length ∧ i = .int .i64 k ∧ Hid (L.take k = M.take k) ∧ Ext w wr) (fun i _ => L.length - (intOf i).toNat)
  case atStart => exact ⟨0, Nat.zero_le _, rfl, Lib.hid (by simp), Mod.refl _ _⟩
  case round =>
    obtain ⟨k, hk, rfl, hs, q3⟩ := hrel
    by_cases hlt : k < L.length
    case neg =>
      have hbl : decide ((k : Int) < (L.length : Int)) = false := dfalse (by omega)
      have hres : L = M := by
        have := hs.out
        rwa [List.take_of_length_le (by omega), List.take_of_length_le (by have := hl.out; omega)] at this
      replace hres := Lib.hid hres
      go_wp2_with fail
      go_ret
      exact ⟨by rw [dtrue hres.out]; rfl, q3⟩
    have hbl : decide ((k : Int) < (L.length : Int)) = true := dtrue (by omega)
    have hlm : k < M.length := by have := hl.out; omega
    obtain ⟨ad, hA, hS, c0⟩ := (Cells.mod h4 q3 (fun _ _ _ h => h)).at_ hlt
    subst hA
    obtain ⟨bd, hB, hT, d0⟩ := (Cells.mod j4 q3 (fun _ _ _ h => h)).at_ hlm
    subst hB
    have hsn : L.take (k + 1) = M.take (k + 1) ↔ L[k] = M[k] := by
      rw [List.take_succ_eq_append_getElem hlt, List.take_succ_eq_append_getElem hlm, hs.out]
      exact ⟨fun h => List.singleton_inj.1 (List.append_cancel_left h), fun h => by rw [h]⟩
    have hno : L[k] ≠ M[k] → L ≠ M := fun hn he => hn (by subst he; rfl)
    have hi0 : (0 : Int) ≤ (k : Int) := by omega
    have hi1 : (k : Int) < (L.length : Int) := by omega
    have hi2 : (k : Int) < (M.length : Int) := by omega
    generalize L[k] = x at *
    generalize M[k] = y at *
    have hdw : ∀ m, Ext w (wr.drewN m) := fun m => q3.drewN m
    cases hxy : (x == y)
    case true =>
      have hs2 := Lib.hid (hsn.2 (by rw [beq_iff_eq] at hxy; exact hxy))
      clear hsn hno
      go_wp2_with fail
      go_quiet (fail)
      go_wp2_with fail
      exact ⟨⟨k + 1, by omega, by go_num, hs2, hdw _⟩, by simp [intOf] <;> omega⟩
    have hno2 := Lib.hid (hno (by rw [beq_eq_false_iff_ne] at hxy; exact hxy))
    clear hsn hno
    go_wp2_with fail
    go_quiet (fail)
    go_wp2_with fail
    go_ret
    exact ⟨by rw [dfalse hno2.out]; rfl, hdw _⟩

theorem Ats.boundr_ {w : World} {v : Value} {L : List Att} (h : Ats w v L) : L.length ≤ 9223372036854775807 := by
  obtain ⟨rs, h1, h2, _⟩ := h
  obtain ⟨A, c, _, h3, h4, _⟩ := h1.open_ atc_len
  omega
set_option maxHeartbeats 16000000 in
theorem rsameAts_any {w : World} {v u : Value} {K L : List Att} (h : Ats w v K) (h' : Ats w u L) :
    Calls Tryz.prog 39 #[v, u] w fun e w' => e = .returned (.bool (decide (K = L))) ∧ Ext w w' := by
  have hkl := h.boundr_
  have hkl2 := h'.boundr_
  obtain ⟨A, ca, ek, -⟩ := h.open_
  obtain ⟨B, cb, fk, -⟩ := h'.open_
  have hop := fun {wx : World} (x : Ext w wx) => (h.ext x).open_
  have hoq := fun {wx : World} (x : Ext w wx) => (h'.ext x).open_
  obtain ⟨R, hR⟩ : ∃ R, R = decide (K = L) := ⟨_, rfl⟩
  rw [← hR]
  obtain ⟨q, hq⟩ : ∃ m, m = K.length := ⟨_, rfl⟩
  obtain ⟨q', hq'⟩ : ∃ m, m = L.length := ⟨_, rfl⟩
  rw [← hq] at ek hkl
  rw [← hq'] at fk hkl2
  subst ek fk
  have hRn : K ≠ L → R = false := fun g => by rw [hR]; exact decide_eq_false g
  have hRy : K = L → R = true := fun g => by rw [hR]; exact decide_eq_true g
  replace hq := Lib.hid hq
  replace hq' := Lib.hid hq'
  clear h h' hR
  by_cases hqq : q = q'
  rotate_left
  · have hr : Hid (R = false) := Lib.hid (hRn (fun g => hqq (by rw [hq.out, hq'.out, g])))
    have hqb : ((q : Int) != (q' : Int)) = true := bne_iff_ne.2 (by omega)
    clear hRn hRy hop hoq hqq
    go_enter Tryz.func39, Tryz.ntmps39
    go_wp2_with fail
    go_ret
    exact ⟨by rw [hr.out]; rfl, Mod.refl _ _⟩
  subst hqq
  have hqb : ((q : Int) != (q : Int)) = false := bne_self_eq_false _
  replace hRn := Lib.hid hRn
  replace hRy := Lib.hid hRy
  go_enter Tryz.func39, Tryz.ntmps39
  go_wp2_with fail
  go_loopw [5] (fun i wr => ∃ k : Nat, k ≤ q ∧ i = .int .i64 k ∧ Hid (K.take k = L.take k) ∧ Ext w wr) (fun i _ => q - (intOf i).toNat)
  case atStart => exact ⟨0, Nat.zero_le _, rfl, Lib.hid (by simp), Mod.refl _ _⟩
  case round =>
    clear hqb
    obtain ⟨k, hkq, rfl, hal, hx⟩ := hrel
    by_cases hlt : k < q
    case neg =>
      have hbl : decide ((k : Int) < (q : Int)) = false := dfalse (by omega)
      have hbn : decide (k < q) = false := dfalse (by omega)
      have hr2 : Hid (R = true) := Lib.hid (by
        have h1 := hal.out
        rw [List.take_of_length_le (by have := hq.out; omega), List.take_of_length_le (by have := hq'.out; omega)] at h1
        exact hRy.out h1)
      clear hal hRn hRy hop hoq
      go_wp2_with fail
      go_ret
      exact ⟨by rw [hr2.out]; rfl, hx⟩
    have hbl : decide ((k : Int) < (q : Int)) = true := dtrue (by omega)
    have hbn : decide (k < q) = true := dtrue (by omega)
    have hi0 : (0 : Int) ≤ (k : Int) := by omega
    have hi1 : (k : Int) < (q : Int) := by omega
    have hkK : k < K.length := by have := hq.out; omega
    have hkL : k < L.length := by have := hq'.out; omega
    have hop1 := hop hx
    obtain ⟨A', ca', g1, h5⟩ := hop1
    rw [← hq.out] at g1
    injection g1 with g1 _ g3
    subst g1
    subst g3
    obtain ⟨ag, y1, e2, a0, a1, hF⟩ := h5 k hkK
    have hoq1 := hoq hx
    obtain ⟨B', cb', g1, h6⟩ := hoq1
    rw [← hq'.out] at g1
    injection g1 with g1 _ g3
    subst g1
    subst g3
    obtain ⟨bg, y2, e3, b0, b1, hG⟩ := h6 k hkL
    subst e2 e3
    obtain ⟨A3, m3, c3, rfl⟩ : ∃ A n c, y1 = .slice A n c := by obtain ⟨A, c, e, _⟩ := hF.open_; exact ⟨A, _, c, e⟩
    obtain ⟨A5, m5, c5, rfl⟩ : ∃ A n c, y2 = .slice A n c := by obtain ⟨A, c, e, _⟩ := hG.open_; exact ⟨A, _, c, e⟩
    have hsn : K.take (k + 1) = L.take (k + 1) ↔ K[k] = L[k] := by
      rw [List.take_succ_eq_append_getElem hkK, List.take_succ_eq_append_getElem hkL, hal.out]
      exact ⟨fun h => List.singleton_inj.1 (List.append_cancel_left h), fun h => by rw [h]⟩
    have hno : K[k] ≠ L[k] → R = false := fun hn => hRn.out (fun he => hn (by subst he; rfl))
    generalize K[k] = xF at *
    generalize L[k] = xG at *
    have hcall := fun (wx : World) (x : Ext wr wx) => rtexts25_any (Sl.ext hF x) (Sl.ext hG x)
    have heq : xF = xG ↔ (xF.typ = xG.typ ∧ xF.vals = xG.vals) := by cases xF; cases xG; simp
    have hdw : ∀ m, Ext w (wr.drewN m) := fun m => hx.drewN m
    clear hF hG hop hoq hkK hkL h5 h6
    by_cases htyp : xF.typ = xG.typ
    rotate_left
    · have hr2 := Lib.hid (hno (fun e => htyp (by rw [e])))
      have hbtyp : (xF.typ != xG.typ) = true := bne_iff_ne.2 htyp
      have hctyp : (xF.typ == xG.typ) = false := beq_eq_false_iff_ne.2 htyp
      clear hsn hno hal hRn hRy heq hcall htyp
      go_wp2_with fail
      go_quiet (fail)
      go_wp2_with fail
      go_ret
      exact ⟨by rw [hr2.out]; rfl, hdw _⟩
    have hbtyp : (xF.typ != xG.typ) = false := bne_eq_false_iff_eq.2 htyp
    have hctyp : (xF.typ == xG.typ) = true := beq_iff_eq.2 htyp
    have hS : ∀ wx, Ext wr wx → wx.cell? (ag.add (k * 2)) = some (sv xF.typ) ∧ wx.cell? ⟨(ag.add (k * 2)).block, (ag.add (k * 2)).off + 1, none⟩ = some (.slice A3 m3 c3) ∧ wx.cell? (bg.add (k * 2)) = some (sv xG.typ) ∧ wx.cell? ⟨(bg.add (k * 2)).block, (bg.add (k * 2)).off + 1, none⟩ = some (.slice A5 m5 c5) := fun wx x => ⟨ext_cell x a0, ext_cell x a1, ext_cell x b0, ext_cell x b1⟩
    have q0 : Ext wr wr.drew := (Mod.refl _ wr).drew
    by_cases hv : xF.vals = xG.vals
    · have hal2 := Lib.hid (hsn.2 (heq.2 ⟨htyp, hv⟩))
      rw [dtrue hv] at hcall
      replace hcall : ∀ wx, Ext wr wx → Hid (Calls Tryz.prog 37 #[.slice A3 m3 c3, .slice A5 m5 c5] wx fun e w' => e = .returned (.bool true) ∧ Ext wx w') := fun wx x => Lib.hid (hcall wx x)
      clear hsn hno hal hRn hRy heq hv htyp
      go_wp2_with fail
      go_region_held3 (fun wx => wx.cell? (ag.add (k * 2)) = some (sv xF.typ) ∧ wx.cell? ⟨(ag.add (k * 2)).block, (ag.add (k * 2)).off + 1, none⟩ = some (.slice A3 m3 c3) ∧ wx.cell? (bg.add (k * 2)) = some (sv xG.typ) ∧ wx.cell? ⟨(bg.add (k * 2)).block, (bg.add (k * 2)).off + 1, none⟩ = some (.slice A5 m5 c5)) (first | exact hS _ qa | exact hS _ q0) (first
        | (go_at_call 37; (with_reducible refine (hcall _ q0).out.mono ?_); rintro e wa ⟨rfl, a9⟩; have qa := ext_trans q0 a9))
      have x4 := ext_trans hx qa
      clear hS hcall hx qa q0 a0 b0 a1 b1
      go_wp2_with fail
      exact ⟨⟨k + 1, by omega, by go_num, hal2, x4⟩, by simp [intOf] <;> omega⟩
    · have hr2 := Lib.hid (hno (fun e => hv (heq.1 e).2))
      rw [dfalse hv] at hcall
      replace hcall : ∀ wx, Ext wr wx → Hid (Calls Tryz.prog 37 #[.slice A3 m3 c3, .slice A5 m5 c5] wx fun e w' => e = .returned (.bool false) ∧ Ext wx w') := fun wx x => Lib.hid (hcall wx x)
      clear hsn hno hal hRn hRy heq hv htyp
      go_wp2_with fail
      go_region_held3 (fun wx => wx.cell? (ag.add (k * 2)) = some (sv xF.typ) ∧ wx.cell? ⟨(ag.add (k * 2)).block, (ag.add (k * 2)).off + 1, none⟩ = some (.slice A3 m3 c3) ∧ wx.cell? (bg.add (k * 2)) = some (sv xG.typ) ∧ wx.cell? ⟨(bg.add (k * 2)).block, (bg.add (k * 2)).off + 1, none⟩ = some (.slice A5 m5 c5)) (first | exact hS _ qa | exact hS _ q0) (first
        | (go_at_call 37; (with_reducible refine (hcall _ q0).out.mono ?_); rintro e wa ⟨rfl, a9⟩; have qa := ext_trans q0 a9))
      have x4 := ext_trans hx qa
      clear hS hcall hx qa q0 a0 b0 a1 b1
      go_wp2_with fail
      go_ret
      exact ⟨by rw [hr2.out]; rfl, x4⟩
theorem Mds.boundr_ {w : World} {v : Value} {L : List Md} (h : Mds w v L) : L.length ≤ 9223372036854775807 := by
  obtain ⟨rs, h1, h2, _⟩ := h
  obtain ⟨A, c, _, h3, h4, _⟩ := h1.open_ mdc_len
  omega
set_option maxHeartbeats 16000000 in
theorem rsameMds_any {w : World} {v u : Value} {K L : List Md} (h : Mds w v K) (h' : Mds w u L) :
    Calls Tryz.prog 38 #[v, u] w fun e w' => e = .returned (.bool (decide (K = L))) ∧ Ext w w' := by
  have hkl := h.boundr_
  have hkl2 := h'.boundr_
  obtain ⟨A, ca, ek, -⟩ := h.open_
  obtain ⟨B, cb, fk, -⟩ := h'.open_
  have hop := fun {wx : World} (x : Ext w wx) => (h.ext x).open_
  have hoq := fun {wx : World} (x : Ext w wx) => (h'.ext x).open_
  obtain ⟨R, hR⟩ : ∃ R, R = decide (K = L) := ⟨_, rfl⟩
  rw [← hR]
  obtain ⟨q, hq⟩ : ∃ m, m = K.length := ⟨_, rfl⟩
  obtain ⟨q', hq'⟩ : ∃ m, m = L.length := ⟨_, rfl⟩
  rw [← hq] at ek hkl
  rw [← hq'] at fk hkl2
  subst ek fk
  have hRn : K ≠ L → R = false := fun g => by rw [hR]; exact decide_eq_false g
  have hRy : K = L → R = true := fun g => by rw [hR]; exact decide_eq_true g
  replace hq := Lib.hid hq
  replace hq' := Lib.hid hq'
  clear h h' hR
  by_cases hqq : q = q'
  rotate_left
  · have hr : Hid (R = false) := Lib.hid (hRn (fun g => hqq (by rw [hq.out, hq'.out, g])))
    have hqb : ((q : Int) != (q' : Int)) = true := bne_iff_ne.2 (by omega)
    clear hRn hRy hop hoq hqq
    go_enter Tryz.func38, Tryz.ntmps38
    go_wp2_with fail
    go_ret
    exact ⟨by rw [hr.out]; rfl, Mod.refl _ _⟩
  subst hqq
  have hqb : ((q : Int) != (q : Int)) = false := bne_self_eq_false _
  replace hRn := Lib.hid hRn
  replace hRy := Lib.hid hRy
  go_enter Tryz.func38, Tryz.ntmps38
  go_wp2_with fail
  go_loopw [5] (fun i wr => ∃ k : Nat, k ≤ q ∧ i = .int .i64 k ∧ Hid (K.take k = L.take k) ∧ Ext w wr) (fun i _ => q - (intOf i).toNat)
  case atStart => exact ⟨0, Nat.zero_le _, rfl, Lib.hid (by simp), Mod.refl _ _⟩
  case round =>
    clear hqb
    obtain ⟨k, hkq, rfl, hal, hx⟩ := hrel
    by_cases hlt : k < q
    case neg =>
      have hbl : decide ((k : Int) < (q : Int)) = false := dfalse (by omega)
      have hbn : decide (k < q) = false := dfalse (by omega)
      have hr2 : Hid (R = true) := Lib.hid (by
        have h1 := hal.out
        rw [List.take_of_length_le (by have := hq.out; omega), List.take_of_length_le (by have := hq'.out; omega)] at h1
        exact hRy.out h1)
      clear hal hRn hRy hop hoq
      go_wp2_with fail
      go_ret
      exact ⟨by rw [hr2.out]; rfl, hx⟩
    have hbl : decide ((k : Int) < (q : Int)) = true := dtrue (by omega)
    have hbn : decide (k < q) = true := dtrue (by omega)
    have hi0 : (0 : Int) ≤ (k : Int) := by omega
    have hi1 : (k : Int) < (q : Int) := by omega
    have hkK : k < K.length := by have := hq.out; omega
    have hkL : k < L.length := by have := hq'.out; omega
    have hop1 := hop hx
    obtain ⟨A', ca', g1, h5⟩ := hop1
    rw [← hq.out] at g1
    injection g1 with g1 _ g3
    subst g1
    subst g3
    obtain ⟨ag, y1, e2, a0, a1, a2, hF⟩ := h5 k hkK
    have hoq1 := hoq hx
    obtain ⟨B', cb', g1, h6⟩ := hoq1
    rw [← hq'.out] at g1
    injection g1 with g1 _ g3
    subst g1
    subst g3
    obtain ⟨bg, y2, e3, b0, b1, b2, hG⟩ := h6 k hkL
    subst e2 e3
    obtain ⟨A3, m3, c3, rfl⟩ : ∃ A n c, y1 = .slice A n c := by obtain ⟨A, c, e, _⟩ := hF.open_; exact ⟨A, _, c, e⟩
    obtain ⟨A5, m5, c5, rfl⟩ : ∃ A n c, y2 = .slice A n c := by obtain ⟨A, c, e, _⟩ := hG.open_; exact ⟨A, _, c, e⟩
    have hsn : K.take (k + 1) = L.take (k + 1) ↔ K[k] = L[k] := by
      rw [List.take_succ_eq_append_getElem hkK, List.take_succ_eq_append_getElem hkL, hal.out]
      exact ⟨fun h => List.singleton_inj.1 (List.append_cancel_left h), fun h => by rw [h]⟩
    have hno : K[k] ≠ L[k] → R = false := fun hn => hRn.out (fun he => hn (by subst he; rfl))
    generalize K[k] = xF at *
    generalize L[k] = xG at *
    have hcall := fun (wx : World) (x : Ext wr wx) => rtexts25_any (Sl.ext hF x) (Sl.ext hG x)
    have heq : xF = xG ↔ (xF.kind = xG.kind ∧ xF.typ = xG.typ ∧ xF.vals = xG.vals) := by cases xF; cases xG; simp
    have hdw : ∀ m, Ext w (wr.drewN m) := fun m => hx.drewN m
    clear hF hG hop hoq hkK hkL h5 h6
    by_cases hkind : xF.kind = xG.kind
    rotate_left
    · have hr2 := Lib.hid (hno (fun e => hkind (by rw [e])))
      have hbkind : (xF.kind != xG.kind) = true := bne_iff_ne.2 hkind
      have hckind : (xF.kind == xG.kind) = false := beq_eq_false_iff_ne.2 hkind
      clear hsn hno hal hRn hRy heq hcall hkind
      go_wp2_with fail
      go_quiet (fail)
      go_wp2_with fail
      go_ret
      exact ⟨by rw [hr2.out]; rfl, hdw _⟩
    have hbkind : (xF.kind != xG.kind) = false := bne_eq_false_iff_eq.2 hkind
    have hckind : (xF.kind == xG.kind) = true := beq_iff_eq.2 hkind
    by_cases htyp : xF.typ = xG.typ
    rotate_left
    · have hr2 := Lib.hid (hno (fun e => htyp (by rw [e])))
      have hbtyp : (xF.typ != xG.typ) = true := bne_iff_ne.2 htyp
      have hctyp : (xF.typ == xG.typ) = false := beq_eq_false_iff_ne.2 htyp
      clear hsn hno hal hRn hRy heq hcall htyp
      go_wp2_with fail
      go_quiet (fail)
      go_wp2_with fail
      go_ret
      exact ⟨by rw [hr2.out]; rfl, hdw _⟩
    have hbtyp : (xF.typ != xG.typ) = false := bne_eq_false_iff_eq.2 htyp
    have hctyp : (xF.typ == xG.typ) = true := beq_iff_eq.2 htyp
    have hS : ∀ wx, Ext wr wx → wx.cell? (ag.add (k * 3)) = some (.int .i64 xF.kind) ∧ wx.cell? ⟨(ag.add (k * 3)).block, (ag.add (k * 3)).off + 1, none⟩ = some (sv xF.typ) ∧ wx.cell? ⟨(ag.add (k * 3)).block, (ag.add (k * 3)).off + 2, none⟩ = some (.slice A3 m3 c3) ∧ wx.cell? (bg.add (k * 3)) = some (.int .i64 xG.kind) ∧ wx.cell? ⟨(bg.add (k * 3)).block, (bg.add (k * 3)).off + 1, none⟩ = some (sv xG.typ) ∧ wx.cell? ⟨(bg.add (k * 3)).block, (bg.add (k * 3)).off + 2, none⟩ = some (.slice A5 m5 c5) := fun wx x => ⟨ext_cell x a0, ext_cell x a1, ext_cell x a2, ext_cell x b0, ext_cell x b1, ext_cell x b2⟩
    have q0 : Ext wr wr.drew := (Mod.refl _ wr).drew
    by_cases hv : xF.vals = xG.vals
    · have hal2 := Lib.hid (hsn.2 (heq.2 ⟨hkind, htyp, hv⟩))
      rw [dtrue hv] at hcall
      replace hcall : ∀ wx, Ext wr wx → Hid (Calls Tryz.prog 37 #[.slice A3 m3 c3, .slice A5 m5 c5] wx fun e w' => e = .returned (.bool true) ∧ Ext wx w') := fun wx x => Lib.hid (hcall wx x)
      clear hsn hno hal hRn hRy heq hv hkind htyp
      go_wp2_with fail
      go_region_held3 (fun wx => wx.cell? (ag.add (k * 3)) = some (.int .i64 xF.kind) ∧ wx.cell? ⟨(ag.add (k * 3)).block, (ag.add (k * 3)).off + 1, none⟩ = some (sv xF.typ) ∧ wx.cell? ⟨(ag.add (k * 3)).block, (ag.add (k * 3)).off + 2, none⟩ = some (.slice A3 m3 c3) ∧ wx.cell? (bg.add (k * 3)) = some (.int .i64 xG.kind) ∧ wx.cell? ⟨(bg.add (k * 3)).block, (bg.add (k * 3)).off + 1, none⟩ = some (sv xG.typ) ∧ wx.cell? ⟨(bg.add (k * 3)).block, (bg.add (k * 3)).off + 2, none⟩ = some (.slice A5 m5 c5)) (first | exact hS _ qa | exact hS _ q0) (first
        | (go_at_call 37; (with_reducible refine (hcall _ q0).out.mono ?_); rintro e wa ⟨rfl, a9⟩; have qa := ext_trans q0 a9))
      have x4 := ext_trans hx qa
      clear hS hcall hx qa q0 a0 b0 a1 b1 a2 b2
      go_wp2_with fail
      exact ⟨⟨k + 1, by omega, by go_num, hal2, x4⟩, by simp [intOf] <;> omega⟩
    · have hr2 := Lib.hid (hno (fun e => hv (heq.1 e).2.2))
      rw [dfalse hv] at hcall
      replace hcall : ∀ wx, Ext wr wx → Hid (Calls Tryz.prog 37 #[.slice A3 m3 c3, .slice A5 m5 c5] wx fun e w' => e = .returned (.bool false) ∧ Ext wx w') := fun wx x => Lib.hid (hcall wx x)
      clear hsn hno hal hRn hRy heq hv hkind htyp
      go_wp2_with fail
      go_region_held3 (fun wx => wx.cell? (ag.add (k * 3)) = some (.int .i64 xF.kind) ∧ wx.cell? ⟨(ag.add (k * 3)).block, (ag.add (k * 3)).off + 1, none⟩ = some (sv xF.typ) ∧ wx.cell? ⟨(ag.add (k * 3)).block, (ag.add (k * 3)).off + 2, none⟩ = some (.slice A3 m3 c3) ∧ wx.cell? (bg.add (k * 3)) = some (.int .i64 xG.kind) ∧ wx.cell? ⟨(bg.add (k * 3)).block, (bg.add (k * 3)).off + 1, none⟩ = some (sv xG.typ) ∧ wx.cell? ⟨(bg.add (k * 3)).block, (bg.add (k * 3)).off + 2, none⟩ = some (.slice A5 m5 c5)) (first | exact hS _ qa | exact hS _ q0) (first
        | (go_at_call 37; (with_reducible refine (hcall _ q0).out.mono ?_); rintro e wa ⟨rfl, a9⟩; have qa := ext_trans q0 a9))
      have x4 := ext_trans hx qa
      clear hS hcall hx qa q0 a0 b0 a1 b1 a2 b2
      go_wp2_with fail
      go_ret
      exact ⟨by rw [hr2.out]; rfl, x4⟩
set_option maxHeartbeats 8000000 in
theorem rkind25_yes {w : World} {k : Int} (h : isOp k) : Calls Tryz.prog 42 #[.int .i64 k] w fun e w' => e = .returned (.bool true) ∧ w' = w := by
  rcases h with rfl | rfl | rfl | rfl | rfl | rfl | rfl | rfl | rfl
  all_goals
    go_enter Tryz.func42, Tryz.ntmps42
    go_wp2_with fail
    go_ret
    exact ⟨rfl, rfl⟩
set_option maxHeartbeats 8000000 in
theorem rkind25_no {w : World} {k : Int} (h : ¬ isOp k) : Calls Tryz.prog 42 #[.int .i64 k] w fun e w' => e = .returned (.bool false) ∧ w' = w := by
  have h' := h
  unfold isOp at h'
  have b0 : (k == 0) = false := beq_eq_false_iff_ne.2 (by omega)
  have b2 : (k == 2) = false := beq_eq_false_iff_ne.2 (by omega)
  have b3 : (k == 3) = false := beq_eq_false_iff_ne.2 (by omega)
  have b6 : (k == 6) = false := beq_eq_false_iff_ne.2 (by omega)
  have b8 : (k == 8) = false := beq_eq_false_iff_ne.2 (by omega)
  have b10 : (k == 10) = false := beq_eq_false_iff_ne.2 (by omega)
  have b12 : (k == 12) = false := beq_eq_false_iff_ne.2 (by omega)
  have b14 : (k == 14) = false := beq_eq_false_iff_ne.2 (by omega)
  have b16 : (k == 16) = false := beq_eq_false_iff_ne.2 (by omega)
  clear h h'
  go_enter Tryz.func42, Tryz.ntmps42
  go_wp2_with fail
  go_ret
  exact ⟨rfl, rfl⟩
theorem rkind25_any {w : World} (k : Int) : Calls Tryz.prog 42 #[.int .i64 k] w fun e w' => e = .returned (.bool (decide (isOp k))) ∧ w' = w := by
  by_cases h : isOp k
  · rw [dtrue h]; exact rkind25_yes h
  · rw [dfalse h]; exact rkind25_no h
end Go.Proofs.YtoockogceobfgaaGreat
namespace Go.Proofs.YtoockogceobfgaaGreat
open Go.RowKit
set_option maxRecDepth 100000

set_option maxHeartbeats 32000000 in
theorem rsame25_yes {n : Nat} {w : World} {a b : Rq} {A0 A1 A2 A3 A4 B0 B1 B2 B3 B4 : Option Addr} {A0n A0c A1n A1c A2n A2c A3n A3c A4n A4c B0n B0c B1n B1c B2n B2c B3n B3c B4n B4c : Nat} (h : RqAt n w a (.slice A0 A0n A0c) (.slice A1 A1n A1c) (.slice A2 A2n A2c) (.slice A3 A3n A3c) (.slice A4 A4n A4c)) (h' : RqAt n w b (.slice B0 B0n B0c) (.slice B1 B1n B1c) (.slice B2 B2n B2c) (.slice B3 B3n B3c) (.slice B4 B4n B4c)) (hpl : plainQ a b = true) :
    Calls Tryz.prog 11 #[.agg #[.int .i64 a.num, .int .i64 a.kind, sv a.dn, sv a.pass, .int .i64 a.scope, .int .i64 a.limit, .int .i64 a.fil.kind, sv a.fil.typ, sv a.fil.val, .slice A0 A0n A0c, .slice A1 A1n A1c, .slice A2 A2n A2c, .slice A3 A3n A3c, .slice A4 A4n A4c, sv a.rdn, .bool a.keep, .bool a.above, sv a.up, sv a.avt, sv a.avv, .int .i64 a.which], .agg #[.int .i64 b.num, .int .i64 b.kind, sv b.dn, sv b.pass, .int .i64 b.scope, .int .i64 b.limit, .int .i64 b.fil.kind, sv b.fil.typ, sv b.fil.val, .slice B0 B0n B0c, .slice B1 B1n B1c, .slice B2 B2n B2c, .slice B3 B3n B3c, .slice B4 B4n B4c, sv b.rdn, .bool b.keep, .bool b.above, sv b.up, sv b.avt, sv b.avv, .int .i64 b.which]] w fun e w' => e = .returned (.bool (decide (a.want = b.want) && (decide (a.ats = b.ats) && (eqN n a.fil b.fil && decide (a.mods = b.mods))))) ∧ Ext w w' := by
  obtain ⟨R, hR⟩ : ∃ R, R = (decide (a.want = b.want) && (decide (a.ats = b.ats) && (eqN n a.fil b.fil && decide (a.mods = b.mods)))) := ⟨_, rfl⟩
  rw [← hR]
  obtain ⟨X1, hX1⟩ : ∃ X, X = decide (a.want = b.want) := ⟨_, rfl⟩
  obtain ⟨X2, hX2⟩ : ∃ X, X = decide (a.ats = b.ats) := ⟨_, rfl⟩
  obtain ⟨X3, hX3⟩ : ∃ X, X = eqN n a.fil b.fil := ⟨_, rfl⟩
  obtain ⟨X4, hX4⟩ : ∃ X, X = decide (a.mods = b.mods) := ⟨_, rfl⟩
  rw [← hX1, ← hX2, ← hX3, ← hX4] at hR
  have hR2 : R = (X3 && (X1 && (X4 && X2))) := by rw [hR]; cases X1 <;> cases X2 <;> cases X3 <;> cases X4 <;> rfl
  clear hR
  unfold plainQ at hpl
  obtain ⟨x2a, x2b, x2⟩ := Blk.twoN w #[.int .i64 a.num, .int .i64 a.kind, sv a.dn, sv a.pass, .int .i64 a.scope, .int .i64 a.limit, .int .i64 a.fil.kind, sv a.fil.typ, sv a.fil.val, .slice A0 A0n A0c, .slice A1 A1n A1c, .slice A2 A2n A2c, .slice A3 A3n A3c, .slice A4 A4n A4c, sv a.rdn, .bool a.keep, .bool a.above, sv a.up, sv a.avt, sv a.avv, .int .i64 a.which] #[.int .i64 b.num, .int .i64 b.kind, sv b.dn, sv b.pass, .int .i64 b.scope, .int .i64 b.limit, .int .i64 b.fil.kind, sv b.fil.typ, sv b.fil.val, .slice B0 B0n B0c, .slice B1 B1n B1c, .slice B2 B2n B2c, .slice B3 B3n B3c, .slice B4 B4n B4c, sv b.rdn, .bool b.keep, .bool b.above, sv b.up, sv b.avt, sv b.avv, .int .i64 b.which] 32 32
  obtain ⟨w2, hw2⟩ : ∃ x, x = (w.alloc (.cells #[.int .i64 a.num, .int .i64 a.kind, sv a.dn, sv a.pass, .int .i64 a.scope, .int .i64 a.limit, .int .i64 a.fil.kind, sv a.fil.typ, sv a.fil.val, .slice A0 A0n A0c, .slice A1 A1n A1c, .slice A2 A2n A2c, .slice A3 A3n A3c, .slice A4 A4n A4c, sv a.rdn, .bool a.keep, .bool a.above, sv a.up, sv a.avt, sv a.avv, .int .i64 a.which] 32)).alloc (.cells #[.int .i64 b.num, .int .i64 b.kind, sv b.dn, sv b.pass, .int .i64 b.scope, .int .i64 b.limit, .int .i64 b.fil.kind, sv b.fil.typ, sv b.fil.val, .slice B0 B0n B0c, .slice B1 B1n B1c, .slice B2 B2n B2c, .slice B3 B3n B3c, .slice B4 B4n B4c, sv b.rdn, .bool b.keep, .bool b.above, sv b.up, sv b.avt, sv b.avv, .int .i64 b.which] 32) := ⟨_, rfl⟩
  rw [← hw2] at x2a x2b x2
  obtain ⟨q, hq⟩ : ∃ q, q = w.heap.size + 1 := ⟨_, rfl⟩
  obtain ⟨p, hp⟩ : ∃ p, p = w.heap.size := ⟨_, rfl⟩
  rw [← hq] at x2b
  rw [← hp] at x2a
  have a0 : w2.cell? ⟨p, 0, none⟩ = some (.int .i64 a.num) := x2a.cell 0
  have b0 : w2.cell? ⟨q, 0, none⟩ = some (.int .i64 b.num) := x2b.cell 0
  have a1 : w2.cell? ⟨p, 1, none⟩ = some (.int .i64 a.kind) := x2a.cell 1
  have b1 : w2.cell? ⟨q, 1, none⟩ = some (.int .i64 b.kind) := x2b.cell 1
  have a2 : w2.cell? ⟨p, 2, none⟩ = some (sv a.dn) := x2a.cell 2
  have b2 : w2.cell? ⟨q, 2, none⟩ = some (sv b.dn) := x2b.cell 2
  have a3 : w2.cell? ⟨p, 3, none⟩ = some (sv a.pass) := x2a.cell 3
  have b3 : w2.cell? ⟨q, 3, none⟩ = some (sv b.pass) := x2b.cell 3
  have a4 : w2.cell? ⟨p, 4, none⟩ = some (.int .i64 a.scope) := x2a.cell 4
  have b4 : w2.cell? ⟨q, 4, none⟩ = some (.int .i64 b.scope) := x2b.cell 4
  have a5 : w2.cell? ⟨p, 5, none⟩ = some (.int .i64 a.limit) := x2a.cell 5
  have b5 : w2.cell? ⟨q, 5, none⟩ = some (.int .i64 b.limit) := x2b.cell 5
  have a14 : w2.cell? ⟨p, 14, none⟩ = some (sv a.rdn) := x2a.cell 14
  have b14 : w2.cell? ⟨q, 14, none⟩ = some (sv b.rdn) := x2b.cell 14
  have a15 : w2.cell? ⟨p, 15, none⟩ = some (.bool a.keep) := x2a.cell 15
  have b15 : w2.cell? ⟨q, 15, none⟩ = some (.bool b.keep) := x2b.cell 15
  have a16 : w2.cell? ⟨p, 16, none⟩ = some (.bool a.above) := x2a.cell 16
  have b16 : w2.cell? ⟨q, 16, none⟩ = some (.bool b.above) := x2b.cell 16
  have a17 : w2.cell? ⟨p, 17, none⟩ = some (sv a.up) := x2a.cell 17
  have b17 : w2.cell? ⟨q, 17, none⟩ = some (sv b.up) := x2b.cell 17
  have a18 : w2.cell? ⟨p, 18, none⟩ = some (sv a.avt) := x2a.cell 18
  have b18 : w2.cell? ⟨q, 18, none⟩ = some (sv b.avt) := x2b.cell 18
  have a19 : w2.cell? ⟨p, 19, none⟩ = some (sv a.avv) := x2a.cell 19
  have b19 : w2.cell? ⟨q, 19, none⟩ = some (sv b.avv) := x2b.cell 19
  have a20 : w2.cell? ⟨p, 20, none⟩ = some (.int .i64 a.which) := x2a.cell 20
  have b20 : w2.cell? ⟨q, 20, none⟩ = some (.int .i64 b.which) := x2b.cell 20
  have a6 : w2.cell? ⟨p, 6, none⟩ = some (.int .i64 a.fil.kind) := x2a.cell 6
  have b6 : w2.cell? ⟨q, 6, none⟩ = some (.int .i64 b.fil.kind) := x2b.cell 6
  have a7 : w2.cell? ⟨p, 7, none⟩ = some (sv a.fil.typ) := x2a.cell 7
  have b7 : w2.cell? ⟨q, 7, none⟩ = some (sv b.fil.typ) := x2b.cell 7
  have a8 : w2.cell? ⟨p, 8, none⟩ = some (sv a.fil.val) := x2a.cell 8
  have b8 : w2.cell? ⟨q, 8, none⟩ = some (sv b.fil.val) := x2b.cell 8
  have a9 : w2.cell? ⟨p, 9, none⟩ = some (.slice A0 A0n A0c) := x2a.cell 9
  have b9 : w2.cell? ⟨q, 9, none⟩ = some (.slice B0 B0n B0c) := x2b.cell 9
  have a10 : w2.cell? ⟨p, 10, none⟩ = some (.slice A1 A1n A1c) := x2a.cell 10
  have b10 : w2.cell? ⟨q, 10, none⟩ = some (.slice B1 B1n B1c) := x2b.cell 10
  have hc11 : ∀ {wx : World}, Ext w2 wx → wx.cell? ⟨p, 11, none⟩ = some (.slice A2 A2n A2c) ∧ wx.cell? ⟨q, 11, none⟩ = some (.slice B2 B2n B2c) := fun x => ⟨(x2a.mod x (fun h => h)).cell 11, (x2b.mod x (fun h => h)).cell 11⟩
  have hc12 : ∀ {wx : World}, Ext w2 wx → wx.cell? ⟨p, 12, none⟩ = some (.slice A3 A3n A3c) ∧ wx.cell? ⟨q, 12, none⟩ = some (.slice B3 B3n B3c) := fun x => ⟨(x2a.mod x (fun h => h)).cell 12, (x2b.mod x (fun h => h)).cell 12⟩
  have hc13 : ∀ {wx : World}, Ext w2 wx → wx.cell? ⟨p, 13, none⟩ = some (.slice A4 A4n A4c) ∧ wx.cell? ⟨q, 13, none⟩ = some (.slice B4 B4n B4c) := fun x => ⟨(x2a.mod x (fun h => h)).cell 13, (x2b.mod x (fun h => h)).cell 13⟩
  have hE : ∀ {wx : World}, Ext w wx → Hid (Calls Tryz.prog 37 #[.slice A2 A2n A2c, .slice B2 B2n B2c] wx fun e w' => e = .returned (.bool (decide (a.want = b.want))) ∧ Ext wx w') := fun x => Lib.hid (rtexts25_any (Sl.ext h.want x) (Sl.ext h'.want x))
  have hT : ∀ {wx : World}, Ext w wx → Hid (Calls Tryz.prog 39 #[.slice A4 A4n A4c, .slice B4 B4n B4c] wx fun e w' => e = .returned (.bool (decide (a.ats = b.ats))) ∧ Ext wx w') := fun x => Lib.hid (rsameAts_any (h.ats.ext x) (h'.ats.ext x))
  have hF : Hid (Calls Tryz.prog 36 #[.agg #[.int .i64 a.fil.kind, sv a.fil.typ, sv a.fil.val, .slice A0 A0n A0c, .slice A1 A1n A1c], .agg #[.int .i64 b.fil.kind, sv b.fil.typ, sv b.fil.val, .slice B0 B0n B0c, .slice B1 B1n B1c]] w2 fun e w' => e = .returned (.bool (eqN n a.fil b.fil)) ∧ Ext w2 w') := Lib.hid (rsame_any n (h.fil.ext x2) (h'.fil.ext x2))
  have hM : ∀ {wx : World}, Ext w wx → Hid (Calls Tryz.prog 38 #[.slice A3 A3n A3c, .slice B3 B3n B3c] wx fun e w' => e = .returned (.bool (decide (a.mods = b.mods))) ∧ Ext wx w') := fun x => Lib.hid (rsameMds_any (h.mods.ext x) (h'.mods.ext x))
  clear h h' x2a x2b
  simp only [← hX1] at hE
  simp only [← hX2] at hT
  rw [← hX3] at hF
  simp only [← hX4] at hM
  clear hX1 hX2 hX3 hX4
  obtain ⟨YA, hYA⟩ : ∃ X, X = decide ((a.avt, a.avv) = (b.avt, b.avv)) := ⟨_, rfl⟩
  have heA : ∀ wx, (binOp .eql 30 (.agg #[sv a.avt, sv a.avv]) (.agg #[sv b.avt, sv b.avv])).run Tryz.prog wx = .ok (.bool (decide ((a.avt, a.avv) = (b.avt, b.avv)))) wx := fun wx => eqA wx (a.avt, a.avv) (b.avt, b.avv)
  have hgu := fun wx x y => guardA0 wx .eql x y #[sv a.avt, sv a.avv] #[sv b.avt, sv b.avv]
  rw [← hYA] at heA hpl
  clear hYA
  generalize a.num = unum at *
  generalize a.kind = ukind at *
  generalize a.dn = udn at *
  generalize a.pass = upass at *
  generalize a.scope = uscope at *
  generalize a.limit = ulimit at *
  generalize a.rdn = urdn at *
  generalize a.keep = ukeep at *
  generalize a.above = uabove at *
  generalize a.up = uup at *
  generalize a.avt = uavt at *
  generalize a.avv = uavv at *
  generalize a.which = uwhich at *
  generalize a.fil.kind = ufkind at *
  generalize a.fil.typ = uftyp at *
  generalize a.fil.val = ufval at *
  generalize b.num = vnum at *
  generalize b.kind = vkind at *
  generalize b.dn = vdn at *
  generalize b.pass = vpass at *
  generalize b.scope = vscope at *
  generalize b.limit = vlimit at *
  generalize b.rdn = vrdn at *
  generalize b.keep = vkeep at *
  generalize b.above = vabove at *
  generalize b.up = vup at *
  generalize b.avt = vavt at *
  generalize b.avv = vavv at *
  generalize b.which = vwhich at *
  generalize b.fil.kind = vfkind at *
  generalize b.fil.typ = vftyp at *
  generalize b.fil.val = vfval at *
  simp only [Bool.and_eq_true] at hpl
  obtain ⟨h0, h1, h2, h3, h4, h5, h14, h15, h16, h17, h18, h20⟩ := hpl
  subst h18
  replace hR2 := Lib.hid hR2
  replace hw2 := Lib.hid hw2
  replace hq := Lib.hid hq
  replace hp := Lib.hid hp
  go_enter Tryz.func11, Tryz.ntmps11
  go_upto_region 1 with fail
  rw [← hw2.out, ← hq.out, ← hp.out]
  clear hw2 hq hp
  go_upto_region 2 with fail
  clear a0 b0 a1 b1 a2 b2 a3 b3 a4 b4 a5 b5 a14 b14 a15 b15 a16 b16 a17 b17 a18 b18 a19 b19 a20 b20 heA hgu h0 h1 h2 h3 h4 h5 h14 h15 h16 h17 h20
  go_wp2_with fail
  refine hF.out.mono ?_
  rintro e w3 ⟨rfl, x3⟩
  clear hF a6 b6 a7 b7 a8 b8 a9 b9 a10 b10
  have z3 := ext_trans x2 x3
  cases X3
  · have hr : Hid (R = false) := Lib.hid (by rw [hR2.out]; rfl)
    clear hE hM hT hc11 hc12 hc13 hR2
    go_wp2_with fail
    go_ret
    exact ⟨by rw [hr.out]; rfl, z3⟩
  have k11 := hc11 x3
  obtain ⟨c1, c2⟩ := k11
  have hE3 := hE z3
  clear hE hc11
  go_wp2_with fail
  refine hE3.out.mono ?_
  rintro e w4 ⟨rfl, x4⟩
  have y4 := ext_trans x3 x4
  have z4 := ext_trans z3 x4
  clear hE3 c1 c2 x3 z3 x4
  cases X1
  · have hr : Hid (R = false) := Lib.hid (by rw [hR2.out]; rfl)
    clear hM hT hc12 hc13 hR2
    go_wp2_with fail
    go_ret
    exact ⟨by rw [hr.out]; rfl, z4⟩
  have k12 := hc12 y4
  obtain ⟨c1, c2⟩ := k12
  have hM4 := hM z4
  clear hM hc12
  go_wp2_with fail
  refine hM4.out.mono ?_
  rintro e w5 ⟨rfl, x5⟩
  have y5 := ext_trans y4 x5
  have z5 := ext_trans z4 x5
  clear hM4 c1 c2 y4 z4 x5
  cases X4
  · have hr : Hid (R = false) := Lib.hid (by rw [hR2.out]; rfl)
    clear hT hc13 hR2
    go_wp2_with fail
    go_ret
    exact ⟨by rw [hr.out]; rfl, z5⟩
  have hr : Hid (R = X2) := Lib.hid (by rw [hR2.out]; rfl)
  have k13 := hc13 y5
  obtain ⟨c1, c2⟩ := k13
  have hT5 := hT z5
  clear hT hc13 hR2
  go_wp2_with fail
  refine hT5.out.mono ?_
  rintro e w6 ⟨rfl, x6⟩
  go_wp2_with fail
  go_ret
  exact ⟨by rw [hr.out]; simp, ext_trans z5 x6⟩
theorem rsame25_any {n : Nat} {w : World} {a b : Rq} {A0 A1 A2 A3 A4 B0 B1 B2 B3 B4 : Option Addr} {A0n A0c A1n A1c A2n A2c A3n A3c A4n A4c B0n B0c B1n B1c B2n B2c B3n B3c B4n B4c : Nat} (h : RqAt n w a (.slice A0 A0n A0c) (.slice A1 A1n A1c) (.slice A2 A2n A2c) (.slice A3 A3n A3c) (.slice A4 A4n A4c)) (h' : RqAt n w b (.slice B0 B0n B0c) (.slice B1 B1n B1c) (.slice B2 B2n B2c) (.slice B3 B3n B3c) (.slice B4 B4n B4c)) :
    Calls Tryz.prog 11 #[.agg #[.int .i64 a.num, .int .i64 a.kind, sv a.dn, sv a.pass, .int .i64 a.scope, .int .i64 a.limit, .int .i64 a.fil.kind, sv a.fil.typ, sv a.fil.val, .slice A0 A0n A0c, .slice A1 A1n A1c, .slice A2 A2n A2c, .slice A3 A3n A3c, .slice A4 A4n A4c, sv a.rdn, .bool a.keep, .bool a.above, sv a.up, sv a.avt, sv a.avv, .int .i64 a.which], .agg #[.int .i64 b.num, .int .i64 b.kind, sv b.dn, sv b.pass, .int .i64 b.scope, .int .i64 b.limit, .int .i64 b.fil.kind, sv b.fil.typ, sv b.fil.val, .slice B0 B0n B0c, .slice B1 B1n B1c, .slice B2 B2n B2c, .slice B3 B3n B3c, .slice B4 B4n B4c, sv b.rdn, .bool b.keep, .bool b.above, sv b.up, sv b.avt, sv b.avv, .int .i64 b.which]] w fun e w' => e = .returned (.bool (sameQ n a b)) ∧ Ext w w' := by
  unfold sameQ
  cases hp : plainQ a b
  · exact rsame25_no (_n := n) hp
  · exact rsame25_yes h h' hp
end Go.Proofs.YtoockogceobfgaaGreat
namespace Go.Proofs.YtoockogceobfgaaGreat
open Go.RowKit
set_option maxRecDepth 100000

set_option maxHeartbeats 16000000 in
theorem rlists25_any {n : Nat} {w : World} {r : Rq} {A0 A1 A2 A3 A4 : Option Addr} {A0n A0c A1n A1c A2n A2c A3n A3c A4n A4c : Nat} (h : RqAt n w r (.slice A0 A0n A0c) (.slice A1 A1n A1c) (.slice A2 A2n A2c) (.slice A3 A3n A3c) (.slice A4 A4n A4c)) (hkd : ∀ m ∈ r.mods, -9223372036854775808 ≤ m.kind ∧ m.kind ≤ 9223372036854775807) :
    Calls Tryz.prog 43 #[.agg #[.int .i64 r.num, .int .i64 r.kind, sv r.dn, sv r.pass, .int .i64 r.scope, .int .i64 r.limit, .int .i64 r.fil.kind, sv r.fil.typ, sv r.fil.val, .slice A0 A0n A0c, .slice A1 A1n A1c, .slice A2 A2n A2c, .slice A3 A3n A3c, .slice A4 A4n A4c, sv r.rdn, .bool r.keep, .bool r.above, sv r.up, sv r.avt, sv r.avv, .int .i64 r.which]] w fun e w' => e = .returned (.bool (listsQ r)) ∧ Ext w w' := by
  obtain ⟨l2, l3, l4⟩ := h.lens
  have hom := fun {wx : World} (x : Ext w wx) => (h.mods.ext x).open_
  have hoa := fun {wx : World} (x : Ext w wx) => (h.ats.ext x).open_
  obtain ⟨L, hL⟩ : ∃ L, L = listsQ r := ⟨_, rfl⟩
  rw [← hL]
  unfold listsQ at hL
  obtain ⟨w1, hw1⟩ : ∃ x, x = w.alloc (.cells #[.int .i64 r.num, .int .i64 r.kind, sv r.dn, sv r.pass, .int .i64 r.scope, .int .i64 r.limit, .int .i64 r.fil.kind, sv r.fil.typ, sv r.fil.val, .slice A0 A0n A0c, .slice A1 A1n A1c, .slice A2 A2n A2c, .slice A3 A3n A3c, .slice A4 A4n A4c, sv r.rdn, .bool r.keep, .bool r.above, sv r.up, sv r.avt, sv r.avv, .int .i64 r.which] 32) := ⟨_, rfl⟩
  obtain ⟨p, hp⟩ : ∃ p, p = w.heap.size := ⟨_, rfl⟩
  have x1 : Ext w w1 := by rw [hw1]; exact (Mod.refl _ w).alloc _
  have BP : Blk w1 p 32 #[.int .i64 r.num, .int .i64 r.kind, sv r.dn, sv r.pass, .int .i64 r.scope, .int .i64 r.limit, .int .i64 r.fil.kind, sv r.fil.typ, sv r.fil.val, .slice A0 A0n A0c, .slice A1 A1n A1c, .slice A2 A2n A2c, .slice A3 A3n A3c, .slice A4 A4n A4c, sv r.rdn, .bool r.keep, .bool r.above, sv r.up, sv r.avt, sv r.avv, .int .i64 r.which] := by rw [hw1, hp]; exact Blk.new w _ _
  have p11 : w1.cell? ⟨p, 11, none⟩ = some (.slice A2 A2n A2c) := BP.cell 11
  have p12 : w1.cell? ⟨p, 12, none⟩ = some (.slice A3 A3n A3c) := BP.cell 12
  have p13 : w1.cell? ⟨p, 13, none⟩ = some (.slice A4 A4n A4c) := BP.cell 13
  have hcc : ∀ {wx : World}, Ext w1 wx → wx.cell? ⟨p, 12, none⟩ = some (.slice A3 A3n A3c) ∧ wx.cell? ⟨p, 13, none⟩ = some (.slice A4 A4n A4c) := fun x => ⟨(BP.mod x (fun h => h)).cell 12, (BP.mod x (fun h => h)).cell 13⟩
  obtain ⟨KM, hKM⟩ : ∃ K, K = r.mods := ⟨_, rfl⟩
  obtain ⟨KA, hKA⟩ : ∃ K, K = r.ats := ⟨_, rfl⟩
  rw [← hKM] at hom hL l3 hkd
  rw [← hKA] at hoa hL l4
  rw [← l2, ← l3, ← l4] at hL
  clear h BP hKM hKA l2
  generalize r.num = f0 at *
  generalize r.kind = f1 at *
  generalize r.dn = f2 at *
  generalize r.pass = f3 at *
  generalize r.scope = f4 at *
  generalize r.limit = f5 at *
  generalize r.fil.kind = f6 at *
  generalize r.fil.typ = f7 at *
  generalize r.fil.val = f8 at *
  generalize r.rdn = f14 at *
  generalize r.keep = f15 at *
  generalize r.above = f16 at *
  generalize r.up = f17 at *
  generalize r.avt = f18 at *
  generalize r.avv = f19 at *
  generalize r.which = f20 at *
  replace hw1 := Lib.hid hw1
  replace hp := Lib.hid hp
  have big : ∀ (k : Nat), ¬ k ≤ 64 → decide ((k : Int) > 64) = true ∧ decide ((64 : Int) < (k : Int)) = true ∧ decide (64 < k) = true := fun k h => ⟨dtrue (by omega), dtrue (by omega), dtrue (by omega)⟩
  have small : ∀ (k : Nat), k ≤ 64 → decide ((k : Int) > 64) = false ∧ decide ((64 : Int) < (k : Int)) = false ∧ decide (64 < k) = false := fun k h => ⟨dfalse (by omega), dfalse (by omega), dfalse (by omega)⟩
  have hlen : ¬ (A2n ≤ 64 ∧ A3n ≤ 64 ∧ A4n ≤ 64) → L = false := fun g => by rw [hL, dfalse g]; rfl
  by_cases g0 : A2n ≤ 64
  rotate_left
  · obtain ⟨b1, b2, b3⟩ := big A2n g0
    have hr : Hid (L = false) := Lib.hid (hlen (by omega))
    clear big small hlen hL hom hoa hcc g0 l3 l4
    go_enter Tryz.func43, Tryz.ntmps43
    go_upto_region 1 with fail
    rw [← hw1.out, ← hp.out]
    clear hw1 hp
    go_wp2_with fail
    go_ret
    exact ⟨by rw [hr.out]; rfl, x1⟩
  obtain ⟨s0a, s0b, s0c⟩ := small A2n g0
  by_cases g1 : A3n ≤ 64
  rotate_left
  · obtain ⟨b1, b2, b3⟩ := big A3n g1
    have hr : Hid (L = false) := Lib.hid (hlen (by omega))
    clear big small hlen hL hom hoa hcc g1 l3 l4
    go_enter Tryz.func43, Tryz.ntmps43
    go_upto_region 1 with fail
    rw [← hw1.out, ← hp.out]
    clear hw1 hp
    go_wp2_with fail
    go_ret
    exact ⟨by rw [hr.out]; rfl, x1⟩
  obtain ⟨s1a, s1b, s1c⟩ := small A3n g1
  by_cases g2 : A4n ≤ 64
  rotate_left
  · obtain ⟨b1, b2, b3⟩ := big A4n g2
    have hr : Hid (L = false) := Lib.hid (hlen (by omega))
    clear big small hlen hL hom hoa hcc g2 l3 l4
    go_enter Tryz.func43, Tryz.ntmps43
    go_upto_region 1 with fail
    rw [← hw1.out, ← hp.out]
    clear hw1 hp
    go_wp2_with fail
    go_ret
    exact ⟨by rw [hr.out]; rfl, x1⟩
  obtain ⟨s2a, s2b, s2c⟩ := small A4n g2
  rw [dtrue (show A2n ≤ 64 ∧ A3n ≤ 64 ∧ A4n ≤ 64 from ⟨g0, g1, g2⟩)] at hL
  replace hL : L = (KM.all mdQ && KA.all atQ) := by rw [hL]; rfl
  replace hL := Lib.hid hL
  replace l3 := Lib.hid l3
  replace l4 := Lib.hid l4
  clear hlen
  go_enter Tryz.func43, Tryz.ntmps43
  go_upto_region 1 with fail
  rw [← hw1.out, ← hp.out]
  clear hw1 hp
  go_wp2_with fail
  clear s0a s0b s0c s1a s1b s1c s2a s2b s2c p11 p12 p13 g0
  go_loopw [3] (fun i wr => ∃ k : Nat, k ≤ A3n ∧ i = .int .i64 k ∧ Hid ((KM.take k).all mdQ = true) ∧ Ext w1 wr) (fun i _ => A3n - (intOf i).toNat)
  case atStart => exact ⟨0, Nat.zero_le _, rfl, Lib.hid (by simp), Mod.refl _ _⟩
  case round =>
    obtain ⟨k, hkq, rfl, hal, hx⟩ := hrel
    have hcd := hcc hx
    obtain ⟨p12, p13⟩ := hcd
    by_cases hlt : k < A3n
    · have hbl : decide ((k : Int) < (A3n : Int)) = true := dtrue (by omega)
      have hbn : decide (k < A3n) = true := dtrue (by omega)
      have hi0 : (0 : Int) ≤ (k : Int) := by omega
      have hi1 : (k : Int) < (A3n : Int) := by omega
      have hkK : k < KM.length := by have := l3.out; omega
      have hop1 := hom (ext_trans x1 hx)
      obtain ⟨A', ca', g1', h5⟩ := hop1
      rw [← l3.out] at g1'
      injection g1' with g1' _ g3'
      subst g1'
      subst g3'
      obtain ⟨ag, y1, e2, a0, a1, a2, hF⟩ := h5 k hkK
      subst e2
      obtain ⟨A9, c9, ey⟩ : ∃ A c, y1 = .slice A KM[k].vals.length c := by obtain ⟨A, c, e, _⟩ := hF.open_; exact ⟨A, c, e⟩
      have hsn := all_nextQ mdQ hkK
      have hno := all_noQ mdQ hkK
      have hkd1 := hkd _ (List.getElem_mem hkK)
      generalize KM[k] = xF at *
      obtain ⟨m3, hm3⟩ : ∃ m, m = xF.vals.length := ⟨_, rfl⟩
      rw [← hm3] at ey
      subst ey
      have hpq : mdQ xF = decide (0 ≤ xF.kind ∧ xF.kind ≤ 2 ∧ m3 ≤ 64) := by rw [hm3]
      clear hF hom hoa hkK h5 hm3
      generalize xF.kind = kd at *
      by_cases c0 : 0 ≤ kd
      rotate_left
      · have d0 : decide (kd < 0) = true := dtrue (by omega)
        have hr : Hid (L = false) := Lib.hid (by rw [hL.out, hno (by rw [hpq, dfalse (fun h => c0 h.1)])]; rfl)
        clear hsn hno hal hL hpq hkd c0 hkd1 big small hcc
        go_wp2_with fail
        go_ret
        exact ⟨by rw [hr.out]; rfl, ext_trans x1 hx⟩
      have d0 : decide (kd < 0) = false := dfalse (by omega)
      by_cases c1 : kd ≤ 2
      rotate_left
      · have d1 : decide (kd > 2) = true := dtrue (by omega)
        have d1' : decide (2 < kd) = true := dtrue (by omega)
        have hr : Hid (L = false) := Lib.hid (by rw [hL.out, hno (by rw [hpq, dfalse (fun h => c1 h.2.1)])]; rfl)
        clear hsn hno hal hL hpq hkd c0 c1 hkd1 big small hcc
        go_wp2_with fail
        go_ret
        exact ⟨by rw [hr.out]; rfl, ext_trans x1 hx⟩
      have d1 : decide (kd > 2) = false := dfalse (by omega)
      have d1' : decide (2 < kd) = false := dfalse (by omega)
      by_cases c2 : m3 ≤ 64
      rotate_left
      · obtain ⟨d2, d3, d4⟩ := big m3 c2
        have hr : Hid (L = false) := Lib.hid (by rw [hL.out, hno (by rw [hpq, dfalse (fun h => c2 h.2.2)])]; rfl)
        clear hsn hno hal hL hpq hkd c0 c1 c2 hkd1 big small hcc
        go_wp2_with fail
        go_ret
        exact ⟨by rw [hr.out]; rfl, ext_trans x1 hx⟩
      obtain ⟨d2, d3, d4⟩ := small m3 c2
      have hal2 : Hid ((KM.take (k + 1)).all mdQ = true) := Lib.hid (by rw [hsn, hal.out, hpq, dtrue ⟨c0, c1, c2⟩]; rfl)
      clear hsn hno hal hL hpq hkd c0 c1 c2 hkd1 big small hcc
      go_wp2_with fail
      exact ⟨⟨k + 1, by omega, by go_num, hal2, hx⟩, by simp [intOf] <;> omega⟩
    have hbl : decide ((k : Int) < (A3n : Int)) = false := dfalse (by omega)
    have hbn : decide (k < A3n) = false := dfalse (by omega)
    have hall : Hid (KM.all mdQ = true) := Lib.hid (by
      have h1 := hal.out
      rwa [List.take_of_length_le (by have := l3.out; omega)] at h1)
    clear hal hom hkd
    go_wp2_with fail
    clear p12 p13
    go_loopw [4] (fun i wr' => ∃ k : Nat, k ≤ A4n ∧ i = .int .i64 k ∧ Hid ((KA.take k).all atQ = true) ∧ Ext w1 wr') (fun i _ => A4n - (intOf i).toNat)
    case atStart => exact ⟨0, Nat.zero_le _, rfl, Lib.hid (by simp), hx⟩
    case round =>
      clear hx hlt hbl hbn hkq
      obtain ⟨k, hkq, rfl, hal, hx⟩ := hrel
      have hcd := hcc hx
      obtain ⟨p12, p13⟩ := hcd
      by_cases hlt : k < A4n
      · have hbl : decide ((k : Int) < (A4n : Int)) = true := dtrue (by omega)
        have hbn : decide (k < A4n) = true := dtrue (by omega)
        have hi0 : (0 : Int) ≤ (k : Int) := by omega
        have hi1 : (k : Int) < (A4n : Int) := by omega
        have hkK : k < KA.length := by have := l4.out; omega
        have hop1 := hoa (ext_trans x1 hx)
        obtain ⟨A', ca', g1', h5⟩ := hop1
        rw [← l4.out] at g1'
        injection g1' with g1' _ g3'
        subst g1'
        subst g3'
        obtain ⟨ag, y1, e2, a0, a1, hF⟩ := h5 k hkK
        subst e2
        obtain ⟨A9, c9, ey⟩ : ∃ A c, y1 = .slice A KA[k].vals.length c := by obtain ⟨A, c, e, _⟩ := hF.open_; exact ⟨A, c, e⟩
        have hsn := all_nextQ atQ hkK
        have hno := all_noQ atQ hkK
        generalize KA[k] = xF at *
        obtain ⟨m3, hm3⟩ : ∃ m, m = xF.vals.length := ⟨_, rfl⟩
        rw [← hm3] at ey
        subst ey
        have hpq : atQ xF = decide (m3 ≤ 64) := by rw [hm3]
        clear hF hoa hkK h5 hm3
        by_cases c2 : m3 ≤ 64
        rotate_left
        · obtain ⟨d2, d3, d4⟩ := big m3 c2
          have hr : Hid (L = false) := Lib.hid (by rw [hL.out, hall.out, hno (by rw [hpq, dfalse c2])]; rfl)
          clear hsn hno hal hL hpq c2 big small hcc
          go_wp2_with fail
          go_ret
          exact ⟨by rw [hr.out]; rfl, ext_trans x1 hx⟩
        obtain ⟨d2, d3, d4⟩ := small m3 c2
        have hal2 : Hid ((KA.take (k + 1)).all atQ = true) := Lib.hid (by rw [hsn, hal.out, hpq, dtrue c2]; rfl)
        clear hsn hno hal hL hpq c2 big small hcc
        go_wp2_with fail
        exact ⟨⟨k + 1, by omega, by go_num, hal2, hx⟩, by simp [intOf] <;> omega⟩
      have hbl : decide ((k : Int) < (A4n : Int)) = false := dfalse (by omega)
      have hbn : decide (k < A4n) = false := dfalse (by omega)
      have hr : Hid (L = true) := Lib.hid (by
        have h1 := hal.out
        rw [List.take_of_length_le (by have := l4.out; omega)] at h1
        rw [hL.out, hall.out, h1]; rfl)
      clear hal hL hoa hcc big small
      go_wp2_with fail
      go_ret
      exact ⟨by rw [hr.out]; rfl, ext_trans x1 hx⟩
end Go.Proofs.YtoockogceobfgaaGreat
