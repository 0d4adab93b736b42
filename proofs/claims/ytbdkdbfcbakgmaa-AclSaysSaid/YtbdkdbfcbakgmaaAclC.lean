/- acl: May. -/
import Derived.Test.YtbdkdbfcbakgmaaAclB
namespace Go.Proofs.Ytbdkdbfcbakgmaa
open Go.RowKit
set_option maxRecDepth 100000

/-- Rules that lie there. -/
def Rl (w : World) (S : Nat → Prop) (v : Value) (C : List LRul) : Prop := Rc rcell 7 w S v C ∧ ∀ c ∈ C, Laid w S c
theorem Rl.ext {w w' : World} {S : Nat → Prop} {v : Value} {C : List LRul} (h : Rl w S v C) (hx : Ext w w') : Rl w' S v C := ⟨h.1.ext hx, fun c hc => (h.2 c hc).ext hx⟩
theorem rule_at {w : World} {S : Nat → Prop} {A : Option Addr} {C : List LRul} (h : RcAt rcell 7 w S A C) {i : Nat} (hi : i < C.length) :
    ∃ ad, A = some ad ∧ S ad.block ∧ w.cell? (ad.add (i * 7)) = some (.int .i64 C[i].1.who) ∧ w.cell? ⟨(ad.add (i * 7)).block, (ad.add (i * 7)).off + 1, none⟩ = some C[i].2.1 ∧ w.cell? ⟨(ad.add (i * 7)).block, (ad.add (i * 7)).off + 2, none⟩ = some C[i].2.2
      ∧ w.cell? ⟨(ad.add (i * 7)).block, (ad.add (i * 7)).off + 3, none⟩ = some (.bool C[i].1.sub) ∧ w.cell? ⟨(ad.add (i * 7)).block, (ad.add (i * 7)).off + 4, none⟩ = some (sv C[i].1.typ)
      ∧ w.cell? ⟨(ad.add (i * 7)).block, (ad.add (i * 7)).off + 5, none⟩ = some (.int .i64 C[i].1.rights) ∧ w.cell? ⟨(ad.add (i * 7)).block, (ad.add (i * 7)).off + 6, none⟩ = some (.bool C[i].1.grant) := by
  obtain ⟨ad, hA, hS, h0⟩ := h i 0 _ hi (by omega) rfl
  have nx : ∀ j u, 0 < j → j < 7 → (rcell C[i])[j]? = some u → w.cell? ⟨(ad.add (i * 7)).block, (ad.add (i * 7)).off + j, none⟩ = some u := fun j u hj0 hj hu => by
    obtain ⟨ad', hA', _, h1⟩ := h i j u hi hj hu
    rw [hA] at hA'
    injection hA' with hA'
    subst hA'
    rwa [add_next _ _ j hj0] at h1
  exact ⟨ad, hA, hS, h0, nx 1 _ (by omega) (by omega) rfl, nx 2 _ (by omega) (by omega) rfl, nx 3 _ (by omega) (by omega) rfl, nx 4 _ (by omega) (by omega) rfl, nx 5 _ (by omega) (by omega) rfl, nx 6 _ (by omega) (by omega) rfl⟩

def fitsR (r : Rul) (W T : List Av) (ty : List UInt8) (right : Int) : Prop := isRule r ∧ coversR r.rights right ∧ isForR r.who r.name W T ∧ reachesR r T ty
instance (r : Rul) (W T : List Av) (ty : List UInt8) (right : Int) : Decidable (fitsR r W T ty right) := inferInstanceAs (Decidable (_ ∧ _))
/-- What the first rule that fits says. -/
def firstR (W T : List Av) (ty : List UInt8) (right : Int) : List Rul → Bool
  | [] => false
  | r :: L => if fitsR r W T ty right then r.grant else firstR W T ty right L
def mayR (L : List Rul) (root W T : List Av) (ty : List UInt8) (right : Int) : Bool := decide (0 < root.length ∧ sameN W root) || firstR W T ty right L

set_option maxHeartbeats 8000000 in
theorem may_any {w : World} {S : Nat → Prop} {v vr vw vt : Value} {C : List LRul} {Rt W T : List Av} {ty : List UInt8} {right : Int} (h : Rl w S v C) (hf : ∀ c ∈ C, RFits c.1) (hl : C.length ≤ 1000000000) (hR : As w S vr Rt) (hW : As w S vw W) (hT : As w S vt T)
    (fR : Fits Rt) (fW : Fits W) (fT : Fits T) (hty : ty.length ≤ 140737488351232) (h1 : -9223372036854775808 ≤ right) (h2 : right ≤ 9223372036854775807) :
    Calls Try.prog 41 #[v, vr, vw, vt, sv ty, .int .i64 right] w fun e w' => e = .returned (.bool (mayR (C.map (·.1)) Rt W T ty right)) ∧ Ext w w' := by
  obtain ⟨Ar, cr, rfl⟩ := hR.shape
  obtain ⟨hC, hLd⟩ := h
  obtain ⟨A, c, rfl, r1, r2, r3, r4⟩ := hC.open_ rcell_len
  have hrl : Rt.length < 9223372036854775807 := by have := fR.2; omega
  have hmay : mayR (C.map (·.1)) Rt W T ty right = (decide (0 < Rt.length ∧ sameN W Rt) || firstR W T ty right (C.map (·.1))) := rfl
  generalize mayR (C.map (·.1)) Rt W T ty right = M at *
  by_cases hr0 : 0 < Rt.length
  · have kr : decide (0 < Rt.length) = true := dtrue hr0
    go_enter Try.func41, Try.ntmps41
    go_wp2_with fail
    refine (same_any hW hR fW fR).mono ?_
    rintro e w1 ⟨rfl, x1⟩
    by_cases hs : sameN W Rt
    · rw [decide_eq_true hs]
      rw [decide_eq_true ⟨hr0, hs⟩] at hmay
      replace hmay := Lib.hid hmay
      go_wp2_with fail
      go_ret
      exact ⟨by rw [hmay.out]; rfl, x1⟩
    · rw [decide_eq_false hs]
      rw [decide_eq_false (fun h => hs h.2), Bool.false_or] at hmay
      clear kr
      go_wp2_with fail
      go_loopw [25] (fun i wr => ∃ k : Nat, k ≤ C.length ∧ i = .int .i64 k ∧ Ext w wr ∧ Hid (firstR W T ty right ((C.drop k).map (·.1)) = firstR W T ty right (C.map (·.1)))) (fun i _ => C.length - (intOf i).toNat)
      case atStart => exact ⟨0, by omega, rfl, x1, Lib.hid rfl⟩
      case round =>
        obtain ⟨k, hk, rfl, hxr, hall⟩ := hrel
        by_cases hlt : k < C.length
        · have hbl : decide ((k : Int) < (C.length : Int)) = true := dtrue (by omega)
          obtain ⟨ad, hA, hS, e0, e1, e2, e3, e4, e5, e6⟩ := rule_at (r4.ext hxr) hlt
          subst hA
          have hi0 : (0 : Int) ≤ (k : Int) := by omega
          have hi1 : (k : Int) < (C.length : Int) := by omega
          have hL := (hLd _ (List.getElem_mem hlt)).ext hxr
          have hF := hf _ (List.getElem_mem hlt)
          have hst : firstR W T ty right (C.map (·.1)) = if fitsR C[k].1 W T ty right then C[k].1.grant else firstR W T ty right ((C.drop (k + 1)).map (·.1)) := by
            rw [← hall.out, List.drop_eq_getElem_cons hlt, List.map_cons, firstR]
          generalize C[k] = cc at *
          clear hall
          have hno : ¬ fitsR cc.1 W T ty right → Hid (firstR W T ty right ((C.drop (k + 1)).map (·.1)) = firstR W T ty right (C.map (·.1))) := fun h => Lib.hid (by rw [hst, if_neg h])
          have hyes : fitsR cc.1 W T ty right → M = cc.1.grant := fun h => by rw [hmay, hst, if_pos h]
          clear hst
          obtain ⟨r, x, y⟩ := cc
          obtain ⟨An, cn, hxx⟩ := hL.1.shape
          obtain ⟨Ab, cb, hyy⟩ := hL.2.shape
          simp only at hxx hyy
          subst hxx
          subst hyy
          simp only at e0 e1 e2 e3 e4 e5 e6 hno hyes
          have B0 := Blk.new wr 46 #[.int .i64 r.who, .slice An r.name.length cn, .slice Ab r.base.length cb, .bool r.sub, sv r.typ, .int .i64 r.rights, .bool r.grant]
          have y0 : Ext w (wr.alloc (.cells #[.int .i64 r.who, .slice An r.name.length cn, .slice Ab r.base.length cb, .bool r.sub, sv r.typ, .int .i64 r.rights, .bool r.grant] 46)) := hxr.alloc _
          go_wp2_with fail
          refine (ruleIs_any (hL.ext ((Mod.refl _ wr).alloc _)) hF).mono ?_
          rintro e w3 ⟨rfl, x3⟩
          have B3 := Blk.mod B0 x3 (fun h => h)
          have y3 := ext_trans y0 x3
          have z3 : Ext wr w3 := ext_trans ((Mod.refl _ wr).alloc _) x3
          clear x3 B0
          by_cases g1 : isRule r
          case neg =>
            rw [decide_eq_false g1]
            go_wp2_with fail
            exact ⟨⟨k + 1, by omega, by go_num, y3, hno (fun h => g1 h.1)⟩, by simp [intOf] <;> omega⟩
          rw [decide_eq_true g1]
          have c7 := blk7 B3
          obtain ⟨c70, c71, c72, c73, c74, c75, c76⟩ := c7
          go_wp2_with fail
          refine (covers_any (c := (r, .slice An r.name.length cn, .slice Ab r.base.length cb)) right h1 h2).mono ?_
          rintro e w4 ⟨rfl, x4⟩
          have B4 := Blk.mod B3 x4 (fun h => h)
          have y4 := ext_trans y3 x4
          have z4 := ext_trans z3 x4
          clear x4 B3 y3 z3 c70 c71 c72 c73 c74 c75 c76
          by_cases g2 : coversR r.rights right
          case neg =>
            rw [decide_eq_false g2]
            go_wp2_with fail
            exact ⟨⟨k + 1, by omega, by go_num, y4, hno (fun h => g2 h.2.1)⟩, by simp [intOf] <;> omega⟩
          rw [decide_eq_true g2]
          have c7 := blk7 B4
          obtain ⟨c70, c71, c72, c73, c74, c75, c76⟩ := c7
          go_wp2_with fail
          refine (isFor_any (hL.ext z4) hF (hW.ext y4) (hT.ext y4) fW fT).mono ?_
          rintro e w5 ⟨rfl, x5⟩
          have B5 := Blk.mod B4 x5 (fun h => h)
          have y5 := ext_trans y4 x5
          have z5 := ext_trans z4 x5
          clear x5 B4 y4 z4 c70 c71 c72 c73 c74 c75 c76
          by_cases g3 : isForR r.who r.name W T
          case neg =>
            rw [decide_eq_false g3]
            go_wp2_with fail
            exact ⟨⟨k + 1, by omega, by go_num, y5, hno (fun h => g3 h.2.2.1)⟩, by simp [intOf] <;> omega⟩
          rw [decide_eq_true g3]
          have c7 := blk7 B5
          obtain ⟨c70, c71, c72, c73, c74, c75, c76⟩ := c7
          go_wp2_with fail
          refine (reaches_any (hL.ext z5) hF (hT.ext y5) fT hty).mono ?_
          rintro e w6 ⟨rfl, x6⟩
          have B6 := Blk.mod B5 x6 (fun h => h)
          have y6 := ext_trans y5 x6
          clear x6 B5 y5 z5 c70 c71 c72 c73 c74 c75 c76
          by_cases g4 : reachesR r T ty
          case neg =>
            rw [decide_eq_false g4]
            go_wp2_with fail
            exact ⟨⟨k + 1, by omega, by go_num, y6, hno (fun h => g4 h.2.2.2)⟩, by simp [intOf] <;> omega⟩
          rw [decide_eq_true g4]
          have c7 := blk7 B6
          obtain ⟨c70, c71, c72, c73, c74, c75, c76⟩ := c7
          have hM := Lib.hid (hyes ⟨g1, g2, g3, g4⟩)
          go_wp2_with fail
          go_ret
          exact ⟨by rw [hM.out]; rfl, y6⟩
        · have hbl : decide ((k : Int) < (C.length : Int)) = false := dfalse (by omega)
          have hM : M = false := by
            have := hall.out
            rw [List.drop_of_length_le (by omega)] at this
            rw [hmay, ← this]; rfl
          replace hM := Lib.hid hM
          replace hmay := Lib.hid hmay
          go_wp2_with fail
          go_ret
          exact ⟨by rw [hM.out]; rfl, hxr⟩

  · have kr : decide (0 < Rt.length) = false := dfalse hr0
    rw [decide_eq_false (fun h => hr0 h.1), Bool.false_or] at hmay
    go_enter Try.func41, Try.ntmps41
    go_wp2_with fail
    clear kr
    go_loopw [25] (fun i wr => ∃ k : Nat, k ≤ C.length ∧ i = .int .i64 k ∧ Ext w wr ∧ Hid (firstR W T ty right ((C.drop k).map (·.1)) = firstR W T ty right (C.map (·.1)))) (fun i _ => C.length - (intOf i).toNat)
    case atStart => exact ⟨0, by omega, rfl, Mod.refl _ _, Lib.hid rfl⟩
    case round =>
      obtain ⟨k, hk, rfl, hxr, hall⟩ := hrel
      by_cases hlt : k < C.length
      · have hbl : decide ((k : Int) < (C.length : Int)) = true := dtrue (by omega)
        obtain ⟨ad, hA, hS, e0, e1, e2, e3, e4, e5, e6⟩ := rule_at (r4.ext hxr) hlt
        subst hA
        have hi0 : (0 : Int) ≤ (k : Int) := by omega
        have hi1 : (k : Int) < (C.length : Int) := by omega
        have hL := (hLd _ (List.getElem_mem hlt)).ext hxr
        have hF := hf _ (List.getElem_mem hlt)
        have hst : firstR W T ty right (C.map (·.1)) = if fitsR C[k].1 W T ty right then C[k].1.grant else firstR W T ty right ((C.drop (k + 1)).map (·.1)) := by
          rw [← hall.out, List.drop_eq_getElem_cons hlt, List.map_cons, firstR]
        generalize C[k] = cc at *
        clear hall
        have hno : ¬ fitsR cc.1 W T ty right → Hid (firstR W T ty right ((C.drop (k + 1)).map (·.1)) = firstR W T ty right (C.map (·.1))) := fun h => Lib.hid (by rw [hst, if_neg h])
        have hyes : fitsR cc.1 W T ty right → M = cc.1.grant := fun h => by rw [hmay, hst, if_pos h]
        clear hst
        obtain ⟨r, x, y⟩ := cc
        obtain ⟨An, cn, hxx⟩ := hL.1.shape
        obtain ⟨Ab, cb, hyy⟩ := hL.2.shape
        simp only at hxx hyy
        subst hxx
        subst hyy
        simp only at e0 e1 e2 e3 e4 e5 e6 hno hyes
        have B0 := Blk.new wr 46 #[.int .i64 r.who, .slice An r.name.length cn, .slice Ab r.base.length cb, .bool r.sub, sv r.typ, .int .i64 r.rights, .bool r.grant]
        have y0 : Ext w (wr.alloc (.cells #[.int .i64 r.who, .slice An r.name.length cn, .slice Ab r.base.length cb, .bool r.sub, sv r.typ, .int .i64 r.rights, .bool r.grant] 46)) := hxr.alloc _
        go_wp2_with fail
        refine (ruleIs_any (hL.ext ((Mod.refl _ wr).alloc _)) hF).mono ?_
        rintro e w3 ⟨rfl, x3⟩
        have B3 := Blk.mod B0 x3 (fun h => h)
        have y3 := ext_trans y0 x3
        have z3 : Ext wr w3 := ext_trans ((Mod.refl _ wr).alloc _) x3
        clear x3 B0
        by_cases g1 : isRule r
        case neg =>
          rw [decide_eq_false g1]
          go_wp2_with fail
          exact ⟨⟨k + 1, by omega, by go_num, y3, hno (fun h => g1 h.1)⟩, by simp [intOf] <;> omega⟩
        rw [decide_eq_true g1]
        have c7 := blk7 B3
        obtain ⟨c70, c71, c72, c73, c74, c75, c76⟩ := c7
        go_wp2_with fail
        refine (covers_any (c := (r, .slice An r.name.length cn, .slice Ab r.base.length cb)) right h1 h2).mono ?_
        rintro e w4 ⟨rfl, x4⟩
        have B4 := Blk.mod B3 x4 (fun h => h)
        have y4 := ext_trans y3 x4
        have z4 := ext_trans z3 x4
        clear x4 B3 y3 z3 c70 c71 c72 c73 c74 c75 c76
        by_cases g2 : coversR r.rights right
        case neg =>
          rw [decide_eq_false g2]
          go_wp2_with fail
          exact ⟨⟨k + 1, by omega, by go_num, y4, hno (fun h => g2 h.2.1)⟩, by simp [intOf] <;> omega⟩
        rw [decide_eq_true g2]
        have c7 := blk7 B4
        obtain ⟨c70, c71, c72, c73, c74, c75, c76⟩ := c7
        go_wp2_with fail
        refine (isFor_any (hL.ext z4) hF (hW.ext y4) (hT.ext y4) fW fT).mono ?_
        rintro e w5 ⟨rfl, x5⟩
        have B5 := Blk.mod B4 x5 (fun h => h)
        have y5 := ext_trans y4 x5
        have z5 := ext_trans z4 x5
        clear x5 B4 y4 z4 c70 c71 c72 c73 c74 c75 c76
        by_cases g3 : isForR r.who r.name W T
        case neg =>
          rw [decide_eq_false g3]
          go_wp2_with fail
          exact ⟨⟨k + 1, by omega, by go_num, y5, hno (fun h => g3 h.2.2.1)⟩, by simp [intOf] <;> omega⟩
        rw [decide_eq_true g3]
        have c7 := blk7 B5
        obtain ⟨c70, c71, c72, c73, c74, c75, c76⟩ := c7
        go_wp2_with fail
        refine (reaches_any (hL.ext z5) hF (hT.ext y5) fT hty).mono ?_
        rintro e w6 ⟨rfl, x6⟩
        have B6 := Blk.mod B5 x6 (fun h => h)
        have y6 := ext_trans y5 x6
        clear x6 B5 y5 z5 c70 c71 c72 c73 c74 c75 c76
        by_cases g4 : reachesR r T ty
        case neg =>
          rw [decide_eq_false g4]
          go_wp2_with fail
          exact ⟨⟨k + 1, by omega, by go_num, y6, hno (fun h => g4 h.2.2.2)⟩, by simp [intOf] <;> omega⟩
        rw [decide_eq_true g4]
        have c7 := blk7 B6
        obtain ⟨c70, c71, c72, c73, c74, c75, c76⟩ := c7
        have hM := Lib.hid (hyes ⟨g1, g2, g3, g4⟩)
        go_wp2_with fail
        go_ret
        exact ⟨by rw [hM.out]; rfl, y6⟩
      · have hbl : decide ((k : Int) < (C.length : Int)) = false := dfalse (by omega)
        have hM : M = false := by
          have := hall.out
          rw [List.drop_of_length_le (by omega)] at this
          rw [hmay, ← this]; rfl
        replace hM := Lib.hid hM
        replace hmay := Lib.hid hmay
        go_wp2_with fail
        go_ret
        exact ⟨by rw [hM.out]; rfl, hxr⟩

end Go.Proofs.Ytbdkdbfcbakgmaa
