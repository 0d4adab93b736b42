/- acl: what the document says: May, Check; the program's Check. -/
import Derived.Test.YtbdkdbfcbakgmaaAclJ
import Derived.Test.YtbdkdbfcbakgmaaAclG
namespace Go.Proofs.Ytbdkdbfcbakgmaa
open Go.RowKit
set_option maxRecDepth 100000

set_option maxHeartbeats 8000000 in
theorem rmay_any {w : World} {v vr vw vt : Value} {C : List LRul} {Rt W T : List Av} {ty : List UInt8} {right : Int} (h : Rl w (fun b => b < w.heap.size) v C) (hf : ∀ c ∈ C, RFits c.1) (hi : ∀ c ∈ C, RInt c.1) (hl : C.length ≤ 1000000000) (hR : As w (fun b => b < w.heap.size) vr Rt) (hW : As w (fun b => b < w.heap.size) vw W) (hT : As w (fun b => b < w.heap.size) vt T)
    (fR : Fits Rt) (fW : Fits W) (fT : Fits T) (hty : ty.length ≤ 140737488351232) (h2 : right ≤ 9223372036854775807) :
    Calls Try.prog 42 #[v, vr, vw, vt, sv ty, .int .i64 right] w fun e w' => e = .returned (.bool (mayR (C.map (·.1)) Rt W T ty right)) ∧ Ext w w' := by
  obtain ⟨Ar, cr, rfl⟩ := hR.shape
  obtain ⟨hC, hLd⟩ := h
  obtain ⟨A, c, rfl, r1, r2, r3, r4⟩ := hC.open_ rcell_len
  have hrl : Rt.length < 9223372036854775807 := by have := fR.2; omega
  have hmay : mayR (C.map (·.1)) Rt W T ty right = (decide (0 < Rt.length ∧ sameN W Rt) || firstR W T ty right (C.map (·.1))) := rfl
  generalize mayR (C.map (·.1)) Rt W T ty right = M at *
  by_cases hr0 : 0 < Rt.length
  · have kr : decide (0 < Rt.length) = true := dtrue hr0
    go_enter Try.func42, Try.ntmps42
    go_wp2_with fail
    refine (rsame_any hW hR fW fR).mono ?_
    rintro e w1 ⟨rfl, x1⟩
    by_cases hs : sameN W Rt
    · rw [decide_eq_true hs]
      rw [decide_eq_true ⟨hr0, hs⟩] at hmay
      replace hmay := Lib.hid hmay
      go_wp2_with fail
      go_ret
      exact ⟨by rw [hmay.out]; rfl, x1⟩
    · rw [decide_eq_false hs]
      rw [decide_eq_false (fun h => hs h.2), Bool.false_or] at hmay
      clear kr
      go_wp2_with fail
      go_loopw [13] (fun i wr => ∃ k : Nat, k ≤ C.length ∧ i = .int .i64 k ∧ Ext w wr ∧ Hid (firstR W T ty right ((C.drop k).map (·.1)) = firstR W T ty right (C.map (·.1)))) (fun i _ => C.length - (intOf i).toNat)
      case atStart => exact ⟨0, by omega, rfl, x1, Lib.hid rfl⟩
      case round =>
        obtain ⟨k, hk, rfl, hxr, hall⟩ := hrel
        by_cases hlt : k < C.length
        · have hbl : decide ((k : Int) < (C.length : Int)) = true := dtrue (by omega)
          obtain ⟨ad, hA, hS, e0, e1, e2, e3, e4, e5, e6⟩ := rule_at (r4.ext hxr) hlt
          subst hA
          have hi0 : (0 : Int) ≤ (k : Int) := by omega
          have hi1 : (k : Int) < (C.length : Int) := by omega
          have hL : Laid wr (fun b => b < wr.heap.size) C[k] := ⟨Rc.there (hLd _ (List.getElem_mem hlt)).1 hxr, Rc.there (hLd _ (List.getElem_mem hlt)).2 hxr⟩
          have hF := hf _ (List.getElem_mem hlt)
          have hI := hi _ (List.getElem_mem hlt)
          have hst : firstR W T ty right (C.map (·.1)) = if fitsR C[k].1 W T ty right then C[k].1.grant else firstR W T ty right ((C.drop (k + 1)).map (·.1)) := by
            rw [← hall.out, List.drop_eq_getElem_cons hlt, List.map_cons, firstR]
          generalize C[k] = cc at *
          clear hall
          have hno : ¬ fitsR cc.1 W T ty right → Hid (firstR W T ty right ((C.drop (k + 1)).map (·.1)) = firstR W T ty right (C.map (·.1))) := fun h => Lib.hid (by rw [hst, if_neg h])
          have hyes : fitsR cc.1 W T ty right → M = cc.1.grant := fun h => by rw [hmay, hst, if_pos h]
          clear hst
          go_wp2_with fail
          refine (fits_any (c := cc) hL hF hI (Rc.there hW hxr) (Rc.there hT hxr) fW fT hty h2).mono ?_
          rintro e w3 ⟨rfl, x3⟩
          have e6' := (x3.cell (lt_of_cell e6) (fun h => h)).trans e6
          have y3 := ext_trans hxr x3
          by_cases g1 : fitsR cc.1 W T ty right
          · rw [decide_eq_true g1]
            have hM := Lib.hid (hyes g1)
            clear e6
            go_wp2_with fail
            go_ret
            exact ⟨by rw [hM.out]; rfl, y3⟩
          · rw [decide_eq_false g1]
            go_wp2_with fail
            exact ⟨⟨k + 1, by omega, by go_num, y3, hno g1⟩, by simp [intOf] <;> omega⟩
        · have hbl : decide ((k : Int) < (C.length : Int)) = false := dfalse (by omega)
          have hM : M = false := by
            have := hall.out
            rw [List.drop_of_length_le (by omega)] at this
            rw [hmay, ← this]; rfl
          replace hM := Lib.hid hM
          replace hmay := Lib.hid hmay
          go_wp2_with fail
          go_ret
          exact ⟨by rw [hM.out]; rfl, hxr⟩

  · have kr : decide (0 < Rt.length) = false := dfalse hr0
    rw [decide_eq_false (fun h => hr0 h.1), Bool.false_or] at hmay
    go_enter Try.func42, Try.ntmps42
    go_wp2_with fail
    clear kr
    go_loopw [13] (fun i wr => ∃ k : Nat, k ≤ C.length ∧ i = .int .i64 k ∧ Ext w wr ∧ Hid (firstR W T ty right ((C.drop k).map (·.1)) = firstR W T ty right (C.map (·.1)))) (fun i _ => C.length - (intOf i).toNat)
    case atStart => exact ⟨0, by omega, rfl, Mod.refl _ _, Lib.hid rfl⟩
    case round =>
      obtain ⟨k, hk, rfl, hxr, hall⟩ := hrel
      by_cases hlt : k < C.length
      · have hbl : decide ((k : Int) < (C.length : Int)) = true := dtrue (by omega)
        obtain ⟨ad, hA, hS, e0, e1, e2, e3, e4, e5, e6⟩ := rule_at (r4.ext hxr) hlt
        subst hA
        have hi0 : (0 : Int) ≤ (k : Int) := by omega
        have hi1 : (k : Int) < (C.length : Int) := by omega
        have hL : Laid wr (fun b => b < wr.heap.size) C[k] := ⟨Rc.there (hLd _ (List.getElem_mem hlt)).1 hxr, Rc.there (hLd _ (List.getElem_mem hlt)).2 hxr⟩
        have hF := hf _ (List.getElem_mem hlt)
        have hI := hi _ (List.getElem_mem hlt)
        have hst : firstR W T ty right (C.map (·.1)) = if fitsR C[k].1 W T ty right then C[k].1.grant else firstR W T ty right ((C.drop (k + 1)).map (·.1)) := by
          rw [← hall.out, List.drop_eq_getElem_cons hlt, List.map_cons, firstR]
        generalize C[k] = cc at *
        clear hall
        have hno : ¬ fitsR cc.1 W T ty right → Hid (firstR W T ty right ((C.drop (k + 1)).map (·.1)) = firstR W T ty right (C.map (·.1))) := fun h => Lib.hid (by rw [hst, if_neg h])
        have hyes : fitsR cc.1 W T ty right → M = cc.1.grant := fun h => by rw [hmay, hst, if_pos h]
        clear hst
        go_wp2_with fail
        refine (fits_any (c := cc) hL hF hI (Rc.there hW hxr) (Rc.there hT hxr) fW fT hty h2).mono ?_
        rintro e w3 ⟨rfl, x3⟩
        have e6' := (x3.cell (lt_of_cell e6) (fun h => h)).trans e6
        have y3 := ext_trans hxr x3
        by_cases g1 : fitsR cc.1 W T ty right
        · rw [decide_eq_true g1]
          have hM := Lib.hid (hyes g1)
          clear e6
          go_wp2_with fail
          go_ret
          exact ⟨by rw [hM.out]; rfl, y3⟩
        · rw [decide_eq_false g1]
          go_wp2_with fail
          exact ⟨⟨k + 1, by omega, by go_num, y3, hno g1⟩, by simp [intOf] <;> omega⟩
      · have hbl : decide ((k : Int) < (C.length : Int)) = false := dfalse (by omega)
        have hM : M = false := by
          have := hall.out
          rw [List.drop_of_length_le (by omega)] at this
          rw [hmay, ← this]; rfl
        replace hM := Lib.hid hM
        replace hmay := Lib.hid hmay
        go_wp2_with fail
        go_ret
        exact ⟨by rw [hM.out]; rfl, hxr⟩

/-- May rules be? -/
def areRules (L : List Rul) : Prop := L.length ≤ 64 ∧ ∀ r ∈ L, isRule r
instance (L : List Rul) : Decidable (areRules L) := inferInstanceAs (Decidable (_ ∧ _))

set_option maxHeartbeats 8000000 in
theorem check_any {w : World} {v : Value} {C : List LRul} (h : Rl w (fun b => b < w.heap.size) v C) (hf : ∀ c ∈ C, RFits c.1) (hi : ∀ c ∈ C, RInt c.1) (hl : C.length ≤ 1000000000) :
    Calls Try.prog 43 #[v] w fun e w' => e = .returned (.bool (decide (areRules (C.map (·.1))))) ∧ Ext w w' := by
  obtain ⟨hC, hLd⟩ := h
  obtain ⟨A, c, rfl, r1, r2, r3, r4⟩ := hC.open_ rcell_len
  have hR : areRules (C.map (·.1)) ↔ C.length ≤ 64 ∧ ∀ (j : Nat) (hj : j < C.length), isRule C[j].1 := by
    unfold areRules
    rw [List.length_map]
    refine and_congr Iff.rfl ⟨fun h j hj => h _ (List.mem_map.2 ⟨_, List.getElem_mem hj, rfl⟩), fun h r hr => ?_⟩
    obtain ⟨c, hc, rfl⟩ := List.mem_map.1 hr
    obtain ⟨j, hj, rfl⟩ := List.mem_iff_getElem.1 hc
    exact h j hj
  suffices core : ∀ (R : Prop) [Decidable R], (R ↔ C.length ≤ 64 ∧ ∀ (j : Nat) (hj : j < C.length), isRule C[j].1) → Calls Try.prog 43 #[.slice A C.length c] w fun e w' => e = .returned (.bool (decide R)) ∧ Ext w w' from core _ hR
  clear hR
  intro R _ hR
  replace hR := Lib.hid hR
  by_cases h64 : 64 < C.length
  case pos =>
    have kb : decide ((64 : Int) < (C.length : Int)) = true := dtrue (by omega)
    have no : ¬ R := fun h => by have := (hR.out.1 h).1; omega
    go_enter Try.func43, Try.ntmps43
    go_wp2_with fail
    go_ret
    exact ⟨by first | (rw [decide_eq_false no]; rfl) | rfl, Mod.refl _ _⟩
  have kb : decide ((64 : Int) < (C.length : Int)) = false := dfalse (by omega)
  go_enter Try.func43, Try.ntmps43
  go_wp2_with fail
  go_loopw [10] (fun i wr => ∃ k : Nat, k ≤ C.length ∧ i = .int .i64 k ∧ Ext w wr ∧ Hid (∀ (j : Nat) (hj : j < C.length), j < k → isRule C[j].1)) (fun i _ => C.length - (intOf i).toNat)
  case atStart => exact ⟨0, by omega, rfl, Mod.refl _ _, Lib.hid fun j _ h => by omega⟩
  case round =>
    obtain ⟨k, hk, rfl, hxr, hall⟩ := hrel
    by_cases hlt : k < C.length
    · have hbl : decide ((k : Int) < (C.length : Int)) = true := dtrue (by omega)
      obtain ⟨ad, hA, hS, e0, e1, e2, e3, e4, e5, e6⟩ := rule_at (r4.ext hxr) hlt
      subst hA
      have hi0 : (0 : Int) ≤ (k : Int) := by omega
      have hi1 : (k : Int) < (C.length : Int) := by omega
      have hL : Laid wr (fun b => b < wr.heap.size) C[k] := ⟨Rc.there (hLd _ (List.getElem_mem hlt)).1 hxr, Rc.there (hLd _ (List.getElem_mem hlt)).2 hxr⟩
      have hF := hf _ (List.getElem_mem hlt)
      have hI := hi _ (List.getElem_mem hlt)
      have next : isRule C[k].1 → Hid (∀ (j : Nat) (hj : j < C.length), j < k + 1 → isRule C[j].1) := fun h4 => Lib.hid fun j hj hjk => by
        by_cases hj2 : j < k
        · exact hall.out j hj hj2
        · obtain rfl : j = k := by omega
          exact h4
      have nope : ¬ isRule C[k].1 → ¬ R := fun h4 h => h4 ((hR.out.1 h).2 k hlt)
      generalize C[k] = cc at *
      obtain ⟨r, x, y⟩ := cc
      obtain ⟨An, cn, hxx⟩ := hL.1.shape
      obtain ⟨Ab, cb, hyy⟩ := hL.2.shape
      simp only at hxx hyy
      subst hxx
      subst hyy
      simp only at e0 e1 e2 e3 e4 e5 e6 next nope
      have y0 : Ext w (wr.alloc (.cells #[.int .i64 r.who, .slice An r.name.length cn, .slice Ab r.base.length cb, .bool r.sub, sv r.typ, .int .i64 r.rights, .bool r.grant] 46)) := hxr.alloc _
      go_wp2_with fail
      refine (ruleIs_any (c := (r, .slice An r.name.length cn, .slice Ab r.base.length cb)) (hL.ext ((Mod.refl _ wr).alloc _)) hF).mono ?_
      rintro e w3 ⟨rfl, x3⟩
      have y3 := ext_trans y0 x3
      by_cases g1 : isRule r
      · rw [decide_eq_true g1]
        go_wp2_with fail
        exact ⟨⟨k + 1, by omega, by go_num, y3, next g1⟩, by simp [intOf] <;> omega⟩
      · rw [decide_eq_false g1]
        have no := nope g1
        go_wp2_with fail
        go_ret
        exact ⟨by first | (rw [decide_eq_false no]; rfl) | rfl, y3⟩
    · have hbl : decide ((k : Int) < (C.length : Int)) = false := dfalse (by omega)
      have yes : R := hR.out.2 ⟨by omega, fun j hj => hall.out j hj (by omega)⟩
      go_wp2_with fail
      go_ret
      exact ⟨by first | (rw [decide_eq_true yes]; rfl) | rfl, hxr⟩

set_option maxHeartbeats 8000000 in
theorem rcheck_any {w : World} {v : Value} {C : List LRul} (h : Rl w (fun b => b < w.heap.size) v C) (hf : ∀ c ∈ C, RFits c.1) (hi : ∀ c ∈ C, RInt c.1) (hl : C.length ≤ 1000000000) :
    Calls Try.prog 44 #[v] w fun e w' => e = .returned (.bool (decide (areRules (C.map (·.1))))) ∧ Ext w w' := by
  obtain ⟨hC, hLd⟩ := h
  obtain ⟨A, c, rfl, r1, r2, r3, r4⟩ := hC.open_ rcell_len
  have hR : areRules (C.map (·.1)) ↔ C.length ≤ 64 ∧ ∀ (j : Nat) (hj : j < C.length), isRule C[j].1 := by
    unfold areRules
    rw [List.length_map]
    refine and_congr Iff.rfl ⟨fun h j hj => h _ (List.mem_map.2 ⟨_, List.getElem_mem hj, rfl⟩), fun h r hr => ?_⟩
    obtain ⟨c, hc, rfl⟩ := List.mem_map.1 hr
    obtain ⟨j, hj, rfl⟩ := List.mem_iff_getElem.1 hc
    exact h j hj
  suffices core : ∀ (R : Prop) [Decidable R], (R ↔ C.length ≤ 64 ∧ ∀ (j : Nat) (hj : j < C.length), isRule C[j].1) → Calls Try.prog 44 #[.slice A C.length c] w fun e w' => e = .returned (.bool (decide R)) ∧ Ext w w' from core _ hR
  clear hR
  intro R _ hR
  replace hR := Lib.hid hR
  go_enter Try.func44, Try.ntmps44
  go_wp2_with fail
  go_loopw [3] (fun i wr => ∃ k : Nat, k ≤ C.length ∧ i = .int .i64 k ∧ Ext w wr ∧ Hid (∀ (j : Nat) (hj : j < C.length), j < k → isRule C[j].1)) (fun i _ => C.length - (intOf i).toNat)
  case atStart => exact ⟨0, by omega, rfl, Mod.refl _ _, Lib.hid fun j _ h => by omega⟩
  case round =>
    obtain ⟨k, hk, rfl, hxr, hall⟩ := hrel
    by_cases hlt : k < C.length
    · have hbl : decide ((k : Int) < (C.length : Int)) = true := dtrue (by omega)
      obtain ⟨ad, hA, hS, e0, e1, e2, e3, e4, e5, e6⟩ := rule_at (r4.ext hxr) hlt
      subst hA
      have hi0 : (0 : Int) ≤ (k : Int) := by omega
      have hi1 : (k : Int) < (C.length : Int) := by omega
      have hL : Laid wr (fun b => b < wr.heap.size) C[k] := ⟨Rc.there (hLd _ (List.getElem_mem hlt)).1 hxr, Rc.there (hLd _ (List.getElem_mem hlt)).2 hxr⟩
      have hF := hf _ (List.getElem_mem hlt)
      have hI := hi _ (List.getElem_mem hlt)
      have next : isRule C[k].1 → Hid (∀ (j : Nat) (hj : j < C.length), j < k + 1 → isRule C[j].1) := fun h4 => Lib.hid fun j hj hjk => by
        by_cases hj2 : j < k
        · exact hall.out j hj hj2
        · obtain rfl : j = k := by omega
          exact h4
      have nope : ¬ isRule C[k].1 → ¬ R := fun h4 h => h4 ((hR.out.1 h).2 k hlt)
      generalize C[k] = cc at *
      obtain ⟨r, x, y⟩ := cc
      obtain ⟨An, cn, hxx⟩ := hL.1.shape
      obtain ⟨Ab, cb, hyy⟩ := hL.2.shape
      simp only at hxx hyy
      subst hxx
      subst hyy
      simp only at e0 e1 e2 e3 e4 e5 e6 next nope
      go_wp2_with fail
      refine (risR_any (c := (r, .slice An r.name.length cn, .slice Ab r.base.length cb)) hL hF hI).mono ?_
      rintro e w3 ⟨rfl, x3⟩
      have y3 := ext_trans hxr x3
      by_cases g1 : isRule r
      · rw [decide_eq_true g1]
        go_wp2_with fail
        exact ⟨⟨k + 1, by omega, by go_num, y3, next g1⟩, by simp [intOf] <;> omega⟩
      · rw [decide_eq_false g1]
        have no := nope g1
        go_wp2_with fail
        go_ret
        exact ⟨by first | (rw [decide_eq_false no]; rfl) | rfl, y3⟩
    · have hbl : decide ((k : Int) < (C.length : Int)) = false := dfalse (by omega)
      have fin : decide R = decide ((C.length : Int) ≤ 64) := by
        apply decide_eq_decide.2
        rw [hR.out]
        exact ⟨fun h => by omega, fun h => ⟨by omega, fun j hj => hall.out j hj (by omega)⟩⟩
      replace fin := Lib.hid fin
      go_wp2_with fail
      go_ret
      exact ⟨by rw [fin.out]; rfl, hxr⟩
end Go.Proofs.Ytbdkdbfcbakgmaa
