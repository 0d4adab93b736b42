/- dn: what the law looks at; two names, part by part; the name above. -/
import Derived.Test.YtbdkdbfcbakgmaaDnPH
import Derived.Test.YtbdkdbfcbakgmaaEqA
import Derived.Test.YtbdkdbfcbakgmaaDnK
namespace Go.Proofs.Ytbdkdbfcbakgmaa
open Go.RowKit
set_option maxRecDepth 100000

set_option maxHeartbeats 2000000 in
theorem heavy13_any {w : World} {S : Nat → Prop} {v : Value} {L : List Av} (h : As w S v L) (hf : Fits L) :
    Calls Try.prog 24 #[v] w fun e w' => ∃ q : Bool, e = .returned (.bool q) ∧ (q = false → wN L ≤ 1000) ∧ Ext w w' := by
  have hl := hf.2
  obtain ⟨A, c, rfl, h1, h2, h3, h4⟩ := h.open_ avc_len
  go_enter Try.func24, Try.ntmps24
  go_wp2_with fail
  go_loopw [3, 4] (fun n i wr => ∃ k : Nat, k ≤ L.length ∧ i = .int .i64 k ∧ n = .int .i64 (wN (L.take k) : Nat) ∧ Hid (wN (L.take k) ≤ 1000) ∧ Ext w wr) (fun _ i _ => L.length - (intOf i).toNat)
  case atStart => exact ⟨0, by omega, rfl, rfl, Lib.hid (by simp [wN]), Mod.refl _ _⟩
  case round =>
    obtain ⟨k, hk, rfl, rfl, hw0, hxr⟩ := hrel
    by_cases hlt : k < L.length
    · have hbl : decide ((k : Int) < (L.length : Int)) = true := dtrue (by omega)
      obtain ⟨ad, hA, hS, c0, c1⟩ := As.at_ (h4.ext hxr) hlt
      subst hA
      obtain ⟨k1, k2⟩ := hf.at_ hlt
      have hsn := wN_snoc L hlt
      have hw := hw0.out
      have hsmall := wN_take L (k + 1)
      have hi0 : (0 : Int) ≤ (k : Int) := by omega
      have hi1 : (k : Int) < (L.length : Int) := by omega
      generalize L[k] = x at *
      generalize wN (L.take k) = n at *
      have hz1 := sv_size x.1
      have hz2 := sv_size x.2
      have hdw : ∀ m, Ext w (wr.drewN m) := fun m => hxr.drewN m
      by_cases hgt : 1000 < n + 1 + x.1.length + x.2.length
      · have hbg : decide ((1000 : Int) < (n : Int) + 1 + (x.1.length : Int) + (x.2.length : Int)) = true := dtrue (by omega)
        go_wp2_with fail
        go_quiet (fail)
        go_wp2_with fail
        go_ret
        exact ⟨true, rfl, by simp, hdw _⟩
      · have hbg : decide ((1000 : Int) < (n : Int) + 1 + (x.1.length : Int) + (x.2.length : Int)) = false := dfalse (by omega)
        replace hsn := Lib.hid hsn
        go_wp2_with fail
        go_quiet (fail)
        go_wp2_with fail
        exact ⟨⟨k + 1, by omega, by go_num, by rw [hsn.out]; congr 1; omega, Lib.hid (by rw [hsn.out]; omega), hdw _⟩, by simp [intOf] <;> omega⟩
    · have hbl : decide ((k : Int) < (L.length : Int)) = false := dfalse (by omega)
      rw [List.take_of_length_le (by omega)] at hw0
      go_wp2_with fail
      go_ret
      exact ⟨false, rfl, fun _ => hw0.out, hxr⟩


set_option maxHeartbeats 2000000 in
theorem names13_any {w : World} {S S' : Nat → Prop} {v v' : Value} {L M : List Av} (h : As w S v L) (h' : As w S' v' M) (hf : L.length * 32 ≤ 140737488351232) :
    Calls Try.prog 18 #[v, v'] w fun e w' => e = .returned (.bool (decide (L = M))) ∧ Ext w w' := by
  obtain ⟨A, c, rfl, h1, h2, h3, h4⟩ := h.open_ avc_len
  obtain ⟨B, d, rfl, j1, j2, j3, j4⟩ := h'.open_ avc_len
  by_cases hl : L.length = M.length
  case neg =>
    have hb : ((L.length : Int) != (M.length : Int)) = true := by rw [bne_iff_ne]; omega
    go_enter Try.func18, Try.ntmps18
    go_wp2_with fail
    go_ret
    exact ⟨by rw [dfalse (fun h => hl (by rw [h]))]; rfl, Mod.refl _ _⟩
  have hb : ((L.length : Int) != (M.length : Int)) = false := by rw [bne_eq_false_iff_eq]; omega
  replace hl := Lib.hid hl
  go_enter Try.func18, Try.ntmps18
  go_wp2_with fail
  go_loopw [5] (fun i wr => ∃ k : Nat, k ≤ L.length ∧ i = .int .i64 k ∧ Hid (L.take k = M.take k) ∧ Ext w wr) (fun i _ => L.length - (intOf i).toNat)
  case atStart => exact ⟨0, Nat.zero_le _, rfl, Lib.hid (by simp), Mod.refl _ _⟩
  case round =>
    obtain ⟨k, hk, rfl, hs, q3⟩ := hrel
    by_cases hlt : k < L.length
    case neg =>
      have hbl : decide ((k : Int) < (L.length : Int)) = false := dfalse (by omega)
      have hres : L = M := by
        have := hs.out
        rwa [List.take_of_length_le (by omega), List.take_of_length_le (by have := hl.out; omega)] at this
      replace hres := Lib.hid hres
      go_wp2_with fail
      go_ret
      exact ⟨by rw [dtrue hres.out]; rfl, q3⟩
    have hbl : decide ((k : Int) < (L.length : Int)) = true := dtrue (by omega)
    have hlm : k < M.length := by have := hl.out; omega
    obtain ⟨ad, hA, hS, c0, c1⟩ := As.at_ (h4.ext q3) hlt
    subst hA
    obtain ⟨bd, hB, hT, d0, d1⟩ := As.at_ (j4.ext q3) hlm
    subst hB
    have hsn : L.take (k + 1) = M.take (k + 1) ↔ L[k] = M[k] := by
      rw [List.take_succ_eq_append_getElem hlt, List.take_succ_eq_append_getElem hlm, hs.out]
      exact ⟨fun h => List.singleton_inj.1 (List.append_cancel_left h), fun h => by rw [h]⟩
    have hno : L[k] ≠ M[k] → L ≠ M := fun hn he => hn (by subst he; rfl)
    have hi0 : (0 : Int) ≤ (k : Int) := by omega
    have hi1 : (k : Int) < (L.length : Int) := by omega
    have hi2 : (k : Int) < (M.length : Int) := by omega
    generalize L[k] = x at *
    generalize M[k] = y at *
    have hgu := fun wx a b => guardA wx .neq a b #[sv x.1, sv x.2] #[sv y.1, sv y.2]
    have hdw : ∀ m, Ext w (wr.drewN m) := fun m => q3.drewN m
    by_cases hxy : x = y
    · have hs2 := Lib.hid (hsn.2 hxy)
      have hne : ∀ wx, (binOp .neq 37 (.agg #[sv x.1, sv x.2]) (.agg #[sv y.1, sv y.2])).run Try.prog wx = .ok (.bool false) wx := fun wx => by rw [neqA, dtrue hxy]; rfl
      clear hsn hno hxy
      go_wp2_with fail
      go_quiet (fail)
      go_wp2_with fail
      exact ⟨⟨k + 1, by omega, by go_num, hs2, hdw _⟩, by simp [intOf] <;> omega⟩
    · have hne : ∀ wx, (binOp .neq 37 (.agg #[sv x.1, sv x.2]) (.agg #[sv y.1, sv y.2])).run Try.prog wx = .ok (.bool true) wx := fun wx => by rw [neqA, dfalse hxy]; rfl
      have hno2 := Lib.hid (hno hxy)
      clear hsn hno hxy
      go_wp2_with fail
      go_quiet (fail)
      go_wp2_with fail
      go_ret
      exact ⟨by rw [dfalse hno2.out]; rfl, hdw _⟩

set_option maxHeartbeats 2000000 in
theorem clone_any {w : World} {v : Value} {L : List Av} (h : As w (fun b => b < w.heap.size) v L) (hf : L.length * 32 ≤ 140737488351232) :
    Calls Try.prog 59 #[v] w fun e w' => ∃ v', e = .returned v' ∧ OwnA w' v' L ∧ Fresh w.heap.size v' ∧ Ext w w' := by
  obtain ⟨A, c, rfl, h1, h2, h3, h4⟩ := h.open_ avc_len
  cases A with
  | none =>
    obtain rfl : c = 0 := h3 rfl
    obtain rfl : L = [] := List.eq_nil_of_length_eq_zero (by omega)
    have he : ∀ wx : World, (binOp .eql 22 (.slice none 0 0) (.slice none 0 0)).run Try.prog wx = .ok (.bool true) wx := fun _ => rfl
    go_enter Try.func59, Try.ntmps59
    go_wp2_with fail
    go_ret
    exact ⟨_, rfl, OwnR.nil _ _ _ _, fresh_nil _ _ _, Mod.refl _ _⟩
  | some ad =>
    have hx : Ext w (w.alloc (.cells #[] 37)) := (Mod.refl _ w).alloc _
    have hn := Lib.hid (show (([] : List Av).length + L.length) * 32 ≤ 140737488355328 by simp; omega)
    have hr := h.ext hx
    have he : ∀ wx : World, (binOp .eql 22 (.slice (some ad) L.length c) (.slice none 0 0)).run Try.prog wx = .ok (.bool false) wx := fun _ => rfl
    have ho := OwnR.empty avc 2 w 37
    go_enter Try.func59, Try.ntmps59
    go_wp2_with ((with_reducible show wpList _ _ _ (⟨some 7, _, _, _, _, _⟩ :: _) _ _); refine wp_appRs tyA ho hr (fun x => avc_ok x) hn.out rfl (.tmp 5) (.tmp 6) rfl rfl rfl ?_; intro v2 w2 k1 k2 k3)
    go_ret
    exact ⟨_, rfl, k1, k3.fresh (fresh_new w 0 0) (by simp), hx.trans k2 (fun _ _ h => h) (fun b hb hh => by have : w.heap.size = b := Option.some.inj hh; omega)⟩

set_option maxHeartbeats 2000000 in
theorem up_any {w : World} {v : Value} {L : List Av} (h : As w (fun b => b < w.heap.size) v L) (hf : L.length * 32 ≤ 140737488351232) :
    Calls Try.prog 31 #[v] w fun e w' => ∃ v', e = .returned v' ∧ OwnA w' v' (L.drop 1) ∧ Fresh w.heap.size v' ∧ Ext w w' := by
  obtain ⟨A, c, rfl, h1, h2, h3, h4⟩ := h.open_ avc_len
  by_cases hl : L.length = 0
  · obtain rfl : L = [] := List.eq_nil_of_length_eq_zero hl
    go_enter Try.func31, Try.ntmps31
    go_wp2_with fail
    go_ret
    exact ⟨_, rfl, OwnR.nil _ _ _ _, fresh_nil _ _ _, Mod.refl _ _⟩
  have hb : ((L.length : Int) == 0) = false := by rw [beq_eq_false_iff_ne]; omega
  obtain ⟨ad, rfl⟩ : ∃ ad, A = some ad := by
    cases A with
    | none => have := h3 rfl; omega
    | some ad => exact ⟨ad, rfl⟩
  have hb1 : (1 : Int) ≤ (L.length : Int) := by omega
  have hdl : (L.drop 1).length * 32 ≤ 140737488351232 := by rw [List.length_drop]; omega
  by_cases hc : c = 1
  · have hr := Rc.rest0 h (m := 1) (by omega) hc
    have e0 : L.length - 1 = 0 := by omega
    rw [e0] at hr
    have hcl := clone_any hr hdl
    subst hc
    clear hr hdl e0 h
    go_enter Try.func31, Try.ntmps31
    go_wp2_with fail
    refine hcl.mono ?_
    rintro e w1 ⟨v1, rfl, k1, k2, k3⟩
    go_wp2_with fail
    go_ret
    exact ⟨_, rfl, k1, k2, k3⟩
  · have hr := Rc.rest avc_len h (m := 1) (by omega)
    rw [Option.map_some, show ad.add (1 * 2) = ⟨ad.block, ad.off + 2, none⟩ from by simp [Addr.add]] at hr
    have hcl := clone_any hr hdl
    clear hr hdl h
    go_enter Try.func31, Try.ntmps31
    go_wp2_with fail
    refine hcl.mono ?_
    rintro e w1 ⟨v1, rfl, k1, k2, k3⟩
    go_wp2_with fail
    go_ret
    exact ⟨_, rfl, k1, k2, k3⟩
end Go.Proofs.Ytbdkdbfcbakgmaa
