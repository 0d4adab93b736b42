/- disk: rows of texts alike; a Disk of few files. -/
import Derived.Test.YtblfhonfjljndaaDoorDkX
namespace Go.Proofs.YtblfhonfjljndaaDoor
open Go.RowKit Go.Maps Go.WideMaps
set_option maxRecDepth 100000

set_option maxHeartbeats 8000000 in
theorem texts3_any {w : World} {S S' : Nat → Prop} {v v' : Value} {L M : Tx} (h : Ts w S v L) (h' : Ts w S' v' M) :
    Calls Tryd.prog 22 #[v, v'] w fun e w' => e = .returned (.bool (decide (L = M))) ∧ Ext w w' := by
  obtain ⟨A, c, rfl, h1, h2, h3, h4⟩ := h.open_
  obtain ⟨B, d, rfl, j1, j2, j3, j4⟩ := h'.open_
  by_cases hl : L.length = M.length
  case neg =>
    have hb : ((L.length : Int) != (M.length : Int)) = true := by rw [bne_iff_ne]; omega
    go_enter Tryd.func22, Tryd.ntmps22
    go_wp2_with fail
    go_ret
    exact ⟨by rw [dfalse (fun h => hl (by rw [h]))]; rfl, Mod.refl _ _⟩
  have hb : ((L.length : Int) != (M.length : Int)) = false := by rw [bne_eq_false_iff_eq]; omega
  replace hl := Lib.hid hl
  go_enter Tryd.func22, Tryd.ntmps22
  go_wp2_with fail
  go_loopw [5] (fun i wr => ∃ k : Nat, k ≤ L.length ∧ i = .int .i64 k ∧ Hid (L.take k = M.take k) ∧ Ext w wr) (fun i _ => L.length - (intOf i).toNat)
  case atStart => exact ⟨0, Nat.zero_le _, rfl, Lib.hid (by simp), Mod.refl _ _⟩
  case round =>
    obtain ⟨k, hk, rfl, hs, q3⟩ := hrel
    by_cases hlt : k < L.length
    case neg =>
      have hbl : decide ((k : Int) < (L.length : Int)) = false := dfalse (by omega)
      have hres : L = M := by
        have := hs.out
        rwa [List.take_of_length_le (by omega), List.take_of_length_le (by have := hl.out; omega)] at this
      replace hres := Lib.hid hres
      go_wp2_with fail
      go_ret
      exact ⟨by rw [dtrue hres.out]; rfl, q3⟩
    have hbl : decide ((k : Int) < (L.length : Int)) = true := dtrue (by omega)
    have hlm : k < M.length := by have := hl.out; omega
    obtain ⟨ad, hA, hS, c0⟩ := (Cells.mod h4 q3 (fun _ _ _ h => h)).at_ hlt
    subst hA
    obtain ⟨bd, hB, hT, d0⟩ := (Cells.mod j4 q3 (fun _ _ _ h => h)).at_ hlm
    subst hB
    have hsn : L.take (k + 1) = M.take (k + 1) ↔ L[k] = M[k] := by
      rw [List.take_succ_eq_append_getElem hlt, List.take_succ_eq_append_getElem hlm, hs.out]
      exact ⟨fun h => List.singleton_inj.1 (List.append_cancel_left h), fun h => by rw [h]⟩
    have hno : L[k] ≠ M[k] → L ≠ M := fun hn he => hn (by subst he; rfl)
    have hi0 : (0 : Int) ≤ (k : Int) := by omega
    have hi1 : (k : Int) < (L.length : Int) := by omega
    have hi2 : (k : Int) < (M.length : Int) := by omega
    generalize L[k] = x at *
    generalize M[k] = y at *
    have hdw : ∀ m, Ext w (wr.drewN m) := fun m => q3.drewN m
    cases hxy : (x == y)
    case true =>
      have hs2 := Lib.hid (hsn.2 (by rw [beq_iff_eq] at hxy; exact hxy))
      clear hsn hno
      go_wp2_with fail
      go_quiet (fail)
      go_wp2_with fail
      exact ⟨⟨k + 1, by omega, by go_num, hs2, hdw _⟩, by simp [intOf] <;> omega⟩
    have hno2 := Lib.hid (hno (by rw [beq_eq_false_iff_ne] at hxy; exact hxy))
    clear hsn hno
    go_wp2_with fail
    go_quiet (fail)
    go_wp2_with fail
    go_ret
    exact ⟨by rw [dfalse hno2.out]; rfl, hdw _⟩


/-- A Disk of these files. -/
abbrev st (L : Fis) : Ds := ⟨1048576, L, false, 0⟩
theorem st_beg {L : Fis} {N : Tx} (h : N.any badN = false) : begD (st L) N = 0 := by
  unfold begD
  rw [if_neg (by simp), h]
  rfl
theorem st_app {L : Fis} {x : List UInt8} {P : Tx} (hx : [x].any badN = false) (h : sumB L + tot P ≤ 1048576) (hl : L.length < 4096) : appendD (st L) x P = (st (putF L ⟨x, ((getF L x).map Fi.b).getD [] ++ P.flatten, ((getF L x).map Fi.last).getD 0⟩), 0) := by
  unfold appendD
  rw [if_neg (by rw [st_beg hx]; simp), if_neg (fun hh => hh h)]
  cases hg : getF L x with
  | none =>
    simp only
    rw [if_neg (by show ¬ 4096 ≤ L.length; omega)]
    rfl
  | some f =>
    obtain rfl := getF_name hg
    rfl
theorem st_sync {L : Fis} {x : List UInt8} {f : Fi} (hx : [x].any badN = false) (h : getF L x = some f) : syncD (st L) x = (st (putF L ⟨x, f.b, f.b.length⟩), 0) := by
  obtain rfl := getF_name h
  rw [syncD, onF_some _ (st_beg hx) h]
  rfl
theorem st_syncs {L : Fis} {x : List UInt8} {f : Fi} {N : Tx} (hx : [x].any badN = false) (h : getF L x = some f) : eachD syncD (st L) (x :: N) = eachD syncD (st (putF L ⟨x, f.b, f.b.length⟩)) N := by
  rw [eachD_ok (by rw [st_sync hx h]), st_sync hx h]
theorem st_miss {L : Fis} {x : List UInt8} {N : Tx} (hx : [x].any badN = false) (h : getF L x = none) : eachD syncD (st L) (x :: N) = (st L, 7) := by
  have : syncD (st L) x = (st L, 7) := by rw [syncD, onF_none _ (st_beg hx) h]
  rw [eachD_err (by rw [this]; simp), this]
end Go.Proofs.YtblfhonfjljndaaDoor
