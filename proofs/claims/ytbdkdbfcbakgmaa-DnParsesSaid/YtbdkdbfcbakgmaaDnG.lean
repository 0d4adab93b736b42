/- dn: the document's Same, Under. -/
import Derived.Test.YtbdkdbfcbakgmaaDnF
import Derived.Test.YtbdkdbfcbakgmaaEqA
namespace Go.Proofs.Ytbdkdbfcbakgmaa
open Go.RowKit
set_option maxRecDepth 100000

def sameN (L M : List Av) : Prop := norm L = norm M
instance (L M : List Av) : Decidable (sameN L M) := inferInstanceAs (Decidable (_ = _))
def underN (L M : List Av) : Prop := M.length ≤ L.length ∧ sameN (L.drop (L.length - M.length)) M
instance (L M : List Av) : Decidable (underN L M) := inferInstanceAs (Decidable (_ ∧ _))

set_option maxHeartbeats 2000000 in
theorem rsame_any {w : World} {v u : Value} {L M : List Av} (h : As w (fun b => b < w.heap.size) v L) (h' : As w (fun b => b < w.heap.size) u M) (hf : Fits L) (hf' : Fits M) :
    Calls Try.prog 34 #[v, u] w fun e w' => e = .returned (.bool (decide (sameN L M))) ∧ Ext w w' := by
  have hl := hf.2
  have hl' := hf'.2
  obtain ⟨Av0, cv0, rfl⟩ := h.shape
  obtain ⟨Au0, cu0, rfl⟩ := h'.shape
  go_enter Try.func34, Try.ntmps34
  go_wp2_with fail
  refine (rnorm_any h hf).mono ?_
  rintro e w1 ⟨v1, rfl, p1, p2, p3⟩
  go_wp2_with fail
  refine (rnorm_any ((h'.ext p3).mono (fun b _ hb => Nat.lt_of_lt_of_le hb p3.size)) hf').mono ?_
  rintro e w2 ⟨v2, rfl, q1, q2, q3⟩
  have hx2 : Ext w w2 := ext_trans p3 q3
  have p4 := (p1.ext q3).rc
  have q4 := q1.rc
  have hsn : sameN L M ↔ norm L = norm M := Iff.rfl
  have hn1 : (norm L).length = L.length := by unfold norm; simp
  have hn2 : (norm M).length = M.length := by unfold norm; simp
  generalize norm L = X at *
  generalize norm M = Y at *
  replace hsn := Lib.hid hsn
  obtain ⟨A1, c1, rfl, r1, r2, r3, r4⟩ := p4.open_ avc_len
  obtain ⟨A2, c2, rfl, t1, t2, t3, t4⟩ := q4.open_ avc_len
  have hX : X.length * 32 ≤ 140737488351232 := by omega
  have hY : Y.length * 32 ≤ 140737488351232 := by omega
  clear p1 p2 q1 q2 p4 q4 h h' hn1 hn2
  by_cases hne : X.length = Y.length
  · have hb : ((X.length : Int) != (Y.length : Int)) = false := by rw [hne]; simp
    replace hne := Lib.hid hne
    go_wp2_with fail
    go_loopw [7] (fun i wr => ∃ k : Nat, k ≤ X.length ∧ i = .int .i64 k ∧ Ext w2 wr ∧ ∀ (j : Nat) (hj : j < X.length) (hj' : j < Y.length), j < k → X[j] = Y[j]) (fun i _ => X.length - (intOf i).toNat)
    case atStart => exact ⟨0, by omega, rfl, Mod.refl _ _, fun j _ _ h => by omega⟩
    case round =>
      obtain ⟨k, hk, rfl, hxr, hall⟩ := hrel
      replace hall := Lib.hid hall
      by_cases hlt : k < X.length
      · have hbl : decide ((k : Int) < (X.length : Int)) = true := dtrue (by omega)
        obtain ⟨ad, hA, hS, c0, c1⟩ := As.at_ (r4.ext hxr) hlt
        subst hA
        obtain ⟨ad', hA', hS', d0, d1⟩ := As.at_ (t4.ext hxr) (i := k) (by have := hne.out; omega)
        subst hA'
        have hi0 : (0 : Int) ≤ (k : Int) := by omega
        have hi1 : (k : Int) < (X.length : Int) := by omega
        have hi2 : (k : Int) < (Y.length : Int) := by have := hne.out; omega
        have next : X[k] = Y[k]'(by have := hne.out; omega) → ∀ (j : Nat) (hj : j < X.length) (hj' : j < Y.length), j < k + 1 → X[j] = Y[j] := fun h4 j hj hj' hjk => by
          by_cases hj2 : j < k
          · exact hall.out j hj hj' hj2
          · obtain rfl : j = k := by omega
            exact h4
        have nope : ¬ X[k] = Y[k]'(by have := hne.out; omega) → ¬ sameN L M := fun h4 h => h4 (by have := hsn.out.1 h; subst this; rfl)
        generalize X[k] = x at *
        generalize Y[k]'(by have := hne.out; omega) = y at *
        have hq1 := fun wx => neqA wx x y
        have hq2 := fun wx => guardA wx .neq
        have hdw : ∀ n, Ext w2 (wr.drewN n) := fun n => hxr.drewN n
        by_cases hxy : x = y
        · have hd : decide (x = y) = true := dtrue hxy
          replace next := next hxy
          clear nope hxy
          go_wp2_with fail
          go_quiet (fail)
          go_wp2_with fail
          exact ⟨⟨k + 1, by omega, by go_num, hdw _, next⟩, by simp [intOf] <;> omega⟩
        · have hd : decide (x = y) = false := dfalse hxy
          replace nope := nope hxy
          clear next hxy
          go_wp2_with fail
          go_quiet (fail)
          go_wp2_with fail
          go_ret
          exact ⟨by rw [decide_eq_false nope]; rfl, ext_trans hx2 (hdw _)⟩
      · have hbl : decide ((k : Int) < (X.length : Int)) = false := dfalse (by omega)
        have yes : sameN L M := hsn.out.2 (List.ext_getElem hne.out (fun j hj hj' => hall.out j hj hj' (by omega)))
        go_wp2_with fail
        go_ret
        exact ⟨by rw [decide_eq_true yes]; rfl, ext_trans hx2 hxr⟩
  · have hb : ((X.length : Int) != (Y.length : Int)) = true := by rw [bne_iff_ne]; omega
    have nope : ¬ sameN L M := fun h => hne (by rw [hsn.out.1 h])
    go_wp2_with fail
    go_ret
    exact ⟨by rw [decide_eq_false nope]; rfl, hx2⟩

set_option maxHeartbeats 2000000 in
theorem runder_any {w : World} {v u : Value} {L M : List Av} (h : As w (fun b => b < w.heap.size) v L) (h' : As w (fun b => b < w.heap.size) u M) (hf : Fits L) (hf' : Fits M) :
    Calls Try.prog 36 #[v, u] w fun e w' => e = .returned (.bool (decide (underN L M))) ∧ Ext w w' := by
  have hl := hf.2
  have hl' := hf'.2
  have h0 := h
  obtain ⟨Au, cu, rfl⟩ := h'.shape
  obtain ⟨A, c, rfl, r1, r2, r3, r4⟩ := h.open_ avc_len
  by_cases hle : M.length ≤ L.length
  · have hb : decide ((M.length : Int) ≤ (L.length : Int)) = true := dtrue (by omega)
    have hu : underN L M ↔ sameN (L.drop (L.length - M.length)) M := ⟨fun h => h.2, fun h => ⟨hle, h⟩⟩
    obtain ⟨n, hn⟩ : ∃ n, n = L.length - M.length := ⟨_, rfl⟩
    rw [← hn] at hu
    have hsub : (L.length : Int) - (M.length : Int) = (n : Int) := by omega
    have x0 : (0 : Int) ≤ (n : Int) := by omega
    have x1 : (n : Int) ≤ (L.length : Int) := by omega
    have x2 : (L.length : Int) ≤ (c : Int) := by omega
    have x3 : (n : Int) ≤ (c : Int) := by omega
    have hfd : Fits (L.drop n) := ⟨fun a ha => hf.1 a (List.mem_of_mem_drop ha), by rw [List.length_drop]; omega⟩
    have hn2 : n ≤ L.length := by omega
    replace hn := Lib.hid hn
    go_enter Try.func36, Try.ntmps36
    go_wp2_with fail
    · refine (rsame_any (Rc.rest0 h0 hn2 (by assumption)) h' hfd hf').mono ?_
      rintro e w2 ⟨rfl, hx⟩
      go_wp2_with fail
      go_ret
      exact ⟨by rw [show decide (underN L M) = decide (sameN (L.drop n) M) from decide_eq_decide.2 hu]; rfl, hx⟩
    · refine (rsame_any (Rc.rest avc_len h0 hn2) h' hfd hf').mono ?_
      rintro e w2 ⟨rfl, hx⟩
      go_wp2_with fail
      go_ret
      exact ⟨by rw [show decide (underN L M) = decide (sameN (L.drop n) M) from decide_eq_decide.2 hu]; rfl, hx⟩
  · have hb : decide ((M.length : Int) ≤ (L.length : Int)) = false := dfalse (by omega)
    have nope : ¬ underN L M := fun h => hle h.1
    go_enter Try.func36, Try.ntmps36
    go_wp2_with fail
    go_ret
    exact ⟨by rw [decide_eq_false nope]; rfl, Mod.refl _ _⟩
end Go.Proofs.Ytbdkdbfcbakgmaa
