/- dn: the law Ups. -/
import Derived.Test.YtbdkdbfcbakgmaaDnPL
namespace Go.Proofs.Ytbdkdbfcbakgmaa
open Go.RowKit
set_option maxRecDepth 100000

set_option maxHeartbeats 8000000 in
theorem dnUps_walk {w : World} {v : Value} {L : List Av} (h1 : As w (fun _ => True) v L) (f1 : Fits L) :
    Calls Try.prog 9 #[v] w fun e w' => e = .returned (.bool true) ∧ Ext w w' := by
  obtain ⟨A, c, rfl, b1, b2, b3, b4⟩ := h1.open_ avc_len
  go_enter Try.func9, Try.ntmps9
  go_wp2_with fail
  refine (heavy13_any h1 f1).mono ?_
  rintro e w1 ⟨q, rfl, g0, x1⟩
  cases q
  case true =>
    go_wp2_with fail
    go_ret
    exact ⟨rfl, x1⟩
  replace g0 := Lib.hid (g0 rfl)
  by_cases hb : 30 < L.length
  · have hb1 : decide ((30 : Int) < (L.length : Int)) = true := dtrue (by omega)
    go_wp2_with fail
    go_ret
    exact ⟨rfl, x1⟩
  have hb1 : decide ((30 : Int) < (L.length : Int)) = false := dfalse (by omega)
  go_wp2_with fail
  go_loopw [3, 4] (fun x i wr => ∃ k : Nat, k ≤ L.length ∧ i = .int .i64 k ∧ As wr (fun b => b < wr.heap.size) x (L.drop k) ∧ Ext w wr) (fun _ i _ => L.length - (intOf i).toNat)
  case atStart => exact ⟨0, Nat.zero_le _, rfl, h1.there x1, x1⟩
  case round =>
    obtain ⟨k, hk, rfl, p1, p2⟩ := hrel
    by_cases hlt : k < L.length
    case neg =>
      have hbl : decide ((k : Int) < (L.length : Int)) = false := dfalse (by omega)
      have hd : L.drop k = [] := List.drop_of_length_le (by omega)
      rw [hd] at p1
      obtain ⟨A2, c2, rfl⟩ := p1.shape
      go_wp2_with fail
      refine (up_any (nil_as _) (by decide)).mono ?_
      rintro e w2 ⟨v2, rfl, r2, _, x2⟩
      obtain ⟨A3, c3, rfl⟩ := r2.shape
      go_wp2_with fail
      refine known13_any.mono ?_
      rintro e wk ⟨rfl, xk⟩
      go_wp2_with fail
      go_ret
      exact ⟨rfl, ext_trans p2 (ext_trans x2 xk)⟩
    have hbl : decide ((k : Int) < (L.length : Int)) = true := dtrue (by omega)
    have fk : Fits (L.drop k) := fits_of (by have := wN_drop L k; have := g0.out; omega)
    have fk1 : Fits (L.drop (k + 1)) := fits_of (by have := wN_drop L (k + 1); have := g0.out; omega)
    have hdd : (L.drop k).drop 1 = L.drop (k + 1) := by rw [List.drop_drop]
    have l0 : (L.drop k).length = L.length - k := List.length_drop
    have l1 : (L.drop (k + 1)).length = L.length - (k + 1) := List.length_drop
    have u1 : underN (L.drop k) (L.drop (k + 1)) := by rw [← hdd]; exact under_drop _ 1 (by omega)
    have u2 : underN L (L.drop (k + 1)) := under_drop L (k + 1) (by omega)
    have u3 : ¬ underN (L.drop (k + 1)) (L.drop k) := fun h => by have := h.1; omega
    obtain ⟨X, hX⟩ : ∃ X, X = L.drop k := ⟨_, rfl⟩
    obtain ⟨Y, hY⟩ : ∃ Y, Y = L.drop (k + 1) := ⟨_, rfl⟩
    rw [← hX] at p1 fk hdd l0 u1 u3
    rw [← hY] at fk1 hdd l1 u1 u2 u3
    have hne : ((Y.length : Int) != (X.length : Int) - 1) = false := by rw [bne_eq_false_iff_eq]; omega
    have hx1 : (1 : Int) ≤ (X.length : Int) := by omega
    have hx2 : (X.length : Int) ≤ 30 := by omega
    replace hX := Lib.hid hX
    replace hY := Lib.hid hY
    replace hdd := Lib.hid hdd
    replace l0 := Lib.hid l0
    replace l1 := Lib.hid l1
    obtain ⟨A2, c2, rfl⟩ := p1.shape
    go_wp2_with fail
    refine (up_any p1 fk.2).mono ?_
    rintro e w2 ⟨v2, rfl, r2, _, x2⟩
    rw [hdd.out] at r2
    replace r2 := r2.rc
    have p3 := p1.there x2
    replace x2 := ext_trans p2 x2
    obtain ⟨A3, c3, rfl⟩ := r2.shape
    clear p1 p2
    go_wp2_with fail
    refine (under_any p3 r2 fk fk1).mono ?_
    rintro e w3 ⟨rfl, x3⟩
    rw [dtrue u1]
    have r3 := r2.ext x3
    have p4 := p3.there x3
    replace x3 := ext_trans x2 x3
    clear x2 r2 p3
    go_wp2_with fail
    refine (under_any (h1.ext x3) r3 f1 fk1).mono ?_
    rintro e w4 ⟨rfl, x4⟩
    rw [dtrue u2]
    have r4 := r3.ext x4
    have p5 := p4.there x4
    replace x4 := ext_trans x3 x4
    clear x3 r3 p4
    go_wp2_with fail
    refine (under_any r4 p5 fk1 fk).mono ?_
    rintro e w5 ⟨rfl, x5⟩
    rw [dfalse u3]
    have r5 := r4.there x5
    replace x5 := ext_trans x4 x5
    go_wp2_with fail
    refine ⟨⟨k + 1, by omega, by go_num, by rw [← hY.out]; exact r5, x5⟩, by simp [intOf] <;> omega⟩
end Go.Proofs.Ytbdkdbfcbakgmaa
