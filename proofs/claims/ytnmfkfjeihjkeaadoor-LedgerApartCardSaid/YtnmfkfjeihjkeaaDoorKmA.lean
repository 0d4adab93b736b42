/- ledger: LedgerApart. -/
import Derived.Test.YtnmfkfjeihjkeaaDoorKlZ
namespace Go.Proofs.YtnmfkfjeihjkeaaDoor
open Go.RowKit Go.Maps Go.WideMaps
set_option maxRecDepth 100000

theorem Pr.onx {w0 w : World} {bd gx gy r B N : Nat} {F : Fn} {lx ly : Lst} (H : Pr w0 w bd gx gy r B N F lx ly) : On F lx.p lx.base lx.data lx.es := by
  obtain ⟨Y, dv, ew, vs, ⟨L, _, _, _, h, _⟩, _⟩ := H
  exact h
set_option maxHeartbeats 16000000 in
theorem apart5_any {w : World} {a b : List UInt8} {n m : Int} (la : a.length ≤ 140737488351232) (lb : b.length ≤ 140737488351232) (h1 : -9223372036854775808 ≤ n ∧ n ≤ 9223372036854775807) (h2 : -9223372036854775808 ≤ m ∧ m ≤ 9223372036854775807) (hN : Nib w) :
    Calls Tryd.prog 10 #[sv a, sv b, .int .i64 n, .int .i64 m] w fun e w' => e = .returned (.bool true) ∧ Ext w w' := by
  have hk4 := fun (w' : World) (x : Ext w w') => known5_any (hN.ext x)
  have kc := fun (w : World) (C : Array Value) (n c : Nat) => Lib.run_convert_bytes_const (P := Tryd.prog) w 32 5 C n c Tryd.underlying32 Tryd.underlying5
  have hk0 := hk4 w (Mod.refl _ _)
  by_cases c0 : a.length < 1
  · have d0 : decide ((a.length : Int) < 1) = true := dtrue (by omega)
    clear hk4 kc
    go_enter Tryd.func10, Tryd.ntmps10
    go_wp2_with fail
    refine hk0.mono ?_
    rintro e w1 ⟨rfl, x1⟩
    go_wp2_with fail
    go_ret
    exact ⟨rfl, x1⟩
  have d0 : decide ((a.length : Int) < 1) = false := dfalse (by omega)
  by_cases c1 : 20 < a.length
  · have d1 : decide ((20 : Int) < (a.length : Int)) = true := dtrue (by omega)
    clear hk4 kc
    go_enter Tryd.func10, Tryd.ntmps10
    go_wp2_with fail
    refine hk0.mono ?_
    rintro e w1 ⟨rfl, x1⟩
    go_wp2_with fail
    go_ret
    exact ⟨rfl, x1⟩
  have d1 : decide ((20 : Int) < (a.length : Int)) = false := dfalse (by omega)
  by_cases c2 : b.length < 1
  · have d2 : decide ((b.length : Int) < 1) = true := dtrue (by omega)
    clear hk4 kc
    go_enter Tryd.func10, Tryd.ntmps10
    go_wp2_with fail
    refine hk0.mono ?_
    rintro e w1 ⟨rfl, x1⟩
    go_wp2_with fail
    go_ret
    exact ⟨rfl, x1⟩
  have d2 : decide ((b.length : Int) < 1) = false := dfalse (by omega)
  by_cases c3 : 20 < b.length
  · have d3 : decide ((20 : Int) < (b.length : Int)) = true := dtrue (by omega)
    clear hk4 kc
    go_enter Tryd.func10, Tryd.ntmps10
    go_wp2_with fail
    refine hk0.mono ?_
    rintro e w1 ⟨rfl, x1⟩
    go_wp2_with fail
    go_ret
    exact ⟨rfl, x1⟩
  have d3 : decide ((20 : Int) < (b.length : Int)) = false := dfalse (by omega)
  by_cases c4 : a = b
  · have d4 : (a == b) = true := by rw [c4]; exact beq_self_eq_true _
    clear hk4 kc
    go_enter Tryd.func10, Tryd.ntmps10
    go_wp2_with fail
    refine hk0.mono ?_
    rintro e w1 ⟨rfl, x1⟩
    go_wp2_with fail
    go_ret
    exact ⟨rfl, x1⟩
  have d4 : (a == b) = false := by rw [beq_eq_false_iff_ne]; exact c4
  by_cases c5 : n < 0
  · have d5 : decide (n < 0) = true := dtrue (by omega)
    clear hk4 kc
    go_enter Tryd.func10, Tryd.ntmps10
    go_wp2_with fail
    refine hk0.mono ?_
    rintro e w1 ⟨rfl, x1⟩
    go_wp2_with fail
    go_ret
    exact ⟨rfl, x1⟩
  have d5 : decide (n < 0) = false := dfalse (by omega)
  by_cases c6 : 20 < n
  · have d6 : decide (20 < n) = true := dtrue (by omega)
    clear hk4 kc
    go_enter Tryd.func10, Tryd.ntmps10
    go_wp2_with fail
    refine hk0.mono ?_
    rintro e w1 ⟨rfl, x1⟩
    go_wp2_with fail
    go_ret
    exact ⟨rfl, x1⟩
  have d6 : decide (20 < n) = false := dfalse (by omega)
  by_cases c7 : m < 0
  · have d7 : decide (m < 0) = true := dtrue (by omega)
    clear hk4 kc
    go_enter Tryd.func10, Tryd.ntmps10
    go_wp2_with fail
    refine hk0.mono ?_
    rintro e w1 ⟨rfl, x1⟩
    go_wp2_with fail
    go_ret
    exact ⟨rfl, x1⟩
  have d7 : decide (m < 0) = false := dfalse (by omega)
  by_cases c8 : 20 < m
  · have d8 : decide (20 < m) = true := dtrue (by omega)
    clear hk4 kc
    go_enter Tryd.func10, Tryd.ntmps10
    go_wp2_with fail
    refine hk0.mono ?_
    rintro e w1 ⟨rfl, x1⟩
    go_wp2_with fail
    go_ret
    exact ⟨rfl, x1⟩
  have d8 : decide (20 < m) = false := dfalse (by omega)
  obtain ⟨n, rfl⟩ := Int.eq_ofNat_of_zero_le (show 0 ≤ n by omega)
  obtain ⟨m, rfl⟩ := Int.eq_ofNat_of_zero_le (show 0 ≤ m by omega)
  have hn9 : n ≤ 20 := by omega
  have hm9 : m ≤ 20 := by omega
  have ha1 : 1 ≤ a.length := by omega
  have ha2 : a.length ≤ 20 := by omega
  have hb1 : 1 ≤ b.length := by omega
  have hb2 : b.length ≤ 20 := by omega
  clear hk0 la lb h1 h2 c0 c1 c2 c3 c4 c5 c6 c7 c8
  go_enter Tryd.func10, Tryd.ntmps10
  go_wp2_with fail
  refine (meets_any ha2 hb2).mono ?_
  rintro e w1 ⟨r1, rfl, hr1, x1⟩
  cases r1 with
  | true =>
    clear hr1
    have hkk := hk4 w1 x1
    go_wp2_with fail
    refine hkk.mono ?_
    rintro e w2 ⟨rfl, x2⟩
    go_wp2_with fail
    go_ret
    exact ⟨rfl, ext_trans x1 x2⟩
  | false =>
  have hab := Lib.hid (hr1 rfl)
  clear hr1
  go_wp2_with fail
  refine (meets_any hb2 ha2).mono ?_
  rintro e w2 ⟨r2, rfl, hr2, x2⟩
  have x2 := ext_trans x1 x2
  clear x1
  cases r2 with
  | true =>
    clear hr2
    have hkk := hk4 w2 x2
    go_wp2_with fail
    refine hkk.mono ?_
    rintro e w3 ⟨rfl, x3⟩
    go_wp2_with fail
    go_ret
    exact ⟨rfl, ext_trans x2 x3⟩
  | false =>
  have hba := Lib.hid (hr2 rfl)
  clear hr2
  go_wp2_with fail
  refine (new_hold (w0 := w) 65536 (by omega) (by omega) x2).mono ?_
  rintro e w3 ⟨bd, rfl, H3⟩
  have hc := li_open (w0 := w) (p := a) (r := 65536) (bd := bd) ⟨[], H3, HasL.nil 0 0⟩ hN (On.none a) ha1 ha2 (by simp) (by simp) (by simp)
  clear H3 x2 d0 d1 d2 d3 d4 d5 d6 d7 d8
  go_wp2_with fail
  refine hc.mono ?_
  rintro e w4 ⟨gx, rfl, H4⟩
  have hc2 := pr_open H4 hN (On.none b) hb1 hb2 (by simp) (by simp) (by simp)
  clear hc H4
  go_wp2_with fail
  refine hc2.mono ?_
  rintro e w5 ⟨gy, rfl, H5⟩
  replace H5 := H5.swap
  clear hc2
  go_wp2_with fail
  go_loopw [15] (fun i wr => ∃ (j : Nat) (F : Fn), j ≤ n ∧ i = .int .i64 j ∧ Pr w wr bd gx gy 65536 (33 * j) (2 + j) F ⟨a, 0, [], List.replicate j [120], false⟩ ⟨b, 0, [], [], false⟩) (fun i _ => n - (intOf i).toNat)
  case atStart => exact ⟨0, _, Nat.zero_le _, rfl, H5⟩
  case round =>
    clear H5
    obtain ⟨j, F, hj, rfl, H⟩ := hrel
    by_cases hlt : j < n
    · have hbl : decide ((j : Int) < (n : Int)) = true := dtrue (by omega)
      have hca := pr_append (m := j + 1) (l' := ⟨a, 0, [], List.replicate (j + 1) [120], false⟩) H hN hba.out [120] (1, 2) (by simp [lastL5]) (by simp [lappL, List.replicate_succ']) (by simp) (by omega) (by simp; omega) ha2 (by simp; omega) (by omega)
      clear H
      go_wp2_with fail
      refine hca.mono ?_
      rintro e w6 ⟨rfl, H6⟩
      clear hca
      go_wp2_with fail
      have e1 : 33 * j + (32 + ([120] : List UInt8).length) = 33 * (j + 1) := by simp; omega
      rw [e1, Nat.add_assoc] at H6
      exact ⟨⟨j + 1, _, by omega, by go_num, H6⟩, by simp [intOf] <;> omega⟩
    obtain rfl : j = n := by omega
    have hbl : decide ((j : Int) < (j : Int)) = false := dfalse (by omega)
    replace H := H.swap
    clear hlt hj
    go_wp2_with fail
    go_loopw [16] (fun i wr => ∃ (k : Nat) (F : Fn), k ≤ m ∧ i = .int .i64 k ∧ Pr w wr bd gy gx 65536 (33 * j + 33 * k) (2 + j + k) F ⟨b, 0, [], List.replicate k [121], false⟩ ⟨a, 0, [], List.replicate j [120], false⟩) (fun i _ => m - (intOf i).toNat)
    case atStart => exact ⟨0, _, Nat.zero_le _, rfl, H⟩
    case round =>
      clear H F
      obtain ⟨k, F, hk, rfl, H⟩ := hrel
      by_cases hlt : k < m
      · have hbl2 : decide ((k : Int) < (m : Int)) = true := dtrue (by omega)
        have hca := pr_append (m := k + 1) (l' := ⟨b, 0, [], List.replicate (k + 1) [121], false⟩) H hN hab.out [121] (1, 2) (by simp [lastL5]) (by simp [lappL, List.replicate_succ']) (by simp) (by omega) (by simp; omega) hb2 (by simp; omega) (by omega)
        clear H
        go_wp2_with fail
        refine hca.mono ?_
        rintro e w6 ⟨rfl, H6⟩
        clear hca
        go_wp2_with fail
        have e1 : 33 * j + 33 * k + (32 + ([121] : List UInt8).length) = 33 * j + 33 * (k + 1) := by simp; omega
        rw [e1, Nat.add_assoc] at H6
        exact ⟨⟨k + 1, _, by omega, by go_num, H6⟩, by simp [intOf] <;> omega⟩
      obtain rfl : k = m := by omega
      have hbl2 : decide ((k : Int) < (k : Int)) = false := dfalse (by omega)
      have hcw := pr_write (n := j) H.swap hN hba.out [88] (1, 2) (by simp) (by omega) (by simp [lastL5]) ha2 (by simp; omega) (by omega)
      clear H hlt hk
      go_wp2_with fail
      refine hcw.mono ?_
      rintro e w7 ⟨rfl, H7⟩
      have hoa := (H7.onx.apart_log hab.out (o := none)).apart_img hab.out (o := none)
      have hob := H7.swap.onx.drop
      have hcd := pr_drop H7.swap hb2
      clear hcw H7
      go_wp2_with fail
      refine hcd.mono ?_
      rintro e w8 ⟨rfl, H8⟩
      have hco := li_open H8 hN hoa ha1 ha2 (by simp; omega) (by simp; omega) (by simp)
      clear hcd H8
      go_wp2_with fail
      refine hco.mono ?_
      rintro e w9 ⟨gv, rfl, H9⟩
      have hcp := pr_open H9 hN hob hb1 hb2 (by simp; omega) (by simp) (by simp)
      clear hco H9
      go_wp2_with fail
      refine hcp.mono ?_
      rintro e w10 ⟨gu, rfl, H10⟩
      have hl1 := pr_last (m := j) H10.swap (by simp [lastL5])
      have hjj : ((j : Int) == (j : Int)) = true := by simp
      clear hcp hoa hob
      go_wp2_with fail
      refine hl1.mono ?_
      rintro e w11 ⟨rfl, k11, hw11⟩
      have H11 := H10.ext (by rw [hw11]; exact (Mod.refl _ w10).drewN k11 : Ext w10 w11)
      have hl2 := pr_last (m := 0) H11 (by simp [lastL5])
      clear hl1 H10 hw11
      go_wp2_with fail
      refine hl2.mono ?_
      rintro e w12 ⟨rfl, k12, hw12⟩
      have hx12 : Ext w w12 := by rw [hw12]; exact H11.xt.drewN k12
      have hkk := hk4 w12 hx12
      clear hl2 H11 hw12 hk4
      go_wp2_with fail
      refine hkk.mono ?_
      rintro e w13 ⟨rfl, x13⟩
      go_wp2_with fail
      go_ret
      exact ⟨rfl, ext_trans hx12 x13⟩
end Go.Proofs.YtnmfkfjeihjkeaaDoor
