/- ledger: LedgerJumps. -/
import Derived.Test.YtnmfkfjeihjkeaaDoorKlV
namespace Go.Proofs.YtnmfkfjeihjkeaaDoor
open Go.RowKit Go.Maps Go.WideMaps
set_option maxRecDepth 100000

section
variable {w0 w : World} {g bd r B N n l : Nat} {F : Fn} {b : List UInt8} {es : Tx} {L : Fis}
/-- A ledger whose fuse burns, an image written behind a literal's row. -/
theorem lit_jump {left : Nat} {e : Nat} {L' : Fis} (H : Lh w0 w bd ⟨r, L, true, l⟩ g ⟨[97], 0, [], es, false⟩) (hN : Nib w0) (fr : Nat × Nat) (hb : b.length ≤ 1000) (hn : n ≤ 2000) (hln : es.length ≤ n) (hr : replD ⟨r, L, true, l⟩ [97] n b = (⟨r, L', true, left⟩, e)) :
    Calls Tryd.prog 36 #[pv g, .int .i64 (n : Int), .slice (some ⟨w.heap.size, 0, none⟩) b.length b.length] (w.alloc (.cells (b.map bv).toArray 5 fr)) fun q w' => q = .returned (.int .i64 (e : Int)) ∧ Hold w0 w' (pv bd) ⟨r, L', true, left⟩ :=
  (lh_write H ((Mod.refl _ _).alloc _) rfl (Bs.text w 5 b fr (by simp only [maxLen]; omega)) lit_V (by omega) (by omega) (by show 0 + es.length ≤ n; omega) hr hN).mono fun q w' ⟨q1, q2⟩ => ⟨q1, q2.hold⟩
end
set_option maxHeartbeats 16000000 in
theorem jumps_any {w : World} {few far fuse draw : Int} (h1 : -9223372036854775808 ≤ few ∧ few ≤ 9223372036854775807) (h2 : -9223372036854775808 ≤ far ∧ far ≤ 9223372036854775807) (h3 : -9223372036854775808 ≤ fuse ∧ fuse ≤ 9223372036854775807) (h4 : -9223372036854775808 ≤ draw ∧ draw ≤ 9223372036854775807) (hN : Nib w) :
    Calls Tryd.prog 7 #[.int .i64 few, .int .i64 far, .int .i64 fuse, .int .i64 draw] w fun e w' => e = .returned (.bool true) ∧ Ext w w' := by
  have hk4 := fun (w' : World) (x : Ext w w') => known5_any (hN.ext x)
  have kc := fun (w : World) (C : Array Value) (n c : Nat) => Lib.run_convert_bytes_const (P := Tryd.prog) w 32 5 C n c Tryd.underlying32 Tryd.underlying5
  have hk0 := hk4 w (Mod.refl _ _)
  by_cases c1 : few < 0
  · have hd := dtrue c1
    go_enter Tryd.func7, Tryd.ntmps7
    go_wp2_with fail
    refine hk0.mono ?_
    rintro e w1 ⟨rfl, x1⟩
    go_wp2_with fail
    go_ret
    exact ⟨rfl, x1⟩
  by_cases c2 : 20 < few
  · have hd := dfalse c1
    have hd2 := dtrue c2
    go_enter Tryd.func7, Tryd.ntmps7
    go_wp2_with fail
    refine hk0.mono ?_
    rintro e w1 ⟨rfl, x1⟩
    go_wp2_with fail
    go_ret
    exact ⟨rfl, x1⟩
  by_cases c3 : far < 0
  · have hd := dfalse c1
    have hd2 := dfalse c2
    have hd3 := dtrue c3
    go_enter Tryd.func7, Tryd.ntmps7
    go_wp2_with fail
    refine hk0.mono ?_
    rintro e w1 ⟨rfl, x1⟩
    go_wp2_with fail
    go_ret
    exact ⟨rfl, x1⟩
  by_cases c4 : 1000 < far
  · have hd := dfalse c1
    have hd2 := dfalse c2
    have hd3 := dfalse c3
    have hd4 := dtrue c4
    go_enter Tryd.func7, Tryd.ntmps7
    go_wp2_with fail
    refine hk0.mono ?_
    rintro e w1 ⟨rfl, x1⟩
    go_wp2_with fail
    go_ret
    exact ⟨rfl, x1⟩
  by_cases c5 : fuse < 0
  · have hd := dfalse c1
    have hd2 := dfalse c2
    have hd3 := dfalse c3
    have hd4 := dfalse c4
    have hd5 := dtrue c5
    go_enter Tryd.func7, Tryd.ntmps7
    go_wp2_with fail
    refine hk0.mono ?_
    rintro e w1 ⟨rfl, x1⟩
    go_wp2_with fail
    go_ret
    exact ⟨rfl, x1⟩
  by_cases c6 : 20 < fuse
  · have hd := dfalse c1
    have hd2 := dfalse c2
    have hd3 := dfalse c3
    have hd4 := dfalse c4
    have hd5 := dfalse c5
    have hd6 := dtrue c6
    go_enter Tryd.func7, Tryd.ntmps7
    go_wp2_with fail
    refine hk0.mono ?_
    rintro e w1 ⟨rfl, x1⟩
    go_wp2_with fail
    go_ret
    exact ⟨rfl, x1⟩
  obtain ⟨fw, rfl⟩ := Int.eq_ofNat_of_zero_le (show 0 ≤ few by omega)
  obtain ⟨fa, rfl⟩ := Int.eq_ofNat_of_zero_le (show 0 ≤ far by omega)
  obtain ⟨fs, rfl⟩ := Int.eq_ofNat_of_zero_le (show 0 ≤ fuse by omega)
  have hd := dfalse c1
  have hd2 := dfalse c2
  have hd3 := dfalse c3
  have hd4 := dfalse c4
  have hd5 := dfalse c5
  have hd6 := dfalse c6
  have hfw : fw ≤ 20 := by omega
  have hfa : fa ≤ 1000 := by omega
  have hfs : fs ≤ 1000 := by omega
  clear hk0 c1 c2 c3 c4 c5 c6 h1 h2 h3
  go_enter Tryd.func7, Tryd.ntmps7
  go_wp2_with fail
  refine (new_hold (w0 := w) 65536 (by omega) (by omega) (Mod.refl _ _)).mono ?_
  rintro e w1 ⟨bd, rfl, H1⟩
  have hc := li_open (w0 := w) (p := [97]) (r := 65536) (bd := bd) ⟨[], H1, HasL.nil 0 0⟩ hN (On.none [97]) (by simp) (by simp) (by simp) (by simp) (by simp)
  clear H1 hd hd2 hd3 hd4 hd5 hd6
  go_wp2_with fail
  refine hc.mono ?_
  rintro e w2 ⟨g, rfl, H2⟩
  clear hc
  go_wp2_with fail
  go_loopw [13] (fun i wr => ∃ (j : Nat) (F : Fn), j ≤ fw ∧ i = .int .i64 j ∧ Li w wr bd g 65536 (33 * j) (1 + j) F ⟨[97], 0, [], List.replicate j [120], false⟩) (fun i _ => fw - (intOf i).toNat)
  case atStart => exact ⟨0, _, Nat.zero_le _, rfl, H2⟩
  case round =>
    clear H2
    obtain ⟨j, F, hj, rfl, H⟩ := hrel
    by_cases hlt : j < fw
    · have hbl : decide ((j : Int) < (fw : Int)) = true := dtrue (by omega)
      have hca := lit_app (m := j + 1) (l' := ⟨[97], 0, [], List.replicate (j + 1) [120], false⟩) H hN [120] (1, 2) (by simp [lastL5]) (by simp [lappL, List.replicate_succ']) (by simp) (by omega) (by simp; omega) (by simp) (by simp; omega) (by omega)
      clear H
      go_wp2_with fail
      refine hca.mono ?_
      rintro e w3 ⟨rfl, H3⟩
      clear hca
      go_wp2_with fail
      have e1 : 33 * j + (32 + ([120] : List UInt8).length) = 33 * (j + 1) := by simp; omega
      rw [e1, Nat.add_assoc] at H3
      exact ⟨⟨j + 1, _, by omega, by go_num, H3⟩, by simp [intOf] <;> omega⟩
    obtain rfl : j = fw := by omega
    have hbl : decide ((j : Int) < (j : Int)) = false := dfalse (by omega)
    obtain ⟨L, hLh, hHas, hOn, -⟩ := H
    have hcf := lh_fuse hLh fs hfs
    obtain ⟨L', left, q, e1, L2, L3, F3, l', e2, e3, hHas3, hOn3, hl', hl'2, hout⟩ := jump_pure (r := 65536) (l := fs) (n := j + fa) (b := [121]) hHas hOn (by simp) (by omega) (by simp) (by simp) (by simp; omega) (by simp; omega) (by omega) draw
    clear hLh hHas hOn
    go_wp2_with fail
    refine hcf.mono ?_
    rintro e w3 ⟨rfl, H3⟩
    have hcw := lit_jump (b := [121]) (n := j + fa) H3 hN (1, 2) (by simp) (by omega) (by simp) e1
    rw [Int.natCast_add] at hcw
    clear hcf H3
    go_wp2_with fail
    refine hcw.mono ?_
    rintro e w4 ⟨rfl, H4⟩
    have hcc := hold_crash H4 draw h4.2 e2
    clear hcw H4
    go_wp2_with fail
    refine hcc.mono ?_
    rintro e w5 ⟨rfl, H5⟩
    have hco := lh_open H5 hN (p := [97]) (by simp) (by simp) e3
    clear hcc H5
    go_wp2_with fail
    refine hco.mono ?_
    rintro e w6 ⟨g6, rfl, H6⟩
    obtain ⟨ba, dt, es, rfl⟩ : ∃ ba dt es, l' = ⟨[97], ba, dt, es, false⟩ := ⟨_, _, _, hl'⟩
    simp only at hOn3 hl'2 H6
    have hLi : Li w w6 bd g6 65536 (33 * j + (32 + ([121] : List UInt8).length)) (1 + j + 2) F3 ⟨[97], ba, dt, es, false⟩ := ⟨L3, H6, hHas3, hOn3, rfl⟩
    obtain ⟨m, hm⟩ : ∃ m, m = lastL5 ⟨[97], ba, dt, es, false⟩ := ⟨_, rfl⟩
    rw [← hm] at hout
    have hme : ba + es.length = m := hm.symm
    have hcl := fun (wx : World) (x : Ext w6 wx) => li_lastE (m := m) (hLi.ext x) hm.symm
    have hq4 : (q = 0 ∧ m = j + fa ∧ m ≠ j) ∨ (q = 0 ∧ m = j + fa ∧ m = j) ∨ (q = 9 ∧ m = j + fa ∧ m ≠ j) ∨ (q = 9 ∧ m = j) := by
      rw [List.length_replicate] at hout
      omega
    have hm9 : m ≤ 1020 := by omega
    have x6 : Ext w6 w6 := Mod.refl _ _
    replace hme := Lib.hid hme
    clear hout hm hco H6 hHas3 hOn3 hl' e2 e3 e1 hl'2
    have hnn : ((m : Int) == (m : Int)) = true := by simp
    have hn2 : ((j : Int) != (j : Int)) = false := by simp
    have hn3 : ((m : Int) + 1 == (m : Int) + 1) = true := by simp
    rcases hq4 with ⟨rfl, h1, h2⟩ | ⟨rfl, h1, h2⟩ | ⟨rfl, h1, h2⟩ | ⟨rfl, h2⟩
    case' inl =>
      have hA : ((m : Int) != (j : Int) + (fa : Int)) = false := by rw [bne_eq_false_iff_eq]; omega
      have hB : ((m : Int) != (j : Int)) = true := by rw [bne_iff_ne]; omega
      clear h1 h2
      go_wp2_with fail
      refine (hcl w6 x6).mono ?_
      rintro e w7 ⟨rfl, k7, hw7⟩
      have x7 : Ext w6 w7 := by rw [hw7]; exact x6.drewN k7
      clear hw7
      go_wp2_with fail
      refine (hcl w7 x7).mono ?_
      rintro e w8 ⟨rfl, k8, hw8⟩
      have x8 : Ext w6 w8 := by rw [hw8]; exact x7.drewN k8
      clear hw8
      go_wp2_with fail
      refine (hcl w8 x8).mono ?_
      rintro e w9 ⟨rfl, k9, hw9⟩
      have x9 : Ext w6 w9 := by rw [hw9]; exact x8.drewN k9
      clear hw9
      go_wp2_with fail
      refine (hcl w9 x9).mono ?_
      rintro e w10 ⟨rfl, k10, hw10⟩
      have x10 : Ext w6 w10 := by rw [hw10]; exact x9.drewN k10
      clear hw10
      have hz : Ext w6 w10 := x10
      obtain ⟨wz, rfl⟩ : ∃ wz, wz = w10 := ⟨_, rfl⟩
    case' inr.inl =>
      have hA : ((m : Int) != (j : Int) + (fa : Int)) = false := by rw [bne_eq_false_iff_eq]; omega
      have hB : ((m : Int) != (j : Int)) = false := by rw [bne_eq_false_iff_eq]; omega
      clear h1 h2
      go_wp2_with fail
      refine (hcl w6 x6).mono ?_
      rintro e w7 ⟨rfl, k7, hw7⟩
      have x7 : Ext w6 w7 := by rw [hw7]; exact x6.drewN k7
      clear hw7
      go_wp2_with fail
      refine (hcl w7 x7).mono ?_
      rintro e w8 ⟨rfl, k8, hw8⟩
      have x8 : Ext w6 w8 := by rw [hw8]; exact x7.drewN k8
      clear hw8
      go_wp2_with fail
      refine (hcl w8 x8).mono ?_
      rintro e w9 ⟨rfl, k9, hw9⟩
      have x9 : Ext w6 w9 := by rw [hw9]; exact x8.drewN k9
      clear hw9
      have hz : Ext w6 w9 := x9
      obtain ⟨wz, rfl⟩ : ∃ wz, wz = w9 := ⟨_, rfl⟩
    case' inr.inr.inl =>
      have hA : ((m : Int) != (j : Int) + (fa : Int)) = false := by rw [bne_eq_false_iff_eq]; omega
      have hB : ((m : Int) != (j : Int)) = true := by rw [bne_iff_ne]; omega
      clear h1 h2
      go_wp2_with fail
      refine (hcl w6 x6).mono ?_
      rintro e w7 ⟨rfl, k7, hw7⟩
      have x7 : Ext w6 w7 := by rw [hw7]; exact x6.drewN k7
      clear hw7
      go_wp2_with fail
      refine (hcl w7 x7).mono ?_
      rintro e w8 ⟨rfl, k8, hw8⟩
      have x8 : Ext w6 w8 := by rw [hw8]; exact x7.drewN k8
      clear hw8
      go_wp2_with fail
      refine (hcl w8 x8).mono ?_
      rintro e w9 ⟨rfl, k9, hw9⟩
      have x9 : Ext w6 w9 := by rw [hw9]; exact x8.drewN k9
      clear hw9
      have hz : Ext w6 w9 := x9
      obtain ⟨wz, rfl⟩ : ∃ wz, wz = w9 := ⟨_, rfl⟩
    case' inr.inr.inr =>
      have hB : ((m : Int) != (j : Int)) = false := by rw [bne_eq_false_iff_eq]; omega
      clear h2
      go_wp2_with fail
      refine (hcl w6 x6).mono ?_
      rintro e w7 ⟨rfl, k7, hw7⟩
      have x7 : Ext w6 w7 := by rw [hw7]; exact x6.drewN k7
      clear hw7
      go_wp2_with fail
      refine (hcl w7 x7).mono ?_
      rintro e w8 ⟨rfl, k8, hw8⟩
      have x8 : Ext w6 w8 := by rw [hw8]; exact x7.drewN k8
      clear hw8
      have hz : Ext w6 w8 := x8
      obtain ⟨wz, rfl⟩ : ∃ wz, wz = w8 := ⟨_, rfl⟩
    all_goals
      have H7 := hLi.ext hz
      have hca := lit_app (m := m + 1) (l' := ⟨[97], ba, dt, es ++ [[122]], false⟩) H7 hN [122] (1, 2) (by show ba + es.length + 1 = m + 1; rw [hme.out]) rfl (by simp) (by omega) (by have := hme.out; show es.length + 1 ≤ _; omega) (by simp) (by simp; omega) (by omega)
      clear hcl hLi H7 hz
      go_wp2_with fail
      refine hca.mono ?_
      rintro e w17 ⟨rfl, H7⟩
      have hon7 : On (layF F3 ⟨[97], ba, dt, es, false⟩ [122]) [97] ba dt (es ++ [[122]]) := by obtain ⟨_, _, _, h, _⟩ := H7; exact h
      have hcc := li_crash H7.hi 0 (by decide)
      clear hca H7
      go_wp2_with fail
      refine hcc.mono ?_
      rintro e w18 ⟨rfl, H8⟩
      have hco := li_open H8 hN hon7 (by simp) (by simp) (by simp; omega) (by have := hme.out; rw [List.length_append]; simp; omega) (by have := hme.out; rw [List.length_append]; simp; omega)
      clear hcc H8
      go_wp2_with fail
      refine hco.mono ?_
      rintro e w19 ⟨g9, rfl, H9⟩
      have hcl9 := li_lastE (m := m + 1) H9 (by have := hme.out; show ba + (es ++ [[122]]).length = m + 1; rw [List.length_append]; simp; omega)
      have hx9 := H9.xt
      clear hco H9 hon7
      go_wp2_with fail
      refine hcl9.mono ?_
      rintro e w20 ⟨rfl, k20, hw20⟩
      have hx20 : Ext w w20 := by rw [hw20]; exact hx9.drewN k20
      have hkk := hk4 w20 hx20
      clear hcl9 hx9 hw20 hk4
      go_wp2_with fail
      refine hkk.mono ?_
      rintro e w21 ⟨rfl, x21⟩
      go_wp2_with fail
      go_ret
      exact ⟨rfl, ext_trans hx20 x21⟩
end Go.Proofs.YtnmfkfjeihjkeaaDoor
