/- match: the law Numbers. -/
import Derived.Test.YtgghjkefbfbopaaDoorMtM
namespace Go.Proofs.YtgghjkefbfbopaaDoor
open Go.RowKit
set_option maxRecDepth 100000

section
variable {w : World}
set_option maxHeartbeats 4000000 in
theorem dec_any (n : Nat) (hn : n ≤ 1125899906842624) :
    Calls Tryd.prog 11 #[.int .i64 (n : Int)] w fun e w' => e = .returned (sv (decS n)) ∧ Ext w w' := by
  obtain ⟨D, hD⟩ : ∃ D, D = decS n := ⟨_, rfl⟩
  rw [← hD]
  have hDl : D.length ≤ 18 := by
    rw [hD]
    refine decS_len 17 n ?_
    have : (10 : Nat) ^ 18 = 1000000000000000000 := by decide
    omega
  replace hD := Lib.hid hD
  go_enter Tryd.func11, Tryd.ntmps11
  go_wp2_with fail
  go_loopw [0, 3] (fun v s wr => ∃ (m : Nat) (x : List UInt8), m ≤ n ∧ v = .int .i64 (m : Int) ∧ s = sv x ∧ Hid (D = decS m ++ x) ∧ Ext w wr) (fun v _ _ => (intOf v).toNat)
  case atStart => exact ⟨n, [], Nat.le_refl _, rfl, rfl, Lib.hid (by rw [hD.out]; simp), Mod.refl _ _⟩
  case round =>
    obtain ⟨m, x, hm, rfl, rfl, hx, hxr⟩ := hrel
    have hxl : x.length ≤ 18 := by have := congrArg List.length hx.out; rw [List.length_append] at this; omega
    obtain ⟨c, hc⟩ : ∃ c : UInt8, c = UInt8.ofNat (48 + m % 10) := ⟨_, rfl⟩
    have hct : (48 : Int) + (m : Int) % 10 = (c.toNat : Int) := by rw [hc, dig_of (by omega)]; omega
    have hcv : Sem.run Tryd.prog (convert 46 9 (.slice (some ⟨wr.heap.size, 0, none⟩) 1 1)) (wr.alloc (.cells #[.int .u8 ((48 : Int) + (m : Int) % 10)] 5)) = .ok (sv [c]) (wr.alloc (.cells #[.int .u8 ((48 : Int) + (m : Int) % 10)] 5)) := by
      rw [hct]
      exact run_conv (P := Tryd.prog) (src := 46) (dst := 9) (e := 5) Tryd.underlying46 Tryd.underlying5 Tryd.underlying9 (Bs.lit wr 5 [c] (by simp [maxLen]))
    have hct2 := cat_l c x
    have hxa : Ext w (wr.alloc (.cells #[.int .u8 ((48 : Int) + (m : Int) % 10)] 5)) := hxr.alloc _
    have hsm : m < 10 → D = [c] ++ x := fun h => by
      rw [hx.out, decS_small h, hc]
      have : m % 10 = m := Nat.mod_eq_of_lt h
      rw [this]
    have hbg : ¬ m < 10 → D = decS (m / 10) ++ ([c] ++ x) := fun h => by rw [hx.out, decS_step h, hc, List.append_assoc]
    replace hsm := Lib.hid hsm
    replace hbg := Lib.hid hbg
    clear hx hct hc
    by_cases hlt : m < 10
    · have hb : ((m : Int) / 10 == 0) = true := by rw [beq_iff_eq]; omega
      have hD2 := hsm.out hlt
      subst hD2
      clear hsm hbg hD hDl
      go_wp2_with fail
      go_ret
      exact ⟨rfl, hxa⟩
    · have hb : ((m : Int) / 10 == 0) = false := by rw [beq_eq_false_iff_ne]; omega
      have hD2 := Lib.hid (hbg.out hlt)
      clear hsm hbg
      go_wp2_with fail
      exact ⟨⟨m / 10, [c] ++ x, by omega, by go_num, rfl, hD2, hxa⟩, by simp [intOf] <;> omega⟩
set_option maxHeartbeats 8000000 in
theorem numbers_any (a b : Int) (hm : Mxl w) :
    Calls Tryd.prog 4 #[.int .i64 a, .int .i64 b] w fun e w' => e = .returned (.bool true) ∧ Ext w w' := by
  have hk0 := known15_any (w := w) hm
  by_cases hbad : a < 0 ∨ 1125899906842624 < a ∨ b < 0 ∨ 1125899906842624 < b
  · have hcase : (decide (a < 0) = true) ∨ (decide (a < 0) = false ∧ decide (1125899906842624 < a) = true) ∨ (decide (a < 0) = false ∧ decide (1125899906842624 < a) = false ∧ decide (b < 0) = true) ∨
        (decide (a < 0) = false ∧ decide (1125899906842624 < a) = false ∧ decide (b < 0) = false ∧ decide (1125899906842624 < b) = true) := by
      simp only [decide_eq_true_eq, decide_eq_false_iff_not]
      omega
    clear hbad
    rcases hcase with b1 | ⟨b1, b2⟩ | ⟨b1, b2, b3⟩ | ⟨b1, b2, b3, b4⟩
    all_goals
      go_enter Tryd.func4, Tryd.ntmps4
      go_wp2_with fail
      refine hk0.mono ?_
      rintro e w1 ⟨rfl, x1⟩
      go_wp2_with fail
      go_ret
      exact ⟨rfl, x1⟩
  have b1 : decide (a < 0) = false := dfalse (by omega)
  have b2 : decide (1125899906842624 < a) = false := dfalse (by omega)
  have b3 : decide (b < 0) = false := dfalse (by omega)
  have b4 : decide (1125899906842624 < b) = false := dfalse (by omega)
  obtain ⟨n, hn⟩ : ∃ n : Nat, a = (n : Int) := ⟨a.toNat, by omega⟩
  obtain ⟨m, hmm⟩ : ∃ m : Nat, b = (m : Int) := ⟨b.toNat, by omega⟩
  subst hn
  subst hmm
  clear hk0
  have hn18 : n < 10 ^ 18 := by have : (10 : Nat) ^ 18 = 1000000000000000000 := by decide
                                omega
  have hm18 : m < 10 ^ 18 := by have : (10 : Nat) ^ 18 = 1000000000000000000 := by decide
                                omega
  have hl1 := decS_len 17 n (by simpa using hn18)
  have hl2 := decS_len 17 m (by simpa using hm18)
  have d1 := fun wx : World => dec_any (w := wx) n (by omega)
  have d2 := fun wx : World => dec_any (w := wx) m (by omega)
  have l1 := fun wx : World => less_any (w := wx) 2 (decS n) (decS m) (by omega) (by omega)
  rw [lessM_num (isNum_dec hn18) (isNum_dec hm18), numV_dec, numV_dec] at l1
  have l4 := fun wx : World => mequal_any (w := wx) 2 (decS n) (decS m) (by omega) (by omega)
  rw [equalM_num (isNum_dec hn18) (isNum_dec hm18), numV_dec, numV_dec] at l4
  have hkn := fun (wx : World) (q : Ext w wx) => known15_any (w := wx) (hm.ext q)
  have c1 := cat_l 45 (decS n)
  have c2 := cat_l 45 (decS m)
  have l2 := fun (wx : World) (h1 : 0 < n) (h2 : 0 < m) => less_any (w := wx) 2 (45 :: decS n) (45 :: decS m) (by simp; omega) (by simp; omega)
  have l3 := fun (wx : World) (h1 : 0 < n) => less_any (w := wx) 2 (45 :: decS n) (decS m) (by simp; omega) (by omega)
  have e2 : ∀ (h1 : 0 < n) (h2 : 0 < m), lessM 2 (45 :: decS n) (45 :: decS m) = (decide ((m : Int) < (n : Int)), true) := fun h1 h2 => by
    rw [lessM_num (isNum_neg hn18 h1) (isNum_neg hm18 h2), numV_neg, numV_neg]
    congr 1
    exact decide_eq_decide.2 (by omega)
  have e3 : ∀ (h1 : 0 < n), lessM 2 (45 :: decS n) (decS m) = (true, true) := fun h1 => by
    rw [lessM_num (isNum_neg hn18 h1) (isNum_dec hm18), numV_neg, numV_dec]
    congr 1
    exact decide_eq_true (by omega)
  clear hm hn18 hm18
  rw [List.singleton_append] at c1 c2
  generalize 45 :: decS n = nx at *
  generalize 45 :: decS m = ny at *
  generalize decS n = x at *
  generalize decS m = y at *
  simp only at l1
  have hxz := sv_size x
  have hyz := sv_size y
  have hlx : x.length ≤ 18 := by omega
  have hly : y.length ≤ 18 := by omega
  have hgo : ∀ (p : Bool) (q : Bool) (r : Bool), decide ((n : Int) < (m : Int)) = p → decide ((m : Int) < (n : Int)) = q → decide ((n : Int) = (m : Int)) = r → ((n : Int) == (m : Int)) = r → decide (n < m) = p → decide (m < n) = q → (n == m) = r → decide (n = m) = r → Calls Tryd.prog 4 #[.int .i64 (n : Int), .int .i64 (m : Int)] w fun e w' => e = .returned (.bool true) ∧ Ext w w' := by
    intro p q r hp hq hr hr2 hp2 hq2 hr3 hr4
    rw [hp] at l1
    rw [hr] at l4
    rw [hq] at e2
    have hg : (decide ((0 : Int) < (n : Int)) = false) ∨ (decide ((0 : Int) < (n : Int)) = true ∧ decide ((0 : Int) < (m : Int)) = false) ∨ (decide ((0 : Int) < (n : Int)) = true ∧ decide ((0 : Int) < (m : Int)) = true) := by
      simp only [decide_eq_true_eq, decide_eq_false_iff_not]
      omega
    have hnp : decide ((0 : Int) < (n : Int)) = decide (0 < n) := decide_eq_decide.2 (by omega)
    have hmp : decide ((0 : Int) < (m : Int)) = decide (0 < m) := decide_eq_decide.2 (by omega)
    have bp : (p == p) = true := beq_self_eq_true p
    have br : (r == r) = true := beq_self_eq_true r
    have bq : (q != q) = false := by cases q <;> rfl
    rcases hg with g1 | ⟨g1, g2⟩ | ⟨g1, g2⟩
    · have g1' := hnp.symm.trans g1
      clear l2 l3 e2 e3 hp hq hr hnp hmp hbad
      go_enter Tryd.func4, Tryd.ntmps4
      go_wp2_with fail
      refine (d1 _).mono ?_
      rintro e w1 ⟨rfl, x1⟩
      clear d1
      go_wp2_with fail
      refine (d2 _).mono ?_
      rintro e w2 ⟨rfl, x2⟩
      clear d2
      go_wp2_with fail
      refine (l1 _).mono ?_
      rintro e w3 ⟨rfl, x3⟩
      have y3 := ext_trans x1 (ext_trans x2 x3)
      clear l1
      go_wp2_with fail
      refine (l4 _).mono ?_
      rintro e w6 ⟨rfl, x6⟩
      have y6 := ext_trans y3 x6
      have hk := hkn _ y6
      cases p <;> cases r
      all_goals
        go_wp2_with fail
        refine hk.mono ?_
        rintro e w7 ⟨rfl, x7⟩
        go_wp2_with fail
        go_ret
        exact ⟨rfl, ext_trans y6 x7⟩
    · have g1' := hnp.symm.trans g1
      have g2' := hmp.symm.trans g2
      clear l2 l3 e2 e3 hp hq hr hnp hmp hbad
      go_enter Tryd.func4, Tryd.ntmps4
      go_wp2_with fail
      refine (d1 _).mono ?_
      rintro e w1 ⟨rfl, x1⟩
      clear d1
      go_wp2_with fail
      refine (d2 _).mono ?_
      rintro e w2 ⟨rfl, x2⟩
      clear d2
      go_wp2_with fail
      refine (l1 _).mono ?_
      rintro e w3 ⟨rfl, x3⟩
      have y3 := ext_trans x1 (ext_trans x2 x3)
      clear l1
      go_wp2_with fail
      refine (l4 _).mono ?_
      rintro e w6 ⟨rfl, x6⟩
      have y6 := ext_trans y3 x6
      have hk := hkn _ y6
      cases p <;> cases r
      all_goals
        go_wp2_with fail
        refine hk.mono ?_
        rintro e w7 ⟨rfl, x7⟩
        go_wp2_with fail
        go_ret
        exact ⟨rfl, ext_trans y6 x7⟩
    · have g1' := hnp.symm.trans g1
      have g2' := hmp.symm.trans g2
      have l2' := fun wx : World => l2 wx (of_decide_eq_true g1') (of_decide_eq_true g2')
      have l3' := fun wx : World => l3 wx (of_decide_eq_true g1')
      rw [e2 (of_decide_eq_true g1') (of_decide_eq_true g2')] at l2'
      rw [e3 (of_decide_eq_true g1')] at l3'
      clear l2 l3 e2 e3 hp hq hr hnp hmp hbad
      go_enter Tryd.func4, Tryd.ntmps4
      go_wp2_with fail
      refine (d1 _).mono ?_
      rintro e w1 ⟨rfl, x1⟩
      clear d1
      go_wp2_with fail
      refine (d2 _).mono ?_
      rintro e w2 ⟨rfl, x2⟩
      clear d2
      go_wp2_with fail
      refine (l1 _).mono ?_
      rintro e w3 ⟨rfl, x3⟩
      have y3 := ext_trans x1 (ext_trans x2 x3)
      clear l1
      go_wp2_with fail
      refine (l2' _).mono ?_
      rintro e w4 ⟨rfl, x4⟩
      clear l2'
      go_wp2_with fail
      refine (l3' _).mono ?_
      rintro e w5 ⟨rfl, x5⟩
      have y5 := ext_trans y3 (ext_trans x4 x5)
      clear l3'
      cases q
      all_goals
        go_wp2_with fail
        refine (l4 _).mono ?_
        rintro e w6 ⟨rfl, x6⟩
        have y6 := ext_trans y5 x6
        have hk := hkn _ y6
        cases p <;> cases r
        all_goals
          go_wp2_with fail
          refine hk.mono ?_
          rintro e w7 ⟨rfl, x7⟩
          go_wp2_with fail
          go_ret
          exact ⟨rfl, ext_trans y6 x7⟩
  exact hgo _ _ _ rfl rfl rfl (by rw [Bool.eq_iff_iff, beq_iff_eq, decide_eq_true_iff]) (decide_eq_decide.2 (by omega)) (decide_eq_decide.2 (by omega)) (by rw [Bool.eq_iff_iff, beq_iff_eq, decide_eq_true_iff]; omega) (decide_eq_decide.2 (by omega))
end
end Go.Proofs.YtgghjkefbfbopaaDoor
