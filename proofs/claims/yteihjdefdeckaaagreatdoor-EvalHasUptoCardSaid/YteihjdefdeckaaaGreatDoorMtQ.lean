/- match: what is below what, in the document's own words; the law Two. -/
import Derived.Test.YteihjdefdeckaaaGreatDoorMtJ
import Derived.Test.YteihjdefdeckaaaGreatDoorMtM
namespace Go.Proofs.YteihjdefdeckaaaGreatDoor
open Go.Shelf Go.RowKit
set_option maxRecDepth 100000
theorem byte_is (c : UInt8) : ((c.toNat : Int) == 45) = decide (c = 45) := by
  by_cases h : c = 45
  · subst h; rfl
  · rw [decide_eq_false h]
    have : c.toNat ≠ 45 := fun e => h (UInt8.toNat_inj.mp e)
    simpa using by omega
theorem drewN_ext (w : World) (n : Nat) : Ext w (w.drewN n) := (Mod.refl _ w).drewN n
section
variable {w : World}
set_option maxHeartbeats 4000000 in
theorem below_any (a b : List UInt8) (h1 : 0 < a.length) (h2 : 0 < b.length) (ha : a.length ≤ 256) (hb : b.length ≤ 256) : Calls Tryz.prog 72 #[sv a, sv b] w fun e w' => e = .returned (.bool (belowB a b)) ∧ Ext w w' := by
  have hsa := sv_size a
  have hsb := sv_size b
  obtain ⟨R, hR⟩ : ∃ R, R = belowB a b := ⟨_, rfl⟩
  rw [← hR]
  obtain ⟨c, hc⟩ : ∃ c, c = a[0] := ⟨_, rfl⟩
  obtain ⟨d, hd⟩ : ∃ d, d = b[0] := ⟨_, rfl⟩
  have hga : ∀ h', (⟨a.toArray⟩ : ByteArray)[0]'h' = c := fun h' => (sv_get a 0 h1 h').trans hc.symm
  have hgb : ∀ h', (⟨b.toArray⟩ : ByteArray)[0]'h' = d := fun h' => (sv_get b 0 h2 h').trans hd.symm
  have na : negN a = decide (c = 45) := by
    cases a with
    | nil => simp at h1
    | cons u v => simp only [List.getElem_cons_zero] at hc; rw [hc]; rfl
  have nb : negN b = decide (d = 45) := by
    cases b with
    | nil => simp at h2
    | cons u v => simp only [List.getElem_cons_zero] at hd; rw [hd]; rfl
  clear hc hd
  obtain ⟨x, hx⟩ : ∃ x, x = decide (c = 45) := ⟨_, rfl⟩
  obtain ⟨y, hy⟩ : ∃ y, y = decide (d = 45) := ⟨_, rfl⟩
  have bx : ((c.toNat : Int) == 45) = x := by rw [hx]; exact byte_is c
  have yx : ((d.toNat : Int) == 45) = y := by rw [hy]; exact byte_is d
  unfold belowB at hR
  rw [na, nb, ← hx, ← hy] at hR
  clear na nb hx hy
  by_cases hne : x = y
  · subst hne
    rw [if_neg (by simp)] at hR
    have bne : (x != x) = false := by simp
    by_cases hl : a.length = b.length
    · rw [if_neg (by simp [hl])] at hR
      have bl : ((a.length : Int) != (b.length : Int)) = false := by simp [hl]
      clear hl
      by_cases he : a = b
      · subst he
        simp only [BEq.rfl, Bool.not_true, Bool.false_and] at hR
        subst hR
        cases x
        all_goals
          go_enter Tryz.func72, Tryz.ntmps72
          go_wp2_with fail
          go_quiet (fail)
          go_wp2_with fail
          go_ret
          exact ⟨rfl, drewN_ext _ _⟩
      · have he2 : (a == b) = false := by simpa using he
        rw [he2] at hR
        obtain ⟨q, hq⟩ : ∃ q, q = Op.bytesLess a b := ⟨_, rfl⟩
        simp only [Bool.not_false, Bool.true_and] at hR
        rw [← hq] at hR
        have hq2 := hq.symm
        replace hR := Lib.hid hR
        clear hq
        cases x <;> cases q
        all_goals
          go_enter Tryz.func72, Tryz.ntmps72
          go_wp2_with fail
          go_quiet (fail)
          go_wp2_with fail
          go_ret
          rw [hR.out]
          exact ⟨rfl, drewN_ext _ _⟩
    · rw [if_pos (by simp [hl])] at hR
      have bl : ((a.length : Int) != (b.length : Int)) = true := by simpa using (by omega)
      obtain ⟨q, hq⟩ : ∃ q, q = decide (a.length < b.length) := ⟨_, rfl⟩
      have bq : decide (a.length < b.length) = q := hq.symm
      rw [← hq] at hR
      replace hR := Lib.hid hR
      clear hq hl
      cases x <;> cases q
      all_goals
        go_enter Tryz.func72, Tryz.ntmps72
        go_wp2_with fail
        go_quiet (fail)
        go_wp2_with fail
        go_ret
        rw [hR.out]
        exact ⟨rfl, drewN_ext _ _⟩
  · rw [if_pos hne] at hR
    have bne : (x != y) = true := by simpa using hne
    replace hR := Lib.hid hR
    cases x <;> cases y <;> simp at hne
    all_goals
      go_enter Tryz.func72, Tryz.ntmps72
      go_wp2_with fail
      go_quiet (fail)
      go_wp2_with fail
      go_ret
      rw [hR.out]
      exact ⟨rfl, drewN_ext _ _⟩
set_option maxHeartbeats 4000000 in
theorem rless_any (k : Int) (a b : List UInt8) (ha : a.length ≤ 140737488351232) (hb : b.length ≤ 140737488351232) :
    Calls Tryz.prog 48 #[.int .i64 k, sv a, sv b] w fun e w' => e = .returned (.tuple #[.bool (lessM k a b).1, .bool (lessM k a b).2]) ∧ Ext w w' := by
  have hc := rmnorm_any (w := w) k a ha
  have hc2 := fun w1 : World => rmnorm_any (w := w1) k b hb
  by_cases hn : (normM k a).2 = false ∨ (normM k b).2 = false ∨ k = 3
  · rw [less_no hn]
    have hcase : ((normM k a).2 = false) ∨ ((normM k a).2 = true ∧ (normM k b).2 = false) ∨ ((normM k a).2 = true ∧ (normM k b).2 = true ∧ (k == 3) = true) := by
      cases e1 : (normM k a).2 with
      | false => exact .inl rfl
      | true =>
        cases e2 : (normM k b).2 with
        | false => exact .inr (.inl ⟨rfl, rfl⟩)
        | true =>
          rw [e1, e2] at hn
          exact .inr (.inr ⟨rfl, rfl, by rcases hn with h | h | h; (cases h); (cases h); (simpa using h)⟩)
    clear hn
    generalize normM k a = p at *
    generalize normM k b = q at *
    obtain ⟨x, ok⟩ := p
    obtain ⟨y, is⟩ := q
    simp only at hc hc2 hcase
    rcases hcase with rfl | ⟨rfl, rfl⟩ | ⟨rfl, rfl, k3⟩
    · cases is
      all_goals
        go_enter Tryz.func48, Tryz.ntmps48
        go_wp2_with fail
        refine hc.mono ?_
        rintro e w1 ⟨rfl, x1⟩
        clear hc
        go_wp2_with fail
        refine (hc2 w1).mono ?_
        rintro e w2 ⟨rfl, x2⟩
        clear hc2
        go_wp2_with fail
        go_ret2
        exact ⟨rfl, ext_trans x1 x2⟩
    all_goals
      go_enter Tryz.func48, Tryz.ntmps48
      go_wp2_with fail
      refine hc.mono ?_
      rintro e w1 ⟨rfl, x1⟩
      clear hc
      go_wp2_with fail
      refine (hc2 w1).mono ?_
      rintro e w2 ⟨rfl, x2⟩
      clear hc2
      go_wp2_with fail
      go_ret2
      exact ⟨rfl, ext_trans x1 x2⟩
  rw [less_yes hn]
  have h1 : (normM k a).2 = true := by cases e : (normM k a).2 with | true => rfl | false => exact absurd (.inl e) hn
  have h2 : (normM k b).2 = true := by cases e : (normM k b).2 with | true => rfl | false => exact absurd (.inr (.inl e)) hn
  have k3 : (k == 3) = false := by simpa using fun e => hn (.inr (.inr e))
  by_cases hk : k = 2
  · subst hk
    obtain ⟨e1, n1⟩ := normM_num h1
    obtain ⟨e2, n2⟩ := normM_num h2
    have g1 := normM_len h1
    have g2 := normM_len h2
    rw [e1] at hc
    rw [e2] at hc2
    rw [e1, e2, if_pos rfl]
    have p1 : 0 < a.length := by have u := neg_len n1; have v := (isNum_out n1).1; omega
    have p2 : 0 < b.length := by have u := neg_len n2; have v := (isNum_out n2).1; omega
    have hd := fun wx : World => below_any (w := wx) a b p1 p2 g1 g2
    rw [below_num n1 n2] at hd
    clear h1 h2 hn e1 e2 n1 n2 g1 g2 p1 p2
    generalize decide (numV a < numV b) = u at *
    simp only at hc hc2
    go_enter Tryz.func48, Tryz.ntmps48
    go_wp2_with fail
    refine hc.mono ?_
    rintro e w1 ⟨rfl, x1⟩
    clear hc
    go_wp2_with fail
    refine (hc2 w1).mono ?_
    rintro e w2 ⟨rfl, x2⟩
    clear hc2
    go_wp2_with fail
    refine (hd w2).mono ?_
    rintro e w3 ⟨rfl, x3⟩
    clear hd
    go_wp2_with fail
    go_ret2
    exact ⟨rfl, ext_trans x1 (ext_trans x2 x3)⟩
  · rw [if_neg hk]
    have k2 : (k == 2) = false := by simpa using hk
    clear hn
    generalize normM k a = p at *
    generalize normM k b = q at *
    obtain ⟨x, ok⟩ := p
    obtain ⟨y, is⟩ := q
    simp only at hc hc2 h1 h2
    subst h1
    subst h2
    go_enter Tryz.func48, Tryz.ntmps48
    go_wp2_with fail
    refine hc.mono ?_
    rintro e w1 ⟨rfl, x1⟩
    clear hc
    go_wp2_with fail
    refine (hc2 w1).mono ?_
    rintro e w2 ⟨rfl, x2⟩
    clear hc2
    go_wp2_with fail
    go_ret2
    exact ⟨rfl, ext_trans x1 x2⟩
set_option maxHeartbeats 4000000 in
theorem requal_any (k : Int) (a b : List UInt8) (ha : a.length ≤ 140737488351232) (hb : b.length ≤ 140737488351232) :
    Calls Tryz.prog 47 #[.int .i64 k, sv a, sv b] w fun e w' => e = .returned (.bool (equalM k a b)) ∧ Ext w w' := by
  have hc := rmnorm_any (w := w) k a ha
  have hc2 := fun w1 : World => rmnorm_any (w := w1) k b hb
  obtain ⟨R, hR⟩ : ∃ R, R = equalM k a b := ⟨_, rfl⟩
  rw [← hR]
  unfold equalM at hR
  generalize normM k a = p at *
  generalize normM k b = q at *
  obtain ⟨x, ok⟩ := p
  obtain ⟨y, is⟩ := q
  simp only at hc hc2 hR
  replace hR := Lib.hid hR
  go_enter Tryz.func47, Tryz.ntmps47
  go_wp2_with fail
  refine hc.mono ?_
  rintro e w1 ⟨rfl, x1⟩
  clear hc
  go_wp2_with fail
  refine (hc2 w1).mono ?_
  rintro e w2 ⟨rfl, x2⟩
  clear hc2
  cases ok <;> cases is
  all_goals
    go_wp2_with fail
    go_ret
    rw [hR.out]
    exact ⟨rfl, ext_trans x1 x2⟩
end
end Go.Proofs.YteihjdefdeckaaaGreatDoor
