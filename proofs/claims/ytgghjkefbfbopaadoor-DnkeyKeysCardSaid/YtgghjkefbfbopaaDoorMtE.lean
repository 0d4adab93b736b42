/- match: Norm; pieces. -/
import Derived.Test.YtgghjkefbfbopaaDoorMtD
import Derived.Test.YtgghjkefbfbopaaDoorDnPU
namespace Go.Proofs.YtgghjkefbfbopaaDoor
open Go.RowKit
set_option maxRecDepth 100000

theorem name_wN {L : List Av} (h : isName L) : wN L ≤ 2000 := by
  obtain ⟨h1, h2⟩ := h
  have key : ∀ M : List Av, (∀ a ∈ M, okA a) → wN M ≤ M.length * 97 := by
    intro M
    induction M with
    | nil => intro _; simp [wN]
    | cons a M ih =>
      intro hM
      have h3 := hM a (by simp)
      have h4 := ih fun b hb => hM b (by simp [hb])
      have h5 := h3.1.2.1
      have h6 := h3.2.2
      rw [wN_cons, List.length_cons, Nat.succ_mul]
      omega
  have := key L h2
  omega
section
variable {w : World}
set_option maxHeartbeats 4000000 in
theorem mnorm_any (k : Int) (s : List UInt8) (hs : s.length ≤ 140737488351232) :
    Calls Tryd.prog 27 #[.int .i64 k, sv s] w fun e w' => e = .returned (.tuple #[sv (normM k s).1, .bool (normM k s).2]) ∧ Ext w w' := by
  have hsz := sv_size s
  by_cases hl : 256 < s.length
  · have hb : decide ((256 : Int) < (s.length : Int)) = true := dtrue (by omega)
    have hR : normM k s = ([], false) := by unfold normM; rw [if_pos hl]
    rw [hR]
    clear hR
    go_enter Tryd.func27, Tryd.ntmps27
    go_wp2_with fail
    go_ret2
    exact ⟨rfl, Mod.refl _ _⟩
  have hb : decide ((256 : Int) < (s.length : Int)) = false := dfalse (by omega)
  rw [normM_short (by omega)]
  by_cases h1 : k = 1
  · rw [if_pos h1]
    subst h1
    have hc := text_any (w := w) s hs
    generalize textB s = R at *
    go_enter Tryd.func27, Tryd.ntmps27
    go_wp2_with fail
    refine hc.mono ?_
    rintro e w1 ⟨rfl, x1⟩
    clear hc
    go_wp2_with fail
    go_ret2
    exact ⟨rfl, x1⟩
  have b1 : (k == 1) = false := by simpa using h1
  rw [if_neg h1]
  by_cases h2 : k = 2
  · rw [if_pos h2]
    subst h2
    have hc := number_any (w := w) s hs
    generalize numB s = R at *
    go_enter Tryd.func27, Tryd.ntmps27
    go_wp2_with fail
    refine hc.mono ?_
    rintro e w1 ⟨rfl, rfl⟩
    clear hc
    go_wp2_with fail
    go_ret2
    exact ⟨rfl, Mod.refl _ _⟩
  have b2 : (k == 2) = false := by simpa using h2
  rw [if_neg h2]
  by_cases h3 : k = 3
  · rw [if_pos h3]
    subst h3
    have hc := parse_any (w := w) s (by omega)
    have hn := parse_name (s := s)
    unfold nameB
    generalize parseB s = q at *
    obtain ⟨L, n⟩ := q
    by_cases h0 : n = 0
    · subst h0
      have hi := hn rfl
      have hw := name_wN hi
      have hw2 := norm_wN L
      rw [if_pos rfl]
      clear hn hi
      simp only at hc
      go_enter Tryd.func27, Tryd.ntmps27
      go_wp2_with fail
      refine hc.mono ?_
      rintro e w1 ⟨v1, rfl, o1, f1, x1⟩
      clear hc
      have hc2 := norm_any o1.rc (fits_of (by omega))
      go_wp2_with fail
      refine hc2.mono ?_
      rintro e w2 ⟨v2, rfl, o2, f2, x2⟩
      clear hc2
      have hc3 := printW_any o2.rc (by omega)
      go_wp2_with fail
      refine hc3.mono ?_
      rintro e w3 ⟨rfl, x3⟩
      clear hc3
      go_wp2_with fail
      go_ret2
      exact ⟨rfl, ext_trans x1 (ext_trans x2 x3)⟩
    · rw [if_neg h0]
      have b0 : ((n : Int) != 0) = true := by rw [bne_iff_ne]; omega
      clear hn
      simp only at hc
      go_enter Tryd.func27, Tryd.ntmps27
      go_wp2_with fail
      refine hc.mono ?_
      rintro e w1 ⟨v1, rfl, o1, f1, x1⟩
      clear hc
      go_wp2_with fail
      go_ret2
      exact ⟨rfl, x1⟩
  have b3 : (k == 3) = false := by simpa using h3
  rw [if_neg h3]
  by_cases h4 : k = 4
  · rw [if_pos h4]
    subst h4
    go_enter Tryd.func27, Tryd.ntmps27
    go_wp2_with fail
    go_ret2
    exact ⟨rfl, Mod.refl _ _⟩
  have b4 : (k == 4) = false := by simpa using h4
  rw [if_neg h4]
  by_cases h5 : k = 5
  · rw [if_pos h5]
    subst h5
    have hc := phone_any (w := w) s hs
    generalize bareB s = R at *
    have he := sv_empty R
    by_cases hR : R = []
    · subst hR
      go_enter Tryd.func27, Tryd.ntmps27
      go_wp2_with fail
      refine hc.mono ?_
      rintro e w1 ⟨rfl, x1⟩
      clear hc
      go_wp2_with fail
      go_ret2
      exact ⟨rfl, x1⟩
    · have bR : R.isEmpty = false := by cases R <;> simp at hR ⊢
      rw [decide_eq_false hR]
      clear hR
      go_enter Tryd.func27, Tryd.ntmps27
      go_wp2_with fail
      refine hc.mono ?_
      rintro e w1 ⟨rfl, x1⟩
      clear hc
      go_wp2_with fail
      go_ret2
      exact ⟨rfl, x1⟩
  have b5 : (k == 5) = false := by simpa using h5
  rw [if_neg h5]
  go_enter Tryd.func27, Tryd.ntmps27
  go_wp2_with fail
  go_ret2
  exact ⟨rfl, Mod.refl _ _⟩
theorem cat_l (a : UInt8) (b : List UInt8) : ((⟨#[a]⟩ : ByteArray) ++ ⟨b.toArray⟩) = ⟨([a] ++ b).toArray⟩ := cat_data [a] b
theorem cat_r (a : List UInt8) (b : UInt8) : ((⟨a.toArray⟩ : ByteArray) ++ ⟨#[b]⟩) = ⟨(a ++ [b]).toArray⟩ := cat_data a [b]
set_option maxHeartbeats 4000000 in
theorem squeeze_any (s : List UInt8) (hs : s.length ≤ 1000000) :
    Calls Tryd.prog 66 #[sv s] w fun e w' => e = .returned (sv (squB s)) ∧ Ext w w' := by
  have hsz := sv_size s
  have hc := fold_any (w := w) s (by omega)
  have hfl := foldB_len s
  have he := sv_empty s
  by_cases h0 : s = []
  · subst h0
    have hR : squB [] = [] := rfl
    rw [hR]
    go_enter Tryd.func66, Tryd.ntmps66
    go_wp2_with fail
    refine hc.mono ?_
    rintro e w1 ⟨rfl, x1⟩
    clear hc
    go_wp2_with fail
    go_ret
    exact ⟨rfl, x1⟩
  have hb : s.isEmpty = false := by cases s <;> simp at h0 ⊢
  have hpos : 0 < s.length := List.length_pos_iff.2 h0
  by_cases hF0 : foldB s = []
  · have hR : squB s = [32] := by unfold squB; rw [if_neg h0, if_pos hF0]
    rw [hR]
    rw [hF0] at hc
    clear hR hF0 hfl h0
    go_enter Tryd.func66, Tryd.ntmps66
    go_wp2_with fail
    refine hc.mono ?_
    rintro e w1 ⟨rfl, x1⟩
    clear hc
    go_wp2_with fail
    go_ret
    exact ⟨rfl, x1⟩
  obtain ⟨R, hR⟩ : ∃ R, R = squB s := ⟨_, rfl⟩
  rw [← hR]
  unfold squB at hR
  rw [if_neg h0, if_neg hF0] at hR
  have hbF : (foldB s).isEmpty = false := by cases h : foldB s <;> simp [h] at hF0 ⊢
  have heF := sv_empty (foldB s)
  have hlt : s.length - 1 < s.length := by omega
  rw [getD_at s hpos, getD_at s hlt] at hR
  obtain ⟨a, ha⟩ : ∃ a, a = s[0] := ⟨_, rfl⟩
  obtain ⟨z, hz⟩ : ∃ z, z = s[s.length - 1] := ⟨_, rfl⟩
  have g0 : ∀ h', (⟨s.toArray⟩ : ByteArray)[0]'h' = a := fun h' => (sv_get s 0 hpos h').trans ha.symm
  have g1 : ∀ h', (⟨s.toArray⟩ : ByteArray)[s.length - 1]'h' = z := fun h' => (sv_get s _ hlt h').trans hz.symm
  rw [← ha, ← hz] at hR
  generalize foldB s = F at *
  obtain ⟨m, hm⟩ : ∃ m, m = s.length - 1 := ⟨_, rfl⟩
  rw [← hm] at g1 hlt
  have hm2 : (s.length : Int) - 1 = (m : Int) := by omega
  have hm1 : (m : Int) < (s.length : Int) := by omega
  clear ha hz h0 hF0 hm
  replace hR := Lib.hid hR
  by_cases h32 : a = 32 <;> by_cases z32 : z = 32
  all_goals
    have ba : ((a.toNat : Int) == 32) = decide (a = 32) := by
      rw [Bool.eq_iff_iff, beq_iff_eq, decide_eq_true_iff]
      exact ⟨fun e => UInt8.toNat_inj.1 (by simpa using Int.ofNat_inj.1 e), fun e => by rw [e]; rfl⟩
    have bz : ((z.toNat : Int) == 32) = decide (z = 32) := by
      rw [Bool.eq_iff_iff, beq_iff_eq, decide_eq_true_iff]
      exact ⟨fun e => UInt8.toNat_inj.1 (by simpa using Int.ofNat_inj.1 e), fun e => by rw [e]; rfl⟩
    simp only [h32, z32, decide_true, decide_false] at ba bz
    have hR2 := hR.out
    simp only [h32, z32, if_true, if_false, List.nil_append, List.append_nil] at hR2
    have cl := cat_l 32 F
    have cr := cat_r F 32
    have cr2 := cat_r ([32] ++ F) 32
    replace hR2 := Lib.hid hR2
    clear hR
  all_goals
    go_enter Tryd.func66, Tryd.ntmps66
    go_wp2_with fail
    refine hc.mono ?_
    rintro e w1 ⟨rfl, x1⟩
    clear hc
    go_wp2_with fail
    go_ret
    rw [hR2.out]
    exact ⟨rfl, x1⟩
set_option maxHeartbeats 4000000 in
theorem piece_any (k : Int) (s : List UInt8) (hs : s.length ≤ 1000000) :
    Calls Tryd.prog 48 #[.int .i64 k, sv s] w fun e w' => e = .returned (sv (pieceM k s)) ∧ Ext w w' := by
  unfold pieceM
  by_cases h1 : k = 1
  · rw [if_pos h1]
    subst h1
    have hc := squeeze_any (w := w) s hs
    generalize squB s = R at *
    go_enter Tryd.func48, Tryd.ntmps48
    go_wp2_with fail
    refine hc.mono ?_
    rintro e w1 ⟨rfl, x1⟩
    clear hc
    go_wp2_with fail
    go_ret
    exact ⟨rfl, x1⟩
  have b1 : (k == 1) = false := by simpa using h1
  rw [if_neg h1]
  by_cases h5 : k = 5
  · rw [if_pos h5]
    subst h5
    have hc := phone_any (w := w) s (by omega)
    generalize bareB s = R at *
    go_enter Tryd.func48, Tryd.ntmps48
    go_wp2_with fail
    refine hc.mono ?_
    rintro e w1 ⟨rfl, x1⟩
    clear hc
    go_wp2_with fail
    go_ret
    exact ⟨rfl, x1⟩
  have b5 : (k == 5) = false := by simpa using h5
  rw [if_neg h5]
  go_enter Tryd.func48, Tryd.ntmps48
  go_wp2_with fail
  go_ret
  exact ⟨rfl, Mod.refl _ _⟩
set_option maxHeartbeats 4000000 in
theorem mequal_any (k : Int) (a b : List UInt8) (ha : a.length ≤ 140737488351232) (hb : b.length ≤ 140737488351232) :
    Calls Tryd.prog 10 #[.int .i64 k, sv a, sv b] w fun e w' => e = .returned (.bool (equalM k a b)) ∧ Ext w w' := by
  have hc := mnorm_any (w := w) k a ha
  have hc2 := fun w1 : World => mnorm_any (w := w1) k b hb
  obtain ⟨R, hR⟩ : ∃ R, R = equalM k a b := ⟨_, rfl⟩
  rw [← hR]
  unfold equalM at hR
  generalize normM k a = p at *
  generalize normM k b = q at *
  obtain ⟨x, ok⟩ := p
  obtain ⟨y, is⟩ := q
  simp only at hc hc2 hR
  replace hR := Lib.hid hR
  go_enter Tryd.func10, Tryd.ntmps10
  go_wp2_with fail
  refine hc.mono ?_
  rintro e w1 ⟨rfl, x1⟩
  clear hc
  go_wp2_with fail
  refine (hc2 w1).mono ?_
  rintro e w2 ⟨rfl, x2⟩
  clear hc2
  cases ok <;> cases is
  all_goals
    go_wp2_with fail
    go_ret
    rw [hR.out]
    exact ⟨rfl, ext_trans x1 x2⟩
end
end Go.Proofs.YtgghjkefbfbopaaDoor
