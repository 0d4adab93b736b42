/- match: Norm; pieces. -/
import Derived.Test.YtacmbomnjedbeaaMtD
import Derived.Test.YtacmbomnjedbeaaDnPU
namespace Go.Proofs.Ytacmbomnjedbeaa
open Go.RowKit
set_option maxRecDepth 100000

theorem name_wN {L : List Av} (h : isName L) : wN L ≤ 2000 := by
  obtain ⟨h1, h2⟩ := h
  have key : ∀ M : List Av, (∀ a ∈ M, okA a) → wN M ≤ M.length * 97 := by
    intro M
    induction M with
    | nil => intro _; simp [wN]
    | cons a M ih =>
      intro hM
      have h3 := hM a (by simp)
      have h4 := ih fun b hb => hM b (by simp [hb])
      have h5 := h3.1.2.1
      have h6 := h3.2.2
      rw [wN_cons, List.length_cons, Nat.succ_mul]
      omega
  have := key L h2
  omega
section
variable {w : World}
set_option maxHeartbeats 4000000 in
theorem mnorm_any (k : Int) (s : List UInt8) (hs : s.length ≤ 140737488351232) :
    Calls Try.prog 42 #[.int .i64 k, sv s] w fun e w' => e = .returned (.tuple #[sv (normM k s).1, .bool (normM k s).2]) ∧ Ext w w' := by
  have hsz := sv_size s
  by_cases hl : 256 < s.length
  · have hb : decide ((256 : Int) < (s.length : Int)) = true := dtrue (by omega)
    have hR : normM k s = ([], false) := by unfold normM; rw [if_pos hl]
    rw [hR]
    clear hR
    go_enter Try.func42, Try.ntmps42
    go_wp2_with fail
    go_ret2
    exact ⟨rfl, Mod.refl _ _⟩
  have hb : decide ((256 : Int) < (s.length : Int)) = false := dfalse (by omega)
  rw [normM_short (by omega)]
  by_cases h1 : k = 1
  · rw [if_pos h1]
    subst h1
    have hc := text_any (w := w) s hs
    generalize textB s = R at *
    go_enter Try.func42, Try.ntmps42
    go_wp2_with fail
    refine hc.mono ?_
    rintro e w1 ⟨rfl, x1⟩
    clear hc
    go_wp2_with fail
    go_ret2
    exact ⟨rfl, x1⟩
  have b1 : (k == 1) = false := by simpa using h1
  rw [if_neg h1]
  by_cases h2 : k = 2
  · rw [if_pos h2]
    subst h2
    have hc := number_any (w := w) s hs
    generalize numB s = R at *
    go_enter Try.func42, Try.ntmps42
    go_wp2_with fail
    refine hc.mono ?_
    rintro e w1 ⟨rfl, rfl⟩
    clear hc
    go_wp2_with fail
    go_ret2
    exact ⟨rfl, Mod.refl _ _⟩
  have b2 : (k == 2) = false := by simpa using h2
  rw [if_neg h2]
  by_cases h3 : k = 3
  · rw [if_pos h3]
    subst h3
    have hc := parse_any (w := w) s (by omega)
    have hn := parse_name (s := s)
    unfold nameB
    generalize parseB s = q at *
    obtain ⟨L, n⟩ := q
    by_cases h0 : n = 0
    · subst h0
      have hi := hn rfl
      have hw := name_wN hi
      have hw2 := norm_wN L
      rw [if_pos rfl]
      clear hn hi
      simp only at hc
      go_enter Try.func42, Try.ntmps42
      go_wp2_with fail
      refine hc.mono ?_
      rintro e w1 ⟨v1, rfl, o1, f1, x1⟩
      clear hc
      have hc2 := norm_any o1.rc (fits_of (by omega))
      go_wp2_with fail
      refine hc2.mono ?_
      rintro e w2 ⟨v2, rfl, o2, f2, x2⟩
      clear hc2
      have hc3 := printW_any o2.rc (by omega)
      go_wp2_with fail
      refine hc3.mono ?_
      rintro e w3 ⟨rfl, x3⟩
      clear hc3
      go_wp2_with fail
      go_ret2
      exact ⟨rfl, ext_trans x1 (ext_trans x2 x3)⟩
    · rw [if_neg h0]
      have b0 : ((n : Int) != 0) = true := by rw [bne_iff_ne]; omega
      clear hn
      simp only at hc
      go_enter Try.func42, Try.ntmps42
      go_wp2_with fail
      refine hc.mono ?_
      rintro e w1 ⟨v1, rfl, o1, f1, x1⟩
      clear hc
      go_wp2_with fail
      go_ret2
      exact ⟨rfl, x1⟩
  have b3 : (k == 3) = false := by simpa using h3
  rw [if_neg h3]
  by_cases h4 : k = 4
  · rw [if_pos h4]
    subst h4
    go_enter Try.func42, Try.ntmps42
    go_wp2_with fail
    go_ret2
    exact ⟨rfl, Mod.refl _ _⟩
  have b4 : (k == 4) = false := by simpa using h4
  rw [if_neg h4]
  by_cases h5 : k = 5
  · rw [if_pos h5]
    subst h5
    have hc := phone_any (w := w) s hs
    generalize bareB s = R at *
    have he := sv_empty R
    by_cases hR : R = []
    · subst hR
      go_enter Try.func42, Try.ntmps42
      go_wp2_with fail
      refine hc.mono ?_
      rintro e w1 ⟨rfl, x1⟩
      clear hc
      go_wp2_with fail
      go_ret2
      exact ⟨rfl, x1⟩
    · have bR : R.isEmpty = false := by cases R <;> simp at hR ⊢
      rw [decide_eq_false hR]
      clear hR
      go_enter Try.func42, Try.ntmps42
      go_wp2_with fail
      refine hc.mono ?_
      rintro e w1 ⟨rfl, x1⟩
      clear hc
      go_wp2_with fail
      go_ret2
      exact ⟨rfl, x1⟩
  have b5 : (k == 5) = false := by simpa using h5
  rw [if_neg h5]
  go_enter Try.func42, Try.ntmps42
  go_wp2_with fail
  go_ret2
  exact ⟨rfl, Mod.refl _ _⟩
theorem cat_l (a : UInt8) (b : List UInt8) : ((⟨#[a]⟩ : ByteArray) ++ ⟨b.toArray⟩) = ⟨([a] ++ b).toArray⟩ := cat_data [a] b
theorem cat_r (a : List UInt8) (b : UInt8) : ((⟨a.toArray⟩ : ByteArray) ++ ⟨#[b]⟩) = ⟨(a ++ [b]).toArray⟩ := cat_data a [b]
end
end Go.Proofs.Ytacmbomnjedbeaa
