/- dn: what is folded twice; the law Folds. -/
import Derived.Test.YtbdkdbfcbakgmaaDnPK
namespace Go.Proofs.Ytbdkdbfcbakgmaa
open Go.RowKit
set_option maxRecDepth 100000

theorem fstep_no {o : List UInt8} {b : UInt8} (h : low b = 32 ∧ (o = [] ∨ o.getLast? = some 32)) : fstep o b = o := if_pos h
theorem fstep_yes {o : List UInt8} {b : UInt8} (h : ¬ (low b = 32 ∧ (o = [] ∨ o.getLast? = some 32))) : fstep o b = o ++ [low b] := if_neg h
theorem low_low (b : UInt8) : low (low b) = low b := by
  by_cases h : 65 ≤ b.toNat ∧ b.toNat ≤ 90
  · exact low_no (by rw [low_up h]; omega)
  · rw [low_no h, low_no h]
theorem fold_fixed (s : List UInt8) : ∀ o : List UInt8, o.foldl fstep [] = o → (s.foldl fstep o).foldl fstep [] = s.foldl fstep o := by
  induction s with
  | nil => intro o h; exact h
  | cons b s ih =>
    intro o h
    rw [List.foldl_cons]
    apply ih
    by_cases hc : low b = 32 ∧ (o = [] ∨ o.getLast? = some 32)
    · rw [fstep_no hc]; exact h
    · rw [fstep_yes hc, List.foldl_append, h, List.foldl_cons, List.foldl_nil, fstep_yes (by rw [low_low]; exact hc), low_low]
theorem fixed_last {p : List UInt8} {c : UInt8} (h : (p ++ [c]).foldl fstep [] = p ++ [c]) : p.foldl fstep [] = p ∧ ¬ (low c = 32 ∧ (p = [] ∨ p.getLast? = some 32)) := by
  rw [List.foldl_append, List.foldl_cons, List.foldl_nil] at h
  have hl := ffold_len p []
  rw [List.length_nil, Nat.zero_add] at hl
  by_cases hc : low c = 32 ∧ (p.foldl fstep [] = [] ∨ (p.foldl fstep []).getLast? = some 32)
  · rw [fstep_no hc] at h
    have := congrArg List.length h
    rw [List.length_append, List.length_singleton] at this
    omega
  · rw [fstep_yes hc] at h
    have h1 := (List.append_inj' h rfl).1
    exact ⟨h1, by rw [h1] at hc; exact hc⟩
theorem fixed_cut {o : List UInt8} (h : o.foldl fstep [] = o) : (fcut o).foldl fstep [] = fcut o ∧ fcut (fcut o) = fcut o := by
  by_cases hl : o.getLast? = some 32
  · obtain ⟨p, rfl⟩ : ∃ p, o = p ++ [32] := by
      have hne : o ≠ [] := by rintro rfl; simp at hl
      refine ⟨o.dropLast, ?_⟩
      rw [List.getLast?_eq_some_getLast hne] at hl
      have := List.dropLast_concat_getLast hne
      rw [Option.some.inj hl] at this
      exact this.symm
    obtain ⟨h1, h2⟩ := fixed_last h
    have hf : fcut (p ++ [32]) = p := by unfold fcut; rw [if_pos hl, List.dropLast_concat]
    rw [hf]
    refine ⟨h1, ?_⟩
    unfold fcut
    rw [if_neg (fun hp => h2 ⟨rfl, .inr hp⟩)]
  · have hf : fcut o = o := by unfold fcut; rw [if_neg hl]
    rw [hf]
    exact ⟨h, hf⟩
theorem fold_twice (s : List UInt8) : foldB (foldB s) = foldB s := by
  unfold foldB
  obtain ⟨h1, h2⟩ := fixed_cut (fold_fixed s [] rfl)
  rw [h1, h2]
theorem fold_gap (s : List UInt8) : foldB ([32, 32] ++ s ++ [32]) = foldB s := by
  unfold foldB
  rw [List.foldl_append, List.foldl_append]
  have h0 : [32, 32].foldl fstep [] = [] := by decide
  rw [h0]
  obtain ⟨o, ho⟩ : ∃ o, o = s.foldl fstep [] := ⟨_, rfl⟩
  rw [← ho, List.foldl_cons, List.foldl_nil]
  by_cases hc : o = [] ∨ o.getLast? = some 32
  · unfold fstep
    rw [if_pos ⟨by decide, hc⟩]
  · have h1 : fstep o 32 = o ++ [32] := by
      unfold fstep
      rw [if_neg (fun h => hc h.2)]
      rfl
    rw [h1]
    unfold fcut
    rw [if_pos List.getLast?_concat, if_neg (fun h => hc (.inr h)), List.dropLast_concat]
theorem normV_twice (s : List UInt8) : normV (normV s) = normV s := by
  by_cases h : foldB s = [] ∧ s ≠ []
  · have : normV s = [32] := by unfold normV; rw [if_pos h]
    rw [this]
    decide
  · have : normV s = foldB s := by unfold normV; rw [if_neg h]
    rw [this]
    unfold normV
    rw [fold_twice]
    by_cases h2 : foldB s = []
    · rw [h2]; rfl
    · rw [if_neg (fun hh => h2 hh.1)]
theorem norm_twice (L : List Av) : norm (norm L) = norm L := by
  unfold norm
  rw [List.map_map]
  congr 1
  funext a
  show normA (normA a) = normA a
  unfold normA
  rw [fold_twice, normV_twice]

theorem cat_data (a b : List UInt8) : ((⟨a.toArray⟩ : ByteArray) ++ ⟨b.toArray⟩) = ⟨(a ++ b).toArray⟩ := by
  apply ByteArray.ext
  rw [ByteArray.data_append]
  simp
theorem gap_data (s : List UInt8) : (⟨#[32, 32]⟩ : ByteArray) ++ ⟨s.toArray⟩ ++ ⟨#[32]⟩ = ⟨([32, 32] ++ s ++ [32]).toArray⟩ := by
  rw [← cat_data, ← cat_data]
theorem bb_of (F : List UInt8) : (F == F) = true := beq_self_eq_true F

set_option maxHeartbeats 8000000 in
theorem dnFolds_walk {w : World} {s : List UInt8} {v : Value} {L : List Av} (hs : s.length ≤ 140737488351232) (h1 : As w (fun _ => True) v L) (f1 : Fits L) :
    Calls Try.prog 7 #[sv s, v] w fun e w' => e = .returned (.bool true) ∧ Ext w w' := by
  have hsz := sv_size s
  by_cases hb : 600 < s.length
  · have hb1 : decide ((600 : Int) < (s.length : Int)) = true := dtrue (by omega)
    go_enter Try.func7, Try.ntmps7
    go_wp2_with fail
    go_ret
    exact ⟨rfl, Mod.refl _ _⟩
  have hb1 : decide ((600 : Int) < (s.length : Int)) = false := dfalse (by omega)
  go_enter Try.func7, Try.ntmps7
  go_wp2_with fail
  refine (heavy13_any h1 f1).mono ?_
  rintro e w1 ⟨q, rfl, g0, x1⟩
  cases q
  case true =>
    go_wp2_with fail
    go_ret
    exact ⟨rfl, x1⟩
  replace g0 := Lib.hid (g0 rfl)
  go_wp2_with fail
  refine (fold_any s hs).mono ?_
  rintro e w2 ⟨rfl, x2⟩
  replace x2 := ext_trans x1 x2
  clear x1
  obtain ⟨F, hF⟩ : ∃ F, F = foldB s := ⟨_, rfl⟩
  have hFl : F.length ≤ 140737488351232 := by have := foldB_len s; rw [hF]; omega
  have hFF : foldB F = F := by rw [hF, fold_twice]
  have hFg : foldB ([32, 32] ++ s ++ [32]) = F := by rw [hF, fold_gap]
  rw [← hF]
  replace hF := Lib.hid hF
  replace hFF := Lib.hid hFF
  replace hFg := Lib.hid hFg
  have ff := bb_of F
  go_wp2_with fail
  refine (norm_any (h1.ext x2) f1).mono ?_
  rintro e w3 ⟨v3, rfl, p3, q3, x3⟩
  replace x3 := ext_trans x2 x3
  clear x2
  obtain ⟨M, hM⟩ : ∃ M, M = norm L := ⟨_, rfl⟩
  have fM : Fits M := fits_of (by have := norm_wN L; have := g0.out; rw [hM]; omega)
  have hMM : norm M = M := by rw [hM, norm_twice]
  have hsm : sameN L M := by unfold sameN; rw [hMM, hM]
  rw [← hM] at p3
  replace hM := Lib.hid hM
  replace hMM := Lib.hid hMM
  have rF := fun wx => fold_any (w := wx) F hFl
  rw [hFF.out] at rF
  go_wp2_with fail
  refine (rF _).mono ?_
  rintro e w4 ⟨rfl, x4⟩
  have p4 := p3.ext x4
  replace x4 := ext_trans x3 x4
  clear x3 p3
  go_wp2_with fail
  rw [gap_data s]
  refine (fold_any _ (by simp only [List.length_append, List.length_cons, List.length_nil]; omega)).mono ?_
  rintro e w5 ⟨rfl, x5⟩
  rw [hFg.out]
  have p5 := p4.ext x5
  replace x5 := ext_trans x4 x5
  clear x4 p4 rF
  go_wp2_with fail
  refine (norm_any p5.rc fM).mono ?_
  rintro e w6 ⟨v6, rfl, r6, _, x6⟩
  rw [hMM.out] at r6
  have p6 := p5.ext x6
  replace x6 := ext_trans x5 x6
  clear x5 p5
  go_wp2_with fail
  refine (names13_any r6.rc p6.rc fM.2).mono ?_
  rintro e w7 ⟨rfl, x7⟩
  rw [dtrue rfl]
  have p7 := p6.ext x7
  replace x7 := ext_trans x6 x7
  clear x6 p6 r6
  go_wp2_with fail
  refine (same_any (h1.ext x7) p7.rc f1 fM).mono ?_
  rintro e w8 ⟨rfl, x8⟩
  rw [dtrue hsm]
  replace x8 := ext_trans x7 x8
  go_wp2_with fail
  refine known13_any.mono ?_
  rintro e wk ⟨rfl, xk⟩
  go_wp2_with fail
  go_ret
  exact ⟨rfl, ext_trans x8 xk⟩
end Go.Proofs.Ytbdkdbfcbakgmaa
