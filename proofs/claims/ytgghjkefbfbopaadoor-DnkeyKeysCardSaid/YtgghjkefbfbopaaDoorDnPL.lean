/- dn: what is folded twice; the law Folds. -/
import Derived.Test.YtgghjkefbfbopaaDoorDnPK
namespace Go.Proofs.YtgghjkefbfbopaaDoor
open Go.RowKit
set_option maxRecDepth 100000

theorem fstep_no {o : List UInt8} {b : UInt8} (h : low b = 32 ∧ (o = [] ∨ o.getLast? = some 32)) : fstep o b = o := if_pos h
theorem fstep_yes {o : List UInt8} {b : UInt8} (h : ¬ (low b = 32 ∧ (o = [] ∨ o.getLast? = some 32))) : fstep o b = o ++ [low b] := if_neg h
theorem low_low (b : UInt8) : low (low b) = low b := by
  by_cases h : 65 ≤ b.toNat ∧ b.toNat ≤ 90
  · exact low_no (by rw [low_up h]; omega)
  · rw [low_no h, low_no h]
theorem fold_fixed (s : List UInt8) : ∀ o : List UInt8, o.foldl fstep [] = o → (s.foldl fstep o).foldl fstep [] = s.foldl fstep o := by
  induction s with
  | nil => intro o h; exact h
  | cons b s ih =>
    intro o h
    rw [List.foldl_cons]
    apply ih
    by_cases hc : low b = 32 ∧ (o = [] ∨ o.getLast? = some 32)
    · rw [fstep_no hc]; exact h
    · rw [fstep_yes hc, List.foldl_append, h, List.foldl_cons, List.foldl_nil, fstep_yes (by rw [low_low]; exact hc), low_low]
theorem fixed_last {p : List UInt8} {c : UInt8} (h : (p ++ [c]).foldl fstep [] = p ++ [c]) : p.foldl fstep [] = p ∧ ¬ (low c = 32 ∧ (p = [] ∨ p.getLast? = some 32)) := by
  rw [List.foldl_append, List.foldl_cons, List.foldl_nil] at h
  have hl := ffold_len p []
  rw [List.length_nil, Nat.zero_add] at hl
  by_cases hc : low c = 32 ∧ (p.foldl fstep [] = [] ∨ (p.foldl fstep []).getLast? = some 32)
  · rw [fstep_no hc] at h
    have := congrArg List.length h
    rw [List.length_append, List.length_singleton] at this
    omega
  · rw [fstep_yes hc] at h
    have h1 := (List.append_inj' h rfl).1
    exact ⟨h1, by rw [h1] at hc; exact hc⟩
theorem fixed_cut {o : List UInt8} (h : o.foldl fstep [] = o) : (fcut o).foldl fstep [] = fcut o ∧ fcut (fcut o) = fcut o := by
  by_cases hl : o.getLast? = some 32
  · obtain ⟨p, rfl⟩ : ∃ p, o = p ++ [32] := by
      have hne : o ≠ [] := by rintro rfl; simp at hl
      refine ⟨o.dropLast, ?_⟩
      rw [List.getLast?_eq_some_getLast hne] at hl
      have := List.dropLast_concat_getLast hne
      rw [Option.some.inj hl] at this
      exact this.symm
    obtain ⟨h1, h2⟩ := fixed_last h
    have hf : fcut (p ++ [32]) = p := by unfold fcut; rw [if_pos hl, List.dropLast_concat]
    rw [hf]
    refine ⟨h1, ?_⟩
    unfold fcut
    rw [if_neg (fun hp => h2 ⟨rfl, .inr hp⟩)]
  · have hf : fcut o = o := by unfold fcut; rw [if_neg hl]
    rw [hf]
    exact ⟨h, hf⟩
theorem fold_twice (s : List UInt8) : foldB (foldB s) = foldB s := by
  unfold foldB
  obtain ⟨h1, h2⟩ := fixed_cut (fold_fixed s [] rfl)
  rw [h1, h2]
theorem fold_gap (s : List UInt8) : foldB ([32, 32] ++ s ++ [32]) = foldB s := by
  unfold foldB
  rw [List.foldl_append, List.foldl_append]
  have h0 : [32, 32].foldl fstep [] = [] := by decide
  rw [h0]
  obtain ⟨o, ho⟩ : ∃ o, o = s.foldl fstep [] := ⟨_, rfl⟩
  rw [← ho, List.foldl_cons, List.foldl_nil]
  by_cases hc : o = [] ∨ o.getLast? = some 32
  · unfold fstep
    rw [if_pos ⟨by decide, hc⟩]
  · have h1 : fstep o 32 = o ++ [32] := by
      unfold fstep
      rw [if_neg (fun h => hc h.2)]
      rfl
    rw [h1]
    unfold fcut
    rw [if_pos List.getLast?_concat, if_neg (fun h => hc (.inr h)), List.dropLast_concat]
theorem normV_twice (s : List UInt8) : normV (normV s) = normV s := by
  by_cases h : foldB s = [] ∧ s ≠ []
  · have : normV s = [32] := by unfold normV; rw [if_pos h]
    rw [this]
    decide
  · have : normV s = foldB s := by unfold normV; rw [if_neg h]
    rw [this]
    unfold normV
    rw [fold_twice]
    by_cases h2 : foldB s = []
    · rw [h2]; rfl
    · rw [if_neg (fun hh => h2 hh.1)]
theorem norm_twice (L : List Av) : norm (norm L) = norm L := by
  unfold norm
  rw [List.map_map]
  congr 1
  funext a
  show normA (normA a) = normA a
  unfold normA
  rw [fold_twice, normV_twice]

theorem cat_data (a b : List UInt8) : ((⟨a.toArray⟩ : ByteArray) ++ ⟨b.toArray⟩) = ⟨(a ++ b).toArray⟩ := by
  apply ByteArray.ext
  rw [ByteArray.data_append]
  simp
theorem gap_data (s : List UInt8) : (⟨#[32, 32]⟩ : ByteArray) ++ ⟨s.toArray⟩ ++ ⟨#[32]⟩ = ⟨([32, 32] ++ s ++ [32]).toArray⟩ := by
  rw [← cat_data, ← cat_data]
theorem bb_of (F : List UInt8) : (F == F) = true := beq_self_eq_true F

end Go.Proofs.YtgghjkefbfbopaaDoor
