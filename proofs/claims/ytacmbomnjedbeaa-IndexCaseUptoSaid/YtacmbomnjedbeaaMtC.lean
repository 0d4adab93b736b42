/- match: values as they are compared. -/
import Derived.Test.YtacmbomnjedbeaaMtB
import Derived.Test.YtacmbomnjedbeaaDnPO
namespace Go.Proofs.Ytacmbomnjedbeaa
open Go.RowKit
set_option maxRecDepth 100000

def bareB (s : List UInt8) : List UInt8 := s.filter fun b => !decide (b = 32) && !decide (b = 45)
def textB (s : List UInt8) : List UInt8 × Bool := if s = [] then ([], false) else (normV s, true)
def numB (s : List UInt8) : List UInt8 × Bool := if isNum s = true then (s, true) else ([], false)
def nameB (s : List UInt8) : List UInt8 × Bool := if (parseB s).2 = 0 then (printB (norm (parseB s).1), true) else ([], false)
/-- A value as it is compared, by its syntax. -/
def normM (k : Int) (s : List UInt8) : List UInt8 × Bool :=
  if 256 < s.length then ([], false) else if k = 1 then textB s else if k = 2 then numB s else if k = 3 then nameB s else if k = 4 then (s, true) else if k = 5 then (bareB s, !decide (bareB s = [])) else ([], false)
def equalM (k : Int) (a b : List UInt8) : Bool := (normM k a).2 && ((normM k b).2 && ((normM k a).1 == (normM k b).1))
def lessM (k : Int) (a b : List UInt8) : Bool × Bool :=
  if (normM k a).2 = false ∨ (normM k b).2 = false ∨ k = 3 then (false, false)
  else if k = 2 then (decide (numV (normM k a).1 < numV (normM k b).1), true) else (Op.bytesLess (normM k a).1 (normM k b).1, true)
/-- A piece as it is looked for. -/
def squB (s : List UInt8) : List UInt8 :=
  if s = [] then [] else if foldB s = [] then [32] else (if s.getD 0 0 = 32 then [32] else []) ++ foldB s ++ (if s.getD (s.length - 1) 0 = 32 then [32] else [])
def pieceM (k : Int) (s : List UInt8) : List UInt8 := if k = 1 then squB s else if k = 5 then bareB s else s
def hasM (k : Int) (s : List UInt8) (L : List (List UInt8)) : Bool := hasP s (pieceM k (L.getD 0 [])) (((L.drop 1).take (L.length - 2)).map (pieceM k)) (pieceM k (L.getD (L.length - 1) []))
def subM (k : Int) (s : List UInt8) (L : List (List UInt8)) : Bool × Bool :=
  if (normM k s).2 = false ∨ L.length < 2 ∨ 16 < L.length ∨ (k ≠ 1 ∧ k ≠ 5 ∧ k ≠ 4) then (false, false) else (hasM k (normM k s).1 L, true)
theorem bare_twice (s : List UInt8) : bareB (bareB s) = bareB s := by
  unfold bareB
  rw [List.filter_filter]
  simp
theorem bare_len (s : List UInt8) : (bareB s).length ≤ s.length := List.length_filter_le _ _
theorem normV_ne {s : List UInt8} (h : s ≠ []) : normV s ≠ [] := by
  unfold normV
  by_cases h2 : foldB s = []
  · rw [if_pos ⟨h2, h⟩]; simp
  · rw [if_neg (fun h => h2 h.1)]; exact h2
theorem low_ne {b : UInt8} (h : b ≠ 32) : low b ≠ 32 := by
  intro e
  by_cases hb : 65 ≤ b.toNat ∧ b.toNat ≤ 90
  · have := low_up hb
    rw [e] at this
    simp at this
    omega
  · rw [low_no hb] at e
    exact h e
theorem fold_plain : ∀ (s o : List UInt8), (∀ b ∈ s, b ≠ 32) → s.foldl fstep o = o ++ s.map low
  | [], o, _ => by simp
  | b :: s, o, h => by
    rw [List.foldl_cons, fstep_yes (fun hh => low_ne (h b (by simp)) hh.1), fold_plain s _ (fun c hc => h c (by simp [hc]))]
    simp
theorem fold_bare {s : List UInt8} (h : ∀ b ∈ s, b ≠ 32) : foldB s = s.map low := by
  unfold foldB
  rw [fold_plain s [] h, List.nil_append]
  unfold fcut
  rw [if_neg]
  intro hl
  have hm := List.mem_of_getLast? hl
  obtain ⟨b, hb, he⟩ := List.mem_map.1 hm
  exact low_ne (h b hb) he
theorem typN_low {b : UInt8} (h : typN b.toNat) : typN (low b).toNat := by
  by_cases hb : 65 ≤ b.toNat ∧ b.toNat ≤ 90
  · have h1 := low_up hb
    left; left
    omega
  · rw [low_no hb]; exact h
theorem letN_low {b : UInt8} (h : letN b.toNat) : letN (low b).toNat := by
  by_cases hb : 65 ≤ b.toNat ∧ b.toNat ≤ 90
  · have h1 := low_up hb
    left
    omega
  · rw [low_no hb]; exact h
theorem typ_fold {t : List UInt8} (h : isTyp t) : isTyp (foldB t) := by
  obtain ⟨h1, h2, h3, h4⟩ := h
  have hne : ∀ b ∈ t, b ≠ 32 := fun b hb e => by
    have := h4 b hb
    rw [e] at this
    rcases this with (h | h) | h | h <;> simp at h
  rw [fold_bare hne]
  refine ⟨by simpa using h1, by simpa using h2, ?_, fun b hb => ?_⟩
  · cases t with
    | nil => simp at h1
    | cons c d => exact letN_low h3
  · obtain ⟨c, hc, rfl⟩ := List.mem_map.1 hb
    exact typN_low (h4 c hc)
theorem name_norm {L : List Av} (h : isName L) : isName (norm L) := by
  obtain ⟨h1, h2⟩ := h
  refine ⟨by unfold norm; simpa using h1, fun a ha => ?_⟩
  unfold norm at ha
  obtain ⟨b, hb, rfl⟩ := List.mem_map.1 ha
  obtain ⟨h3, h4, h5⟩ := h2 b hb
  refine ⟨typ_fold h3, ?_, Nat.le_trans (normV_len b.2) h5⟩
  have := normV_ne (s := b.2) (fun e => by rw [e] at h4; simp at h4)
  exact Nat.pos_of_ne_zero fun e => this (List.eq_nil_of_length_eq_zero e)
theorem parse_name {s : List UInt8} (h : (parseB s).2 = 0) : isName (parseB s).1 := by
  unfold parseB at h ⊢
  split
  · exact ⟨by simp, fun a ha => by simp at ha⟩
  · rename_i hs
    rw [if_neg hs] at h
    cases hp : parseF (s.length + 1) s [] with
    | none => rw [hp] at h; simp [outP] at h
    | some L =>
      rw [hp] at h
      unfold outP at h ⊢
      simp only at h ⊢
      by_cases hn : isName L
      · rw [if_pos hn]; exact hn
      · rw [if_neg hn] at h; simp at h
theorem normM_short {k : Int} {s : List UInt8} (h : s.length ≤ 256) : normM k s = if k = 1 then textB s else if k = 2 then numB s else if k = 3 then nameB s else if k = 4 then (s, true) else if k = 5 then (bareB s, !decide (bareB s = [])) else ([], false) := by
  unfold normM
  rw [if_neg (by omega)]
theorem normM_len {k : Int} {s : List UInt8} (h : (normM k s).2 = true) : s.length ≤ 256 := by
  unfold normM at h
  by_cases hs : 256 < s.length
  · rw [if_pos hs] at h; cases h
  · omega
theorem normM_num {s : List UInt8} (h : (normM 2 s).2 = true) : normM 2 s = (s, true) ∧ isNum s = true := by
  have hl := normM_len h
  rw [normM_short hl] at h ⊢
  simp only [show ¬ (2 : Int) = 1 by decide, if_false, if_true] at h ⊢
  unfold numB at h ⊢
  by_cases hn : isNum s = true
  · rw [if_pos hn]; exact ⟨rfl, hn⟩
  · rw [if_neg hn] at h; cases h
/-- What is compared twice over is what is compared once. -/
theorem normM_twice {k : Int} {s : List UInt8} (h : (normM k s).2 = true) (hl : (normM k s).1.length ≤ 256) : normM k (normM k s).1 = ((normM k s).1, true) := by
  have hs := normM_len h
  rw [normM_short hl]
  rw [normM_short hs] at h hl ⊢
  by_cases h1 : k = 1
  · simp only [if_pos h1] at h hl ⊢
    unfold textB at h ⊢
    by_cases he : s = []
    · rw [if_pos he] at h; cases h
    · simp only [if_neg he, if_neg (normV_ne he), normV_twice]
  simp only [if_neg h1] at h hl ⊢
  by_cases h2 : k = 2
  · simp only [if_pos h2] at h hl ⊢
    unfold numB at h ⊢
    by_cases he : isNum s = true
    · simp only [if_pos he]
    · rw [if_neg he] at h; cases h
  simp only [if_neg h2] at h hl ⊢
  by_cases h3 : k = 3
  · simp only [if_pos h3] at h hl ⊢
    unfold nameB at h ⊢
    by_cases he : (parseB s).2 = 0
    · simp only [if_pos he, parse_back (name_norm (parse_name he)), norm_twice, if_true]
    · rw [if_neg he] at h; cases h
  simp only [if_neg h3] at h hl ⊢
  by_cases h4 : k = 4
  · simp only [if_pos h4]
  simp only [if_neg h4] at h hl ⊢
  by_cases h5 : k = 5
  · simp only [if_pos h5] at h hl ⊢
    rw [bare_twice, h]
  simp only [if_neg h5] at h
  cases h
end Go.Proofs.Ytacmbomnjedbeaa
