/- block: cells taken from bytes, as the document has it. -/
import Derived.Test.YtlfooppmdgddkaaCelQ
namespace Go.Proofs.Ytlfooppmdgddkaa
open Go.RowKit
set_option maxRecDepth 100000

/-- As decF, but whether a cell may be is asked in the end alone. -/
def rdecF : Nat → List UInt8 → List UInt8 → List Ce → Option (List Ce)
  | 0, _, _, _ => none
  | f + 1, ahead, l, acc => if l = [] then some acc else match takeC ahead (some l) with
    | (c, some l') => rdecF f c.key l' (acc ++ [c])
    | (_, none) => none
theorem rdecF_mem : ∀ (f : Nat) (ahead l : List UInt8) (acc L : List Ce), rdecF f ahead l acc = some L → ∀ c ∈ acc, c ∈ L
  | 0, _, _, _, _, h => by cases h
  | f + 1, ahead, l, acc, L, h => by
    unfold rdecF at h
    by_cases hl : l = []
    · rw [if_pos hl] at h
      cases h
      exact fun c hc => hc
    · rw [if_neg hl] at h
      rcases hx : takeC ahead (some l) with ⟨c0, st⟩
      rw [hx] at h
      cases st with
      | none => cases h
      | some l' =>
        intro c hc
        exact rdecF_mem f c0.key l' (acc ++ [c0]) L h c (List.mem_append.2 (.inl hc))
theorem riseN_bad {L : List Ce} {c : Ce} (hc : c ∈ L) (hn : ¬ isC c) : riseN L ≠ 0 := fun h => hn ((riseN_zero h).1 c hc)
theorem outD_same (b : List UInt8) : ∀ (f : Nat) (ahead l : List UInt8) (acc : List Ce), outD b (rdecF f ahead l acc) = outD b (decF f ahead l acc)
  | 0, _, _, _ => rfl
  | f + 1, ahead, l, acc => by
    unfold rdecF decF
    by_cases hl : l = []
    · rw [if_pos hl, if_pos hl]
    · rw [if_neg hl, if_neg hl]
      rcases hx : takeC ahead (some l) with ⟨c0, st⟩
      cases st with
      | none => rfl
      | some l' =>
        simp only
        by_cases hc : isC c0
        · rw [if_pos hc]
          exact outD_same b f c0.key l' (acc ++ [c0])
        · rw [if_neg hc]
          cases hr : rdecF f c0.key l' (acc ++ [c0]) with
          | none => rfl
          | some L =>
            have hm := rdecF_mem f c0.key l' (acc ++ [c0]) L hr c0 (List.mem_append.2 (.inr (List.mem_singleton.2 rfl)))
            show (if riseN L = 0 ∧ encB L = b then (L, 0) else ([], 3)) = ([], 3)
            rw [if_neg (fun h => riseN_bad hm hc h.1)]
theorem rdecB (b : List UInt8) : outD b (rdecF (b.length + 1) [] b []) = decB b := outD_same b _ _ _ _
theorem rdecF_step {f : Nat} {ahead l l' : List UInt8} {acc : List Ce} {c : Ce} (hl : l ≠ []) (h : takeC ahead (some l) = (c, some l')) : rdecF (f + 1) ahead l acc = rdecF f c.key l' (acc ++ [c]) := by
  show (if l = [] then some acc else match takeC ahead (some l) with
    | (c, some l') => rdecF f c.key l' (acc ++ [c])
    | (_, none) => none) = _
  rw [if_neg hl, h]
theorem rdecF_none {f : Nat} {ahead l : List UInt8} {acc : List Ce} {c : Ce} (hl : l ≠ []) (h : takeC ahead (some l) = (c, none)) : rdecF (f + 1) ahead l acc = none := by
  show (if l = [] then some acc else match takeC ahead (some l) with
    | (c, some l') => rdecF f c.key l' (acc ++ [c])
    | (_, none) => none) = _
  rw [if_neg hl, h]
theorem takeC_far {a : List UInt8} {st : Option (List UInt8)} (h : a.length < (takeN st).1) : takeC a st = (⟨[], [], false, 0⟩, none) := by
  unfold takeC
  rw [if_pos h]
/-- The parts, read one by one. -/
theorem takeC_parts {a : List UInt8} {s0 s1 s2 s3 s4 : Option (List UInt8)} {n q d : Nat} {r : List UInt8} (e1 : takeN s0 = (n, s1)) (e2 : takeB s1 = (r, s2)) (e3 : takeN s2 = (q, s3)) (e4 : takeN s3 = (d, s4)) :
    takeC a s0 = if a.length < n then (⟨[], [], false, 0⟩, none) else if d = 1 then (⟨a.take n ++ r, [], true, (q : Nat)⟩, s4) else if 1 < d then (⟨a.take n ++ r, [], false, (q : Nat)⟩, none) else (⟨a.take n ++ r, (takeB s4).1, false, (q : Nat)⟩, (takeB s4).2) := by
  unfold takeC
  rw [e1]
  simp only
  rw [e2]
  simp only
  rw [e3]
  simp only
  rw [e4]
end Go.Proofs.Ytlfooppmdgddkaa
