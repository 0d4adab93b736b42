/- dn: the document's reader: typ. -/
import Derived.Test.YtgghjkefbfbopaaDoorDnQA
namespace Go.Proofs.YtgghjkefbfbopaaDoor
open Go.RowKit
set_option maxRecDepth 100000

def typQ (b : UInt8) : Bool := !decide (b = 32) && !decide (b = 61)
def TkP (p : UInt8 → Bool) (s : List UInt8) (a j : Nat) : Prop := (s.drop a).takeWhile p = (s.drop a).take (j - a) ++ (s.drop j).takeWhile p ∧ (s.drop a).dropWhile p = (s.drop j).dropWhile p
theorem TkP.start (p : UInt8 → Bool) (s : List UInt8) (a : Nat) : TkP p s a a := ⟨by simp, rfl⟩
theorem TkP.next {p : UInt8 → Bool} {s : List UInt8} {a j : Nat} {c : UInt8} (h : TkP p s a j) (ha : a ≤ j) (hj : j < s.length) (hd : s.drop j = c :: s.drop (j + 1)) (hp : p c = true) : TkP p s a (j + 1) := by
  obtain ⟨h1, h2⟩ := h
  refine ⟨?_, ?_⟩
  · rw [h1, hd, List.takeWhile_cons, if_pos hp]
    have ht : (s.drop a).take (j + 1 - a) = (s.drop a).take (j - a) ++ [c] := by
      have hc : c = s[j] := by rw [List.drop_eq_getElem_cons hj] at hd; injection hd with h _; exact h.symm
      rw [show j + 1 - a = (j - a) + 1 by omega, List.take_succ_eq_append_getElem (by rw [List.length_drop]; omega), List.getElem_drop, hc]
      congr 2
      congr 1
      omega
    rw [ht, List.append_assoc]
    rfl
  · rw [h2, hd, List.dropWhile_cons, if_pos hp]
theorem TkP.stop {p : UInt8 → Bool} {s : List UInt8} {a j : Nat} {c : UInt8} (h : TkP p s a j) (hd : s.drop j = c :: s.drop (j + 1)) (hp : p c = false) : (s.drop a).takeWhile p = (s.drop a).take (j - a) ∧ s.drop j = (s.drop a).dropWhile p := by
  obtain ⟨h1, h2⟩ := h
  rw [h1, h2, hd, List.takeWhile_cons, List.dropWhile_cons, hp]
  exact ⟨by simp, by simp⟩
theorem TkP.end_ {p : UInt8 → Bool} {s : List UInt8} {a j : Nat} (h : TkP p s a j) (hd : s.drop j = []) : (s.drop a).takeWhile p = (s.drop a).take (j - a) ∧ s.drop j = (s.drop a).dropWhile p := by
  obtain ⟨h1, h2⟩ := h
  rw [h1, h2, hd]
  exact ⟨by simp, rfl⟩

end Go.Proofs.YtgghjkefbfbopaaDoor
