/- match: the document's piece, fits, Sub; the law Subs. -/
import Derived.Test.YtgghjkefbfbopaaGreatDoorMtI
namespace Go.Proofs.YtgghjkefbfbopaaGreatDoor
open Go.RowKit
set_option maxRecDepth 100000

theorem tyS : SliceTy Tryz.prog 27 9 (.string ⟨#[]⟩) 16 := ⟨Tryz.underlying27, by kernel_rfl, rfl, by omega⟩
section
variable {w : World}
theorem pre_take {s a : List UInt8} (h : a.length ≤ s.length) : a.isPrefixOf s = (s.take a.length == a) := by
  have := Lib.hasPrefix_of_take s a
  rw [decide_eq_true h, Bool.true_and] at this
  exact this.symm
theorem suf_drop {s b : List UInt8} (h : b.length ≤ s.length) : b.isSuffixOf s = (s.drop (s.length - b.length) == b) := by
  have := Lib.hasSuffix_of_drop s b
  rw [decide_eq_true h, Bool.true_and] at this
  exact this.symm
def fitsB (s : List UInt8) (P : List (List UInt8)) : Bool := hasQ s (P.getD 0 []) ((P.drop 1).take (P.length - 2)) (P.getD (P.length - 1) [])
theorem mid_get (P : List (List UInt8)) {j : Nat} (hj' : j < ((P.drop 1).take (P.length - 2)).length) (h2 : 1 + j < P.length) : ((P.drop 1).take (P.length - 2))[j] = P[1 + j] := by
  simp only [List.getElem_take, List.getElem_drop]
theorem pieces_snoc (k : Int) (L : List (List UInt8)) {j : Nat} (h : j < L.length) : (L.take (j + 1)).map (pieceM k) = (L.take j).map (pieceM k) ++ [pieceM k L[j]] := by
  rw [List.take_succ_eq_append_getElem h, List.map_append]
  rfl
theorem hasM_fits (k : Int) (s : List UInt8) (L : List (List UInt8)) (h : 2 ≤ L.length) : hasM k s L = fitsB s (L.map (pieceM k)) := by
  have h0 : 0 < L.length := by omega
  have he : L.length - 1 < L.length := by omega
  unfold hasM fitsB
  rw [hasP_eq, List.length_map, getD_x L h0, getD_x L he, getD_x _ (by rw [List.length_map]; exact h0), getD_x _ (by rw [List.length_map]; exact he), List.getElem_map, List.getElem_map, List.map_take, List.map_drop]
theorem piece_len (k : Int) (s : List UInt8) : (pieceM k s).length ≤ s.length + 2 := by
  unfold pieceM
  by_cases h1 : k = 1
  · rw [if_pos h1]
    unfold squB
    have := foldB_len s
    split
    · simp
    · split
      · simp
      · simp only [List.length_append]
        split <;> split <;> simp <;> omega
  · rw [if_neg h1]
    by_cases h5 : k = 5
    · rw [if_pos h5]; have := bare_len s; omega
    · rw [if_neg h5]; omega
theorem normM_le {k : Int} {s : List UInt8} (h : (normM k s).2 = true) (hk : k = 1 ∨ k = 5 ∨ k = 4) : (normM k s).1.length ≤ 256 := by
  have hl := normM_len h
  rw [normM_short hl]
  rcases hk with rfl | rfl | rfl
  · show (textB s).1.length ≤ 256
    unfold textB
    split
    · simp
    · exact Nat.le_trans (normV_len s) (by omega)
  · exact Nat.le_trans (bare_len s) (by omega)
  · exact hl
end
end Go.Proofs.YtgghjkefbfbopaaGreatDoor
