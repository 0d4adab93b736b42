/- dnkey: escape, Key. -/
import Derived.Test.YteihjdefdeckaaaGreatDoorDnE
import Derived.Test.YteihjdefdeckaaaGreatDoorAppS
import Derived.Test.YteihjdefdeckaaaGreatDoorDnG
namespace Go.Proofs.YteihjdefdeckaaaGreatDoor
open Go.RowKit
set_option maxRecDepth 100000

/-- A text without bare noughts. -/
def escB (s : List UInt8) : List UInt8 := s.flatMap fun b => if b = 0 then [0, 255] else [b]
theorem escB_snoc (s : List UInt8) {k : Nat} (h : k < s.length) : escB (s.take (k + 1)) = escB (s.take k) ++ (if s[k] = 0 then [0, 255] else [s[k]]) := by
  unfold escB
  rw [List.take_succ_eq_append_getElem h, List.flatMap_append]
  simp
theorem escB_len (s : List UInt8) : (escB s).length ≤ 2 * s.length := by
  unfold escB
  induction s with
  | nil => simp
  | cons b s ih => rw [List.flatMap_cons, List.length_append, List.length_cons]; have : (if b = 0 then [0, 255] else [b] : List UInt8).length ≤ 2 := by split <;> simp
                   omega

end Go.Proofs.YteihjdefdeckaaaGreatDoor
namespace Go.Proofs.YteihjdefdeckaaaGreatDoor
open Go.RowKit
set_option maxRecDepth 100000

/-- How much a name weighs. -/
def wN (L : List Av) : Nat := (L.map fun a => 1 + a.1.length + a.2.length).sum
theorem wN_cons (a : Av) (L : List Av) : wN (a :: L) = 1 + a.1.length + a.2.length + wN L := by simp [wN]
theorem wN_append (L M : List Av) : wN (L ++ M) = wN L + wN M := by simp [wN]
theorem wN_snoc (L : List Av) {k : Nat} (h : k < L.length) : wN (L.take (k + 1)) = wN (L.take k) + (1 + L[k].1.length + L[k].2.length) := by
  rw [List.take_succ_eq_append_getElem h, wN_append, wN_cons]; rfl
theorem wN_take (L : List Av) (k : Nat) : wN (L.take k) ≤ wN L := by
  have := wN_append (L.take k) (L.drop k)
  rw [List.take_append_drop] at this; omega
theorem wN_drop (L : List Av) (k : Nat) : wN (L.drop k) ≤ wN L := by
  have := wN_append (L.take k) (L.drop k)
  rw [List.take_append_drop] at this; omega
theorem wN_len (L : List Av) : L.length ≤ wN L := by
  induction L with
  | nil => simp
  | cons a L ih => rw [wN_cons, List.length_cons]; omega
theorem wN_mem {L : List Av} {a : Av} (h : a ∈ L) : a.1.length + a.2.length ≤ wN L := by
  induction L with
  | nil => cases h
  | cons b L ih =>
    rw [wN_cons]
    rcases List.mem_cons.1 h with rfl | h
    · omega
    · have := ih h; omega
theorem fits_of {L : List Av} (h : wN L ≤ 1000000000) : Fits L := by
  refine ⟨fun a ha => ?_, by have := wN_len L; omega⟩
  have := wN_mem ha; omega
theorem normV_len (s : List UInt8) : (normV s).length ≤ s.length := by
  unfold normV
  split
  · rename_i h; cases s <;> simp_all
  · exact foldB_len s
theorem norm_wN (L : List Av) : wN (norm L) ≤ wN L := by
  unfold norm
  induction L with
  | nil => simp
  | cons a L ih =>
    rw [List.map_cons, wN_cons, wN_cons]
    have := foldB_len a.1
    have := normV_len a.2
    simp only [normA]; omega
theorem escB_ge (s : List UInt8) : s.length ≤ (escB s).length := by
  unfold escB
  induction s with
  | nil => simp
  | cons b s ih => rw [List.flatMap_cons, List.length_append, List.length_cons]; have : 1 ≤ (if b = 0 then [0, 255] else [b] : List UInt8).length := by split <;> simp
                   omega
/-- A part as a key. -/
def partK (a : Av) : List UInt8 := a.1 ++ [61] ++ escB a.2 ++ [0, 1]
/-- Parts from below as a key. -/
def partsK (L : List Av) : List UInt8 := L.reverse.flatMap partK
/-- A name's key. -/
def keyB (L : List Av) : List UInt8 := partsK (norm L)
theorem partsK_step (L : List Av) {k : Nat} (h : k < L.length) : partsK (L.drop k) = partsK (L.drop (k + 1)) ++ partK L[k] := by
  unfold partsK
  rw [List.drop_eq_getElem_cons h, List.reverse_cons, List.flatMap_append]; simp
theorem partsK_len (L : List Av) : (partsK L).length ≤ 3 * wN L := by
  unfold partsK
  induction L with
  | nil => simp
  | cons a L ih =>
    rw [List.reverse_cons, List.flatMap_append, List.length_append, wN_cons]
    have h2 : ([a].flatMap partK).length = a.1.length + 3 + (escB a.2).length := by simp [partK]; omega
    have := escB_len a.2
    omega

end Go.Proofs.YteihjdefdeckaaaGreatDoor
namespace Go.Proofs.YteihjdefdeckaaaGreatDoor
open Go.RowKit
set_option maxRecDepth 100000

theorem key_known : keyB [([99, 110], [65]), ([111], [120])] = [111, 61, 120, 0, 1, 99, 110, 61, 97, 0, 1] := by decide
end Go.Proofs.YteihjdefdeckaaaGreatDoor
