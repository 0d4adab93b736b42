/- the document's Disk: where a name stands in a row that rises; rows of records, over any program. -/
import Derived.Test.YtblfhonfjljndaaDoorDkA
namespace Go.Proofs.YtblfhonfjljndaaDoor
open Go.RowKit
set_option maxRecDepth 100000

/-- Where a name stands, or would stand. -/
def posF : Fis → List UInt8 → Nat
  | [], _ => 0
  | f :: L, x => if Op.bytesLess f.name x = true then posF L x + 1 else 0
theorem posF_le : ∀ (L : Fis) (x : List UInt8), posF L x ≤ L.length
  | [], _ => Nat.le_refl _
  | f :: L, x => by
    unfold posF
    have := posF_le L x
    split
    · rw [List.length_cons]; omega
    · omega
theorem posF_lt : ∀ (L : Fis) (x : List UInt8) (i : Nat) (hi : i < L.length), i < posF L x → Op.bytesLess L[i].name x = true
  | [], _, _, hi, _ => absurd hi (by simp)
  | f :: L, x, i, hi, h => by
    unfold posF at h
    split at h
    · cases i with
      | zero => assumption
      | succ i => exact posF_lt L x i (by simpa using hi) (by omega)
    · omega
theorem posF_at : ∀ (L : Fis) (x : List UInt8) (hi : posF L x < L.length), Op.bytesLess L[posF L x].name x = false
  | [], _, hi => absurd hi (by simp [posF])
  | f :: L, x, hi => by
    by_cases h : Op.bytesLess f.name x = true
    · have e : posF (f :: L) x = posF L x + 1 := by simp [posF, h]
      have hi' : posF L x < L.length := by rw [e] at hi; simpa using hi
      have := posF_at L x hi'
      simp only [e, List.getElem_cons_succ]
      exact this
    · have e : posF (f :: L) x = 0 := by simp [posF, h]
      simp only [e, List.getElem_cons_zero]
      simpa using h
theorem posF_unique {L : Fis} {x : List UInt8} {k : Nat} (hk : k ≤ L.length) (h1 : ∀ i (hi : i < L.length), i < k → Op.bytesLess L[i].name x = true) (h2 : ∀ (hi : k < L.length), Op.bytesLess L[k].name x = false) : k = posF L x := by
  have hp := posF_le L x
  rcases Nat.lt_trichotomy k (posF L x) with h | h | h
  · have := posF_lt L x k (by omega) h
    rw [h2 (by omega)] at this; cases this
  · exact h
  · have := posF_at L x (by omega)
    rw [h1 _ (by omega) h] at this; cases this
theorem posF_some : ∀ {L : Fis}, Rise L → ∀ {x : List UInt8} {f : Fi}, getF L x = some f → L[posF L x]? = some f
  | [], _, x, f, h => by simp [getF] at h
  | a :: L, hr, x, f, h => by
    have hp := List.pairwise_cons.1 (show (nms (a :: L)).Pairwise _ from hr)
    rw [getF_cons] at h
    by_cases e : a.name = x
    · rw [if_pos e] at h
      have e2 : posF (a :: L) x = 0 := by unfold posF; rw [if_neg (by rw [e, less_irr]; simp)]
      rw [e2]; simpa using h
    · rw [if_neg e] at h
      have hl := hp.1 f.name (List.mem_map.2 ⟨f, getF_mem h, rfl⟩)
      rw [getF_name h] at hl
      have e2 : posF (a :: L) x = posF L x + 1 := by rw [posF, if_pos hl]
      rw [e2, List.getElem?_cons_succ]
      exact posF_some (L := L) hp.2 h
theorem posF_none {L : Fis} {x : List UInt8} (h : getF L x = none) (hi : posF L x < L.length) : L[posF L x].name ≠ x := fun e => getF_none h (List.mem_map.2 ⟨_, List.getElem_mem hi, e⟩)
theorem putF_set : ∀ {L : Fis}, Rise L → ∀ {f g : Fi}, getF L f.name = some g → putF L f = L.set (posF L f.name) f
  | [], _, f, g, h => by simp [getF] at h
  | a :: L, hr, f, g, h => by
    have hp := List.pairwise_cons.1 (show (nms (a :: L)).Pairwise _ from hr)
    rw [getF_cons] at h
    unfold putF
    by_cases e : a.name = f.name
    · rw [if_pos e]
      have e2 : posF (a :: L) f.name = 0 := by unfold posF; rw [if_neg (by rw [e, less_irr]; simp)]
      rw [e2]; rfl
    · rw [if_neg e] at h
      have hl := hp.1 g.name (List.mem_map.2 ⟨g, getF_mem h, rfl⟩)
      rw [getF_name h] at hl
      have e2 : posF (a :: L) f.name = posF L f.name + 1 := by rw [posF, if_pos hl]
      rw [if_neg e, if_neg (fun h2 => by have := less_trans _ _ _ hl h2; rw [less_irr] at this; cases this), e2, List.set_cons_succ, putF_set hp.2 h]
theorem putF_ins : ∀ {L : Fis}, Rise L → ∀ {f : Fi}, getF L f.name = none → putF L f = L.take (posF L f.name) ++ f :: L.drop (posF L f.name)
  | [], _, f, _ => by simp [putF, posF]
  | a :: L, hr, f, h => by
    have hp := List.pairwise_cons.1 (show (nms (a :: L)).Pairwise _ from hr)
    rw [getF_cons] at h
    have e : a.name ≠ f.name := fun e => by rw [if_pos e] at h; cases h
    rw [if_neg e] at h
    unfold putF
    rw [if_neg e]
    by_cases h2 : Op.bytesLess f.name a.name = true
    · have e2 : posF (a :: L) f.name = 0 := by unfold posF; rw [if_neg (fun h3 => by have := less_trans _ _ _ h2 h3; rw [less_irr] at this; cases this)]
      rw [if_pos h2, e2]; rfl
    · have hl := less_tot (by simpa using h2) (fun e' => e e'.symm)
      have e2 : posF (a :: L) f.name = posF L f.name + 1 := by rw [posF, if_pos hl]
      rw [if_neg h2, e2, putF_ins hp.2 h]
      rfl
theorem delF_at : ∀ {L : Fis}, Rise L → ∀ {x : List UInt8} {f : Fi}, getF L x = some f → delF L x = L.take (posF L x) ++ L.drop (posF L x + 1)
  | [], _, x, f, h => by simp [getF] at h
  | a :: L, hr, x, f, h => by
    have hp := List.pairwise_cons.1 (show (nms (a :: L)).Pairwise _ from hr)
    rw [getF_cons] at h
    by_cases e : a.name = x
    · have e2 : posF (a :: L) x = 0 := by unfold posF; rw [if_neg (by rw [e, less_irr]; simp)]
      have hno : x ∉ nms L := fun hx => less_ne (hp.1 x hx) e
      have e3 : delF (a :: L) x = delF L x := by simp [delF, e]
      rw [e2, e3, delF_none hno]; rfl
    · rw [if_neg e] at h
      have hl := hp.1 f.name (List.mem_map.2 ⟨f, getF_mem h, rfl⟩)
      rw [getF_name h] at hl
      have e2 : posF (a :: L) x = posF L x + 1 := by rw [posF, if_pos hl]
      have e3 : delF (a :: L) x = a :: delF L x := by simp [delF, e]
      rw [e2, e3, delF_at hp.2 h]
      rfl
end Go.Proofs.YtblfhonfjljndaaDoor
