/- table: where a cell lies among blocks; pure. -/
import Derived.Test.YthohghnfiicndaaDoorTabB
namespace Go.Proofs.YthohghnfiicndaaDoor
open Go.RowKit
set_option maxRecDepth 100000

theorem getD_at {α : Type} (L : List α) (d : α) {k : Nat} (h : k < L.length) : L.getD k d = L[k] := by
  rw [List.getD_eq_getElem?_getD, List.getElem?_eq_getElem h]; rfl
theorem le_last {p : List Ce} (h : sortedC p) {x : Ce} (hx : x ∈ p) : x = lastC p ∨ lessC x (lastC p) = true := by
  obtain ⟨i, hi, rfl⟩ := List.getElem_of_mem hx
  unfold lastC
  rw [getD_c p (by omega)]
  by_cases e : i = p.length - 1
  · left; subst e; rfl
  · right
    exact List.pairwise_iff_getElem.1 h i (p.length - 1) hi (by omega) (by omega)
theorem last_less {p : List Ce} (h : sortedC p) {c : Ce} (hl : lessC (lastC p) c = true) {x : Ce} (hx : x ∈ p) : lessC x c = true := by
  rcases le_last h hx with e | e
  · rw [e]; exact hl
  · exact lessC_trans e hl
theorem drop_over {q : Ce → Bool} {A B : List Ce} (h : ∀ x ∈ A, q x = true) : (A ++ B).dropWhile q = B.dropWhile q := by
  induction A with
  | nil => rfl
  | cons a A ih =>
    rw [List.cons_append, List.dropWhile_cons, if_pos (h a List.mem_cons_self)]
    exact ih fun x hx => h x (List.mem_cons_of_mem _ hx)
/-- The pieces of a row that rises: each rises, all of one stand ahead of all of the next. -/
structure Pcs (L : List Ce) (PS : List (List Ce)) : Prop where
  flat : PS.flatten = L
  full : ∀ p ∈ PS, p ≠ []
  each : ∀ p ∈ PS, sortedC p
  apart : PS.Pairwise fun p q => ∀ x ∈ p, ∀ y ∈ q, lessC x y = true
theorem pcs_of {L : List Ce} (h : riseN L = 0) : Pcs L (splitB L) := by
  have hs : sortedC (splitB L).flatten := by rw [split_flat]; exact sorted_of (riseN_zero h).2
  have h2 := List.pairwise_flatten.1 hs
  exact ⟨split_flat L, split_full L, h2.1, h2.2⟩
section
variable {L : List Ce} {PS : List (List Ce)} {c : Ce}
theorem Pcs.last_lt (h : Pcs L PS) {a b : Nat} (hab : a < b) (hb : b < PS.length) : lessC (lastC PS[a]) (lastC PS[b]) = true :=
  List.pairwise_iff_getElem.1 h.apart a b (by omega) hb hab _ (lastC_mem (h.full _ (List.getElem_mem _))) _ (lastC_mem (h.full _ (List.getElem_mem _)))
theorem Pcs.mono (h : Pcs L PS) (a b : Nat) (hab : a ≤ b) (hb : b < PS.length) (ha : (!lessC (lastC (PS.getD a [])) c) = true) : (!lessC (lastC (PS.getD b [])) c) = true := by
  rw [getD_at _ _ (by omega)] at ha
  rw [getD_at _ _ hb]
  by_cases e : a = b
  · subst e; exact ha
  · have := h.last_lt (a := a) (b := b) (by omega) hb
    cases hl : lessC (lastC PS[b]) c
    · rfl
    · rw [lessC_trans this hl] at ha; cases ha
theorem Pcs.split (h : Pcs L PS) {m : Nat} (hm : m < PS.length) : L = (PS.take m).flatten ++ (PS[m] ++ (PS.drop (m + 1)).flatten) := by
  rw [← h.flat]
  conv => lhs; rw [← List.take_append_drop m PS, List.flatten_append, List.drop_eq_getElem_cons hm, List.flatten_cons]
theorem Pcs.ahead (h : Pcs L PS) {m : Nat} (hm : m ≤ PS.length) (hlo : ∀ t, t < m → lessC (lastC (PS.getD t [])) c = true) : ∀ x ∈ (PS.take m).flatten, lessC x c = true := by
  intro x hx
  obtain ⟨p, hp, hx⟩ := List.mem_flatten.1 hx
  obtain ⟨t, ht, rfl⟩ := List.getElem_of_mem hp
  rw [List.length_take] at ht
  have := hlo t (by omega)
  rw [getD_at _ _ (by omega)] at this
  rw [List.getElem_take] at hx
  exact last_less (h.each _ (List.getElem_mem _)) this hx
theorem Pcs.none (h : Pcs L PS) (hlo : ∀ t, t < PS.length → lessC (lastC (PS.getD t [])) c = true) : fromC L c = [] := by
  have := h.ahead (Nat.le_refl _) hlo
  rw [List.take_length, h.flat] at this
  unfold fromC
  have h2 := drop_over (q := fun x => lessC x c) (A := L) (B := []) this
  rw [List.append_nil] at h2
  rw [h2]; rfl
theorem Pcs.some (h : Pcs L PS) {m n : Nat} (hm : m < PS.length) (hlo : ∀ t, t < m → lessC (lastC (PS.getD t [])) c = true) (hhi : lessC (lastC (PS.getD m [])) c = false)
    (hn : n ≤ PS[m].length) (hlo2 : ∀ t, t < n → lessC (PS[m].getD t default) c = true) (hhi2 : ∀ t, n ≤ t → t < PS[m].length → lessC (PS[m].getD t default) c = false) :
    ∃ hlt : n < PS[m].length, ∃ R, fromC L c = PS[m][n] :: R := by
  rw [getD_at _ _ hm] at hhi
  have hf := h.full _ (List.getElem_mem hm)
  have hpos : 0 < PS[m].length := List.length_pos_iff.2 hf
  have hlt : n < PS[m].length := by
    refine Decidable.byContradiction fun hn2 => ?_
    have := hlo2 (PS[m].length - 1) (by omega)
    unfold lastC at hhi
    rw [this] at hhi; cases hhi
  refine ⟨hlt, PS[m].drop (n + 1) ++ (PS.drop (m + 1)).flatten, ?_⟩
  have hp : PS[m] = PS[m].take n ++ (PS[m][n] :: PS[m].drop (n + 1)) := by rw [← List.drop_eq_getElem_cons hlt, List.take_append_drop]
  have e : L = (PS.take m).flatten ++ (PS[m].take n ++ (PS[m][n] :: (PS[m].drop (n + 1) ++ (PS.drop (m + 1)).flatten))) := by
    refine (h.split hm).trans (congrArg (fun z => (PS.take m).flatten ++ z) ?_)
    have h9 : PS[m] ++ (PS.drop (m + 1)).flatten = (PS[m].take n ++ (PS[m][n] :: PS[m].drop (n + 1))) ++ (PS.drop (m + 1)).flatten := congrArg (fun z => z ++ (PS.drop (m + 1)).flatten) hp
    exact h9.trans (by rw [List.append_assoc, List.cons_append])
  have h1 := h.ahead (by omega) hlo
  have h2 : ∀ x ∈ PS[m].take n, lessC x c = true := fun x hx => by
    obtain ⟨t, ht, rfl⟩ := List.getElem_of_mem hx
    rw [List.length_take] at ht
    have := hlo2 t (by omega)
    rw [getD_c _ (by omega)] at this
    rw [List.getElem_take]
    exact this
  have h3 : lessC PS[m][n] c = false := by
    have := hhi2 n (Nat.le_refl _) hlt
    rw [getD_c _ hlt] at this
    exact this
  unfold fromC
  rw [e, drop_over h1, drop_over h2, List.dropWhile_cons, h3]
  rfl
theorem get_none (h : Pcs L PS) (hs : sortedC L) {key : List UInt8} {seq : Int} (hlo : ∀ t, t < PS.length → lessC (lastC (PS.getD t [])) ⟨key, [], false, seq⟩ = true) : outS (firstC L key seq) = (cz, false) := by
  rw [first_from hs, h.none hlo]
theorem get_some (h : Pcs L PS) (hs : sortedC L) {key : List UInt8} {seq : Int} {m n : Nat} (hm : m < PS.length) (hlo : ∀ t, t < m → lessC (lastC (PS.getD t [])) ⟨key, [], false, seq⟩ = true) (hhi : lessC (lastC (PS.getD m [])) ⟨key, [], false, seq⟩ = false)
    (hn : n ≤ PS[m].length) (hlo2 : ∀ t, t < n → lessC (PS[m].getD t default) ⟨key, [], false, seq⟩ = true) (hhi2 : ∀ t, n ≤ t → t < PS[m].length → lessC (PS[m].getD t default) ⟨key, [], false, seq⟩ = false) :
    ∃ hlt : n < PS[m].length, outS (firstC L key seq) = if PS[m][n].key = key then (PS[m][n], true) else (cz, false) := by
  obtain ⟨hlt, R, e⟩ := h.some hm hlo hhi hn hlo2 hhi2
  refine ⟨hlt, ?_⟩
  rw [first_from hs, e]
end
/-- Where the filter says no there is no cell of that key. -/
theorem may_no {L : List Ce} {key : List UInt8} {seq : Int} (hn0 : L ≠ []) (h : mayB (filB L) (fnv key) = false) : outS (firstC L key seq) = (cz, false) := by
  cases hf : firstC L key seq with
  | none => rfl
  | some c =>
    have hk := firstC_key hf
    have hm : c ∈ L := List.mem_of_find?_eq_some hf
    have := may_mk (n := bn (keysB L).length) (by unfold bn; omega) (keysB_mem hm)
    rw [hk.1] at this
    unfold filB at h
    rw [this] at h
    cases h
end Go.Proofs.YthohghnfiicndaaDoor
