/- Rows of records that the call owns, sorted: over any program. -/
import Derived.Test.YtagchhcpmibelaaRecB
import Derived.Shelf.GgSortFunc.InsertionK
namespace Go.Proofs.Ytagchhcpmibelaa
open Go.RowKit Go.Sort Go.Shelf
set_option maxRecDepth 100000

section
variable {α : Type} [Inhabited α] {f : α → List Value} {k : Nat}
theorem flatK_list (hf : ∀ a, (f a).length = k) (hk : 0 < k) (L : List α) : (flatK f k L.toArray).toList = L.flatMap f := by
  apply List.ext_getElem?
  intro t
  have hs : (flatK f k L.toArray).toList.length = L.length * k := by simp
  by_cases ht : t < L.length * k
  · have h1 : (flatK f k L.toArray).toList[t]? = some (flatK f k L.toArray)[t]! := by
      rw [List.getElem?_eq_getElem (by rw [hs]; exact ht), getElem!_pos _ t (by simpa using ht)]
      simp
    rw [h1, get_flatK _ _ _ _ (by simpa using ht)]
    have hi : t / k < L.length := (Nat.div_lt_iff_lt_mul hk).2 ht
    have hj : t % k < k := Nat.mod_lt _ hk
    have h2 := rflat_at hf L (t / k) (t % k) hi hj
    rw [show t / k * k + t % k = t by rw [Nat.mul_comm]; exact Nat.div_add_mod t k] at h2
    rw [h2]
    have h3 : L.toArray[t / k]! = L[t / k] := by
      rw [getElem!_pos _ _ (by simpa using hi)]; simp
    rw [h3, List.getElem?_eq_getElem (by rw [hf]; exact hj), getElem!_pos _ _ (by rw [hf]; exact hj)]
  · rw [List.getElem?_eq_none (by rw [hs]; omega), List.getElem?_eq_none (by rw [rflat_len hf]; omega)]
theorem holdsK_of (hf : ∀ a, (f a).length = k) (hk : 0 < k) {w : World} {e : TypeId} {g c : Nat} {L : List α} (h : OwnR f k w e (.slice (some ⟨g, 0, none⟩) L.length c) L) : HoldsK f k w g 0 L.toArray := by
  obtain ⟨hlen, h2⟩ := h
  rcases h2 with ⟨h2, _⟩ | ⟨g', cap, cur, hv, _, hh, hn, hm, hcs, htk⟩
  · cases h2
  · injection hv with e1 _ e3
    injection e1 with e1
    injection e1 with e1
    subst e1; subst e3
    intro j hj
    rw [size_flatK] at hj
    have hj' : j < L.length * k := by simpa using hj
    have hl := flatK_list hf hk L
    have hg : (flatK f k L.toArray)[j]! = (L.flatMap f)[j]'(by rw [rflat_len hf]; exact hj') := by
      rw [getElem!_pos _ j (by simpa using hj')]
      have : (flatK f k L.toArray)[j]'(by simpa using hj') = (flatK f k L.toArray).toList[j]'(by simpa using hj') := by simp
      rw [this]
      congr 1
    have hcl : L.length * k ≤ c * k := Nat.mul_le_mul_right k hn
    refine ⟨?_, by simp [World.frozen?, hh]⟩
    have hc : w.cell? ⟨g, 0 + j, none⟩ = cur[0 + j]? := cell_of_row w g (0 + j) cur e (0, 0) hh
    rw [hc, Nat.zero_add, hg]
    have : cur.toList[j]? = (L.flatMap f)[j]? := by
      rw [← htk, List.getElem?_take_of_lt hj']
    have hj2 : j < (L.flatMap f).length := by rw [rflat_len hf]; exact hj'
    rw [List.getElem?_eq_getElem hj2] at this
    simpa using this
theorem sorted_own (hf : ∀ a, (f a).length = k) (hk : 0 < k) {w w' : World} {e : TypeId} {g c n : Nat} {L L' : List α} {os : Array Obj} (h : OwnR f k w e (.slice (some ⟨g, 0, none⟩) L.length c) L) (hl : L'.length = L.length) (hw : w' = sortWorldK f k w g 0 n L'.toArray os) :
    OwnR f k w' e (.slice (some ⟨g, 0, none⟩) L.length c) L' ∧ Mod (fun b => b = g) w w' := by
  have hlt := h.lt (b := g) rfl
  obtain ⟨hlen, h2⟩ := h
  rcases h2 with ⟨h2, _⟩ | ⟨g', cap, cur, hv, _, hh, hn, hm, hcs, htk⟩
  · cases h2
  · injection hv with e1 _ e3
    injection e1 with e1
    injection e1 with e1
    subst e1; subst e3
    have hcl : L.length * k ≤ c * k := Nat.mul_le_mul_right k hn
    have hfl := flatK_list hf hk L'
    have hsz : (flatK f k L'.toArray).size = L.length * k := by simp [hl]
    have hheap : w'.heap = (w.heap.modify g (onCells (putCells id 0 (flatK f k L'.toArray)))) ++ os := by rw [hw]; rfl
    have hg : w'.heap[g]? = some (.cells (putCells id 0 (flatK f k L'.toArray) cur) e (0, 0)) := by
      rw [hheap, Array.getElem?_append_left (by simpa using hlt)]
      simp [Array.getElem?_modify, hh, onCells]
    refine ⟨⟨by rw [rflat_len hf, hl], .inr ⟨g, c, _, by rw [hl], Nat.zero_le _, hg, by rw [hl]; exact hn, hm, by simp [putCells, hcs], ?_⟩⟩, ⟨by rw [hw]; rfl, by rw [hw]; rfl, by rw [hw]; rfl, by rw [hheap]; simp, fun b hb hn => ?_⟩⟩
    · rw [← hfl, hl]
      apply List.ext_getElem?
      intro t
      by_cases ht : t < L.length * k
      · rw [List.getElem?_take_of_lt ht]
        have htc : t < cur.size := by rw [hcs]; omega
        simp only [putCells, Array.toList_mapIdx, List.getElem?_mapIdx, Array.getElem?_toList, Nat.zero_le, true_and, Nat.zero_add, Nat.sub_zero, id]
        rw [Array.getElem?_eq_getElem htc, Option.map_some, if_pos (by rw [hsz]; exact ht), getElem!_pos _ t (by rw [hsz]; exact ht), Array.getElem?_eq_getElem (by rw [hsz]; exact ht)]
      · rw [List.getElem?_eq_none (by rw [List.length_take]; omega), List.getElem?_eq_none (by rw [Array.length_toList, hsz]; omega)]
    · rw [hheap, Array.getElem?_append_left (by simpa using hb), Array.getElem?_modify, if_neg (fun h => hn h.symm)]
end
end Go.Proofs.Ytagchhcpmibelaa
