/- Rows of bytes that came in, with the bound that the form's reach gives each row's length. -/
import Derived.Test.YtblfhonfjljndaaDoorRecIn
namespace Go.Proofs.YtblfhonfjljndaaDoor
open Go.RowKit Go.WideShapes Go.ChangeShapes Go.Deep
set_option maxRecDepth 100000

section
variable {H : Type} {enc : TypeId × Value → H} {P : Program} {W : World} {base : Nat} {spare : Nat → Bool} {held : Bool} {t e : TypeId} {v : Value} {d : DataW H} {p : List MemPlace}
theorem bs_light {fuel : Nat} {x : Value} (ht : P.underlying t = some (.slice e)) (he : P.underlying e = some (.int .u8)) (hc : P.cellsOf e = 1) (hby : P.bytesOf e = 1) (h : DataW.trod enc P W base spare held fuel t [x] = some (d, p)) (hl : Light P t d) :
    ∃ l, Bs W (fun _ => True) x l ∧ l.length ≤ 140737488351232 := by
  have hsl := slice_val ht h
  have hx1 : x.cells.toList = [x] := by obtain ⟨a, b, c, e⟩ := hsl; rw [e]; rfl
  obtain ⟨l, hb⟩ := bs_in (d := d) (p := p) ht he hc hsl ⟨fuel, by rw [hx1]; exact h⟩
  refine ⟨l, hb, ?_⟩
  obtain ⟨a0, len0, cap0, rfl⟩ := hsl
  have hlen : len0 = l.length := by
    obtain ⟨A, c, e, _⟩ := hb.open_
    injection e
  rcases open_ints ht he hc h with ⟨hcs, _⟩ | ⟨x, ln, c, zs, hcs, _, hl2, hm, hz, hx, _, _⟩
  · simp at hcs
    omega
  · simp at hcs
    obtain ⟨rfl, rfl, rfl⟩ := hcs
    have hzl : len0 ≤ zs.length := by split at hz <;> omega
    injection hx with hd _
    subst hd
    have := hl.len ht
    rw [hby] at this
    simp only [lits, List.length_map, List.length_take] at this
    omega
theorem rw_in_light {u : TypeId} (ht : P.underlying t = some (.slice u)) (hu : P.underlying u = some (.slice e)) (he : P.underlying e = some (.int .u8)) (hcu : P.cellsOf u = 1) (hc : P.cellsOf e = 1) (hby : P.bytesOf e = 1) (hbu : P.bytesOf u = 24) (hv : ∃ a len cap, v = .slice a len cap) (h : DataW.Trod enc P W base spare held t v d p) (hl : Light P t d) :
    ∃ L, Rw W (fun _ => True) v L ∧ (∀ l ∈ L, l.length ≤ 140737488351232) ∧ L.length * 24 ≤ 140737488351232 := by
  obtain ⟨a0, len0, cap0, rfl⟩ := hv
  obtain ⟨fuel, hf⟩ := h
  rcases open_slice1 ht hcu hf with ⟨hcs, _⟩ | ⟨x, len, cap, m, n, V, D, Pl, hcs, _, hl0, hm, hmm, hx, hel⟩
  · simp [Value.cells] at hcs
    obtain ⟨rfl, rfl, rfl⟩ := hcs
    exact ⟨[], ⟨[], rfl, Sl.nil _ _, fun k x l hx => by simp at hx⟩, (fun l hl => by cases hl), by simp⟩
  · simp [Value.cells] at hcs
    obtain ⟨rfl, rfl, rfl⟩ := hcs
    have hzl : len0 ≤ m := by rw [hmm]; split <;> omega
    injection hx with hd _
    subst hd
    have hrow : ∀ i, ∃ l : List UInt8, i < len0 → Bs W (fun _ => True) (V i) l ∧ l.length ≤ 140737488351232 := fun i => by
      by_cases hi : i < len0
      · obtain ⟨_, h2⟩ := hel i (by omega)
        obtain ⟨l, hb⟩ := bs_light hu he hc hby h2 (hl.elem ht (List.mem_map.2 ⟨i, List.mem_range.2 hi, rfl⟩))
        exact ⟨l, fun _ => hb⟩
      · exact ⟨[], fun h => absurd h hi⟩
    refine ⟨(List.range len0).map fun i => Classical.choose (hrow i), ⟨(List.range len0).map V, by simp, ⟨x |> some, cap0, by simp, by simp; omega, hm, by simp, fun k u hu => ⟨x, rfl, trivial, ?_⟩⟩, fun k y l hy hl => ?_⟩, fun l hl2 => ?_, ?_⟩
    · by_cases hk : k < len0
      · rw [List.getElem?_map, List.getElem?_range hk] at hu
        simp only [Option.map_some, Option.some.injEq] at hu
        rw [← hu]
        exact (hel k (by omega)).1
      · rw [List.getElem?_eq_none (by simp; omega)] at hu
        cases hu
    · by_cases hk : k < len0
      · rw [List.getElem?_map, List.getElem?_range hk] at hy hl
        simp only [Option.map_some, Option.some.injEq] at hy hl
        rw [← hy, ← hl]
        exact (Classical.choose_spec (hrow k) hk).1
      · rw [List.getElem?_eq_none (by simp; omega)] at hy
        cases hy
    · obtain ⟨i, hi, rfl⟩ := List.mem_map.1 hl2
      exact (Classical.choose_spec (hrow i) (List.mem_range.1 hi)).2
    · have := hl.len ht
      rw [hbu] at this
      simpa using this
end
end Go.Proofs.YtblfhonfjljndaaDoor
