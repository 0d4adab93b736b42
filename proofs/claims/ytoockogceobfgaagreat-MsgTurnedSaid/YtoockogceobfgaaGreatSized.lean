/- Bytes that came in, with the bound that the form's reach gives their length. -/
import Derived.SizedLaws
import Derived.Test.YtoockogceobfgaaGreatFrame
namespace Go.Proofs.YtoockogceobfgaaGreat
open Go.RowKit Go.WideShapes Go.ChangeShapes Go.Deep
set_option maxRecDepth 100000

theorem bs_in_sized {H : Type} {enc : TypeId × Value → H} {P : Program} {W : World} {base : Nat} {spare : Nat → Bool} {held : Bool} {t e : TypeId} {v : Value} {d : DataW H} {p : List MemPlace} {ts : List TypeId} {ds : List (DataW H)} {j : Nat}
    (ht : P.underlying t = some (.slice e)) (he : P.underlying e = some (.int .u8)) (hc : P.cellsOf e = 1) (hby : P.bytesOf e = 1) (hv : ∃ a len cap, v = .slice a len cap) (h : DataW.Trod enc P W base spare held t v d p)
    (hsz : (DataW.weightsEach P ts ds).all (· ≤ reachBytes) = true) (htj : ts[j]? = some t) (hj : ds[j]? = some d) : ∃ l, Bs W (fun _ => True) v l ∧ l.length ≤ 140737488351232 := by
  obtain ⟨l, hl⟩ := bs_in ht he hc hv h
  refine ⟨l, hl, ?_⟩
  obtain ⟨a0, len0, cap0, rfl⟩ := hv
  have hlen : len0 = l.length := by
    obtain ⟨A, c, e, _⟩ := hl.open_
    injection e
  obtain ⟨fuel, hf⟩ := h
  rcases open_ints ht he hc hf with ⟨hcs, _⟩ | ⟨x, ln, c, zs, hcs, _, hl2, hm, hz, hx, _, _⟩
  · simp [Value.cells] at hcs
    omega
  · simp [Value.cells] at hcs
    obtain ⟨rfl, rfl, rfl⟩ := hcs
    have hzl : len0 ≤ zs.length := by split at hz <;> omega
    injection hx with hd _
    subst hd
    have := sized_slice hsz htj hj ht
    rw [hby] at this
    simp only [lits, List.length_map, List.length_take, List.length_drop, reachBytes] at this
    omega
end Go.Proofs.YtoockogceobfgaaGreat
