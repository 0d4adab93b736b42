/- Rules that came in, their rights within an int. -/
import Derived.Test.YtbdkdbfcbakgmaaRecIn
import Derived.Test.YtbdkdbfcbakgmaaAclI
import Derived.Test.YtbdkdbfcbakgmaaRuIn
import Derived.Test.YtbdkdbfcbakgmaaFrame
namespace Go.Proofs.Ytbdkdbfcbakgmaa
open Go.RowKit Go.WideShapes Go.ChangeShapes Go.Deep
set_option maxRecDepth 100000

section
variable {H : Type} {enc : TypeId × Value → H} {W : World} {base : Nat} {spare : Nat → Bool} {held : Bool} {v : Value} {d : DataW H} {p : List MemPlace}
theorem rule_each2 (cs : List Value) (x : DataW H × List MemPlace) (n : Nat) (h : DataW.trod enc Try.prog W base spare held n 46 cs = some x) (hl : Light Try.prog 46 x.1) :
    ∃ c : LRul, cs = rcell c ∧ ((Laid W (fun _ => True) c ∧ RFits c.1) ∧ RInt c.1) := by
  obtain ⟨xs, m, _, rfl, hlen, hxl, hfi⟩ := DataW.trod_struct Try.underlying46 h
  have hc : Try.prog.cellsOf 46 = 7 := by kernel_rfl
  match xs, hxl, cs, hlen.trans hc with
  | [y0, y1, y2, y3, y4, y5, y6], _, [v0, v1, v2, v3, v4, v5, v6], _ =>
    have k1 : Try.prog.cellsOf 3 = 1 := by kernel_rfl
    have k2 : Try.prog.cellsOf 22 = 1 := by kernel_rfl
    have k3 : Try.prog.cellsOf 4 = 1 := by kernel_rfl
    have k4 : Try.prog.cellsOf 9 = 1 := by kernel_rfl
    have g0 : DataW.trod enc Try.prog W base spare held m 3 (([v0, v1, v2, v3, v4, v5, v6].drop 0).take (Try.prog.cellsOf 3)) = some y0 := hfi 0 _ rfl
    rw [k1] at g0
    replace g0 : DataW.trod enc Try.prog W base spare held m 3 [v0] = some y0 := g0
    have g1 : DataW.trod enc Try.prog W base spare held m 22 (([v0, v1, v2, v3, v4, v5, v6].drop 1).take (Try.prog.cellsOf 22)) = some y1 := hfi 1 _ rfl
    rw [k2] at g1
    replace g1 : DataW.trod enc Try.prog W base spare held m 22 [v1] = some y1 := g1
    have g2 : DataW.trod enc Try.prog W base spare held m 22 (([v0, v1, v2, v3, v4, v5, v6].drop 2).take (Try.prog.cellsOf 22)) = some y2 := hfi 2 _ rfl
    rw [k2] at g2
    replace g2 : DataW.trod enc Try.prog W base spare held m 22 [v2] = some y2 := g2
    have g3 : DataW.trod enc Try.prog W base spare held m 4 (([v0, v1, v2, v3, v4, v5, v6].drop 3).take (Try.prog.cellsOf 4)) = some y3 := hfi 3 _ rfl
    rw [k3] at g3
    replace g3 : DataW.trod enc Try.prog W base spare held m 4 [v3] = some y3 := g3
    have g4 : DataW.trod enc Try.prog W base spare held m 9 (([v0, v1, v2, v3, v4, v5, v6].drop 4).take (Try.prog.cellsOf 9)) = some y4 := hfi 4 _ rfl
    rw [k4] at g4
    replace g4 : DataW.trod enc Try.prog W base spare held m 9 [v4] = some y4 := g4
    have g5 : DataW.trod enc Try.prog W base spare held m 3 (([v0, v1, v2, v3, v4, v5, v6].drop 5).take (Try.prog.cellsOf 3)) = some y5 := hfi 5 _ rfl
    rw [k1] at g5
    replace g5 : DataW.trod enc Try.prog W base spare held m 3 [v5] = some y5 := g5
    have g6 : DataW.trod enc Try.prog W base spare held m 4 (([v0, v1, v2, v3, v4, v5, v6].drop 6).take (Try.prog.cellsOf 4)) = some y6 := hfi 6 _ rfl
    rw [k3] at g6
    replace g6 : DataW.trod enc Try.prog W base spare held m 4 [v6] = some y6 := g6
    obtain ⟨n0, q0, _, _⟩ := DataW.trod_int Try.underlying3 g0
    obtain ⟨b3, q3, _⟩ := DataW.trod_bool Try.underlying4 g3
    obtain ⟨x4, q4, z4, _⟩ := DataW.trod_string Try.underlying9 g4
    obtain ⟨n5, q5, _, w5⟩ := DataW.trod_int Try.underlying3 g5
    obtain ⟨b6, q6, _⟩ := DataW.trod_bool Try.underlying4 g6
    have l1 := Light.part (j := 1) Try.underlying46 hl rfl rfl
    have l2 := Light.part (j := 2) Try.underlying46 hl rfl rfl
    have l4 := Light.part (j := 4) Try.underlying46 hl rfl rfl
    obtain ⟨L1, a1, f1⟩ := avas_cell g1 l1
    obtain ⟨L2, a2, f2⟩ := avas_cell g2 l2
    rw [z4] at l4
    injection q0 with q0
    injection q3 with q3
    injection q4 with q4
    injection q5 with q5
    injection q6 with q6
    refine ⟨(⟨n0, L1, L2, b3, x4.data.toList, n5, b6⟩, v1, v2), by rw [q0, q3, q4, q5, q6, sv_of x4], ⟨⟨a1, a2⟩, f1, f2, l4.str⟩, by simpa [RInt, Lit.wf, IntKind.bits, IntKind.signed, IntKind.min, IntKind.max] using w5⟩
theorem rules_in2 (h : DataW.Trod enc Try.prog W base spare held 41 v d p) (hv : ∃ a len cap, v = .slice a len cap) (hl : Light Try.prog 41 d) :
    ∃ C, Rl W (fun _ => True) v C ∧ (∀ c ∈ C, RFits c.1) ∧ (∀ c ∈ C, RInt c.1) ∧ C.length * 96 ≤ 140737488351232 := by
  obtain ⟨C, h1, h2, h3⟩ := recs_in rcell rcell_len (fun c => (Laid W (fun _ => True) c ∧ RFits c.1) ∧ RInt c.1) Try.underlying41 (by kernel_rfl) (bts := 96) (by kernel_rfl) rule_each2 hv h hl
  exact ⟨C, ⟨h1, fun c hc => (h2 c hc).1.1⟩, fun c hc => (h2 c hc).1.2, fun c hc => (h2 c hc).2, h3⟩
end
end Go.Proofs.Ytbdkdbfcbakgmaa
