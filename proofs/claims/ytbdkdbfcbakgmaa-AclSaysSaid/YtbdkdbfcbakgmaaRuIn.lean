/- Rules that came in. -/
import Derived.Test.YtbdkdbfcbakgmaaRecIn
import Derived.Test.YtbdkdbfcbakgmaaAclC
import Derived.Test.YtbdkdbfcbakgmaaFrame
namespace Go.Proofs.Ytbdkdbfcbakgmaa
open Go.RowKit Go.WideShapes Go.ChangeShapes Go.Deep
set_option maxRecDepth 100000

section
variable {H : Type} {enc : TypeId × Value → H} {W : World} {base : Nat} {spare : Nat → Bool} {held : Bool} {v : Value} {d : DataW H} {p : List MemPlace}
instance : Inhabited LRul := ⟨(⟨0, [], [], false, [], 0, false⟩, .nilFunc, .nilFunc)⟩
theorem avas_in (h : DataW.Trod enc Try.prog W base spare held 22 v d p) (hv : ∃ a len cap, v = .slice a len cap) (hl : Light Try.prog 22 d) : ∃ L, As W (fun _ => True) v L ∧ Fits L := by
  obtain ⟨L, h1, h2, h3⟩ := recs_in avc avc_len (fun a => a.1.length ≤ 140737488351232 ∧ a.2.length ≤ 140737488351232) Try.underlying22 (by kernel_rfl) (bts := 32) (by kernel_rfl)
    (ava_each Try.underlying37 (by kernel_rfl) rfl rfl (by kernel_rfl) (by kernel_rfl) Try.underlying9 Try.underlying9) hv h hl
  exact ⟨L, h1, h2, h3⟩
theorem avas_cell {v1 : Value} {z : DataW H × List MemPlace} {n : Nat} (h : DataW.trod enc Try.prog W base spare held n 22 [v1] = some z) (hl : Light Try.prog 22 z.1) : ∃ L, As W (fun _ => True) v1 L ∧ Fits L := by
  obtain ⟨a, l, c, rfl⟩ := slice_val Try.underlying22 h
  exact avas_in (v := .slice a l c) (d := z.1) (p := z.2) ⟨n, by simpa [Value.cells] using h⟩ ⟨_, _, _, rfl⟩ hl
theorem rule_each (cs : List Value) (x : DataW H × List MemPlace) (n : Nat) (h : DataW.trod enc Try.prog W base spare held n 46 cs = some x) (hl : Light Try.prog 46 x.1) :
    ∃ c : LRul, cs = rcell c ∧ (Laid W (fun _ => True) c ∧ RFits c.1) := by
  obtain ⟨xs, m, _, rfl, hlen, hxl, hfi⟩ := DataW.trod_struct Try.underlying46 h
  have hc : Try.prog.cellsOf 46 = 7 := by kernel_rfl
  match xs, hxl, cs, hlen.trans hc with
  | [y0, y1, y2, y3, y4, y5, y6], _, [v0, v1, v2, v3, v4, v5, v6], _ =>
    have k1 : Try.prog.cellsOf 3 = 1 := by kernel_rfl
    have k2 : Try.prog.cellsOf 22 = 1 := by kernel_rfl
    have k3 : Try.prog.cellsOf 4 = 1 := by kernel_rfl
    have k4 : Try.prog.cellsOf 9 = 1 := by kernel_rfl
    have g0 : DataW.trod enc Try.prog W base spare held m 3 (([v0, v1, v2, v3, v4, v5, v6].drop 0).take (Try.prog.cellsOf 3)) = some y0 := hfi 0 _ rfl
    rw [k1] at g0
    replace g0 : DataW.trod enc Try.prog W base spare held m 3 [v0] = some y0 := g0
    have g1 : DataW.trod enc Try.prog W base spare held m 22 (([v0, v1, v2, v3, v4, v5, v6].drop 1).take (Try.prog.cellsOf 22)) = some y1 := hfi 1 _ rfl
    rw [k2] at g1
    replace g1 : DataW.trod enc Try.prog W base spare held m 22 [v1] = some y1 := g1
    have g2 : DataW.trod enc Try.prog W base spare held m 22 (([v0, v1, v2, v3, v4, v5, v6].drop 2).take (Try.prog.cellsOf 22)) = some y2 := hfi 2 _ rfl
    rw [k2] at g2
    replace g2 : DataW.trod enc Try.prog W base spare held m 22 [v2] = some y2 := g2
    have g3 : DataW.trod enc Try.prog W base spare held m 4 (([v0, v1, v2, v3, v4, v5, v6].drop 3).take (Try.prog.cellsOf 4)) = some y3 := hfi 3 _ rfl
    rw [k3] at g3
    replace g3 : DataW.trod enc Try.prog W base spare held m 4 [v3] = some y3 := g3
    have g4 : DataW.trod enc Try.prog W base spare held m 9 (([v0, v1, v2, v3, v4, v5, v6].drop 4).take (Try.prog.cellsOf 9)) = some y4 := hfi 4 _ rfl
    rw [k4] at g4
    replace g4 : DataW.trod enc Try.prog W base spare held m 9 [v4] = some y4 := g4
    have g5 : DataW.trod enc Try.prog W base spare held m 3 (([v0, v1, v2, v3, v4, v5, v6].drop 5).take (Try.prog.cellsOf 3)) = some y5 := hfi 5 _ rfl
    rw [k1] at g5
    replace g5 : DataW.trod enc Try.prog W base spare held m 3 [v5] = some y5 := g5
    have g6 : DataW.trod enc Try.prog W base spare held m 4 (([v0, v1, v2, v3, v4, v5, v6].drop 6).take (Try.prog.cellsOf 4)) = some y6 := hfi 6 _ rfl
    rw [k3] at g6
    replace g6 : DataW.trod enc Try.prog W base spare held m 4 [v6] = some y6 := g6
    obtain ⟨n0, q0, _, _⟩ := DataW.trod_int Try.underlying3 g0
    obtain ⟨b3, q3, _⟩ := DataW.trod_bool Try.underlying4 g3
    obtain ⟨x4, q4, z4, _⟩ := DataW.trod_string Try.underlying9 g4
    obtain ⟨n5, q5, _, _⟩ := DataW.trod_int Try.underlying3 g5
    obtain ⟨b6, q6, _⟩ := DataW.trod_bool Try.underlying4 g6
    have l1 := Light.part (j := 1) Try.underlying46 hl rfl rfl
    have l2 := Light.part (j := 2) Try.underlying46 hl rfl rfl
    have l4 := Light.part (j := 4) Try.underlying46 hl rfl rfl
    obtain ⟨L1, a1, f1⟩ := avas_cell g1 l1
    obtain ⟨L2, a2, f2⟩ := avas_cell g2 l2
    rw [z4] at l4
    injection q0 with q0
    injection q3 with q3
    injection q4 with q4
    injection q5 with q5
    injection q6 with q6
    refine ⟨(⟨n0, L1, L2, b3, x4.data.toList, n5, b6⟩, v1, v2), by rw [q0, q3, q4, q5, q6, sv_of x4], ⟨a1, a2⟩, f1, f2, l4.str⟩
theorem rules_in (h : DataW.Trod enc Try.prog W base spare held 41 v d p) (hv : ∃ a len cap, v = .slice a len cap) (hl : Light Try.prog 41 d) :
    ∃ C, Rl W (fun _ => True) v C ∧ (∀ c ∈ C, RFits c.1) ∧ C.length * 96 ≤ 140737488351232 := by
  obtain ⟨C, h1, h2, h3⟩ := recs_in rcell rcell_len (fun c => Laid W (fun _ => True) c ∧ RFits c.1) Try.underlying41 (by kernel_rfl) (bts := 96) (by kernel_rfl) rule_each hv h hl
  exact ⟨C, ⟨h1, fun c hc => (h2 c hc).1⟩, fun c hc => (h2 c hc).2, h3⟩
theorem rule_in {r : Reach} {b0 : Nat} (h : DataW.Trod enc Try.prog W base spare held 46 v d p) (hv : Value.okWide Try.prog W r b0 46 v) (hl : Light Try.prog 46 d) :
    ∃ c : LRul, v = .agg (rarr c) ∧ Laid W (fun _ => True) c ∧ RFits c.1 := by
  obtain ⟨cs, rfl, hsz⟩ := okWide_struct Try.underlying46 hv
  obtain ⟨fuel, hf⟩ := h
  obtain ⟨c, h1, h2⟩ := rule_each _ _ _ hf hl
  have : cs = rarr c := by
    apply Array.toList_inj.1
    simpa [Value.cells] using h1
  exact ⟨c, by rw [this], h2⟩
end
end Go.Proofs.Ytbdkdbfcbakgmaa
