/- level: files and versions that came in. -/
import Derived.Test.YtmjkgibeljbloaaLvA
import Derived.WideShapes
namespace Go.Proofs.Ytmjkgibeljbloaa
open Go.RowKit Go.WideShapes Go.ChangeShapes
set_option maxRecDepth 100000

section
variable {H : Type} {enc : TypeId × Value → H} {W : World} {base : Nat} {spare : Nat → Bool} {held : Bool} {v : Value} {d : DataW H} {p : List MemPlace}
theorem file_each (cs : List Value) (x : DataW H × List MemPlace) (n : Nat) (h : DataW.trod enc Try.prog W base spare held n 48 cs = some x) (hl : Light Try.prog 48 x.1) :
    ∃ c : Fl, cs = fic c ∧ FFits c := by
  obtain ⟨xs, m, _, rfl, hlen, hxl, hfi⟩ := DataW.trod_struct Try.underlying48 h
  have hc : Try.prog.cellsOf 48 = 5 := by kernel_rfl
  match xs, hxl, cs, hlen.trans hc with
  | [y0, y1, y2, y3, y4], _, [v0, v1, v2, v3, v4], _ =>
    have k1 : Try.prog.cellsOf 3 = 1 := by kernel_rfl
    have k4 : Try.prog.cellsOf 9 = 1 := by kernel_rfl
    have g0 : DataW.trod enc Try.prog W base spare held m 3 (([v0, v1, v2, v3, v4].drop 0).take (Try.prog.cellsOf 3)) = some y0 := hfi 0 _ rfl
    rw [k1] at g0
    replace g0 : DataW.trod enc Try.prog W base spare held m 3 [v0] = some y0 := g0
    have g1 : DataW.trod enc Try.prog W base spare held m 3 (([v0, v1, v2, v3, v4].drop 1).take (Try.prog.cellsOf 3)) = some y1 := hfi 1 _ rfl
    rw [k1] at g1
    replace g1 : DataW.trod enc Try.prog W base spare held m 3 [v1] = some y1 := g1
    have g2 : DataW.trod enc Try.prog W base spare held m 3 (([v0, v1, v2, v3, v4].drop 2).take (Try.prog.cellsOf 3)) = some y2 := hfi 2 _ rfl
    rw [k1] at g2
    replace g2 : DataW.trod enc Try.prog W base spare held m 3 [v2] = some y2 := g2
    have g3 : DataW.trod enc Try.prog W base spare held m 9 (([v0, v1, v2, v3, v4].drop 3).take (Try.prog.cellsOf 9)) = some y3 := hfi 3 _ rfl
    rw [k4] at g3
    replace g3 : DataW.trod enc Try.prog W base spare held m 9 [v3] = some y3 := g3
    have g4 : DataW.trod enc Try.prog W base spare held m 9 (([v0, v1, v2, v3, v4].drop 4).take (Try.prog.cellsOf 9)) = some y4 := hfi 4 _ rfl
    rw [k4] at g4
    replace g4 : DataW.trod enc Try.prog W base spare held m 9 [v4] = some y4 := g4
    obtain ⟨n0, q0, _, _⟩ := DataW.trod_int Try.underlying3 g0
    obtain ⟨n1, q1, _, _⟩ := DataW.trod_int Try.underlying3 g1
    obtain ⟨n2, q2, _, _⟩ := DataW.trod_int Try.underlying3 g2
    obtain ⟨x3, q3, z3, _⟩ := DataW.trod_string Try.underlying9 g3
    obtain ⟨x4, q4, z4, _⟩ := DataW.trod_string Try.underlying9 g4
    have l3 := Light.part (j := 3) Try.underlying48 hl rfl rfl
    have l4 := Light.part (j := 4) Try.underlying48 hl rfl rfl
    rw [z3] at l3
    rw [z4] at l4
    injection q0 with q0
    injection q1 with q1
    injection q2 with q2
    injection q3 with q3
    injection q4 with q4
    exact ⟨⟨n0, n1, n2, x3.data.toList, x4.data.toList⟩, by rw [q0, q1, q2, q3, q4, sv_of x3, sv_of x4], l3.str, l4.str⟩
theorem files_in (h : DataW.Trod enc Try.prog W base spare held 22 v d p) (hv : ∃ a len cap, v = .slice a len cap) (hl : Light Try.prog 22 d) :
    ∃ L, Fs W (fun _ => True) v L ∧ MFits L := by
  obtain ⟨L, h1, h2, h3⟩ := recs_in fic fic_len FFits Try.underlying22 (by kernel_rfl) (bts := 56) (by kernel_rfl) file_each hv h hl
  exact ⟨L, h1, h2, h3⟩
theorem files_cell {v1 : Value} {z : DataW H × List MemPlace} {n : Nat} (h : DataW.trod enc Try.prog W base spare held n 22 [v1] = some z) (hl : Light Try.prog 22 z.1) : ∃ L, Fs W (fun _ => True) v1 L ∧ MFits L := by
  obtain ⟨a, l, c, rfl⟩ := slice_val Try.underlying22 h
  exact files_in (v := .slice a l c) (d := z.1) (p := z.2) ⟨n, by simpa [Value.cells] using h⟩ ⟨_, _, _, rfl⟩ hl
theorem version_each (cs : List Value) (x : DataW H × List MemPlace) (n : Nat) (h : DataW.trod enc Try.prog W base spare held n 24 cs = some x) (hl : Light Try.prog 24 x.1) :
    ∃ (nx : Int) (vf : Value) (L : List Fl), cs = [.int .i64 nx, vf] ∧ Fs W (fun _ => True) vf L ∧ MFits L := by
  obtain ⟨xs, m, _, rfl, hlen, hxl, hfi⟩ := DataW.trod_struct Try.underlying24 h
  have hc : Try.prog.cellsOf 24 = 2 := by kernel_rfl
  match xs, hxl, cs, hlen.trans hc with
  | [y0, y1], _, [v0, v1], _ =>
    have k1 : Try.prog.cellsOf 3 = 1 := by kernel_rfl
    have k2 : Try.prog.cellsOf 22 = 1 := by kernel_rfl
    have g0 : DataW.trod enc Try.prog W base spare held m 3 (([v0, v1].drop 0).take (Try.prog.cellsOf 3)) = some y0 := hfi 0 _ rfl
    rw [k1] at g0
    replace g0 : DataW.trod enc Try.prog W base spare held m 3 [v0] = some y0 := g0
    have g1 : DataW.trod enc Try.prog W base spare held m 22 (([v0, v1].drop 1).take (Try.prog.cellsOf 22)) = some y1 := hfi 1 _ rfl
    rw [k2] at g1
    replace g1 : DataW.trod enc Try.prog W base spare held m 22 [v1] = some y1 := g1
    have l1 := Light.part (j := 1) Try.underlying24 hl rfl rfl
    obtain ⟨n0, q0, _, _⟩ := DataW.trod_int Try.underlying3 g0
    injection q0 with q0
    obtain ⟨L, a1, a2⟩ := files_cell g1 l1
    exact ⟨n0, v1, L, by rw [q0], a1, a2⟩
theorem version_in {r : Reach} {b0 : Nat} (h : DataW.Trod enc Try.prog W base spare held 24 v d p) (hv : Value.okWide Try.prog W r b0 24 v) (hl : Light Try.prog 24 d) :
    ∃ (nx : Int) (vf : Value) (L : List Fl), v = .agg #[.int .i64 nx, vf] ∧ Fs W (fun _ => True) vf L ∧ MFits L := by
  obtain ⟨cs, rfl, hsz⟩ := okWide_struct Try.underlying24 hv
  obtain ⟨fuel, hf⟩ := h
  obtain ⟨nx, vf, L, h1, h2⟩ := version_each _ _ _ hf hl
  have : cs = #[.int .i64 nx, vf] := by
    apply Array.toList_inj.1
    simpa [Value.cells] using h1
  exact ⟨nx, vf, L, by rw [this], h2⟩
end
end Go.Proofs.Ytmjkgibeljbloaa
