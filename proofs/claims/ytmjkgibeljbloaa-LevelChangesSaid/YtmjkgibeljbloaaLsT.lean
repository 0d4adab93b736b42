/- level: files, versions and numbers that came in, each number within its kind; what Change answers is one thing. -/
import Derived.Test.YtmjkgibeljbloaaLsP
import Derived.Test.YtmjkgibeljbloaaLvM
import Derived.Test.YtmjkgibeljbloaaLvS
namespace Go.Proofs.Ytmjkgibeljbloaa
open Go.RowKit Go.WideShapes Go.ChangeShapes
set_option maxRecDepth 100000

abbrev inI (n : Int) : Prop := -9223372036854775808 ≤ n ∧ n ≤ 9223372036854775807
section
variable {H : Type} {enc : TypeId × Value → H} {W : World} {base : Nat} {spare : Nat → Bool} {held : Bool} {v : Value} {d : DataW H} {p : List MemPlace}
theorem file_each2 (cs : List Value) (x : DataW H × List MemPlace) (n : Nat) (h : DataW.trod enc Try.prog W base spare held n 48 cs = some x) (hl : Light Try.prog 48 x.1) :
    ∃ c : Fl, cs = fic c ∧ (FFits c ∧ inI c.id) := by
  obtain ⟨c, rfl, hf⟩ := file_each cs x n h hl
  obtain ⟨xs, m, _, rfl, hlen, hxl, hfi⟩ := DataW.trod_struct Try.underlying48 h
  match xs, hxl with
  | [y0, y1, y2, y3, y4], _ =>
    have k1 : Try.prog.cellsOf 3 = 1 := by kernel_rfl
    have g0 : DataW.trod enc Try.prog W base spare held m 3 (((fic c).drop 0).take (Try.prog.cellsOf 3)) = some y0 := hfi 0 _ rfl
    rw [k1] at g0
    replace g0 : DataW.trod enc Try.prog W base spare held m 3 [.int .i64 c.id] = some y0 := g0
    obtain ⟨n0, q0, _, w0⟩ := DataW.trod_int Try.underlying3 g0
    injection q0 with q0
    injection q0 with _ q0
    subst q0
    exact ⟨c, rfl, hf, by simpa [Lit.wf, IntKind.bits, IntKind.signed, IntKind.min, IntKind.max] using w0⟩
theorem files_in2 (h : DataW.Trod enc Try.prog W base spare held 22 v d p) (hv : ∃ a len cap, v = .slice a len cap) (hl : Light Try.prog 22 d) :
    ∃ L, Fs W (fun _ => True) v L ∧ MFits L ∧ ∀ c ∈ L, inI c.id := by
  obtain ⟨L, h1, h2, h3⟩ := recs_in fic fic_len (fun c => FFits c ∧ inI c.id) Try.underlying22 (by kernel_rfl) (bts := 56) (by kernel_rfl) file_each2 hv h hl
  exact ⟨L, h1, ⟨fun c hc => (h2 c hc).1, h3⟩, fun c hc => (h2 c hc).2⟩
theorem files_cell2 {v1 : Value} {z : DataW H × List MemPlace} {n : Nat} (h : DataW.trod enc Try.prog W base spare held n 22 [v1] = some z) (hl : Light Try.prog 22 z.1) : ∃ L, Fs W (fun _ => True) v1 L ∧ MFits L ∧ ∀ c ∈ L, inI c.id := by
  obtain ⟨a, l, c, rfl⟩ := slice_val Try.underlying22 h
  exact files_in2 (v := .slice a l c) (d := z.1) (p := z.2) ⟨n, by simpa [Value.cells] using h⟩ ⟨_, _, _, rfl⟩ hl
theorem version_each2 (cs : List Value) (x : DataW H × List MemPlace) (n : Nat) (h : DataW.trod enc Try.prog W base spare held n 24 cs = some x) (hl : Light Try.prog 24 x.1) :
    ∃ (nx : Int) (vf : Value) (L : List Fl), cs = [.int .i64 nx, vf] ∧ Fs W (fun _ => True) vf L ∧ MFits L ∧ ∀ c ∈ L, inI c.id := by
  obtain ⟨xs, m, _, rfl, hlen, hxl, hfi⟩ := DataW.trod_struct Try.underlying24 h
  have hc : Try.prog.cellsOf 24 = 2 := by kernel_rfl
  match xs, hxl, cs, hlen.trans hc with
  | [y0, y1], _, [v0, v1], _ =>
    have k1 : Try.prog.cellsOf 3 = 1 := by kernel_rfl
    have k2 : Try.prog.cellsOf 22 = 1 := by kernel_rfl
    have g0 : DataW.trod enc Try.prog W base spare held m 3 (([v0, v1].drop 0).take (Try.prog.cellsOf 3)) = some y0 := hfi 0 _ rfl
    rw [k1] at g0
    replace g0 : DataW.trod enc Try.prog W base spare held m 3 [v0] = some y0 := g0
    have g1 : DataW.trod enc Try.prog W base spare held m 22 (([v0, v1].drop 1).take (Try.prog.cellsOf 22)) = some y1 := hfi 1 _ rfl
    rw [k2] at g1
    replace g1 : DataW.trod enc Try.prog W base spare held m 22 [v1] = some y1 := g1
    have l1 := Light.part (j := 1) Try.underlying24 hl rfl rfl
    obtain ⟨n0, q0, _, _⟩ := DataW.trod_int Try.underlying3 g0
    injection q0 with q0
    obtain ⟨L, a1, a2⟩ := files_cell2 g1 l1
    exact ⟨n0, v1, L, by rw [q0], a1, a2⟩
theorem version_in2 {r : Reach} {b0 : Nat} (h : DataW.Trod enc Try.prog W base spare held 24 v d p) (hv : Value.okWide Try.prog W r b0 24 v) (hl : Light Try.prog 24 d) :
    ∃ (nx : Int) (vf : Value) (L : List Fl), v = .agg #[.int .i64 nx, vf] ∧ Fs W (fun _ => True) vf L ∧ MFits L ∧ ∀ c ∈ L, inI c.id := by
  obtain ⟨cs, rfl, hsz⟩ := okWide_struct Try.underlying24 hv
  obtain ⟨fuel, hf⟩ := h
  obtain ⟨nx, vf, L, h1, h2⟩ := version_each2 _ _ _ hf hl
  have : cs = #[.int .i64 nx, vf] := by
    apply Array.toList_inj.1
    simpa [Value.cells] using h1
  exact ⟨nx, vf, L, by rw [this], h2⟩
end
section
variable {H : Type} {enc : TypeId × Value → H} {P : Program} {W : World} {base : Nat} {spare : Nat → Bool} {held : Bool} {v : Value} {d : DataW H} {p : List MemPlace} {t e : TypeId}
theorem is_in2 (ht : P.underlying t = some (.slice e)) (he : P.underlying e = some (.int .i64)) (hc : P.cellsOf e = 1) (hv : ∃ a len cap, v = .slice a len cap) (h : DataW.Trod enc P W base spare held t v d p) :
    ∃ l, Is W (fun _ => True) v l ∧ ∀ x ∈ l, inI x := by
  obtain ⟨a0, len0, cap0, rfl⟩ := hv
  obtain ⟨fuel, hf⟩ := h
  rcases open_ints ht he hc hf with ⟨hcs, _⟩ | ⟨x, l, c, zs, hcs, _, hl, hm, hz, _, hcell, hwz⟩
  · simp [Value.cells] at hcs
    obtain ⟨rfl, rfl, rfl⟩ := hcs
    exact ⟨[], Sl.nil _ _, fun x hx => by cases hx⟩
  · simp [Value.cells] at hcs
    obtain ⟨rfl, rfl, rfl⟩ := hcs
    have hzl : len0 ≤ zs.length := by split at hz <;> omega
    refine ⟨zs.take len0, ⟨x |> some, cap0, by simp; omega, by simp; omega, hm, by simp, fun k u hu => ⟨x, rfl, trivial, ?_⟩⟩, fun z hz => ?_⟩
    · rw [List.getElem?_map, List.getElem?_take] at hu
      split at hu
      · have hk2 : k < zs.length := by omega
        rw [List.getElem?_eq_getElem hk2] at hu
        simp only [Option.map_some, Option.some.injEq] at hu
        have h2 := hcell k hk2
        rw [List.getD_eq_getElem?_getD, List.getElem?_eq_getElem hk2, Option.getD_some] at h2
        rw [h2, ← hu]
      · simp at hu
    · have := hwz z (List.mem_of_mem_take hz)
      simpa [Lit.wf, IntKind.bits, IntKind.signed, IntKind.min, IntKind.max] using this
end
/-- What Change answers, whoever's way it goes: one number, one list, one error. -/
theorem ch_ans (nx : Int) (L : List Fl) (G : List Int) (B : List Fl) : ∃ (N : Int) (T : List Fl) (c : Int), ((c = 0 ∧ isV N T) ∨ c = 1) ∧ (T.Perm ((wo G L).1 ++ B) ∨ T = []) ∧
    ∀ e w', chAns nx L G B e w' → ∃ v', OwnF w' v' T ∧ e = .returned (.tuple #[.agg #[.int .i64 N, v'], .int .i64 c]) := by
  by_cases hc : chOk nx L G B
  case neg =>
    refine ⟨0, [], 1, .inr rfl, .inr rfl, fun e w' h => ?_⟩
    rcases h with ⟨S, v', h1, _⟩ | ⟨_, h2⟩
    · exact absurd h1 hc
    · exact ⟨_, OwnF.nil _, h2⟩
  have sM : Srt (wo G L).1 := by
    rw [wo_eq hc.1.ids hc.2.1.1]
    exact hc.1.srt.sublist List.filter_sublist
  obtain ⟨pT, sT⟩ := insD_all B (wo G L).1 sM
  by_cases hv : isV (nextF nx B) (B.foldl insD (wo G L).1)
  case pos =>
    refine ⟨nextF nx B, B.foldl insD (wo G L).1, 0, .inl ⟨rfl, hv⟩, .inl pT, fun e w' h => ?_⟩
    rcases h with ⟨S, v', _, p, s, _, o, h2⟩ | ⟨q | ⟨S, p, s, q⟩, _⟩
    · rw [srt_uniq hv s (p.trans pT.symm)] at o
      exact ⟨v', o, h2⟩
    · exact absurd hc q
    · exact absurd ((srt_same s sT (p.trans pT.symm)).2 hv) q
  · refine ⟨0, [], 1, .inr rfl, .inr rfl, fun e w' h => ?_⟩
    rcases h with ⟨S, v', _, p, s, q, _⟩ | ⟨_, h2⟩
    · exact absurd ((srt_same s sT (p.trans pT.symm)).1 q) hv
    · exact ⟨_, OwnF.nil _, h2⟩
end Go.Proofs.Ytmjkgibeljbloaa
