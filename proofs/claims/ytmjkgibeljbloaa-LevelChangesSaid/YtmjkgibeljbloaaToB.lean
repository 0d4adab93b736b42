/- A text as bytes: []byte(s); over any program. -/
import Derived.Test.YtmjkgibeljbloaaStrB
import Derived.Laws.IdiomStrings
namespace Go.Proofs.Ytmjkgibeljbloaa
open Go.RowKit
set_option maxRecDepth 100000

section
variable {P : Program} {w : World} {src dst e : TypeId} {ops : Array Oper} {rest : List Oper} {o : Oper} {a : Act} {Q : Exit → Act → World → Prop}
theorem run_tob (hs : P.underlying src = some .string) (hd : P.underlying dst = some (.slice e)) (he : P.underlying e = some (.int .u8)) (l : List UInt8) (hm : l.length ≤ maxLen) :
    ∃ c w', (convert src dst (sv l)).run P w = .ok (.slice (some ⟨w.heap.size, 0, none⟩) l.length c) w' ∧ Bs w' (fun k => k = w.heap.size) (.slice (some ⟨w.heap.size, 0, none⟩) l.length c) l ∧ Ext w w' ∧ w'.heap.size = w.heap.size + 1 := by
  have hsz : (⟨l.toArray⟩ : ByteArray).size = l.length := by
    show l.toArray.size = l.length
    simp
  have hrun := run_bytes_of_string (P := P) w src dst e ⟨l.toArray⟩ hs hd he
  have hge := grownCap_ge w (⟨l.toArray⟩ : ByteArray).size 0 e
  have hle := grownCap_le_maxLen w (⟨l.toArray⟩ : ByteArray).size 0 e (by rw [hsz]; exact hm)
  rw [hsz] at hrun hge hle
  generalize grownCap w l.length 0 e = c at *
  obtain ⟨fr, hfr⟩ : ∃ fr, fr = ((bytesRow ⟨l.toArray⟩ c).size, (bytesRow ⟨l.toArray⟩ c).size + 1) := ⟨_, rfl⟩
  rw [← hfr] at hrun
  refine ⟨c, _, hrun, ⟨some ⟨w.heap.size, 0, none⟩, c, by simp, by simpa using hge, hle, by simp, fun j u hu => ⟨_, rfl, rfl, ?_⟩⟩, ((Mod.refl _ w).drew).alloc _, by simp⟩
  rw [add_lit, cell_of_row (w.drew.alloc (.cells (bytesRow ⟨l.toArray⟩ c) e fr)) w.heap.size j _ e fr (heap_alloc_new w.drew _)]
  have hj : j < l.length := by
    have := (List.getElem?_eq_some_iff.1 hu).1
    simpa using this
  have hu2 : u = bv l[j] := by
    rw [List.getElem?_map, List.getElem?_eq_getElem hj] at hu
    exact (Option.some.inj hu).symm
  rw [hu2]
  simp [bytesRow, Array.getElem?_append, hj]
/-- []byte(s). -/
theorem wp_tob (hs : P.underlying src = some .string) (hd : P.underlying dst = some (.slice e)) (he : P.underlying e = some (.int .u8)) {l : List UInt8} (hm : l.length ≤ 1000000000)
    (hgd : o.guard = none) (s : Operand) (ho : o.op = .convert src dst s) (hv : a.eval s = sv l)
    (h : ∀ c w', Bs w' (fun k => k = w.heap.size) (.slice (some ⟨w.heap.size, 0, none⟩) l.length c) l → Ext w w' → w'.heap.size = w.heap.size + 1 → wpList P ops Q rest (a.put o.dst (.slice (some ⟨w.heap.size, 0, none⟩) l.length c)) w') : wpList P ops Q (o :: rest) a w := by
  refine wpList_plain hgd fun K hK => ?_
  obtain ⟨c, w', hrun, h2, h3, h4⟩ := run_tob (P := P) (w := w) hs hd he l (by simp only [maxLen]; omega)
  unfold Oper.wp execOp
  simp only [ho, hv, Sem.run_bind, Sem.run_pure, Result.andThen_ok, hrun]
  exact hK _ _ (h c w' h2 h3 h4)
end
end Go.Proofs.Ytmjkgibeljbloaa
