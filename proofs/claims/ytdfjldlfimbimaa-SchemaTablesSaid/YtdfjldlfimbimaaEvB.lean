/- maps from texts that are written out in the program: what stands in them; over any program. -/
import Derived.Test.YtdfjldlfimbimaaWords
import Derived.MapKept
namespace Go.Proofs.Ytdfjldlfimbimaa
open Go.RowKit
set_option maxRecDepth 100000

/-- What a table has at a text. -/
def lk (k : ByteArray) : List (ByteArray × Value) → Option Value
  | [] => none
  | p :: r => if (k == p.1) = true then some p.2 else lk k r
/-- Block b is a map with these rows. -/
def MpAt (w : World) (b : Nat) (D : List (ByteArray × Value)) : Prop :=
  ∃ (es : Array MapEntry) (clock : Nat), w.heap[b]? = some (.map es clock) ∧ es.toList.map (fun e => (e.key, e.val)) = D.map fun p => (Value.string p.1, p.2)
theorem find_at (k : ByteArray) : ∀ (D : List (ByteArray × Value)) (es : List MapEntry) (i : Nat), es.map (fun e => (e.key, e.val)) = D.map (fun p => (Value.string p.1, p.2)) →
    (lk k D = none → Instr.findNow .string (.string k) es i = some none) ∧ (∀ v, lk k D = some v → ∃ j, Instr.findNow .string (.string k) es i = some (some (j, v)))
  | [], [], i, _ => ⟨fun _ => rfl, fun v h => by cases h⟩
  | [], _ :: _, _, h => by simp at h
  | _ :: _, [], _, h => by simp at h
  | p :: D, e :: es, i, h => by
    simp only [List.map_cons, List.cons.injEq, Prod.mk.injEq] at h
    obtain ⟨⟨h1, h2⟩, h3⟩ := h
    have ih := find_at k D es (i + 1) h3
    unfold lk Instr.findNow
    rw [h1, h2]
    simp only [Instr.sameNow]
    cases hk : k == p.1 with
    | true => exact ⟨fun h => by simp at h, fun v h => ⟨i, by simp at h; rw [h]⟩⟩
    | false => exact ⟨fun h => ih.1 (by simpa using h), fun v h => ih.2 v (by simpa using h)⟩
theorem lk_app {k : ByteArray} {D E : List (ByteArray × Value)} : lk k (D ++ E) = (lk k D).or (lk k E) := by
  induction D with
  | nil => rfl
  | cons p D ih =>
    simp only [List.cons_append, lk]
    split
    · rfl
    · exact ih
section
variable {P : Program} {w : World} {t kt et : TypeId} {b : Nat} {D : List (ByteArray × Value)}
theorem MpAt.lt (h : MpAt w b D) : b < w.heap.size := by
  obtain ⟨es, c, h1, _⟩ := h
  exact lt_of_block h1
theorem MpAt.mod {F : Nat → Prop} {w' : World} (h : MpAt w b D) (hm : Mod F w w') (hn : ¬ F b) : MpAt w' b D := by
  obtain ⟨es, c, h1, h2⟩ := h
  exact ⟨es, c, (hm.block b (lt_of_block h1) hn).trans h1, h2⟩
theorem MpAt.new (w : World) : MpAt (w.alloc (.map #[] 0)) w.heap.size [] := ⟨#[], 0, heap_alloc_new w _, rfl⟩
theorem MpAt.run_new (h : MpAt w b D) (ht : P.underlying t = some (.map kt et)) (hk : P.underlying kt = some .string) {s : ByteArray} {v : Value} (hn : lk s D = none) :
    ∃ w', (Instr.mapUpdate t (.map (some b)) (.string s) v).run P w = .ok () w' ∧ MpAt w' b (D ++ [(s, v)]) ∧ Mod (fun k => k = b) w w' := by
  obtain ⟨es, c, h1, h2⟩ := h
  have h3 := (find_at s D es.toList 0 h2).1 hn
  refine ⟨{ w with heap := w.heap.setIfInBounds b (.map (es.push ⟨.string s, v, c⟩) (c + 1)) }, ?_, ⟨es.push ⟨.string s, v, c⟩, c + 1, (MapKept.heap_set h1).1, by simp [h2]⟩, ⟨rfl, rfl, rfl, by simp, fun k hk hn => (MapKept.heap_set h1).2 k hn⟩⟩
  simp [Instr.mapUpdate, run_underlying ht, MapKept.run_getObj_map h1, MapKept.run_checkKey hk (show MapKept.IsKey .string (.string s) from trivial), MapKept.run_findKey hk h3, MapKept.run_setObj_map _ h1, Result.andThen]
theorem MpAt.run_look (h : MpAt w b D) (ht : P.underlying t = some (.map kt et)) (hk : P.underlying kt = some .string) {z : Value} (hz : ∀ u : World, (zeroValue et).run P u = .ok z u) (s : ByteArray) :
    (Instr.lookup t (.map (some b)) (.string s) true).run P w = .ok (.tuple #[(lk s D).getD z, .bool (lk s D).isSome]) w := by
  obtain ⟨es, c, h1, h2⟩ := h
  have h3 := find_at s D es.toList 0 h2
  cases hl : lk s D with
  | none => simp [Instr.lookup, run_underlying ht, MapKept.run_getObj_map h1, MapKept.run_checkKey hk (show MapKept.IsKey .string (.string s) from trivial), MapKept.run_findKey hk (h3.1 hl), Result.andThen, hz]
  | some v =>
    obtain ⟨j, h4⟩ := h3.2 v hl
    simp [Instr.lookup, run_underlying ht, MapKept.run_getObj_map h1, MapKept.run_checkKey hk (show MapKept.IsKey .string (.string s) from trivial), MapKept.run_findKey hk h4, Result.andThen]
variable {ops : Array Oper} {rest : List Oper} {o : Oper} {a : Act} {Q : Exit → Act → World → Prop}
theorem wp_ins (h : MpAt w b D) (ht : P.underlying t = some (.map kt et)) (hk : P.underlying kt = some .string) {s : ByteArray} {v : Value} (hn : lk s D = none)
    (hgd : o.guard = none) (m x y : Operand) (ho : o.op = .insert t m x y) (hm : a.eval m = .map (some b)) (hx : a.eval x = .string s) (hy : a.eval y = v)
    (hQ : ∀ w', MpAt w' b (D ++ [(s, v)]) → Mod (fun k => k = b) w w' → wpList P ops Q rest (a.put o.dst undef) w') : wpList P ops Q (o :: rest) a w := by
  refine wpList_plain hgd fun K hK => ?_
  obtain ⟨w', hrun, h2, h3⟩ := h.run_new (P := P) ht hk (v := v) hn
  unfold Oper.wp
  simp [execOp, ho, hm, hx, hy, hrun, Result.andThen]
  exact hK _ _ (hQ w' h2 h3)
theorem wp_look (h : MpAt w b D) (ht : P.underlying t = some (.map kt et)) (hk : P.underlying kt = some .string) {z : Value} (hz : ∀ u : World, (zeroValue et).run P u = .ok z u) {s : ByteArray}
    (hgd : o.guard = none) (m x : Operand) (ho : o.op = .lookup t m x true) (hm : a.eval m = .map (some b)) (hx : a.eval x = .string s)
    (hQ : wpList P ops Q rest (a.put o.dst (.tuple #[(lk s D).getD z, .bool (lk s D).isSome])) w) : wpList P ops Q (o :: rest) a w := by
  refine wpList_plain hgd fun K hK => ?_
  have hrun := h.run_look (P := P) ht hk hz s
  unfold Oper.wp
  simp [execOp, ho, hm, hx, hrun, Result.andThen]
  exact hK _ _ hQ
end
end Go.Proofs.Ytdfjldlfimbimaa
