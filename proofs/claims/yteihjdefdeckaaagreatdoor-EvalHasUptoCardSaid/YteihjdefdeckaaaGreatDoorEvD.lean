/- maps from texts that are written out in the program: what stands in them; over any program. -/
import Derived.Test.YteihjdefdeckaaaGreatDoorWords
import Derived.MapKept
import Derived.Test.YteihjdefdeckaaaGreatDoorDnE
namespace Go.Proofs.YteihjdefdeckaaaGreatDoor
open Go.RowKit
set_option maxRecDepth 100000

/-- What a table has at a text. -/
def lk (k : ByteArray) : List (ByteArray × Value) → Option Value
  | [] => none
  | p :: r => if (k == p.1) = true then some p.2 else lk k r
/-- Block b is a map with these rows. -/
def MpAt (w : World) (b : Nat) (D : List (ByteArray × Value)) : Prop :=
  ∃ (es : Array MapEntry) (clock : Nat), w.heap[b]? = some (.map es clock) ∧ es.toList.map (fun e => (e.key, e.val)) = D.map fun p => (Value.string p.1, p.2)
theorem find_at (k : ByteArray) : ∀ (D : List (ByteArray × Value)) (es : List MapEntry) (i : Nat), es.map (fun e => (e.key, e.val)) = D.map (fun p => (Value.string p.1, p.2)) →
    (lk k D = none → Instr.findNow .string (.string k) es i = some none) ∧ (∀ v, lk k D = some v → ∃ j, Instr.findNow .string (.string k) es i = some (some (j, v)))
  | [], [], i, _ => ⟨fun _ => rfl, fun v h => by cases h⟩
  | [], _ :: _, _, h => by simp at h
  | _ :: _, [], _, h => by simp at h
  | p :: D, e :: es, i, h => by
    simp only [List.map_cons, List.cons.injEq, Prod.mk.injEq] at h
    obtain ⟨⟨h1, h2⟩, h3⟩ := h
    have ih := find_at k D es (i + 1) h3
    unfold lk Instr.findNow
    rw [h1, h2]
    simp only [Instr.sameNow]
    cases hk : k == p.1 with
    | true => exact ⟨fun h => by simp at h, fun v h => ⟨i, by simp at h; rw [h]⟩⟩
    | false => exact ⟨fun h => ih.1 (by simpa using h), fun v h => ih.2 v (by simpa using h)⟩
theorem lk_app {k : ByteArray} {D E : List (ByteArray × Value)} : lk k (D ++ E) = (lk k D).or (lk k E) := by
  induction D with
  | nil => rfl
  | cons p D ih =>
    simp only [List.cons_append, lk]
    split
    · rfl
    · exact ih
section
variable {P : Program} {w : World} {t kt et : TypeId} {b : Nat} {D : List (ByteArray × Value)}
theorem MpAt.lt (h : MpAt w b D) : b < w.heap.size := by
  obtain ⟨es, c, h1, _⟩ := h
  exact lt_of_block h1
theorem MpAt.mod {F : Nat → Prop} {w' : World} (h : MpAt w b D) (hm : Mod F w w') (hn : ¬ F b) : MpAt w' b D := by
  obtain ⟨es, c, h1, h2⟩ := h
  exact ⟨es, c, (hm.block b (lt_of_block h1) hn).trans h1, h2⟩
theorem MpAt.new (w : World) : MpAt (w.alloc (.map #[] 0)) w.heap.size [] := ⟨#[], 0, heap_alloc_new w _, rfl⟩
theorem MpAt.run_new (h : MpAt w b D) (ht : P.underlying t = some (.map kt et)) (hk : P.underlying kt = some .string) {s : ByteArray} {v : Value} (hn : lk s D = none) :
    ∃ w', (Instr.mapUpdate t (.map (some b)) (.string s) v).run P w = .ok () w' ∧ MpAt w' b (D ++ [(s, v)]) ∧ Mod (fun k => k = b) w w' := by
  obtain ⟨es, c, h1, h2⟩ := h
  have h3 := (find_at s D es.toList 0 h2).1 hn
  refine ⟨{ w with heap := w.heap.setIfInBounds b (.map (es.push ⟨.string s, v, c⟩) (c + 1)) }, ?_, ⟨es.push ⟨.string s, v, c⟩, c + 1, (MapKept.heap_set h1).1, by simp [h2]⟩, ⟨rfl, rfl, rfl, by simp, fun k hk hn => (MapKept.heap_set h1).2 k hn⟩⟩
  simp [Instr.mapUpdate, run_underlying ht, MapKept.run_getObj_map h1, MapKept.run_checkKey hk (show MapKept.IsKey .string (.string s) from trivial), MapKept.run_findKey hk h3, MapKept.run_setObj_map _ h1, Result.andThen]
theorem MpAt.run_look (h : MpAt w b D) (ht : P.underlying t = some (.map kt et)) (hk : P.underlying kt = some .string) {z : Value} (hz : ∀ u : World, (zeroValue et).run P u = .ok z u) (s : ByteArray) :
    (Instr.lookup t (.map (some b)) (.string s) true).run P w = .ok (.tuple #[(lk s D).getD z, .bool (lk s D).isSome]) w := by
  obtain ⟨es, c, h1, h2⟩ := h
  have h3 := find_at s D es.toList 0 h2
  cases hl : lk s D with
  | none => simp [Instr.lookup, run_underlying ht, MapKept.run_getObj_map h1, MapKept.run_checkKey hk (show MapKept.IsKey .string (.string s) from trivial), MapKept.run_findKey hk (h3.1 hl), Result.andThen, hz]
  | some v =>
    obtain ⟨j, h4⟩ := h3.2 v hl
    simp [Instr.lookup, run_underlying ht, MapKept.run_getObj_map h1, MapKept.run_checkKey hk (show MapKept.IsKey .string (.string s) from trivial), MapKept.run_findKey hk h4, Result.andThen]
variable {ops : Array Oper} {rest : List Oper} {o : Oper} {a : Act} {Q : Exit → Act → World → Prop}
theorem wp_ins (h : MpAt w b D) (ht : P.underlying t = some (.map kt et)) (hk : P.underlying kt = some .string) {s : ByteArray} {v : Value} (hn : lk s D = none)
    (hgd : o.guard = none) (m x y : Operand) (ho : o.op = .insert t m x y) (hm : a.eval m = .map (some b)) (hx : a.eval x = .string s) (hy : a.eval y = v)
    (hQ : ∀ w', MpAt w' b (D ++ [(s, v)]) → Mod (fun k => k = b) w w' → wpList P ops Q rest (a.put o.dst undef) w') : wpList P ops Q (o :: rest) a w := by
  refine wpList_plain hgd fun K hK => ?_
  obtain ⟨w', hrun, h2, h3⟩ := h.run_new (P := P) ht hk (v := v) hn
  unfold Oper.wp
  simp [execOp, ho, hm, hx, hy, hrun, Result.andThen]
  exact hK _ _ (hQ w' h2 h3)
theorem wp_look (h : MpAt w b D) (ht : P.underlying t = some (.map kt et)) (hk : P.underlying kt = some .string) {z : Value} (hz : ∀ u : World, (zeroValue et).run P u = .ok z u) {s : ByteArray}
    (hgd : o.guard = none) (m x : Operand) (ho : o.op = .lookup t m x true) (hm : a.eval m = .map (some b)) (hx : a.eval x = .string s)
    (hQ : wpList P ops Q rest (a.put o.dst (.tuple #[(lk s D).getD z, .bool (lk s D).isSome])) w) : wpList P ops Q (o :: rest) a w := by
  refine wpList_plain hgd fun K hK => ?_
  have hrun := h.run_look (P := P) ht hk hz s
  unfold Oper.wp
  simp [execOp, ho, hm, hx, hrun, Result.andThen]
  exact hK _ _ hQ
end
end Go.Proofs.YteihjdefdeckaaaGreatDoor
namespace Go.Proofs.YteihjdefdeckaaaGreatDoor
open Go.RowKit
set_option maxRecDepth 100000
def tyD : List (ByteArray × Value) := [(⟨#[111, 98, 106, 101, 99, 116, 99, 108, 97, 115, 115]⟩, .agg #[.int .i64 1, .bool false]),
  (⟨#[99, 110]⟩, .agg #[.int .i64 1, .bool false]),
  (⟨#[115, 110]⟩, .agg #[.int .i64 1, .bool false]),
  (⟨#[111, 117]⟩, .agg #[.int .i64 1, .bool false]),
  (⟨#[111]⟩, .agg #[.int .i64 1, .bool false]),
  (⟨#[100, 99]⟩, .agg #[.int .i64 1, .bool false]),
  (⟨#[117, 105, 100]⟩, .agg #[.int .i64 1, .bool false]),
  (⟨#[109, 97, 105, 108]⟩, .agg #[.int .i64 1, .bool false]),
  (⟨#[100, 101, 115, 99, 114, 105, 112, 116, 105, 111, 110]⟩, .agg #[.int .i64 1, .bool false]),
  (⟨#[116, 105, 116, 108, 101]⟩, .agg #[.int .i64 1, .bool false]),
  (⟨#[108]⟩, .agg #[.int .i64 1, .bool false]),
  (⟨#[116, 101, 108, 101, 112, 104, 111, 110, 101, 110, 117, 109, 98, 101, 114]⟩, .agg #[.int .i64 5, .bool false]),
  (⟨#[117, 105, 100, 110, 117, 109, 98, 101, 114]⟩, .agg #[.int .i64 2, .bool true]),
  (⟨#[103, 105, 100, 110, 117, 109, 98, 101, 114]⟩, .agg #[.int .i64 2, .bool true]),
  (⟨#[109, 101, 109, 98, 101, 114]⟩, .agg #[.int .i64 3, .bool false]),
  (⟨#[109, 97, 110, 97, 103, 101, 114]⟩, .agg #[.int .i64 3, .bool false]),
  (⟨#[115, 101, 101, 97, 108, 115, 111]⟩, .agg #[.int .i64 3, .bool false]),
  (⟨#[117, 115, 101, 114, 112, 97, 115, 115, 119, 111, 114, 100]⟩, .agg #[.int .i64 4, .bool false]),
  (⟨#[100, 105, 115, 112, 108, 97, 121, 110, 97, 109, 101]⟩, .agg #[.int .i64 1, .bool true])]
/-- The table while it is filled, beside the three kinds that it is filled with. -/
structure TkE (w0 w : World) (g : Nat) (D : List (ByteArray × Value)) : Prop where
  m : MpAt w (g + 1 + 1 + 1) D
  c10 : w.cell? ⟨g, 0, none⟩ = some (.int .i64 1)
  c11 : w.cell? ⟨g, 1, none⟩ = some (.bool false)
  c20 : w.cell? ⟨g + 1, 0, none⟩ = some (.int .i64 2)
  c21 : w.cell? ⟨g + 1, 1, none⟩ = some (.bool true)
  c30 : w.cell? ⟨g + 1 + 1, 0, none⟩ = some (.int .i64 3)
  c31 : w.cell? ⟨g + 1 + 1, 1, none⟩ = some (.bool false)
  x : Mod (fun k => k = g + 1 + 1 + 1) w0 w
theorem TkE.next {w0 w w' : World} {g : Nat} {D E : List (ByteArray × Value)} (h : TkE w0 w g D) (hM : MpAt w' (g + 1 + 1 + 1) E) (hm : Mod (fun k => k = g + 1 + 1 + 1) w w') : TkE w0 w' g E := by
  have hl := h.m.lt
  refine ⟨hM, ?_, ?_, ?_, ?_, ?_, ?_, h.x.then_ hm fun _ _ h => h⟩
  · rw [hm.cell (by show g < _; omega) (by show ¬ g = _; omega)]; exact h.c10
  · rw [hm.cell (by show g < _; omega) (by show ¬ g = _; omega)]; exact h.c11
  · rw [hm.cell (by show g + 1 < _; omega) (by show ¬ g + 1 = _; omega)]; exact h.c20
  · rw [hm.cell (by show g + 1 < _; omega) (by show ¬ g + 1 = _; omega)]; exact h.c21
  · rw [hm.cell (by show g + 1 + 1 < _; omega) (by show ¬ g + 1 + 1 = _; omega)]; exact h.c30
  · rw [hm.cell (by show g + 1 + 1 < _; omega) (by show ¬ g + 1 + 1 = _; omega)]; exact h.c31
section
variable {w : World}
set_option maxHeartbeats 4000000 in
theorem types_any : Calls Tryz.prog 38 #[] w fun e w' => ∃ b, e = .returned (.map (some b)) ∧ w.heap.size ≤ b ∧ MpAt w' b tyD ∧ Ext w w' := by
  have hmm := @run_makeMap Tryz.prog
  have hT0 : TkE ((((w.alloc (.cells #[.int .i64 1, .bool false] 56)).alloc (.cells #[.int .i64 2, .bool true] 56)).alloc (.cells #[.int .i64 3, .bool false] 56)).alloc (.map #[] 0)) ((((w.alloc (.cells #[.int .i64 1, .bool false] 56)).alloc (.cells #[.int .i64 2, .bool true] 56)).alloc (.cells #[.int .i64 3, .bool false] 56)).alloc (.map #[] 0)) w.heap.size [] := by
    obtain ⟨a, ha⟩ : ∃ a, a = w.alloc (.cells #[.int .i64 1, .bool false] 56) := ⟨_, rfl⟩
    have b1 : Blk a w.heap.size 56 #[.int .i64 1, .bool false] := by rw [ha]; exact Blk.new w _ _
    have s1 : a.heap.size = w.heap.size + 1 := by rw [ha]; simp
    rw [← ha]
    obtain ⟨c, hc⟩ : ∃ c, c = a.alloc (.cells #[.int .i64 2, .bool true] 56) := ⟨_, rfl⟩
    have b2' : Blk c (w.heap.size + 1) 56 #[.int .i64 2, .bool true] := by rw [hc, ← s1]; exact Blk.new a _ _
    have b1c : Blk c w.heap.size 56 #[.int .i64 1, .bool false] := by rw [hc]; exact b1.alloc _
    have s2 : c.heap.size = w.heap.size + 1 + 1 := by rw [hc, ← s1]; simp
    rw [← hc]
    obtain ⟨d, hd⟩ : ∃ d, d = c.alloc (.cells #[.int .i64 3, .bool false] 56) := ⟨_, rfl⟩
    have b3' : Blk d (w.heap.size + 1 + 1) 56 #[.int .i64 3, .bool false] := by rw [hd, ← s2]; exact Blk.new c _ _
    have b1d : Blk d w.heap.size 56 #[.int .i64 1, .bool false] := by rw [hd]; exact b1c.alloc _
    have b2d : Blk d (w.heap.size + 1) 56 #[.int .i64 2, .bool true] := by rw [hd]; exact b2'.alloc _
    have s3 : d.heap.size = w.heap.size + 1 + 1 + 1 := by rw [hd, ← s2]; simp
    rw [← hd]
    have hm0 := MpAt.new d
    rw [s3] at hm0
    refine ⟨hm0, (b1d.alloc _).cell 0, (b1d.alloc _).cell 1, (b2d.alloc _).cell 0, (b2d.alloc _).cell 1, (b3'.alloc _).cell 0, (b3'.alloc _).cell 1, Mod.refl _ _⟩
  have hx0 : Ext w ((((w.alloc (.cells #[.int .i64 1, .bool false] 56)).alloc (.cells #[.int .i64 2, .bool true] 56)).alloc (.cells #[.int .i64 3, .bool false] 56)).alloc (.map #[] 0)) := (((Mod.refl _ w).alloc _).alloc _).alloc _ |>.alloc _
  replace hx0 := Lib.hid hx0
  go_enter Tryz.func38, Tryz.ntmps38
  go_wp2_with ((with_reducible show wpList _ _ _ (⟨none, Op.insert _ _ _ _, _, _, _, _⟩ :: _) _ _); refine wp_ins hT0.m Tryz.underlying58 Tryz.underlying9 (by kernel_rfl) rfl _ _ _ rfl rfl rfl rfl ?_; intro w1 hM hm; replace hT0 := hT0.next hM hm; have c10 := hT0.c10; have c11 := hT0.c11; have c20 := hT0.c20; have c21 := hT0.c21; have c30 := hT0.c30; have c31 := hT0.c31; clear hM hm)
  go_ret
  exact ⟨_, rfl, by omega, hT0.m, Mod.trans hx0.out hT0.x (fun _ _ h => h) fun k hk h => by omega⟩
end
end Go.Proofs.YteihjdefdeckaaaGreatDoor
namespace Go.Proofs.YteihjdefdeckaaaGreatDoor
open Go.RowKit
set_option maxRecDepth 100000
theorem results_tmp4 {fn : Func} {t u v x : Tmp} (h : fn.results = #[.tmp t, .tmp u, .tmp v, .tmp x]) (tmps : Array Value) (P : Program) (w : World) :
    (results fn tmps).run P w = .ok (.tuple #[tmps.getD t undef, tmps.getD u undef, tmps.getD v undef, tmps.getD x undef]) w := by
  simp [results, h]
section
variable {w : World}
set_option maxHeartbeats 2000000 in
theorem stype_no {s : List UInt8} (hs : s.length ≤ 140737488351232) (h : lk ⟨(foldB s).toArray⟩ tyD = none) :
    Calls Tryz.prog 19 #[sv s] w fun e w' => e = .returned (.tuple #[.string ⟨#[]⟩, .int .i64 0, .bool false, .bool false]) ∧ Ext w w' := by
  have hf := fold_any (w := w) s hs
  have ht := fun wx : World => types_any (w := wx)
  go_enter Tryz.func19, Tryz.ntmps19
  go_wp2_with fail
  refine hf.mono ?_
  rintro e w1 ⟨rfl, x1⟩
  clear hf
  go_wp2_with fail
  refine (ht w1).mono ?_
  rintro e w2 ⟨b, rfl, hb, hM, x2⟩
  clear ht
  go_wp2_with ((with_reducible show wpList _ _ _ (⟨_, Op.lookup _ _ _ _, _, _, _, _⟩ :: _) _ _); refine wp_look hM Tryz.underlying58 Tryz.underlying9 Tryz.zeroValue56 rfl _ _ rfl rfl rfl ?_; rw [h]; simp only [Option.getD, Option.isSome])
  refine bodyPost_ret (results_tmp4 rfl _ _ _) rfl ?_
  exact ⟨rfl, ext_trans x1 (x2.alloc _)⟩
set_option maxHeartbeats 2000000 in
theorem stype_yes {s : List UInt8} {n : Int} {q : Bool} (hs : s.length ≤ 140737488351232) (h : lk ⟨(foldB s).toArray⟩ tyD = some (.agg #[.int .i64 n, .bool q])) :
    Calls Tryz.prog 19 #[sv s] w fun e w' => e = .returned (.tuple #[sv (foldB s), .int .i64 n, .bool q, .bool true]) ∧ Ext w w' := by
  have hf := fold_any (w := w) s hs
  have ht := fun wx : World => types_any (w := wx)
  go_enter Tryz.func19, Tryz.ntmps19
  go_wp2_with fail
  refine hf.mono ?_
  rintro e w1 ⟨rfl, x1⟩
  clear hf
  go_wp2_with fail
  refine (ht w1).mono ?_
  rintro e w2 ⟨b, rfl, hb, hM, x2⟩
  clear ht
  go_wp2_with ((with_reducible show wpList _ _ _ (⟨_, Op.lookup _ _ _ _, _, _, _, _⟩ :: _) _ _); refine wp_look hM Tryz.underlying58 Tryz.underlying9 Tryz.zeroValue56 rfl _ _ rfl rfl rfl ?_; rw [h]; simp only [Option.getD, Option.isSome])
  go_quiet (fail)
  go_wp2_with fail
  refine bodyPost_ret (results_tmp4 rfl _ _ _) rfl ?_
  exact ⟨rfl, (ext_trans x1 (x2.alloc _)).drewN _⟩
end
end Go.Proofs.YteihjdefdeckaaaGreatDoor
