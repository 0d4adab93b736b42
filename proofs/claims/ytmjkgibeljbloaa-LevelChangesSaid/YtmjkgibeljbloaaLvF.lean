/- level: the map of files by level and place. -/
import Derived.Test.YtmjkgibeljbloaaLvC
import Derived.Test.YtmjkgibeljbloaaLvE
import Derived.DeepKeys4
import Derived.Maps.OwnOps
import Derived.Maps.OwnSet
namespace Go.Proofs.Ytmjkgibeljbloaa
open Go.RowKit Go.Maps Go.WideMaps
set_option maxRecDepth 100000

theorem laid_ : laidOutB Try.prog = true := by kernel_rfl
theorem cellsA : Try.prog.cellsOf 94 = 2 := by kernel_rfl
theorem cellsI : Try.prog.cellsOf 3 = 1 := by kernel_rfl
theorem wideA : (match Try.prog.underlying 94 with | some (.array _ _) | some (.struct _) => true | _ => false) = true := by rw [Try.underlying94]
theorem keyAK : Keyed Try.prog 94 := Keyed.of_law (deep_law_laid laid_ (m := 2) (by omega) (of_decide_eq_true (by kernel_rfl)) (by kernel_rfl) wideA)
theorem ktA : Try.prog.keyType 94 = true := by kernel_rfl
def kA (l : Int) (i : Nat) : Lit := .string (keyBytes [.int .i64 l, .int .i64 (i : Int)])
def KFit (l : Int) (i : Nat) : Prop := 0 ≤ l ∧ l ≤ 100 ∧ i ≤ 1000000
theorem wfI {n : Int} (h0 : 0 ≤ n) (h1 : n ≤ 4611686018427387904) : (Lit.int .i64 n).wf = true := by
  show (decide (-9223372036854775808 ≤ n) && decide (n ≤ 9223372036854775807)) = true
  rw [decide_eq_true (by omega), decide_eq_true (by omega)]
  rfl
theorem key_a {l : Int} {i : Nat} (h : KFit l i) : keyOf Try.prog 94 (.agg #[.int .i64 l, .int .i64 (i : Int)]) = some (kA l i) := by
  obtain ⟨n, hn⟩ : ∃ n, Try.prog.types.size + 1 = n + 2 := ⟨Try.prog.types.size - 1, by
    have : 1 ≤ Try.prog.types.size := of_decide_eq_true (by kernel_rfl)
    omega⟩
  have hw := wfI h.1 (by have := h.2.1; omega)
  have hw2 := wfI (n := (i : Int)) (by omega) (by have := h.2.2; omega)
  unfold keyOf
  rw [Try.underlying94]
  simp only [hn]
  simp [show List.range 2 = [0, 1] from rfl, Value.formed, Try.underlying94, Try.underlying3, cellsA, cellsI, Program.keyLits, Value.cells, kA, ktA, hw, hw2]
theorem kA_inj {l l' : Int} {i i' : Nat} (ha : KFit l i) (hb : KFit l' i') (h : kA l i = kA l' i') : l = l' ∧ i = i' := by
  have h3 := keyAK.inj (key_a ha) (by rw [key_a hb, h])
  simp only [Value.agg.injEq, Array.mk.injEq, List.cons.injEq, Value.int.injEq, true_and, and_true] at h3
  exact ⟨h3.1, by have := h3.2; omega⟩

/-- How a file reads as a map's element. -/
def dF (c : Fl) : DataW Unit := .agg [.lit (.int .i64 c.id), .lit (.int .i64 c.lev), .lit (.int .i64 c.size), .lit (.string c.first), .lit (.string c.last)]
theorem fia_inj {a b : Fl} (h : (Value.agg (fia a)) = .agg (fia b)) : a = b := by
  obtain ⟨i, l, z, x, y⟩ := a
  obtain ⟨i', l', z', x', y'⟩ := b
  simp only [Value.agg.injEq, Array.mk.injEq, List.cons.injEq, Value.int.injEq, true_and, and_true, sv, Value.string.injEq, ByteArray.mk.injEq] at h
  obtain ⟨rfl, rfl, rfl, rfl, rfl⟩ := h
  rfl
theorem dF_inj {a b : Fl} (h : dF a = dF b) : a = b := by
  obtain ⟨i, l, z, x, y⟩ := a
  obtain ⟨i', l', z', x', y'⟩ := b
  simp only [dF, DataW.agg.injEq, List.cons.injEq, DataW.lit.injEq, Lit.int.injEq, Lit.string.injEq, true_and, and_true] at h
  obtain ⟨rfl, rfl, rfl, rfl, rfl⟩ := h
  rfl
open Classical in
noncomputable def filE (v : Value) : Option (DataW Unit × List MemPlace) := if h : ∃ c, v = .agg (fia c) then some (dF h.choose, []) else none
theorem filE_mk (c : Fl) : filE (.agg (fia c)) = some (dF c, []) := by
  have h : ∃ d, (Value.agg (fia c)) = .agg (fia d) := ⟨c, rfl⟩
  unfold filE
  rw [dif_pos h, ← fia_inj h.choose_spec]
theorem filE_inj {v : Value} {c : Fl} {ps : List MemPlace} (h : filE v = some (dF c, ps)) : v = .agg (fia c) := by
  unfold filE at h
  split at h
  · rename_i h2
    injection h with h
    injection h with h _
    rw [h2.choose_spec, dF_inj h]
  · cases h
theorem zeroF (w : World) : (zeroValue 48).run Try.prog w = .ok (.agg (fia ⟨0, 0, 0, [], []⟩)) w := by kernel_rfl
theorem zeroI (w : World) : (zeroValue 3).run Try.prog w = .ok (.int .i64 0) w := by kernel_rfl
def f0 : Fl := ⟨0, 0, 0, [], []⟩
/-- The files of a level. -/
abbrev levF (l : Int) (L : List Fl) : List Fl := L.filter (atL l)
abbrev MapF (w : World) (b n : Nat) (D : DataW Unit) : Prop := w.ownsMap Try.prog 94 filE b n D
abbrev MapI (w : World) (b n : Nat) (D : DataW Unit) : Prop := w.ownsMap Try.prog 3 (plainElem Try.prog 3) b n D
/-- The map tells each level's files by place. -/
structure SpOk (D : DataW Unit) (L : List Fl) : Prop where
  isMap : IsMap D
  has : ∀ l i, KFit l i → has D (kA l i) = decide (i < (levF l L).length)
  at_ : ∀ l i (hi : i < (levF l L).length), KFit l i → D.atKey (kA l i) (dF f0) = dF (levF l L)[i]
theorem spOk_none : SpOk (.map []) [] := ⟨isMap_empty, fun l i _ => by simp [has_eq, levF], fun l i hi => by simp [levF] at hi⟩
theorem levF_snoc (l : Int) (L : List Fl) (x : Fl) : levF l (L ++ [x]) = if x.lev = l then levF l L ++ [x] else levF l L := by
  unfold levF
  rw [List.filter_append, List.filter_cons]
  unfold atL
  by_cases h : x.lev = l
  · simp [h]
  · simp [h]
theorem SpOk.put {D : DataW Unit} {L : List Fl} (h : SpOk D L) {x : Fl} (hx : 0 ≤ x.lev ∧ x.lev ≤ 100) (hl : L.length ≤ 100000) : SpOk (D.put (kA x.lev (levF x.lev L).length) (dF x)) (L ++ [x]) := by
  have hfl : ∀ l, (levF l L).length ≤ 100000 := fun l => Nat.le_trans (List.length_filter_le _ _) hl
  have hkf : KFit x.lev (levF x.lev L).length := ⟨hx.1, hx.2, by have := hfl x.lev; omega⟩
  refine ⟨h.isMap.put _ _, fun l i hk => ?_, fun l i hi hk => ?_⟩
  · by_cases e : x.lev = l ∧ (levF x.lev L).length = i
    · obtain ⟨rfl, rfl⟩ := e
      rw [has_put_same h.isMap (keyAK.key (key_a hkf)), levF_snoc, if_pos rfl]
      simp
    · rw [has_put_other (fun e2 => e (by obtain ⟨a, b⟩ := kA_inj hkf hk e2.symm; exact ⟨a, b⟩)), h.has l i hk, levF_snoc]
      split
      · rename_i e1
        subst e1
        rw [decide_eq_decide, List.length_append, List.length_singleton]
        have : (levF x.lev L).length ≠ i := fun e2 => e ⟨rfl, e2⟩
        omega
      · rfl
  · have hsn := levF_snoc l L x
    by_cases e : x.lev = l ∧ (levF x.lev L).length = i
    · obtain ⟨rfl, rfl⟩ := e
      rw [atKey_put_same h.isMap (keyAK.key (key_a hkf))]
      rw [if_pos rfl] at hsn
      simp [hsn]
    · rw [atKey_put_other (fun e2 => e (by obtain ⟨a, b⟩ := kA_inj hkf hk e2.symm; exact ⟨a, b⟩))]
      by_cases e1 : x.lev = l
      · subst e1
        have hne : (levF x.lev L).length ≠ i := fun e2 => e ⟨rfl, e2⟩
        rw [if_pos rfl] at hsn
        have hi2 : i < (levF x.lev L).length := by rw [hsn, List.length_append, List.length_singleton] at hi; omega
        rw [h.at_ x.lev i hi2 hk]
        simp [hsn, List.getElem_append_left hi2]
      · rw [if_neg e1] at hsn
        have hi2 : i < (levF l L).length := by rw [hsn] at hi; exact hi
        rw [h.at_ l i hi2 hk]
        simp [hsn]
/-- The map counts each level's files. -/
def CtOk (D : DataW Unit) (L : List Fl) : Prop := IsMap D ∧ ∀ l : Int, D.atKey (.int .i64 l) (.lit (.int .i64 0)) = .lit (.int .i64 (levF l L).length)
theorem ctOk_none : CtOk (.map []) [] := ⟨isMap_empty, fun l => rfl⟩
theorem CtOk.put {D : DataW Unit} {L : List Fl} (h : CtOk D L) (x : Fl) : CtOk (D.put (.int .i64 x.lev) (.lit (.int .i64 (((levF x.lev L).length : Int) + 1)))) (L ++ [x]) := by
  refine ⟨h.1.put _ _, fun l => ?_⟩
  rw [levF_snoc]
  by_cases e : x.lev = l
  · subst e
    rw [if_pos rfl, atKey_put_same h.1 (k := .int .i64 x.lev) trivial, List.length_append, List.length_singleton, Int.natCast_add]
    rfl
  · rw [if_neg e, atKey_put_other (fun e2 => e (by injection e2 with _ e2; exact e2.symm))]
    exact h.2 l
section
variable {P : Program} {ops : Array Oper} {rest : List Oper} {o : Oper} {a : Act} {Q : Exit → Act → World → Prop} {w : World}
/-- A look for a file by level and place. -/
theorem wp_look_yes {L : List Fl} {D : DataW Unit} {b n : Nat} (hM : MapF w b n D) (hD : SpOk D L) {l : Int} {i : Nat} (hk : KFit l i) {x : Fl} (hx : (levF l L)[i]? = some x)
    (hg : o.guard = none) (m y : Operand) (hop : o.op = Op.lookup 61 m y true) (hm : a.eval m = .map (some b)) (hy : a.eval y = .agg #[.int .i64 l, .int .i64 (i : Int)])
    (hK : wpList Try.prog ops Q rest (a.put o.dst (.tuple #[.agg (fia x), .bool true])) w) : wpList Try.prog ops Q (o :: rest) a w := by
  obtain ⟨hi, rfl⟩ := List.getElem?_eq_some_iff.1 hx
  refine wpList_lookup_own_ok w hg m y 61 hop 94 48 keyAK Try.underlying61 filE (zeroF w) (dF f0) [] (filE_mk f0) b n D hm hM _ _ hy (key_a hk) fun v ps hv => ?_
  rw [hD.at_ l i hi hk] at hv
  rw [filE_inj hv, hD.has l i hk, decide_eq_true hi]
  exact hK
theorem wp_look_no {L : List Fl} {D : DataW Unit} {b n : Nat} (hM : MapF w b n D) (hD : SpOk D L) {l : Int} {i : Nat} (hk : KFit l i) (hx : (levF l L).length ≤ i)
    (hg : o.guard = none) (m y : Operand) (hop : o.op = Op.lookup 61 m y true) (hm : a.eval m = .map (some b)) (hy : a.eval y = .agg #[.int .i64 l, .int .i64 (i : Int)])
    (hK : wpList Try.prog ops Q rest (a.put o.dst (.tuple #[.agg (fia f0), .bool false])) w) : wpList Try.prog ops Q (o :: rest) a w := by
  have hh := hD.has l i hk
  rw [decide_eq_false (by omega)] at hh
  refine wpList_lookup_own_ok w hg m y 61 hop 94 48 keyAK Try.underlying61 filE (zeroF w) (dF f0) [] (filE_mk f0) b n D hm hM _ _ hy (key_a hk) fun v ps hv => ?_
  rw [atKey_of_not_has hh] at hv
  rw [filE_inj hv, hh]
  exact hK
end
end Go.Proofs.Ytmjkgibeljbloaa
