/- index: sets of texts; rows that rise, rows that are alike. -/
import Derived.Test.YtdfjldlfimbimaaIxB
import Derived.Maps.OwnOps
import Derived.Maps.OwnSet
import Derived.Maps.RangeWalk
import Derived.Sort.KeysCollected
import Derived.StringKeys
import Derived.Laws.Cover1
namespace Go.Proofs.Ytdfjldlfimbimaa
open Go.RowKit Go.Maps Go.WideMaps
set_option maxRecDepth 100000

theorem keyS : Keyed Try.prog 9 := string_keyed Try.underlying9
theorem zeroU (w : World) : (zeroValue 69).run Try.prog w = .ok (.agg #[]) w := by kernel_rfl
theorem run_makeMapN {P : Program} {t a b : TypeId} (ht : P.underlying t = some (.map a b)) (w : World) (k : IntKind) (n : Nat) : (Instr.makeMap t (some (.int k (n : Int)))).run P w = .ok (.map (some w.heap.size)) (w.alloc (.map #[] 0)) := by
  simp [Instr.makeMap, run_underlying ht, asInt, Result.andThen]
  rfl
abbrev SetU (w : World) (b n : Nat) (D : DataW Unit) : Prop := w.ownsMap Try.prog 9 unitElem b n D
theorem ownsMap_mod {H : Type} {P : Program} {k : TypeId} {R : Value → Option (DataW H × List MemPlace)} {w w' : World} {b n : Nat} {D : DataW H} {F : Nat → Prop} (h : w.ownsMap P k R b n D) (hm : Mod F w w') (hn : ¬ F b) : w'.ownsMap P k R b n D := by
  have hlt := h.lt
  obtain ⟨es, clock, hb, F, hs, hD⟩ := h
  exact ⟨es, clock, (hm.block b hlt hn).trans hb, F, hs, hD⟩
/-- It is the set of some texts. -/
def IsSet (D : DataW Unit) (L : Tx) : Prop := IsMap D ∧ ∀ x, has D (.string x) = decide (x ∈ L)
theorem isSet_none : IsSet (.map []) [] := ⟨isMap_empty, fun x => by simp [has_eq]⟩
theorem IsSet.put {D : DataW Unit} {L : Tx} (h : IsSet D L) (x : List UInt8) : IsSet (D.put (.string x) (.agg [])) (L ++ [x]) := by
  refine ⟨h.1.put _ _, fun y => ?_⟩
  by_cases e : y = x
  · subst e
    rw [has_put_same h.1 (k := .string y) trivial]
    simp
  · rw [has_put_other (fun e2 => e (by injection e2)), h.2]
    simp [e]
theorem keyOf_sv (l : List UInt8) (h : l.length ≤ 140737488351232) : keyOf Try.prog 9 (sv l) = some (.string l) := by
  have := keyOf_string_mk (P := Try.prog) Try.underlying9 (s := ⟨l.toArray⟩) (by rw [sv_sizeI]; simp only [maxLen]; omega)
  rw [this]

/-- v is a slice that reads as texts. -/
abbrev Ts (w : World) (S : Nat → Prop) (v : Value) (L : Tx) : Prop := Sl w S v (L.map sv)
def TFits (L : Tx) : Prop := ∀ l ∈ L, l.length ≤ 140737488351232

set_option maxHeartbeats 8000000 in
theorem texts14_any {w : World} {S S' : Nat → Prop} {v v' : Value} {L M : Tx} (h : Ts w S v L) (h' : Ts w S' v' M) :
    Calls Try.prog 7 #[v, v'] w fun e w' => e = .returned (.bool (decide (L = M))) ∧ Ext w w' := by
  obtain ⟨A, c, rfl, h1, h2, h3, h4⟩ := h.open_
  obtain ⟨B, d, rfl, j1, j2, j3, j4⟩ := h'.open_
  by_cases hl : L.length = M.length
  case neg =>
    have hb : ((L.length : Int) != (M.length : Int)) = true := by rw [bne_iff_ne]; omega
    go_enter Try.func7, Try.ntmps7
    go_wp2_with fail
    go_ret
    exact ⟨by rw [dfalseI (fun h => hl (by rw [h]))]; rfl, Mod.refl _ _⟩
  have hb : ((L.length : Int) != (M.length : Int)) = false := by rw [bne_eq_false_iff_eq]; omega
  replace hl := Lib.hid hl
  go_enter Try.func7, Try.ntmps7
  go_wp2_with fail
  go_loopw [5] (fun i wr => ∃ k : Nat, k ≤ L.length ∧ i = .int .i64 k ∧ Hid (L.take k = M.take k) ∧ Ext w wr) (fun i _ => L.length - (intOf i).toNat)
  case atStart => exact ⟨0, Nat.zero_le _, rfl, Lib.hid (by simp), Mod.refl _ _⟩
  case round =>
    obtain ⟨k, hk, rfl, hs, q3⟩ := hrel
    by_cases hlt : k < L.length
    case neg =>
      have hbl : decide ((k : Int) < (L.length : Int)) = false := dfalseI (by omega)
      have hres : L = M := by
        have := hs.out
        rwa [List.take_of_length_le (by omega), List.take_of_length_le (by have := hl.out; omega)] at this
      replace hres := Lib.hid hres
      go_wp2_with fail
      go_ret
      exact ⟨by rw [dtrueI hres.out]; rfl, q3⟩
    have hbl : decide ((k : Int) < (L.length : Int)) = true := dtrueI (by omega)
    have hlm : k < M.length := by have := hl.out; omega
    obtain ⟨ad, hA, hS, c0⟩ := (Cells.mod h4 q3 (fun _ _ _ h => h)).at_ hlt
    subst hA
    obtain ⟨bd, hB, hT, d0⟩ := (Cells.mod j4 q3 (fun _ _ _ h => h)).at_ hlm
    subst hB
    have hsn : L.take (k + 1) = M.take (k + 1) ↔ L[k] = M[k] := by
      rw [List.take_succ_eq_append_getElem hlt, List.take_succ_eq_append_getElem hlm, hs.out]
      exact ⟨fun h => List.singleton_inj.1 (List.append_cancel_left h), fun h => by rw [h]⟩
    have hno : L[k] ≠ M[k] → L ≠ M := fun hn he => hn (by subst he; rfl)
    have hi0 : (0 : Int) ≤ (k : Int) := by omega
    have hi1 : (k : Int) < (L.length : Int) := by omega
    have hi2 : (k : Int) < (M.length : Int) := by omega
    generalize L[k] = x at *
    generalize M[k] = y at *
    have hdw : ∀ m, Ext w (wr.drewN m) := fun m => q3.drewN m
    cases hxy : (x == y)
    case true =>
      have hs2 := Lib.hid (hsn.2 (by rw [beq_iff_eq] at hxy; exact hxy))
      clear hsn hno
      go_wp2_with fail
      go_quiet (fail)
      go_wp2_with fail
      exact ⟨⟨k + 1, by omega, by go_num, hs2, hdw _⟩, by simp [intOf] <;> omega⟩
    have hno2 := Lib.hid (hno (by rw [beq_eq_false_iff_ne] at hxy; exact hxy))
    clear hsn hno
    go_wp2_with fail
    go_quiet (fail)
    go_wp2_with fail
    go_ret
    exact ⟨by rw [dfalseI hno2.out]; rfl, hdw _⟩

theorem riseT_adj {L : Tx} (h : ∀ i (hi : i + 1 < L.length), Op.bytesLess (L[i]'(by omega)) L[i + 1] = true) : riseT L := by
  refine List.pairwise_iff_getElem.2 fun i j hi hj hij => ?_
  obtain ⟨d, rfl⟩ : ∃ d, j = i + 1 + d := ⟨j - i - 1, by omega⟩
  induction d with
  | zero => exact h i hj
  | succ d ih => exact less_trans _ _ _ (ih (by omega) (by omega)) (h (i + 1 + d) hj)
end Go.Proofs.Ytdfjldlfimbimaa
