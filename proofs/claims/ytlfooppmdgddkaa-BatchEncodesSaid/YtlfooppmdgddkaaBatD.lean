/- batch: the map of last rows; the cells sorted. -/
import Derived.Test.YtlfooppmdgddkaaBatB
import Derived.Test.YtlfooppmdgddkaaSortR
import Derived.Shelf.SlSortCmp.Insertion
import Derived.Maps.OwnOps
import Derived.Maps.OwnSet
import Derived.Maps.StringElems
import Derived.StringKeys
import Derived.WalkArith
namespace Go.Proofs.Ytlfooppmdgddkaa
open Go.RowKit Go.Maps Go.Shelf Go.WideMaps
set_option maxRecDepth 100000

theorem keyS : Keyed Try.prog 9 := string_keyed Try.underlying9
theorem zeroI (w : World) : (zeroValue 3).run Try.prog w = .ok (.int .i64 0) w := by kernel_rfl
theorem run_makeMapN {P : Program} {t a b : TypeId} (ht : P.underlying t = some (.map a b)) (w : World) (k : IntKind) (n : Nat) : (Instr.makeMap t (some (.int k (n : Int)))).run P w = .ok (.map (some w.heap.size)) (w.alloc (.map #[] 0)) := by
  simp [Instr.makeMap, run_underlying ht, asInt, Result.andThen]
  rfl
abbrev MapI (w : World) (b n : Nat) (D : DataW Unit) : Prop := w.ownsMap Try.prog 9 (plainElem Try.prog 3) b n D
theorem ownsMap_mod {H : Type} {P : Program} {k : TypeId} {R : Value → Option (DataW H × List MemPlace)} {w w' : World} {b n : Nat} {D : DataW H} {F : Nat → Prop} (h : w.ownsMap P k R b n D) (hm : Mod F w w') (hn : ¬ F b) : w'.ownsMap P k R b n D := by
  have hlt := h.lt
  obtain ⟨es, clock, hb, F, hs, hD⟩ := h
  exact ⟨es, clock, (hm.block b hlt hn).trans hb, F, hs, hD⟩
theorem own_ne_map {H : Type} {P : Program} {kt : TypeId} {R : Value → Option (DataW H × List MemPlace)} {w : World} {b n k : Nat} {D : DataW H} {α : Type} {f : α → List Value} {e : TypeId} {v : Value} {L : List α} (h : OwnR f k w e v L) (hm : w.ownsMap P kt R b n D) : ¬ own v b := by
  intro ho
  obtain ⟨es, clock, hb, _⟩ := hm
  rcases h.2 with ⟨rfl, _⟩ | ⟨g, cap, cur, rfl, _, hh, _⟩
  · simp [own, Value.ownBlock] at ho
  · have : g = b := by simpa [own, Value.ownBlock] using ho
    subst this
    rw [hh] at hb
    cases hb
/-- The map says of each key ahead of k its last row there. -/
def IxOk (L : List Ro) (k : Nat) (D : DataW Unit) : Prop := IsMap D ∧ ∀ j (hj : j < L.length), j < k → D.atKey (.string L[j].key) (.lit (.int .i64 0)) = .lit (.int .i64 (lastIx L L[j].key k : Nat))
theorem ixOk_none (L : List Ro) : IxOk L 0 (.map []) := ⟨isMap_empty, fun j hj h => by omega⟩
theorem IxOk.put {L : List Ro} {k : Nat} {D : DataW Unit} (h : IxOk L k D) (hk : k < L.length) : IxOk L (k + 1) (D.put (.string L[k].key) (.lit (.int .i64 (k : Nat)))) := by
  refine ⟨h.1.put _ _, fun j hj hjk => ?_⟩
  have hs : lastIx L L[j].key (k + 1) = if L[k].key = L[j].key then k else lastIx L L[j].key k := by
    conv => lhs; unfold lastIx
    rw [dif_pos hk]
  rw [hs]
  by_cases he : L[k].key = L[j].key
  · rw [if_pos he, ← he, atKey_put_same h.1 (k := .string L[k].key) trivial]
  · rw [if_neg he, atKey_put_other (fun e => he (by injection e with e; exact e.symm))]
    have : j < k := by
      rcases Nat.lt_or_ge j k with h2 | h2
      · exact h2
      · obtain rfl : j = k := by omega
        exact absurd rfl he
    exact h.2 j hj this
theorem keyOf_sv (l : List UInt8) (h : l.length ≤ 140737488351232) : keyOf Try.prog 9 (sv l) = some (.string l) := by
  have := keyOf_string_mk (P := Try.prog) Try.underlying9 (s := ⟨l.toArray⟩) (by rw [sv_size]; simp only [maxLen]; omega)
  rw [this]
theorem plainI (n : Nat) (h : n ≤ 9223372036854775807) : plainElem (H := Unit) Try.prog 3 (.int .i64 (n : Int)) = some (.lit (.int .i64 (n : Int)), []) := plainElem_int Try.underlying3 (WalkArith.wf_i64 ⟨by omega, by omega⟩)

theorem swoB : Go.Sort.SWO (ltOf fun a b : Ce => cmpB a.key b.key) := by
  have h : ∀ a b : Ce, ltOf (fun a b : Ce => cmpB a.key b.key) a b = Op.bytesLess a.key b.key := fun a b => cmpB_lt _ _
  refine ⟨fun x => ?_, fun x y z h1 h2 => ?_, fun x y z h1 h2 => ?_⟩
  · rw [h]; exact less_irr _
  · rw [h] at *; exact less_trans _ _ _ h1 h2
  · rw [h] at *
    by_cases hxy : x.key = y.key
    · rw [hxy]; exact h2
    · by_cases hyz : y.key = z.key
      · rw [← hyz]; exact h1
      · have a1 := less_asym _ _ hxy
        have a2 := less_asym _ _ hyz
        rw [h1] at a1
        rw [h2] at a2
        have a3 : Op.bytesLess z.key x.key = true := less_trans _ _ _ (by simpa using a2.symm) (by simpa using a1.symm)
        by_cases hxz : x.key = z.key
        · rw [hxz]; exact less_irr _
        · rw [less_asym _ _ hxz, a3]; rfl
/-- What slices.SortFunc does to cells. -/
def SortC : Prop := ∀ {w : World} {g c : Nat} {L : List Ce}, OwnC w (.slice (some ⟨g, 0, none⟩) L.length c) L → L.length ≤ 100000 →
    Calls Try.prog 84 #[.slice (some ⟨g, 0, none⟩) L.length c, .func (.func 85) #[] #[]] w fun e w' => e = .returned (.tuple #[]) ∧ ∃ L', L'.Perm L ∧ (L'.Pairwise fun a b => Op.bytesLess b.key a.key = false) ∧ OwnC w' (.slice (some ⟨g, 0, none⟩) L.length c) L' ∧ Mod (fun b => b = g) w w'
end Go.Proofs.Ytlfooppmdgddkaa
