/- eval: filters made of filters; what they say. -/
import Derived.Test.YteihjdefdeckaaaGreatDoorFlM
namespace Go.Proofs.YteihjdefdeckaaaGreatDoor
open Go.RowKit
set_option maxRecDepth 100000

theorem deep_less : ∀ {n : Nat} {F : Fi} {d : Nat}, oneN n F (d + 1) = true → oneN n F d = true
  | 0, _, _, h => h
  | n + 1, F, d, h => by
    rw [oneN_succ] at h ⊢
    unfold oneB at h ⊢
    have hd : ¬ 16 < d + 1 := fun hd => by rw [if_pos hd] at h; cases h
    rw [if_neg hd] at h
    rw [if_neg (by omega)]
    split
    · rename_i hk
      rw [if_pos hk] at h
      rw [Bool.and_eq_true] at h ⊢
      refine ⟨h.1, List.all_eq_true.2 fun x hx => deep_less (List.all_eq_true.1 h.2 x hx)⟩
    · rename_i hk
      rw [if_neg hk] at h
      exact h
/-- A number that is one of the three. -/
def tri (v : Int) : Prop := v = 0 ∨ v = 1 ∨ v = 2
theorem tri_and (l : List Int) : tri (and3 l) := by unfold and3; split; exact .inl rfl; split; exact .inr (.inr rfl); exact .inr (.inl rfl)
theorem tri_or (l : List Int) : tri (or3 l) := by unfold or3; split; exact .inr (.inl rfl); split; exact .inr (.inr rfl); exact .inl rfl
theorem tri_not (v : Int) : tri (not3 v) := by unfold not3; split; exact .inl rfl; split; exact .inr (.inl rfl); exact .inr (.inr rfl)
theorem tri_item (kd : Int) (T V : List UInt8) (B vals : List (List UInt8)) : tri (itemB kd T V B vals) := by
  unfold itemB
  split
  · split
    · split
      · exact .inl rfl
      · exact .inr (.inl rfl)
    · split
      · split
        · exact .inr (.inl rfl)
        · exact .inl rfl
      · exact .inr (.inr rfl)
  · exact .inr (.inr rfl)
theorem tri_eval : ∀ (n : Nat) (F : Fi) (L : List Att), tri (evalN n F L)
  | 0, _, _ => .inr (.inr rfl)
  | n + 1, F, L => by
    rw [evalN_succ]
    split
    · exact tri_item _ _ _ _ _
    split
    · exact tri_and _
    split
    · exact tri_or _
    · exact tri_not _
theorem and_one {v : Int} (h : tri v) : and3 [v] = v := by rcases h with rfl | rfl | rfl <;> rfl
theorem or_one {v : Int} (h : tri v) : or3 [v] = v := by rcases h with rfl | rfl | rfl <;> rfl
theorem not_not {v : Int} (h : tri v) : not3 (not3 v) = v := by rcases h with rfl | rfl | rfl <;> rfl
/-- A filter of kids. -/
abbrev ofK (kd : Int) (K : List Fi) : Fi := .mk kd [] [] [] K
theorem one_ofK {n : Nat} {kd : Int} {K : List Fi} {d : Nat} (hk : kd = 0 ∨ kd = 1 ∨ kd = 2) : oneN (n + 1) (ofK kd K) d = (decide (d ≤ 16) && (decide (1 ≤ K.length ∧ ¬ (kd = 2 ∧ 1 < K.length)) && K.all (oneN n · (d + 1)))) := by
  rw [show oneN (n + 1) (ofK kd K) d = oneB kd [] [] [] K.length (K.all (oneN n · (d + 1))) d from rfl]
  unfold oneB
  by_cases hd : 16 < d
  · rw [if_pos hd, show decide (d ≤ 16) = false from dfalse (by omega)]; rfl
  · rw [if_neg hd, if_pos hk, show decide (d ≤ 16) = true from dtrue (by omega)]
    simp
theorem evalN_ofK (n : Nat) (kd : Int) (K : List Fi) (L : List Att) : evalN (n + 1) (ofK kd K) L = (if K.length = 0 then itemB kd [] [] [] (L.flatMap (selE (foldB []))) else if kd = 0 then and3 (K.map (evalN n · L)) else if kd = 1 then or3 (K.map (evalN n · L)) else not3 ((K.map (evalN n · L)).headD 0)) := rfl
theorem eval_and {n : Nat} {K : List Fi} {L : List Att} (h : 1 ≤ K.length) : evalN (n + 1) (ofK 0 K) L = and3 (K.map (evalN n · L)) := by
  rw [evalN_ofK, if_neg (by omega), if_pos rfl]
theorem eval_or {n : Nat} {K : List Fi} {L : List Att} (h : 1 ≤ K.length) : evalN (n + 1) (ofK 1 K) L = or3 (K.map (evalN n · L)) := by
  rw [evalN_ofK, if_neg (by omega), if_neg (by omega), if_pos rfl]
theorem eval_not1 {n : Nat} {F : Fi} {L : List Att} : evalN (n + 1) (ofK 2 [F]) L = not3 (evalN n F L) := by
  rw [evalN_ofK, if_neg (by simp), if_neg (by omega), if_neg (by omega)]; rfl
theorem nodes_ofK (n : Nat) (kd : Int) (K : List Fi) : nodesN (n + 1) (ofK kd K) = 1 + (K.map (nodesN n)).sum := rfl
theorem wF_ofK (n : Nat) (kd : Int) (K : List Fi) : wF (n + 1) (ofK kd K) = 5 + (K.map (wF n)).sum := by rw [wF_succ]; simp [Fi.typ, Fi.val, Fi.subs, Fi.kids, wV]
theorem isN_ofK {n : Nat} {kd : Int} {F : Fi} (hk : kd = 0 ∨ kd = 1 ∨ kd = 2) (h : isN (n + 1) (ofK kd [F]) = true) : isN n F = true := by
  unfold isN at h ⊢
  rw [one_ofK hk, nodes_ofK] at h
  simp only [Bool.and_eq_true, decide_eq_true_eq, List.all_cons, List.all_nil, List.map_cons, List.map_nil, List.sum_cons, List.sum_nil] at h ⊢
  exact ⟨deep_less h.1.2.2.1, by omega⟩
theorem isN_other {n : Nat} {kd kd' : Int} {F : Fi} (hk : kd = 0 ∨ kd = 1 ∨ kd = 2) (hk' : kd' = 0 ∨ kd' = 1 ∨ kd' = 2) (h : isN (n + 1) (ofK kd [F]) = true) : isN (n + 1) (ofK kd' [F]) = true := by
  unfold isN at h ⊢
  rw [one_ofK hk, nodes_ofK] at h
  rw [one_ofK hk', nodes_ofK]
  simp only [Bool.and_eq_true, decide_eq_true_eq, List.all_cons, List.all_nil, List.map_cons, List.map_nil, List.sum_cons, List.sum_nil, List.length_singleton] at h ⊢
  exact ⟨⟨h.1.1, ⟨by omega, by omega⟩, h.1.2.2⟩, h.2⟩
/-- Filters laid side by side, and one of them. -/
theorem FilN.wrap {n : Nat} {w : World} {C : List FiC} (h : ∀ x ∈ C, FilN n w x.1 x.2.1 x.2.2) (kd : Int) (hk : -9223372036854775808 ≤ kd ∧ kd ≤ 9223372036854775807) (hl : C.length ≤ 1000) :
    FilN (n + 1) (w.alloc (.cells (C.flatMap fic).toArray 25)) (ofK kd (C.map (·.1))) (.slice none 0 0) (.slice (some ⟨w.heap.size, 0, none⟩) C.length C.length) := by
  have hlen : ∀ (C : List FiC), (C.flatMap fic).length = C.length * 5 := fun C => by
    induction C with
    | nil => rfl
    | cons a C ih => rw [List.flatMap_cons, List.length_append, ih]; simp; omega
  refine ⟨⟨hk, by simp [Fi.typ], by simp [Fi.val], by simp [Fi.subs], (fun s hs => (by cases hs)), ?_⟩, Sl.nil _ _, C, ?_, rfl, fun x hx => (h x hx).ext ((Mod.refl _ _).alloc _)⟩
  · show (C.map (·.1)).length * 88 ≤ _
    rw [List.length_map]; omega
  · exact RcF.lit (f := fic) (k := 5) w 25 C (hlen C) (by rw [hlen]; unfold maxLen; omega) (by unfold maxLen; omega)
end Go.Proofs.YteihjdefdeckaaaGreatDoor
