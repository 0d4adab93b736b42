/- index: a key struck; a key laid in. -/
import Derived.Test.YtblfhonfjljndaaDoorIxC
namespace Go.Proofs.YtblfhonfjljndaaDoor
open Go.RowKit
set_option maxRecDepth 100000

theorem tyS : SliceTy Tryd.prog 33 9 (.string ⟨#[]⟩) 16 := ⟨Tryd.underlying33, by kernel_rfl, rfl, by omega⟩
/-- Texts of one's own. -/
abbrev OwnT (w : World) (v : Value) (L : Tx) : Prop := Own w 9 v (L.map sv)
theorem sv_ok (L : Tx) : ∀ u ∈ L.map sv, u.oneCell' = true := fun u hu => by
  obtain ⟨x, _, rfl⟩ := List.mem_map.1 hu
  rfl
theorem gapT (L M : Tx) (h : L.length + M.length ≤ 1000000) : ((L.map sv).length + (M.map sv).length) * 16 ≤ 140737488355328 := by
  rw [List.length_map, List.length_map]; omega
section
variable {w : World} {ops : Array Oper} {rest : List Oper} {o : Oper} {a : Act} {Q : Exit → Act → World → Prop}
theorem wp_appT {v : Value} {L : Tx} {x : List UInt8} (hown : OwnT w v L) (hn : L.length + 1 ≤ 1000000)
    (hgd : o.guard = none) (s y : Operand) (ho : o.op = .call { callee := .builtin .append, args := #[s, y], argTypes := #[33, 33] }) (hs : a.eval s = v) (hy : a.eval y = .slice (some ⟨w.heap.size, 0, none⟩) 1 1)
    (h : ∀ v' w', OwnT w' v' (L ++ [x]) → Mod (own v) w w' → Next w.heap.size v v' → wpList Tryd.prog ops Q rest (a.put o.dst v') w') : wpList Tryd.prog ops Q (o :: rest) a (w.alloc (.cells #[sv x] 9)) := by
  refine wp_app tyS (hown.alloc _) (Sl.one w 9 (sv x)) (fun u hu => by rw [List.mem_singleton.1 hu]; rfl) hgd s y ho hs hy (by rw [List.length_map, List.length_singleton]; omega) ?_
  intro v' w' h1 h2 h3
  refine h v' w' (by show Own w' _ v' (List.map sv (L ++ [x])); rw [List.map_append]; exact h1) ?_ ?_
  · exact ((Mod.refl (own v) w).alloc _).then_ h2 (fun _ _ h => h)
  · rcases h3 with h3 | h3
    · exact .inl h3
    · exact .inr (h3.mono (by simp))
end
theorem Ts.begin {w : World} {S : Nat → Prop} {A : Option Addr} {c m : Nat} {L : Tx} (h : Ts w S (.slice A L.length c) L) (hm : m ≤ L.length) : Ts w S (.slice A m c) (L.take m) := by
  obtain ⟨A', c', hv, h2, h3, h4, h5⟩ := h.open_
  injection hv with e1 e2 e3
  subst e1; subst e3
  exact ⟨A, c, by rw [List.length_map, List.length_take, Nat.min_eq_left hm], by rw [List.length_map, List.length_take]; omega, by simpa [maxLen] using h3, h4, by rw [List.map_take]; exact h5.take m⟩
theorem Ts.rest {w : World} {S : Nat → Prop} {A : Option Addr} {c m : Nat} {L : Tx} (h : Ts w S (.slice A L.length c) L) (hm : m ≤ L.length) : Ts w S (.slice (A.map (fun x => x.add m)) (L.length - m) (c - m)) (L.drop m) := by
  obtain ⟨A', c', hv, h2, h3, h4, h5⟩ := h.open_
  injection hv with e1 e2 e3
  subst e1; subst e3
  refine ⟨_, _, by rw [List.length_map, List.length_drop], by rw [List.length_map, List.length_drop]; omega, by simp only [maxLen]; omega, fun he => ?_, by rw [List.map_drop]; exact h5.drop m⟩
  have := h4 (by cases A <;> simp_all); omega
theorem Ts.rest0 {w : World} {S : Nat → Prop} {A : Option Addr} {c m : Nat} {L : Tx} (h : Ts w S (.slice A L.length c) L) (hm : m ≤ L.length) (hc : c = m) : Ts w S (.slice A (L.length - m) 0) (L.drop m) := by
  obtain ⟨A', c', hv, h2, h3, h4, h5⟩ := h.open_
  injection hv with e1 e2 e3
  subst e1; subst e3
  have e : L.drop m = [] := List.drop_of_length_le (by omega)
  rw [e]
  exact ⟨A, 0, by rw [List.length_map, List.length_nil, show L.length - m = 0 by omega], Nat.le_refl _, by simp [maxLen], fun _ => rfl, Cells.nil _ _ _⟩

/-- What slices.Sort does to texts of one's own. -/
def SortT : Prop := ∀ {w : World} {v : Value} {L : Tx}, OwnT w v L → v ≠ .slice none 0 0 → L.length ≤ 100000 → Calls Tryd.prog 46 #[v] w fun e w' => e = .returned (.tuple #[]) ∧ ∃ L', L'.Perm L ∧ (L'.Pairwise fun x y => Op.bytesLess y x = false) ∧ OwnT w' v L' ∧ Mod (own v) w w'
/-- What it does to none. -/
def SortTN : Prop := ∀ w : World, Calls Tryd.prog 46 #[.slice none 0 0] w fun e w' => e = .returned (.tuple #[]) ∧ Ext w w'
end Go.Proofs.YtblfhonfjljndaaDoor
