/- index: a key struck; a key laid in. -/
import Derived.Test.YtagchhcpmibelaaIxC
namespace Go.Proofs.Ytagchhcpmibelaa
open Go.RowKit
set_option maxRecDepth 100000

theorem tyS : SliceTy Try.prog 51 9 (.string ⟨#[]⟩) 16 := ⟨Try.underlying51, by kernel_rfl, rfl, by omega⟩
/-- Texts of one's own. -/
abbrev OwnT (w : World) (v : Value) (L : Tx) : Prop := Own w 9 v (L.map sv)
theorem sv_ok (L : Tx) : ∀ u ∈ L.map sv, u.oneCell' = true := fun u hu => by
  obtain ⟨x, _, rfl⟩ := List.mem_map.1 hu
  rfl
theorem gapT (L M : Tx) (h : L.length + M.length ≤ 1000000) : ((L.map sv).length + (M.map sv).length) * 16 ≤ 140737488355328 := by
  rw [List.length_map, List.length_map]; omega
section
variable {w : World} {ops : Array Oper} {rest : List Oper} {o : Oper} {a : Act} {Q : Exit → Act → World → Prop}
theorem wp_appT {v : Value} {L : Tx} {x : List UInt8} (hown : OwnT w v L) (hn : L.length + 1 ≤ 1000000)
    (hgd : o.guard = none) (s y : Operand) (ho : o.op = .call { callee := .builtin .append, args := #[s, y], argTypes := #[51, 51] }) (hs : a.eval s = v) (hy : a.eval y = .slice (some ⟨w.heap.size, 0, none⟩) 1 1)
    (h : ∀ v' w', OwnT w' v' (L ++ [x]) → Mod (own v) w w' → Next w.heap.size v v' → wpList Try.prog ops Q rest (a.put o.dst v') w') : wpList Try.prog ops Q (o :: rest) a (w.alloc (.cells #[sv x] 9)) := by
  refine wp_app tyS (hown.alloc _) (Sl.one w 9 (sv x)) (fun u hu => by rw [List.mem_singleton.1 hu]; rfl) hgd s y ho hs hy (by rw [List.length_map, List.length_singleton]; omega) ?_
  intro v' w' h1 h2 h3
  refine h v' w' (by show Own w' _ v' (List.map sv (L ++ [x])); rw [List.map_append]; exact h1) ?_ ?_
  · exact ((Mod.refl (own v) w).alloc _).then_ h2 (fun _ _ h => h)
  · rcases h3 with h3 | h3
    · exact .inl h3
    · exact .inr (h3.mono (by simp))
end
theorem Ts.begin {w : World} {S : Nat → Prop} {A : Option Addr} {c m : Nat} {L : Tx} (h : Ts w S (.slice A L.length c) L) (hm : m ≤ L.length) : Ts w S (.slice A m c) (L.take m) := by
  obtain ⟨A', c', hv, h2, h3, h4, h5⟩ := h.open_
  injection hv with e1 e2 e3
  subst e1; subst e3
  exact ⟨A, c, by rw [List.length_map, List.length_take, Nat.min_eq_left hm], by rw [List.length_map, List.length_take]; omega, by simpa [maxLen] using h3, h4, by rw [List.map_take]; exact h5.take m⟩
theorem Ts.rest {w : World} {S : Nat → Prop} {A : Option Addr} {c m : Nat} {L : Tx} (h : Ts w S (.slice A L.length c) L) (hm : m ≤ L.length) : Ts w S (.slice (A.map (fun x => x.add m)) (L.length - m) (c - m)) (L.drop m) := by
  obtain ⟨A', c', hv, h2, h3, h4, h5⟩ := h.open_
  injection hv with e1 e2 e3
  subst e1; subst e3
  refine ⟨_, _, by rw [List.length_map, List.length_drop], by rw [List.length_map, List.length_drop]; omega, by simp only [maxLen]; omega, fun he => ?_, by rw [List.map_drop]; exact h5.drop m⟩
  have := h4 (by cases A <;> simp_all); omega
theorem Ts.rest0 {w : World} {S : Nat → Prop} {A : Option Addr} {c m : Nat} {L : Tx} (h : Ts w S (.slice A L.length c) L) (hm : m ≤ L.length) (hc : c = m) : Ts w S (.slice A (L.length - m) 0) (L.drop m) := by
  obtain ⟨A', c', hv, h2, h3, h4, h5⟩ := h.open_
  injection hv with e1 e2 e3
  subst e1; subst e3
  have e : L.drop m = [] := List.drop_of_length_le (by omega)
  rw [e]
  exact ⟨A, 0, by rw [List.length_map, List.length_nil, show L.length - m = 0 by omega], Nat.le_refl _, by simp [maxLen], fun _ => rfl, Cells.nil _ _ _⟩

set_option maxHeartbeats 8000000 in
theorem cut_any {w : World} {S : Nat → Prop} {v : Value} {L : Tx} {s : List UInt8} (h : Ts w S v L) (hl : L.length ≤ 10000) :
    Calls Try.prog 45 #[v, sv s] w fun e w' => ∃ u, e = .returned u ∧ OwnT w' u (L.filter fun x => x != s) ∧ Fresh w.heap.size u ∧ Ext w w' := by
  obtain ⟨A, c, rfl, h1, h2, h3, h4⟩ := h.open_
  clear h
  go_enter Try.func45, Try.ntmps45
  go_wp2_with fail
  go_loopw [5, 6] (fun u i wr => ∃ (k : Nat) (M : Tx), k ≤ L.length ∧ i = .int .i64 k ∧ Hid (M = (L.take k).filter fun x => x != s) ∧ M.length ≤ k ∧ OwnT wr u M ∧ Fresh w.heap.size u ∧ Ext w wr) (fun _ i _ => L.length - (intOf i).toNat)
  case atStart => exact ⟨0, [], Nat.zero_le _, rfl, Lib.hid (by simp), Nat.le_refl _, Own.nil _ _, fresh_nil _ _ _, Mod.refl _ _⟩
  case round =>
    obtain ⟨k, M, hk, rfl, hM, hml, ho, hf, hx⟩ := hrel
    by_cases hlt : k < L.length
    case neg =>
      have hbl : decide ((k : Int) < (L.length : Int)) = false := dfalse (by omega)
      have he : M = L.filter fun x => x != s := by have := hM.out; rwa [List.take_of_length_le (by omega)] at this
      subst he
      go_wp2_with fail
      go_ret
      exact ⟨_, rfl, ho, hf, hx⟩
    have hbl : decide ((k : Int) < (L.length : Int)) = true := dtrue (by omega)
    obtain ⟨ad, hA, hS, c0⟩ := (Cells.mod h4 hx (fun _ _ _ h => h)).at_ hlt
    subst hA
    have hi0 : (0 : Int) ≤ (k : Int) := by omega
    have hi1 : (k : Int) < (L.length : Int) := by omega
    have hst : ∀ q, (L[k] != s) = q → Hid ((if q then M ++ [L[k]] else M) = (L.take (k + 1)).filter fun x => x != s) := fun q hq => Lib.hid (by
      rw [List.take_succ_eq_append_getElem hlt, List.filter_append, ← hM.out]
      cases q <;> simp [hq])
    clear hM
    generalize L[k] = x at *
    cases hq : (x == s)
    case false =>
      have hs := hst true (by rw [bne, hq]; rfl)
      rw [if_pos rfl] at hs
      clear hst
      go_wp2_with ((with_reducible show wpList _ _ _ (⟨some 25, _, _, _, _, _⟩ :: _) _ _); refine wp_appT (x := x) ho (by omega) rfl _ _ rfl rfl rfl ?_; intro v6 w6 o6 m6 n6)
      exact ⟨⟨k + 1, _, by omega, by go_num, hs, by rw [List.length_append, List.length_singleton]; omega, o6, n6.fresh hf hx.size, ext_app0 hx hf m6⟩, by simp [intOf] <;> omega⟩
    have hs := hst false (by rw [bne, hq]; rfl)
    rw [if_neg (by decide)] at hs
    clear hst
    go_wp2_with fail
    exact ⟨⟨k + 1, M, by omega, by go_num, hs, by omega, ho, hf, hx⟩, by simp [intOf] <;> omega⟩

/-- What slices.Sort does to texts of one's own. -/
def SortT : Prop := ∀ {w : World} {v : Value} {L : Tx}, OwnT w v L → v ≠ .slice none 0 0 → L.length ≤ 100000 → Calls Try.prog 71 #[v] w fun e w' => e = .returned (.tuple #[]) ∧ ∃ L', L'.Perm L ∧ (L'.Pairwise fun x y => Op.bytesLess y x = false) ∧ OwnT w' v L' ∧ Mod (own v) w w'
/-- What it does to none. -/
def SortTN : Prop := ∀ w : World, Calls Try.prog 71 #[.slice none 0 0] w fun e w' => e = .returned (.tuple #[]) ∧ Ext w w'
end Go.Proofs.Ytagchhcpmibelaa
