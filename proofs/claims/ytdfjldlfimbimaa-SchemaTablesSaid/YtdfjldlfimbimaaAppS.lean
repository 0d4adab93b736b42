/- append(v, s...): a text's bytes behind what is owned; over any program. -/
import Derived.Test.YtdfjldlfimbimaaRecB
import Derived.Lib.AppendStr
namespace Go.Proofs.Ytdfjldlfimbimaa
open Go.RowKit
set_option maxRecDepth 100000

theorem strCells_sv (l : List UInt8) : Lib.strCells (⟨l.toArray⟩ : ByteArray) = l.map bv := rfl
theorem sv_size' (l : List UInt8) : (⟨l.toArray⟩ : ByteArray).size = l.length := by
  show l.toArray.size = l.length
  simp
section
variable {P : Program} {w : World} {t u e : TypeId} {ops : Array Oper} {rest : List Oper} {o : Oper} {a : Act} {Q : Exit → Act → World → Prop}
theorem run_appS (hT : SliceTy P t e (.int .u8 0) 1) (hu : P.underlying u = some .string) (ty : TypeId) {v : Value} {xs : List Value} (hown : Own w e v xs) (l : List UInt8) (hn : xs.length + l.length ≤ 140737488355328) :
    ∃ v' w', (Builtin.append_ #[t, u] ty #[v, sv l]).run P w = .ok v' w' ∧ Own w' e v' (xs ++ l.map bv) ∧ Mod (own v) w w' ∧ Next w.heap.size v v' := by
  obtain ⟨i, hi, hz0, hz1, hz2⟩ := info_parts hT.hi
  have h63 : xs.length + (⟨l.toArray⟩ : ByteArray).size ≤ maxLen := by rw [sv_size']; simp only [maxLen]; omega
  have hb : xs.length + (⟨l.toArray⟩ : ByteArray).size ≤ 140737488355328 := by rw [sv_size']; exact hn
  have hlen : (xs ++ l.map bv).length = xs.length + (⟨l.toArray⟩ : ByteArray).size := by rw [List.length_append, List.length_map, sv_size']
  rcases hown.2 with ⟨rfl, h0⟩ | ⟨g, cap, cur, rfl, hg, hh, hnc, hcm, hcs, htk⟩
  · have hx : xs = [] := List.eq_nil_of_length_eq_zero h0
    subst hx
    obtain ⟨v', w', hrun, h2, h3, _⟩ := Lib.run_append_own_string (P := P) w w.heap.size t u ty e i hT.ht hu hi hz0 hz1 hz2 (.slice none 0 0) 0 [] (World.ownsRow_nil w _ e 1) (⟨l.toArray⟩ : ByteArray) h63 hb (Nat.le_refl _)
    refine ⟨v', w', hrun, ?_, Mod.of_grown h3 fun k hk => hk, .inr fun k hk => (World.ownsRow.lt h2 k hk).1⟩
    unfold Own
    rw [hlen]
    refine ⟨h2.1, ?_⟩
    rcases h2.2 with h4 | ⟨g, cap, cur, r1, r2, r3⟩
    · exact .inl h4
    · exact .inr ⟨g, cap, cur, r1, Nat.zero_le _, r3⟩
  · obtain ⟨v', w', hrun, h2, h3, _⟩ := Lib.run_append_own_string (P := P) w 0 t u ty e i hT.ht hu hi hz0 hz1 hz2 _ xs.length xs hown (⟨l.toArray⟩ : ByteArray) h63 hb (Nat.zero_le _)
    refine ⟨v', w', hrun, by unfold Own; rw [hlen]; exact h2, Mod.of_grown h3 fun k hk => hk, ?_⟩
    by_cases hroom : xs.length + (⟨l.toArray⟩ : ByteArray).size ≤ cap
    · have := Lib.run_append_room_string (P := P) w t u ty e i hT.ht hu hi hz1 g xs.length cap cur hh (⟨l.toArray⟩ : ByteArray) hroom (by omega)
      rw [this] at hrun
      injection hrun with h1 _
      subst h1
      exact .inl rfl
    · have holds : ∀ j u, xs[j]? = some u → w.cell? ((⟨g, 0, none⟩ : Addr).add j) = some u := World.ownsRow.cells hown (g := g) rfl
      have hr := Lib.run_append_grow_string (P := P) w t u ty e i (.int .u8 0) hT.ht hu hi hz0 ⟨g, 0, none⟩ xs.length cap xs (by rw [hz1, Nat.mul_one]) holds (⟨l.toArray⟩ : ByteArray) (by omega) (by simp only [maxLen] at h63; omega) (by rw [hz2]; exact growslice_fits (by omega) (by omega))
      rw [hr] at hrun
      injection hrun with h1 _
      subst h1
      exact .inr fun k hk => by have : w.heap.size = k := Option.some.inj hk; omega
/-- append(v, s...). -/
theorem wp_appS (hT : SliceTy P t e (.int .u8 0) 1) (hu : P.underlying u = some .string) {v : Value} {xs : List UInt8} {l : List UInt8} (hown : Own w e v (xs.map bv)) (hn : xs.length + l.length ≤ 140737488355328)
    (hgd : o.guard = none) (s y : Operand) (ho : o.op = .call { callee := .builtin .append, args := #[s, y], argTypes := #[t, u] }) (hs : a.eval s = v) (hy : a.eval y = sv l)
    (h : ∀ v' w', Own w' e v' ((xs ++ l).map bv) → Mod (own v) w w' → Next w.heap.size v v' → wpList P ops Q rest (a.put o.dst v') w') : wpList P ops Q (o :: rest) a w := by
  refine wpList_plain hgd fun K hK => ?_
  obtain ⟨v', w', hrun, h2, h3, h4⟩ := run_appS (P := P) hT hu o.type hown l (by rw [List.length_map]; exact hn)
  unfold Oper.wp execOp
  simp only [ho, resolve, invoke, builtin, Sem.run_bind, Sem.run_pure, Result.andThen_ok, List.map_toArray, List.map_cons, List.map_nil, hs, hy, hrun]
  exact hK _ _ (h v' w' (by rw [List.map_append]; exact h2) h3 h4)
/-- append(v, b, c), two bytes. -/
theorem wp_app2 {z : Value} (hT : SliceTy P t e z 1) {v : Value} {l : List UInt8} {b c : UInt8} {x y : Int} (hown : Own w e v (l.map bv)) (hx : x = (b.toNat : Int)) (hy : y = (c.toNat : Int)) (hn : l.length + 2 ≤ 140737488355328)
    (hgd : o.guard = none) (s yy : Operand) (ho : o.op = .call { callee := .builtin .append, args := #[s, yy], argTypes := #[t, t] }) (hs : a.eval s = v) (hyy : a.eval yy = .slice (some ⟨w.heap.size, 0, none⟩) 2 2)
    (h : ∀ v' w', Own w' e v' ((l ++ [b, c]).map bv) → Mod (own v) w w' → Next w.heap.size v v' → wpList P ops Q rest (a.put o.dst v') w') : wpList P ops Q (o :: rest) a (w.alloc (.cells #[.int .u8 x, .int .u8 y] e)) := by
  subst hx
  subst hy
  refine wp_app hT (hown.alloc _) (Sl.lit w e [bv b, bv c] (by simp [maxLen])) (by intro u hu; simp only [List.mem_cons, List.not_mem_nil, or_false] at hu; rcases hu with rfl | rfl <;> rfl) hgd s yy ho hs hyy (by simpa using hn) fun v' w' k1 k2 k3 => ?_
  exact h v' w' (by rw [List.map_append]; exact k1) (mod_app k2) (k3.sooner (by simp))
end
end Go.Proofs.Ytdfjldlfimbimaa
