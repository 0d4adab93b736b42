/- DnkeyOrder: the walk. -/
import Derived.Test.YtgghjkefbfbopaaDoorDnI
import Derived.Test.YtgghjkefbfbopaaDoorOrd
import Derived.WalkLawsBesides
namespace Go.Proofs.YtgghjkefbfbopaaDoor
open Go.RowKit
set_option maxRecDepth 100000

section
variable {P : Program} {w : World} {t e : TypeId} {z : Value} {k bytes : Nat} {ops : Array Oper} {rest : List Oper} {o : Oper} {a : Act} {Q : Exit → Act → World → Prop} {α : Type} {f : α → List Value} {S : Nat → Prop}
/-- append(v, ys...), whole rows of records. -/
theorem wp_appRs (hT : SliceTyK P t e z k bytes) {v y : Value} {L M : List α} (hown : OwnR f k w e v L) (hr : Rc f k w S y M) (h1 : ∀ x, ∀ u ∈ f x, u.oneCell' = true) (hn : (L.length + M.length) * bytes ≤ 140737488355328)
    (hgd : o.guard = none) (s x : Operand) (ho : o.op = .call { callee := .builtin .append, args := #[s, x], argTypes := #[t, t] }) (hs : a.eval s = v) (hx : a.eval x = y)
    (h : ∀ v' w', OwnR f k w' e v' (L ++ M) → Mod (own v) w w' → Next w.heap.size v v' → wpList P ops Q rest (a.put o.dst v') w') : wpList P ops Q (o :: rest) a w :=
  wp_appk hT hown hr (fun u hu => by obtain ⟨x, _, hx⟩ := List.mem_flatMap.1 hu; exact h1 x u hx) hgd s x ho hs hx hn fun v' w' k1 k2 k3 => h v' w' (by unfold OwnR; rw [List.length_append, List.flatMap_append]; exact k1) k2 k3
theorem OwnR.empty (f : α → List Value) (k : Nat) (w : World) (e : TypeId) : OwnR f k (w.alloc (.cells #[] e)) e (.slice (some ⟨w.heap.size, 0, none⟩) 0 0) [] :=
  ⟨by simp, .inr ⟨w.heap.size, 0, #[], rfl, Nat.zero_le _, heap_alloc_new w _, Nat.le_refl _, Nat.zero_le _, by simp, by simp⟩⟩
theorem fresh_new (w : World) (n c : Nat) : Fresh w.heap.size (.slice (some ⟨w.heap.size, 0, none⟩) n c) := fun k hk => by have : w.heap.size = k := Option.some.inj hk; omega
end
/-- What came in lies in memory that is there. -/
theorem Rc.there {α : Type} {f : α → List Value} {k : Nat} {w w' : World} {S : Nat → Prop} {v : Value} {L : List α} (h : Rc f k w S v L) (hx : Ext w w') : Rc f k w' (fun b => b < w'.heap.size) v L :=
  (h.mono (T := fun b => b < w.heap.size) (fun b hb _ => hb)).ext hx |>.mono (fun b hb _ => hb)

end Go.Proofs.YtgghjkefbfbopaaDoor
