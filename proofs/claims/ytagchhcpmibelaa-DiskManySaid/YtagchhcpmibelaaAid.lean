/- Small aids for appends: one byte, a text's bytes; over any program. -/
import Derived.Test.YtagchhcpmibelaaRec
namespace Go.Proofs.Ytagchhcpmibelaa
open Go.RowKit
set_option maxRecDepth 100000

theorem byte_of {n : Nat} (h : n < 256) : Value.int .u8 (n : Int) = bv (UInt8.ofNat n) := by
  show _ = Value.int .u8 ((UInt8.ofNat n).toNat : Int)
  rw [u8_ofNat' _ h]
theorem Next.sooner {B B' : Nat} {v v' : Value} (h : Next B v v') (hB : B' ≤ B) : Next B' v v' := (Next.refl B' v).trans h hB
theorem one_ok (u : Value) (h : u.oneCell' = true) : ∀ x ∈ [u], x.oneCell' = true := by
  intro x hx
  rw [List.mem_singleton] at hx
  rw [hx]; exact h
theorem mod_app {a c : World} {o : Obj} {v : Value} (h : Mod (own v) (a.alloc o) c) : Mod (own v) a c := (Mod.alloc (Mod.refl _ a) o).then_ h (fun _ _ h => h)

section
variable {P : Program} {w : World} {t e : TypeId} {z : Value} {ops : Array Oper} {rest : List Oper} {o : Oper} {a : Act} {Q : Exit → Act → World → Prop}
/-- append(v, b), one byte. -/
theorem wp_app1 (hT : SliceTy P t e z 1) {v : Value} {l : List UInt8} {b : UInt8} {x : Int} (hown : Own w e v (l.map bv)) (hx : x = (b.toNat : Int)) (hn : l.length + 1 ≤ 140737488355328)
    (hgd : o.guard = none) (s y : Operand) (ho : o.op = .call { callee := .builtin .append, args := #[s, y], argTypes := #[t, t] }) (hs : a.eval s = v) (hy : a.eval y = .slice (some ⟨w.heap.size, 0, none⟩) 1 1)
    (h : ∀ v' w', Own w' e v' ((l ++ [b]).map bv) → Mod (own v) w w' → Next w.heap.size v v' → wpList P ops Q rest (a.put o.dst v') w') : wpList P ops Q (o :: rest) a (w.alloc (.cells #[.int .u8 x] e)) := by
  subst hx
  refine wp_app hT (hown.alloc _) (Sl.one w e (bv b)) (one_ok _ rfl) hgd s y ho hs hy (by simpa using hn) fun v' w' k1 k2 k3 => ?_
  exact h v' w' (by rw [List.map_append]; exact k1) (mod_app k2) (k3.sooner (by simp))
end
end Go.Proofs.Ytagchhcpmibelaa
