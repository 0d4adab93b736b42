/- Rows of records that the call owns: append, make; over any program. -/
import Derived.Test.YtagchhcpmibelaaAid
import Derived.Laws.MakeOwn
import Derived.RegionTactic
namespace Go.Proofs.Ytagchhcpmibelaa
open Go.RowKit
set_option maxRecDepth 100000

/-- A row of records that the call owns. -/
def OwnR {α : Type} (f : α → List Value) (k : Nat) (w : World) (e : TypeId) (v : Value) (L : List α) : Prop := OwnK w e k v L.length (L.flatMap f)
section
variable {α : Type} {f : α → List Value} {k : Nat} {w w' : World} {e : TypeId} {v : Value} {L : List α} {F : Nat → Prop}
theorem OwnR.nil (f : α → List Value) (k : Nat) (w : World) (e : TypeId) : OwnR f k w e (.slice none 0 0) [] := OwnK.nil _ _ _
theorem OwnR.rc (h : OwnR f k w e v L) : Rc f k w (own v) v L := OwnK.slk h
theorem OwnR.mod (h : OwnR f k w e v L) (hm : Mod F w w') (hn : ∀ b, own v b → ¬ F b) : OwnR f k w' e v L := OwnK.mod h hm hn
theorem OwnR.ext (h : OwnR f k w e v L) (hm : Ext w w') : OwnR f k w' e v L := OwnK.mod h hm (fun _ _ h => h)
theorem OwnR.alloc (h : OwnR f k w e v L) (o : Obj) : OwnR f k (w.alloc o) e v L := OwnK.alloc h o
theorem OwnR.shape (h : OwnR f k w e v L) : ∃ A c, v = .slice A L.length c := OwnK.shape h
theorem OwnR.lt (h : OwnR f k w e v L) {b : Nat} (hb : own v b) : b < w.heap.size := OwnK.lt h hb
end

section
variable {P : Program} {w : World} {t e : TypeId} {z : Value} {k bytes : Nat} {ops : Array Oper} {rest : List Oper} {o : Oper} {a : Act} {Q : Exit → Act → World → Prop} {α : Type} {f : α → List Value}
theorem run_appR (hT : SliceTyK P t e z k bytes) (ty : TypeId) (hf : ∀ x, (f x).length = k) {v : Value} {L : List α} {x : α} {cs : Array Value} (hown : OwnR f k w e v L) (hcs : cs = (f x).toArray) (h1 : ∀ u ∈ f x, u.oneCell' = true) (hn : (L.length + 1) * bytes ≤ 140737488355328) :
    ∃ v' w', (Builtin.append_ #[t, t] ty #[v, .slice (some ⟨w.heap.size, 0, none⟩) 1 1]).run P (w.alloc (.cells cs e)) = .ok v' w' ∧ OwnR f k w' e v' (L ++ [x]) ∧ Mod (own v) w w' ∧ Next w.heap.size v v' := by
  subst hcs
  obtain ⟨v', w', hrun, h2, h3, h4⟩ := run_appk hT ty (OwnK.alloc hown (.cells (f x).toArray e)) (SlK.one w e (f x) k (hf x)) h1 hn
  refine ⟨v', w', hrun, ?_, mod_app h3, h4.sooner (by simp)⟩
  unfold OwnR
  rw [List.length_append, List.flatMap_append]
  simpa using h2
/-- append(v, x), one record. -/
theorem wp_appR (hT : SliceTyK P t e z k bytes) (hf : ∀ x, (f x).length = k) {v : Value} {L : List α} {x : α} {cs : Array Value} (hown : OwnR f k w e v L) (hcs : cs = (f x).toArray) (h1 : ∀ u ∈ f x, u.oneCell' = true) (hn : (L.length + 1) * bytes ≤ 140737488355328)
    (hgd : o.guard = none) (s y : Operand) (ho : o.op = .call { callee := .builtin .append, args := #[s, y], argTypes := #[t, t] }) (hs : a.eval s = v) (hy : a.eval y = .slice (some ⟨w.heap.size, 0, none⟩) 1 1)
    (h : ∀ v' w', OwnR f k w' e v' (L ++ [x]) → Mod (own v) w w' → Next w.heap.size v v' → wpList P ops Q rest (a.put o.dst v') w') : wpList P ops Q (o :: rest) a (w.alloc (.cells cs e)) := by
  refine wpList_plain hgd fun K hK => ?_
  obtain ⟨v', w', hrun, h2, h3, h4⟩ := run_appR (P := P) hT o.type hf hown hcs h1 hn
  unfold Oper.wp execOp
  simp only [ho, resolve, invoke, builtin, Sem.run_bind, Sem.run_pure, Result.andThen_ok, List.map_toArray, List.map_cons, List.map_nil, hs, hy, hrun]
  exact hK _ _ (h v' w' h2 h3 h4)
/-- The same at a step of a region that draws. -/
theorem step_appR {K : Act → World → Prop} {E : Prop} {d : Tmp} (hT : SliceTyK P t e z k bytes) (hf : ∀ x, (f x).length = k) {v : Value} {L : List α} {x : α} {cs : Array Value} (hown : OwnR f k w e v L) (hcs : cs = (f x).toArray) (h1 : ∀ u ∈ f x, u.oneCell' = true) (hn : (L.length + 1) * bytes ≤ 140737488355328)
    (hgd : o.guard = none) (hd : o.dst = some d) (s y : Operand) (ho : o.op = .call { callee := .builtin .append, args := #[s, y], argTypes := #[t, t] }) (hs : a.eval s = v) (hy : a.eval y = .slice (some ⟨w.heap.size, 0, none⟩) 1 1)
    (h : ∀ v' w', OwnR f k w' e v' (L ++ [x]) → Mod (own v) w w' → Next w.heap.size v v' → K (a.put o.dst v') w') : if Region.wanted o (yielded ops a.tmps) = true then Oper.wp P o a (w.alloc (.cells cs e)) K Q else E := by
  have hw : Region.wanted o (yielded ops a.tmps) = true := by simp [Region.wanted, hgd]
  rw [if_pos hw]
  obtain ⟨v', w', hrun, h2, h3, h4⟩ := run_appR (P := P) hT o.type hf hown hcs h1 hn
  unfold Oper.wp execOp
  simp only [ho, resolve, invoke, builtin, Sem.run_bind, Sem.run_pure, Result.andThen_ok, List.map_toArray, List.map_cons, List.map_nil, hs, hy, hrun]
  simp only [Oper.upon, hd]
  have := h v' w' h2 h3 h4
  rw [hd] at this
  exact this
/-- make([]T, 0, n). -/
theorem wp_makeR0 (hT : SliceTyK P t e z k bytes) (f : α → List Value) (n : Nat) (hgd : o.guard = none) (l c : Operand) (ho : o.op = Op.makeSlice t l c) {kl kc : IntKind}
    (hl : a.eval l = .int kl 0) (hc : a.eval c = .int kc (n : Int)) (hn : bytes * n ≤ 281474976710656)
    (h : ∀ w', OwnR f k w' e (.slice (some ⟨w.heap.size, 0, none⟩) 0 n) [] → Ext w w' → w.heap.size < w'.heap.size → wpList P ops Q rest (a.put o.dst (.slice (some ⟨w.heap.size, 0, none⟩) 0 n)) w') : wpList P ops Q (o :: rest) a w := by
  obtain ⟨i, hi, hz0, hz1, hz2⟩ := info_parts hT.hi
  have hb : 1 * n ≤ bytes * n := Nat.mul_le_mul_right _ hT.hb
  exact wpList_make_own w hgd l c t ho 0 e i z k hT.ht hi hz0 hz1 kl kc n n hl hc rfl (by rw [hz2]; exact hn) (by simp only [maxLen]; omega) (Nat.zero_le _) fun w' h1 h2 =>
    h w' h1 (Mod.of_grown h2 fun k hk => by cases hk) ((World.ownsRow.lt h1 _ rfl).2)
end
theorem avc_ok (a : List UInt8 × List UInt8) : ∀ u ∈ avc a, u.oneCell' = true := by
  intro u hu
  simp only [avc, List.mem_cons, List.not_mem_nil, or_false] at hu
  rcases hu with rfl | rfl <;> rfl
end Go.Proofs.Ytagchhcpmibelaa
