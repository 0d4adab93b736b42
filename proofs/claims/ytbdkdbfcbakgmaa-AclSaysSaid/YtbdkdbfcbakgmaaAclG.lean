/- Steps of regions that draw: rows of records; rules. -/
import Derived.Test.YtbdkdbfcbakgmaaAclE
import Derived.Test.YtbdkdbfcbakgmaaDnK
namespace Go.Proofs.Ytbdkdbfcbakgmaa
open Go.RowKit
set_option maxRecDepth 100000

section
variable {P : Program} {w : World} {t e : TypeId} {z : Value} {k bytes : Nat} {ops : Array Oper} {o : Oper} {a : Act} {Q : Exit → Act → World → Prop} {α : Type} {f : α → List Value} {S : Nat → Prop}
theorem run_appRs (hT : SliceTyK P t e z k bytes) (ty : TypeId) {v y : Value} {L M : List α} (hown : OwnR f k w e v L) (hr : Rc f k w S y M) (h1 : ∀ x ∈ M, ∀ u ∈ f x, u.oneCell' = true) (hn : (L.length + M.length) * bytes ≤ 140737488355328) :
    ∃ v' w', (Builtin.append_ #[t, t] ty #[v, y]).run P w = .ok v' w' ∧ OwnR f k w' e v' (L ++ M) ∧ Mod (own v) w w' ∧ Next w.heap.size v v' := by
  obtain ⟨v', w', hrun, h2, h3, h4⟩ := run_appk hT ty hown hr (fun u hu => by obtain ⟨x, hm, hx⟩ := List.mem_flatMap.1 hu; exact h1 x hm u hx) hn
  exact ⟨v', w', hrun, by unfold OwnR; rw [List.length_append, List.flatMap_append]; exact h2, h3, h4⟩
/-- append(v, ys...). -/
theorem wp_appRm {rest : List Oper} (hT : SliceTyK P t e z k bytes) {v y : Value} {L M : List α} (hown : OwnR f k w e v L) (hr : Rc f k w S y M) (h1 : ∀ x ∈ M, ∀ u ∈ f x, u.oneCell' = true) (hn : (L.length + M.length) * bytes ≤ 140737488355328)
    (hgd : o.guard = none) (s x : Operand) (ho : o.op = .call { callee := .builtin .append, args := #[s, x], argTypes := #[t, t] }) (hs : a.eval s = v) (hx : a.eval x = y)
    (h : ∀ v' w', OwnR f k w' e v' (L ++ M) → Mod (own v) w w' → Next w.heap.size v v' → wpList P ops Q rest (a.put o.dst v') w') : wpList P ops Q (o :: rest) a w :=
  wp_appk hT hown hr (fun u hu => by obtain ⟨x, hm, hx⟩ := List.mem_flatMap.1 hu; exact h1 x hm u hx) hgd s x ho hs hx hn fun v' w' k1 k2 k3 => h v' w' (by unfold OwnR; rw [List.length_append, List.flatMap_append]; exact k1) k2 k3
/-- append(v, ys...) at a step of a region that draws. -/
theorem step_appRs {K : Act → World → Prop} {E : Prop} (d : Tmp) (hT : SliceTyK P t e z k bytes) {v y : Value} {L M : List α} (hown : OwnR f k w e v L) (hr : Rc f k w S y M) (h1 : ∀ x ∈ M, ∀ u ∈ f x, u.oneCell' = true) (hn : (L.length + M.length) * bytes ≤ 140737488355328)
    (hgd : o.guard = none) (hd : o.dst = some d) (s yy : Operand) (ho : o.op = .call { callee := .builtin .append, args := #[s, yy], argTypes := #[t, t] }) (hs : a.eval s = v) (hy : a.eval yy = y)
    (h : ∀ v' w', OwnR f k w' e v' (L ++ M) → Mod (own v) w w' → Next w.heap.size v v' → K (a.put o.dst v') w') : if Region.wanted o (yielded ops a.tmps) = true then Oper.wp P o a w K Q else E := by
  have hw : Region.wanted o (yielded ops a.tmps) = true := by simp [Region.wanted, hgd]
  rw [if_pos hw]
  obtain ⟨v', w', hrun, h2, h3, h4⟩ := run_appRs (P := P) hT o.type hown hr h1 hn
  unfold Oper.wp execOp
  simp only [ho, resolve, invoke, builtin, Sem.run_bind, Sem.run_pure, Result.andThen_ok, List.map_toArray, List.map_cons, List.map_nil, hs, hy, hrun]
  simp only [Oper.upon, hd]
  have := h v' w' h2 h3 h4
  rw [hd] at this
  exact this
end
theorem rcell_ok {c : LRul} (h : (∃ A n k, c.2.1 = .slice A n k) ∧ (∃ A n k, c.2.2 = .slice A n k)) : ∀ u ∈ rcell c, u.oneCell' = true := by
  obtain ⟨⟨A, n, k, h1⟩, ⟨B, m, j, h2⟩⟩ := h
  intro u hu
  simp only [rcell, List.mem_cons, List.not_mem_nil, or_false, h1, h2] at hu
  rcases hu with rfl | rfl | rfl | rfl | rfl | rfl | rfl <;> rfl
theorem Laid.ok {w : World} {S : Nat → Prop} {c : LRul} (h : Laid w S c) : ∀ u ∈ rcell c, u.oneCell' = true := by
  obtain ⟨A, n, h1⟩ := h.1.shape
  obtain ⟨B, m, h2⟩ := h.2.shape
  exact rcell_ok ⟨⟨_, _, _, h1⟩, ⟨_, _, _, h2⟩⟩
theorem lit_ok {r : Rul} : ∀ u ∈ rcell (r, .slice none 0 0, .slice none 0 0), u.oneCell' = true := rcell_ok ⟨⟨_, _, _, rfl⟩, ⟨_, _, _, rfl⟩⟩
/-- One record in a block of its own. -/
theorem Rc.lit1 {α : Type} {f : α → List Value} {k : Nat} (hf : ∀ x, (f x).length = k) (w : World) (e : TypeId) (x : α) : Rc f k (w.alloc (.cells (f x).toArray e)) (fun b => b = w.heap.size) (.slice (some ⟨w.heap.size, 0, none⟩) 1 1) [x] := by
  have := SlK.one w e (f x) k (hf x)
  unfold Rc
  simpa using this
theorem OwnR.lit1 {α : Type} {f : α → List Value} {k : Nat} (hf : ∀ x, (f x).length = k) (w : World) (e : TypeId) (x : α) : OwnR f k (w.alloc (.cells (f x).toArray e)) e (.slice (some ⟨w.heap.size, 0, none⟩) 1 1) [x] :=
  ⟨by simp [hf], .inr ⟨w.heap.size, 1, (f x).toArray, rfl, Nat.zero_le _, heap_alloc_new w _, Nat.le_refl _, by simp [maxLen], by simp [hf], by simp; exact List.take_of_length_le (by simp [hf])⟩⟩
/- THE FIRST RULE THAT FITS -/
theorem firstR_behind {W T : List Av} {ty : List UInt8} {right : Int} {r : Rul} (h : fitsR r W T ty right) (M : List Rul) : ∀ L : List Rul, firstR W T ty right (L ++ r :: M) = firstR W T ty right (L ++ [r])
  | [] => by simp only [List.nil_append, firstR]; rw [if_pos h, if_pos h]
  | a :: L => by simp only [List.cons_append, firstR]; rw [firstR_behind h M L]
theorem firstR_ahead {W T : List Av} {ty : List UInt8} {right : Int} {r : Rul} (h : ¬ fitsR r W T ty right) (L : List Rul) : firstR W T ty right (r :: L) = firstR W T ty right L := by simp only [firstR]; rw [if_neg h]
theorem mayR_none (L : List Rul) (W T : List Av) (ty : List UInt8) (right : Int) : mayR L [] W T ty right = firstR W T ty right L := by
  unfold mayR
  rw [decide_eq_false (fun h => by simp at h), Bool.false_or]
end Go.Proofs.Ytbdkdbfcbakgmaa
