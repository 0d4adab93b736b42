/- Rows of records: appended, cut, turned; over any program. -/
import Derived.Test.YtblfhonfjljndaaDoorRecB
import Derived.Deep.RegionHeld3
namespace Go.Proofs.YtblfhonfjljndaaDoor
open Go.RowKit
set_option maxRecDepth 100000

section
variable {P : Program} {w : World} {t e : TypeId} {z : Value} {k bytes : Nat} {ops : Array Oper} {o : Oper} {a : Act} {Q : Exit → Act → World → Prop} {α : Type} {f : α → List Value} {S : Nat → Prop}
theorem run_appRs (hT : SliceTyK P t e z k bytes) (ty : TypeId) {v y : Value} {L M : List α} (hown : OwnR f k w e v L) (hr : Rc f k w S y M) (h1 : ∀ x ∈ M, ∀ u ∈ f x, u.oneCell' = true) (hn : (L.length + M.length) * bytes ≤ 140737488355328) :
    ∃ v' w', (Builtin.append_ #[t, t] ty #[v, y]).run P w = .ok v' w' ∧ OwnR f k w' e v' (L ++ M) ∧ Mod (own v) w w' ∧ Next w.heap.size v v' := by
  obtain ⟨v', w', hrun, h2, h3, h4⟩ := run_appk hT ty hown hr (fun u hu => by obtain ⟨x, hm, hx⟩ := List.mem_flatMap.1 hu; exact h1 x hm u hx) hn
  exact ⟨v', w', hrun, by unfold OwnR; rw [List.length_append, List.flatMap_append]; exact h2, h3, h4⟩
/-- append(v, ys...). -/
theorem wp_appRm {rest : List Oper} (hT : SliceTyK P t e z k bytes) {v y : Value} {L M : List α} (hown : OwnR f k w e v L) (hr : Rc f k w S y M) (h1 : ∀ x ∈ M, ∀ u ∈ f x, u.oneCell' = true) (hn : (L.length + M.length) * bytes ≤ 140737488355328)
    (hgd : o.guard = none) (s x : Operand) (ho : o.op = .call { callee := .builtin .append, args := #[s, x], argTypes := #[t, t] }) (hs : a.eval s = v) (hx : a.eval x = y)
    (h : ∀ v' w', OwnR f k w' e v' (L ++ M) → Mod (own v) w w' → Next w.heap.size v v' → wpList P ops Q rest (a.put o.dst v') w') : wpList P ops Q (o :: rest) a w :=
  wp_appk hT hown hr (fun u hu => by obtain ⟨x, hm, hx⟩ := List.mem_flatMap.1 hu; exact h1 x hm u hx) hgd s x ho hs hx hn fun v' w' k1 k2 k3 => h v' w' (by unfold OwnR; rw [List.length_append, List.flatMap_append]; exact k1) k2 k3
/-- append(v, ys...) at a step of a region that draws. -/
theorem step_appRs {K : Act → World → Prop} {E : Prop} (d : Tmp) (hT : SliceTyK P t e z k bytes) {v y : Value} {L M : List α} (hown : OwnR f k w e v L) (hr : Rc f k w S y M) (h1 : ∀ x ∈ M, ∀ u ∈ f x, u.oneCell' = true) (hn : (L.length + M.length) * bytes ≤ 140737488355328)
    (hgd : o.guard = none) (hd : o.dst = some d) (s yy : Operand) (ho : o.op = .call { callee := .builtin .append, args := #[s, yy], argTypes := #[t, t] }) (hs : a.eval s = v) (hy : a.eval yy = y)
    (h : ∀ v' w', OwnR f k w' e v' (L ++ M) → Mod (own v) w w' → Next w.heap.size v v' → K (a.put o.dst v') w') : if Region.wanted o (yielded ops a.tmps) = true then Oper.wp P o a w K Q else E := by
  have hw : Region.wanted o (yielded ops a.tmps) = true := by simp [Region.wanted, hgd]
  rw [if_pos hw]
  obtain ⟨v', w', hrun, h2, h3, h4⟩ := run_appRs (P := P) hT o.type hown hr h1 hn
  unfold Oper.wp execOp
  simp only [ho, resolve, invoke, builtin, Sem.run_bind, Sem.run_pure, Result.andThen_ok, List.map_toArray, List.map_cons, List.map_nil, hs, hy, hrun]
  simp only [Oper.upon, hd]
  have := h v' w' h2 h3 h4
  rw [hd] at this
  exact this
/-- append(v, bytes that were laid) at a step of a region that draws. -/
theorem step_app {K : Act → World → Prop} {E : Prop} (d : Tmp) (hT : SliceTy P t e z bytes) {v y : Value} {S : Nat → Prop} {xs news : List Value} (hown : Own w e v xs) (hr : Sl w S y news) (h1 : ∀ u ∈ news, u.oneCell' = true)
    (hn : (xs.length + news.length) * bytes ≤ 140737488355328) (hgd : o.guard = none) (hd : o.dst = some d) (s yy : Operand) (ho : o.op = .call { callee := .builtin .append, args := #[s, yy], argTypes := #[t, t] }) (hs : a.eval s = v) (hy : a.eval yy = y)
    (h : ∀ v' w', Own w' e v' (xs ++ news) → Mod (own v) w w' → Next w.heap.size v v' → K (a.put o.dst v') w') : if Region.wanted o (yielded ops a.tmps) = true then Oper.wp P o a w K Q else E := by
  have hw : Region.wanted o (yielded ops a.tmps) = true := by simp [Region.wanted, hgd]
  rw [if_pos hw]
  obtain ⟨v', w', hrun, h2, h3, h4⟩ := run_app (P := P) hT o.type hown hr h1 hn
  unfold Oper.wp execOp
  simp only [ho, resolve, invoke, builtin, Sem.run_bind, Sem.run_pure, Result.andThen_ok, List.map_toArray, List.map_cons, List.map_nil, hs, hy, hrun]
  simp only [Oper.upon, hd]
  have := h v' w' h2 h3 h4
  rw [hd] at this
  exact this
end
section
variable {α : Type} {f : α → List Value} {k : Nat}
/-- One record in a block of its own. -/
theorem Rc.lit1 (hf : ∀ x, (f x).length = k) (w : World) (e : TypeId) (x : α) : Rc f k (w.alloc (.cells (f x).toArray e)) (fun b => b = w.heap.size) (.slice (some ⟨w.heap.size, 0, none⟩) 1 1) [x] := by
  have := SlK.one w e (f x) k (hf x)
  unfold Rc
  simpa using this
theorem OwnR.lit1 (hf : ∀ x, (f x).length = k) (w : World) (e : TypeId) (x : α) : OwnR f k (w.alloc (.cells (f x).toArray e)) e (.slice (some ⟨w.heap.size, 0, none⟩) 1 1) [x] :=
  ⟨by simp [hf], .inr ⟨w.heap.size, 1, (f x).toArray, rfl, Nat.zero_le _, heap_alloc_new w _, Nat.le_refl _, by simp [maxLen], by simp [hf], by simp; exact List.take_of_length_le (by simp [hf])⟩⟩
theorem OwnR.empty (f : α → List Value) (k : Nat) (w : World) (e : TypeId) : OwnR f k (w.alloc (.cells #[] e)) e (.slice (some ⟨w.heap.size, 0, none⟩) 0 0) [] :=
  ⟨by simp, .inr ⟨w.heap.size, 0, #[], rfl, Nat.zero_le _, heap_alloc_new w _, Nat.le_refl _, Nat.zero_le _, by simp, by simp⟩⟩
theorem flat_set {j : Nat} {u : Value} (hf : ∀ a, (f a).length = k) : ∀ (L : List α) (i : Nat) (a' : α) (hi : i < L.length), j < k → f a' = (f L[i]).set j u → (L.set i a').flatMap f = (L.flatMap f).set (i * k + j) u
  | a :: L, 0, a', _, hj, h => by
    simp only [List.set_cons_zero, List.flatMap_cons, Nat.zero_mul, Nat.zero_add]
    rw [h, List.set_append_left _ _ (by rw [hf]; exact hj)]
    rfl
  | a :: L, i + 1, a', hi, hj, h => by
    simp only [List.set_cons_succ, List.flatMap_cons]
    rw [flat_set hf L i a' (by simpa using hi) hj h, List.set_append_right _ _ (by rw [hf, Nat.succ_mul]; omega), hf, show (i + 1) * k + j - k = i * k + j by rw [Nat.succ_mul]; omega]
/-- A cell of a record that the call owns is turned. -/
theorem OwnR.set {w : World} {e : TypeId} {g c : Nat} {L : List α} (hf : ∀ a, (f a).length = k) (h : OwnR f k w e (.slice (some ⟨g, 0, none⟩) L.length c) L) {i j : Nat} {u : Value} {a' : α} (hi : i < L.length) (hj : j < k) (ha : f a' = (f L[i]).set j u) :
    OwnR f k (w.setCell ⟨g, i * k + j, none⟩ u) e (.slice (some ⟨g, 0, none⟩) L.length c) (L.set i a') := by
  obtain ⟨hlen, h2⟩ := h
  rcases h2 with ⟨h2, _⟩ | ⟨g', cap, cur, hv, hz, hh, hn, hm, hcs, htk⟩
  · cases h2
  · injection hv with e1 _ e3
    injection e1 with e1
    injection e1 with e1
    subst e1; subst e3
    have hfs := flat_set hf L i a' hi hj ha
    unfold OwnR OwnK
    rw [List.length_set, hfs]
    refine ⟨by rw [List.length_set]; exact hlen, .inr ⟨g, c, cur.setIfInBounds (i * k + j) u, rfl, hz, ?_, hn, hm, by simpa using hcs, ?_⟩⟩
    · exact (show Blk w g e cur from hh).set_ (i * k + j) u
    · rw [Array.toList_setIfInBounds, List.take_set, htk]
theorem OwnR.form {w : World} {e : TypeId} {v : Value} {L : List α} (h : OwnR f k w e v L) : (v = .slice none 0 0 ∧ L.length = 0) ∨ ∃ g c, v = .slice (some ⟨g, 0, none⟩) L.length c ∧ L.length ≤ c ∧ c ≤ 9223372036854775807 ∧ g < w.heap.size := by
  rcases OwnK.form h with h | ⟨g, c, h1, h2, h3, h4⟩
  · exact .inl h
  · exact .inr ⟨g, c, h1, h2, by simpa [maxLen] using h3, h4⟩
theorem add_base (g n : Nat) : (⟨g, 0, none⟩ : Addr).add n = ⟨g, n, none⟩ := by
  unfold Addr.add
  split
  · subst_vars; rfl
  · simp
/-- A record's cell. -/
theorem OwnR.cell (hf : ∀ a, (f a).length = k) {w : World} {e : TypeId} {g c : Nat} {L : List α} (h : OwnR f k w e (.slice (some ⟨g, 0, none⟩) L.length c) L) {i j : Nat} (hi : i < L.length) (hj : j < k) {u : Value} (hu : (f L[i])[j]? = some u) : w.cell? ⟨g, i * k + j, none⟩ = some u := by
  obtain ⟨A, c', e1, _, _, _, h5⟩ := Rc.open_ hf h.rc
  injection e1 with e1 _ _
  subst e1
  obtain ⟨ad, h1, _, h3⟩ := h5 i j u hi hj hu
  injection h1 with h1
  subst h1
  rw [add_base] at h3
  exact h3
theorem OwnR.thaw {w : World} {e : TypeId} {g c : Nat} {L : List α} (h : OwnR f k w e (.slice (some ⟨g, 0, none⟩) L.length c) L) (j : Nat) : w.frozen? ⟨g, j, none⟩ = false := by
  obtain ⟨hlen, h2⟩ := h
  rcases h2 with ⟨h2, _⟩ | ⟨g', cap, cur, hv, hz, hh, _⟩
  · cases h2
  · injection hv with e1 _ e3
    injection e1 with e1
    injection e1 with e1
    subst e1
    simp [World.frozen?, hh]
end
end Go.Proofs.YtblfhonfjljndaaDoor
