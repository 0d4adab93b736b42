/- Keys of names: no key begins another one's, but above it. -/
import Derived.Test.YtacmbomnjedbeaaDnI
import Derived.WalkLawsBesides
namespace Go.Proofs.Ytacmbomnjedbeaa
open Go.RowKit
set_option maxRecDepth 100000

theorem split_at (c : UInt8) : ∀ (p q x y : List UInt8), c ∉ p → c ∉ q → p ++ c :: x = q ++ c :: y → p = q ∧ x = y
  | [], [], x, y, _, _, h => ⟨rfl, by simpa using h⟩
  | [], b :: q, x, y, _, hq, h => by
    simp only [List.nil_append, List.cons_append, List.cons.injEq] at h
    exact absurd (by rw [h.1]; simp) hq
  | b :: p, [], x, y, hp, _, h => by
    simp only [List.nil_append, List.cons_append, List.cons.injEq] at h
    exact absurd (by rw [← h.1]; simp) hp
  | a :: p, b :: q, x, y, hp, hq, h => by
    simp only [List.cons_append, List.cons.injEq] at h
    have := split_at c p q x y (fun h => hp (by simp [h])) (fun h => hq (by simp [h])) h.2
    exact ⟨by rw [h.1, this.1], this.2⟩
theorem escB_cons (b : UInt8) (s : List UInt8) : escB (b :: s) = (if b = 0 then [0, 255] else [b]) ++ escB s := rfl
theorem esc_split : ∀ (p q x y : List UInt8), escB p ++ 0 :: 1 :: x = escB q ++ 0 :: 1 :: y → p = q ∧ x = y
  | [], [], x, y, h => ⟨rfl, by simpa [escB] using h⟩
  | [], b :: q, x, y, h => by
    rw [escB_cons] at h
    by_cases hb : b = 0
    · rw [if_pos hb] at h
      simp [escB] at h
    · rw [if_neg hb] at h
      simp [escB] at h
      exact absurd h.1.symm hb
  | b :: p, [], x, y, h => by
    rw [escB_cons] at h
    by_cases hb : b = 0
    · rw [if_pos hb] at h
      simp [escB] at h
    · rw [if_neg hb] at h
      simp [escB] at h
      exact absurd h.1 hb
  | a :: p, b :: q, x, y, h => by
    rw [escB_cons, escB_cons] at h
    by_cases ha : a = 0 <;> by_cases hb : b = 0
    · rw [if_pos ha, if_pos hb] at h
      simp only [List.cons_append, List.nil_append, List.cons.injEq, true_and] at h
      have := esc_split p q x y h
      exact ⟨by rw [ha, hb, this.1], this.2⟩
    · rw [if_pos ha, if_neg hb] at h
      simp only [List.cons_append, List.nil_append, List.cons.injEq] at h
      exact absurd h.1.symm hb
    · rw [if_neg ha, if_pos hb] at h
      simp only [List.cons_append, List.nil_append, List.cons.injEq] at h
      exact absurd h.1 ha
    · rw [if_neg ha, if_neg hb] at h
      simp only [List.cons_append, List.nil_append, List.cons.injEq] at h
      have := esc_split p q x y h.2
      exact ⟨by rw [h.1, this.1], this.2⟩
theorem part_split {p q : Av} {x y : List UInt8} (hp : (61 : UInt8) ∉ p.1) (hq : (61 : UInt8) ∉ q.1) (h : partK p ++ x = partK q ++ y) : p = q ∧ x = y := by
  unfold partK at h
  simp only [List.append_assoc, List.cons_append, List.nil_append] at h
  obtain ⟨h1, h2⟩ := split_at 61 _ _ _ _ hp hq h
  obtain ⟨h3, h4⟩ := esc_split _ _ _ _ h2
  exact ⟨Prod.ext h1 h3, h4⟩
theorem parts_prefix : ∀ (A B : List Av), (∀ a ∈ A, (61 : UInt8) ∉ a.1) → (∀ b ∈ B, (61 : UInt8) ∉ b.1) → A.flatMap partK <+: B.flatMap partK → A <+: B
  | [], B, _, _, _ => List.nil_prefix
  | p :: A, [], _, _, h => by
    simp [partK] at h
  | p :: A, q :: B, hA, hB, h => by
    obtain ⟨r, hr⟩ := h
    rw [List.flatMap_cons, List.flatMap_cons, List.append_assoc] at hr
    obtain ⟨h1, h2⟩ := part_split (hA p (by simp)) (hB q (by simp)) hr
    subst h1
    exact (List.prefix_cons_inj p).2 (parts_prefix A B (fun a ha => hA a (by simp [ha])) (fun a ha => hB a (by simp [ha])) ⟨r, h2⟩)
theorem fold_mem {x : UInt8} : ∀ (s o : List UInt8), x ∈ s.foldl fstep o → x ∈ o ∨ ∃ b ∈ s, x = low b
  | [], o, h => .inl h
  | b :: s, o, h => by
    rw [List.foldl_cons] at h
    rcases fold_mem s _ h with h1 | ⟨c, hc, rfl⟩
    · unfold fstep at h1
      split at h1
      · exact .inl h1
      · rcases List.mem_append.1 h1 with h1 | h1
        · exact .inl h1
        · exact .inr ⟨b, by simp, by simpa using h1⟩
    · exact .inr ⟨c, by simp [hc], rfl⟩
theorem foldB_mem {x : UInt8} {s : List UInt8} (h : x ∈ foldB s) : ∃ b ∈ s, x = low b := by
  have h1 : x ∈ s.foldl fstep [] := by
    unfold foldB fcut at h
    split at h
    · exact (List.dropLast_sublist _).subset h
    · exact h
  rcases fold_mem s [] h1 with h | h
  · cases h
  · exact h
theorem type_no {s : List UInt8} (h : isTyp s) : (61 : UInt8) ∉ foldB s := by
  intro hm
  obtain ⟨b, hb, he⟩ := foldB_mem hm
  have ht := h.2.2.2 b hb
  have h61 : (low b).toNat = 61 := by rw [← he]; rfl
  by_cases hup : 65 ≤ b.toNat ∧ b.toNat ≤ 90
  · rw [low_up hup] at h61; omega
  · rw [low_no hup] at h61
    unfold typN letN at ht
    omega
theorem norm_append (L M : List Av) : norm (L ++ M) = norm L ++ norm M := by unfold norm; exact List.map_append
theorem norm_no {L : List Av} (h : ∀ a ∈ L, okA a) : ∀ a ∈ (norm L).reverse, (61 : UInt8) ∉ a.1 := by
  intro a ha
  rw [List.mem_reverse] at ha
  obtain ⟨b, hb, rfl⟩ := List.mem_map.1 ha
  exact type_no (h b hb).1
theorem key_append (C A : List Av) : keyB (C ++ A) = keyB A ++ partsK (norm C) := by
  unfold keyB partsK
  rw [norm_append, List.reverse_append, List.flatMap_append]
theorem key_prefix {A B : List Av} (hA : ∀ a ∈ A, okA a) (hB : ∀ a ∈ B, okA a) (h : keyB A <+: keyB B) : underN B A := by
  have h1 := parts_prefix _ _ (norm_no hA) (norm_no hB) h
  rw [List.reverse_prefix] at h1
  obtain ⟨r, hr⟩ := h1
  have hl : (norm B).length = B.length := by unfold norm; simp
  have hl2 : (norm A).length = A.length := by unfold norm; simp
  have hrl : r.length + A.length = B.length := by rw [← hl, ← hr, List.length_append, hl2]
  refine ⟨by omega, ?_⟩
  unfold sameN
  have : norm (B.drop (B.length - A.length)) = (norm B).drop (B.length - A.length) := by unfold norm; exact List.map_drop
  rw [this, ← hr, show B.length - A.length = r.length by omega, List.drop_left]
theorem less_append : ∀ (x y s t : List UInt8), ¬ x <+: y → ¬ y <+: x → Op.bytesLess (x ++ s) (y ++ t) = Op.bytesLess x y
  | [], y, s, t, h, _ => absurd List.nil_prefix h
  | a :: x, [], s, t, _, h => absurd List.nil_prefix h
  | a :: x, b :: y, s, t, h1, h2 => by
    rw [List.cons_append, List.cons_append]
    show (decide (a < b) || (a == b && Op.bytesLess (x ++ s) (y ++ t))) = (decide (a < b) || (a == b && Op.bytesLess x y))
    by_cases hab : a = b
    · subst hab
      rw [less_append x y s t (fun h => h1 ((List.prefix_cons_inj a).2 h)) (fun h => h2 ((List.prefix_cons_inj a).2 h))]
    · rw [show (a == b) = false from beq_false_of_ne hab]; rfl
theorem less_self : ∀ (x : List UInt8), Op.bytesLess x x = false
  | [] => rfl
  | a :: x => by
    show (decide (a < a) || (a == a && Op.bytesLess x x)) = false
    rw [less_self x]; simp
theorem less_more : ∀ (x s : List UInt8), s ≠ [] → Op.bytesLess x (x ++ s) = true
  | [], [], h => absurd rfl h
  | [], b :: s, _ => rfl
  | a :: x, s, h => by
    show (decide (a < a) || (a == a && Op.bytesLess x (x ++ s))) = true
    rw [less_more x s h]; simp
theorem partsK_nil {L : List Av} (h : L ≠ []) : partsK L ≠ [] := by
  unfold partsK
  intro he
  rcases List.eq_nil_or_concat L with rfl | ⟨M, a, rfl⟩
  · exact h rfl
  · simp [partK] at he
/-- The law's order. -/
theorem key_order {a b c d : List Av} (hm : isName (c ++ a)) (hn : isName (d ++ b)) (h1 : ¬ underN a b) (h2 : ¬ underN b a) :
    Op.bytesLess (keyB a) (keyB b) = Op.bytesLess (keyB (c ++ a)) (keyB (d ++ b)) := by
  have hA : ∀ x ∈ a, okA x := fun x hx => hm.2 x (by simp [hx])
  have hB : ∀ x ∈ b, okA x := fun x hx => hn.2 x (by simp [hx])
  rw [key_append, key_append, less_append _ _ _ _ (fun h => h2 (key_prefix hA hB h)) (fun h => h1 (key_prefix hB hA h))]
theorem key_leq (c a : List Av) : (Op.bytesLess (keyB a) (keyB (c ++ a)) || keyB a == keyB (c ++ a)) = true := by
  rw [key_append]
  by_cases h : partsK (norm c) = []
  · rw [h]; simp
  · rw [less_more _ _ h]; rfl
theorem key_less {c : List Av} (a : List Av) (hc : c.length ≠ 0) : Op.bytesLess (keyB a) (keyB (c ++ a)) = true := by
  rw [key_append]
  refine less_more _ _ (partsK_nil fun h => hc ?_)
  have : (norm c).length = 0 := by rw [h]; rfl
  simpa [norm] using this
end Go.Proofs.Ytacmbomnjedbeaa
namespace Go.Proofs.Ytacmbomnjedbeaa
open Go.RowKit
set_option maxRecDepth 100000

section
variable {P : Program} {w : World} {t e : TypeId} {z : Value} {k bytes : Nat} {ops : Array Oper} {rest : List Oper} {o : Oper} {a : Act} {Q : Exit → Act → World → Prop} {α : Type} {f : α → List Value} {S : Nat → Prop}
/-- append(v, ys...), whole rows of records. -/
theorem wp_appRs (hT : SliceTyK P t e z k bytes) {v y : Value} {L M : List α} (hown : OwnR f k w e v L) (hr : Rc f k w S y M) (h1 : ∀ x, ∀ u ∈ f x, u.oneCell' = true) (hn : (L.length + M.length) * bytes ≤ 140737488355328)
    (hgd : o.guard = none) (s x : Operand) (ho : o.op = .call { callee := .builtin .append, args := #[s, x], argTypes := #[t, t] }) (hs : a.eval s = v) (hx : a.eval x = y)
    (h : ∀ v' w', OwnR f k w' e v' (L ++ M) → Mod (own v) w w' → Next w.heap.size v v' → wpList P ops Q rest (a.put o.dst v') w') : wpList P ops Q (o :: rest) a w :=
  wp_appk hT hown hr (fun u hu => by obtain ⟨x, _, hx⟩ := List.mem_flatMap.1 hu; exact h1 x u hx) hgd s x ho hs hx hn fun v' w' k1 k2 k3 => h v' w' (by unfold OwnR; rw [List.length_append, List.flatMap_append]; exact k1) k2 k3
theorem OwnR.empty (f : α → List Value) (k : Nat) (w : World) (e : TypeId) : OwnR f k (w.alloc (.cells #[] e)) e (.slice (some ⟨w.heap.size, 0, none⟩) 0 0) [] :=
  ⟨by simp, .inr ⟨w.heap.size, 0, #[], rfl, Nat.zero_le _, heap_alloc_new w _, Nat.le_refl _, Nat.zero_le _, by simp, by simp⟩⟩
theorem fresh_new (w : World) (n c : Nat) : Fresh w.heap.size (.slice (some ⟨w.heap.size, 0, none⟩) n c) := fun k hk => by have : w.heap.size = k := Option.some.inj hk; omega
end
/-- What came in lies in memory that is there. -/
theorem Rc.there {α : Type} {f : α → List Value} {k : Nat} {w w' : World} {S : Nat → Prop} {v : Value} {L : List α} (h : Rc f k w S v L) (hx : Ext w w') : Rc f k w' (fun b => b < w'.heap.size) v L :=
  (h.mono (T := fun b => b < w.heap.size) (fun _b hb _ => hb)).ext hx |>.mono (fun _b hb _ => hb)

end Go.Proofs.Ytacmbomnjedbeaa
