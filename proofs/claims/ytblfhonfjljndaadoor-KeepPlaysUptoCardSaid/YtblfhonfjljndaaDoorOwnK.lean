/- Rows of elements of k cells (structs), over any program: what a call owns, what a slice reads as, append. -/
import Derived.Test.YtblfhonfjljndaaDoorWords
namespace Go.Proofs.YtblfhonfjljndaaDoor
open Go.RowKit

/-- v is nil, or begins at the head of a row of n e's of k cells each that reads as xs (flat) and goes on to v's capacity. -/
def OwnK (w : World) (e : TypeId) (k : Nat) (v : Value) (n : Nat) (xs : List Value) : Prop := w.ownsRow 0 e k v n xs
/-- v is a slice of n elements of k cells each that reads as xs (flat). -/
def SlK (w : World) (S : Nat → Prop) (k : Nat) (v : Value) (n : Nat) (xs : List Value) : Prop :=
  ∃ A c, v = .slice A n c ∧ n ≤ c ∧ c ≤ maxLen ∧ (A = none → c = 0) ∧ xs.length = n * k ∧ Cells w S A xs
/-- t is the type of slices of e's; an e is k cells, z at first, of so many bytes. -/
structure SliceTyK (P : Program) (t e : TypeId) (z : Value) (k bytes : Nat) : Prop where
  ht : P.underlying t = some (.slice e)
  hi : (P.info? e).map (fun i => (i.zero, i.size, i.bytes)) = some (some z, k, bytes)
  hz : z.cells.size = k
  hk : 0 < k
  hb : 1 ≤ bytes

section
variable {w w' : World} {e : TypeId} {k n : Nat} {v : Value} {xs : List Value} {F S T : Nat → Prop}
theorem OwnK.nil (w : World) (e : TypeId) (k : Nat) : OwnK w e k (.slice none 0 0) 0 [] := World.ownsRow_nil w 0 e k
theorem OwnK.lt (h : OwnK w e k v n xs) {b : Nat} (hb : own v b) : b < w.heap.size := (World.ownsRow.lt h b hb).2
theorem OwnK.mod (h : OwnK w e k v n xs) (hm : Mod F w w') (hn : ∀ b, own v b → ¬ F b) : OwnK w' e k v n xs := by
  refine ⟨h.1, ?_⟩
  rcases h.2 with h2 | ⟨g, cap, cur, hv, hg, hh, r⟩
  · exact .inl h2
  · exact .inr ⟨g, cap, cur, hv, hg, (hm.block g (lt_of_block hh) (hn g (by rw [hv]; rfl))).trans hh, r⟩
theorem OwnK.alloc (h : OwnK w e k v n xs) (o : Obj) : OwnK (w.alloc o) e k v n xs := h.mod ((Mod.refl (fun _ => False) w).alloc o) fun _ _ h => h
theorem OwnK.form (h : OwnK w e k v n xs) : (v = .slice none 0 0 ∧ n = 0) ∨ ∃ g cap, v = .slice (some ⟨g, 0, none⟩) n cap ∧ n ≤ cap ∧ cap ≤ maxLen ∧ g < w.heap.size := by
  rcases h.2 with h2 | ⟨g, cap, cur, hv, hg, hh, r1, r2, _⟩
  · exact .inl h2
  · exact .inr ⟨g, cap, hv, r1, r2, lt_of_block hh⟩
theorem OwnK.shape (h : OwnK w e k v n xs) : ∃ A c, v = .slice A n c := by
  rcases h.form with ⟨rfl, rfl⟩ | ⟨g, cap, rfl, _⟩
  · exact ⟨_, _, rfl⟩
  · exact ⟨_, _, rfl⟩
theorem OwnK.len (h : OwnK w e k v n xs) : xs.length = n * k := h.1
theorem OwnK.slk (h : OwnK w e k v n xs) : SlK w (own v) k v n xs := by
  have hl := h.len
  rcases h.form with ⟨rfl, rfl⟩ | ⟨g, cap, rfl, h1, h2, h3⟩
  · refine ⟨none, 0, rfl, Nat.le_refl _, Nat.zero_le _, fun _ => rfl, hl, fun j u hu => ?_⟩
    have : xs = [] := List.eq_nil_of_length_eq_zero (by rw [hl, Nat.zero_mul])
    rw [this] at hu
    simp at hu
  · exact ⟨_, _, rfl, h1, h2, by simp, hl, fun j u hu => ⟨_, rfl, rfl, World.ownsRow.cells h (g := g) rfl j u hu⟩⟩
/-- A literal of one element. -/
theorem SlK.one (w : World) (e : TypeId) (cs : List Value) (k : Nat) (hk : cs.length = k) : SlK (w.alloc (.cells cs.toArray e)) (fun b => b = w.heap.size) k (.slice (some ⟨w.heap.size, 0, none⟩) 1 1) 1 cs :=
  ⟨_, _, rfl, Nat.le_refl _, by simp [maxLen], by simp, by rw [hk, Nat.one_mul], fun j u hu => ⟨_, rfl, rfl, by
    rw [add_lit, cell_of_row _ w.heap.size j cs.toArray e (0, 0) (heap_alloc_new w _)]
    simpa using hu⟩⟩
theorem SlK.mod (h : SlK w S k v n xs) (hm : Mod F w w') (hn : ∀ b, b < w.heap.size → S b → ¬ F b) : SlK w' S k v n xs := by
  obtain ⟨A, c, h1, h2, h3, h4, h5, h6⟩ := h
  exact ⟨A, c, h1, h2, h3, h4, h5, h6.mod hm hn⟩
theorem SlK.mono (h : SlK w S k v n xs) (hS : ∀ b, b < w.heap.size → S b → T b) : SlK w T k v n xs := by
  obtain ⟨A, c, h1, h2, h3, h4, h5, h6⟩ := h
  exact ⟨A, c, h1, h2, h3, h4, h5, h6.mono hS⟩
/-- The cell j of element i. -/
theorem SlK.at_ {A : Option Addr} {c i j : Nat} {u : Value} (h : SlK w S k (.slice A n c) n xs) (hu : xs[i * k + j]? = some u) : ∃ ad, A = some ad ∧ S ad.block ∧ w.cell? (ad.add (i * k + j)) = some u := by
  obtain ⟨A', c', h1, _, _, _, _, h6⟩ := h
  injection h1 with h1
  subst h1
  exact h6 _ _ hu
end

section
variable {P : Program} {w : World} {t e : TypeId} {z : Value} {k bytes n m : Nat} {S : Nat → Prop}
theorem run_appk (hT : SliceTyK P t e z k bytes) (ty : TypeId) {v y : Value} {xs news : List Value} (hown : OwnK w e k v n xs) (hr : SlK w S k y m news) (h1 : ∀ u ∈ news, u.oneCell' = true)
    (hn : (n + m) * bytes ≤ 140737488355328) :
    ∃ v' w', (Builtin.append_ #[t, t] ty #[v, y]).run P w = .ok v' w' ∧ OwnK w' e k v' (n + m) (xs ++ news) ∧ Mod (own v) w w' ∧ Next w.heap.size v v' := by
  obtain ⟨i, hi, hz0, hz1, hz2⟩ := info_parts hT.hi
  obtain ⟨A, c, rfl, hc, hm, hA, hlen, hcell⟩ := hr
  have hpos := hT.hb
  have h63 : n + m ≤ maxLen := by
    have : (n + m) * 1 ≤ (n + m) * bytes := Nat.mul_le_mul_left _ hpos
    simp only [maxLen]; omega
  rcases A with _ | ad
  · have hc0 := hA rfl
    have hm0 : m = 0 := by omega
    subst hm0
    subst hc0
    have hn0 : news = [] := List.eq_nil_of_length_eq_zero (by rw [hlen, Nat.zero_mul])
    subst hn0
    refine ⟨v, w, ?_, by simpa using hown, Mod.refl _ _, Next.refl _ _⟩
    rcases hown.2 with ⟨rfl, h0⟩ | ⟨g, cap, cur, rfl, _, _, hnc, _⟩
    · simp [Builtin.append_, run_underlying hT.ht, sizeOf, typeInfo, hi, Builtin.lenOf, Builtin.firstCells]
    · simp [Builtin.append_, run_underlying hT.ht, sizeOf, typeInfo, hi, Builtin.lenOf, Builtin.firstCells, hnc, storeCells]
  · have hcells : ∀ j u, news[j]? = some u → w.cell? (ad.add j) = some u := by
      intro j u hu
      obtain ⟨ad', h, _, hc⟩ := hcell j u hu
      injection h with h
      subst h
      exact hc
    obtain ⟨v', w', hrun, h2, h3, _, h5⟩ := run_append_own_at (P := P) w 0 t ty e i z k bytes hT.ht hi hz0 hz1 hz2 hT.hz hT.hk v n xs hown ad m c news hlen hcells h1 h63 hn (Nat.zero_le _)
    refine ⟨v', w', hrun, h2, Mod.of_grown h3 fun k hk => hk, ?_⟩
    rcases h5 with h5 | h5
    · exact .inl h5
    · exact .inr fun k hk => by rw [h5] at hk; injection hk with hk; omega

variable {ops : Array Oper} {rest : List Oper} {o : Oper} {a : Act} {Q : Exit → Act → World → Prop}
theorem wp_appk (hT : SliceTyK P t e z k bytes) {v y : Value} {xs news : List Value} (hown : OwnK w e k v n xs) (hr : SlK w S k y m news) (h1 : ∀ u ∈ news, u.oneCell' = true)
    (hgd : o.guard = none) (s x : Operand) (ho : o.op = .call { callee := .builtin .append, args := #[s, x], argTypes := #[t, t] }) (hs : a.eval s = v) (hx : a.eval x = y)
    (hn : (n + m) * bytes ≤ 140737488355328)
    (h : ∀ v' w', OwnK w' e k v' (n + m) (xs ++ news) → Mod (own v) w w' → Next w.heap.size v v' → wpList P ops Q rest (a.put o.dst v') w') : wpList P ops Q (o :: rest) a w := by
  refine wpList_plain hgd fun K hK => ?_
  obtain ⟨v', w', hrun, h2, h3, h4⟩ := run_appk (P := P) hT o.type hown hr h1 hn
  unfold Oper.wp execOp
  simp only [ho, resolve, invoke, builtin, Sem.run_bind, Sem.run_pure, Result.andThen_ok, List.map_toArray, List.map_cons, List.map_nil, hs, hx, hrun]
  exact hK _ _ (h v' w' h2 h3 h4)
end
end Go.Proofs.YtblfhonfjljndaaDoor
