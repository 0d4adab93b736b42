/- index: rows; what must be written, as the document merges it. -/
import Derived.Test.YtblfhonfjljndaaDoorIxA
import Derived.Test.YtblfhonfjljndaaDoorRecB
import Derived.Test.YtblfhonfjljndaaDoorRecIn
import Derived.Test.YtblfhonfjljndaaDoorOctR
import Derived.Laws.StructEq
import Derived.Maps.OwnOps
import Derived.Maps.OwnSet
import Derived.Maps.RangeWalk
import Derived.Sort.KeysCollected
import Derived.StringKeys
import Derived.Laws.Cover1
namespace Go.Proofs.YtblfhonfjljndaaDoor
open Go.RowKit Go.WideShapes Go.ChangeShapes
set_option maxRecDepth 100000

theorem dtrue {p : Prop} [Decidable p] (h : p) : decide p = true := decide_eq_true h
theorem dfalse {p : Prop} [Decidable p] (h : ¬ p) : decide p = false := decide_eq_false h
theorem sv_size (l : List UInt8) : (⟨l.toArray⟩ : ByteArray).size = l.length := by
  show l.toArray.size = l.length
  simp
/-- A row. -/
structure Ro where
  key : List UInt8
  val : List UInt8
  del : Bool
instance : DecidableEq Ro := fun a b => decidable_of_iff (a.key = b.key ∧ a.val = b.val ∧ a.del = b.del) ⟨fun ⟨h1, h2, h3⟩ => by cases a; cases b; simp_all, fun h => by rw [h]; exact ⟨rfl, rfl, rfl⟩⟩
instance : Inhabited Ro := ⟨⟨[], [], false⟩⟩
abbrev rol (c : Ro) : List Value := [sv c.key, sv c.val, .bool c.del]
abbrev rar (c : Ro) : Array Value := #[sv c.key, sv c.val, .bool c.del]
theorem rol_len (c : Ro) : (rol c).length = 3 := rfl
theorem rol_ok (c : Ro) : ∀ u ∈ rol c, u.oneCell' = true := by
  intro u hu
  simp only [rol, List.mem_cons, List.not_mem_nil, or_false] at hu
  rcases hu with rfl | rfl | rfl <;> rfl
abbrev Rs (w : World) (S : Nat → Prop) (v : Value) (L : List Ro) : Prop := Rc rol 3 w S v L
theorem Rs.at_ {w : World} {S : Nat → Prop} {A : Option Addr} {L : List Ro} (h : RcAt rol 3 w S A L) {i : Nat} (hi : i < L.length) :
    ∃ ad, A = some ad ∧ S ad.block ∧ w.cell? (ad.add (i * 3)) = some (sv L[i].key) ∧ w.cell? ⟨(ad.add (i * 3)).block, (ad.add (i * 3)).off + 1, none⟩ = some (sv L[i].val) ∧ w.cell? ⟨(ad.add (i * 3)).block, (ad.add (i * 3)).off + 2, none⟩ = some (.bool L[i].del) := by
  obtain ⟨ad, hA, hS, h0⟩ := h i 0 (sv L[i].key) hi (by omega) rfl
  obtain ⟨ad1, hA1, _, h1⟩ := h i 1 (sv L[i].val) hi (by omega) rfl
  obtain ⟨ad2, hA2, _, h2⟩ := h i 2 (.bool L[i].del) hi (by omega) rfl
  rw [hA] at hA1 hA2
  cases hA1
  cases hA2
  rw [add_next _ _ _ (by omega)] at h1 h2
  exact ⟨ad, hA, hS, h0, h1, h2⟩
/-- Rows whose keys rise. -/
def riseR (D : List Ro) : Prop := D.Pairwise fun a b => Op.bytesLess a.key b.key = true
theorem riseR_ext : ∀ {L M : List Ro}, riseR L → riseR M → (∀ c, c ∈ L ↔ c ∈ M) → L = M
  | [], [], _, _, _ => rfl
  | [], b :: M, _, _, h => absurd ((h b).2 (List.mem_cons_self ..)) (by simp)
  | a :: L, [], _, _, h => absurd ((h a).1 (List.mem_cons_self ..)) (by simp)
  | a :: L, b :: M, hl, hm, h => by
    obtain ⟨hl1, hl2⟩ := List.pairwise_cons.1 hl
    obtain ⟨hm1, hm2⟩ := List.pairwise_cons.1 hm
    have hab : a = b := by
      rcases List.mem_cons.1 ((h a).1 (List.mem_cons_self ..)) with e | e
      · exact e
      · rcases List.mem_cons.1 ((h b).2 (List.mem_cons_self ..)) with e2 | e2
        · exact e2.symm
        · have := less_trans _ _ _ (hl1 b e2) (hm1 a e)
          rw [less_irr] at this; cases this
    subst hab
    rw [riseR_ext hl2 hm2 fun c => ⟨fun hc => ?_, fun hc => ?_⟩]
    · rcases List.mem_cons.1 ((h c).1 (List.mem_cons_of_mem _ hc)) with e | e
      · subst e; have := hl1 c hc; rw [less_irr] at this; cases this
      · exact e
    · rcases List.mem_cons.1 ((h c).2 (List.mem_cons_of_mem _ hc)) with e | e
      · subst e; have := hm1 c hc; rw [less_irr] at this; cases this
      · exact e
abbrev goneR (k : List UInt8) : Ro := ⟨k, [], true⟩
abbrev newR (k : List UInt8) : Ro := ⟨k, [], false⟩
/-- What must be written so that a becomes b. -/
def IsDif (a b : Tx) (D : List Ro) : Prop := riseR D ∧ ∀ r, r ∈ D ↔ (∃ k, k ∈ a ∧ k ∉ b ∧ r = goneR k) ∨ ∃ k, k ∈ b ∧ k ∉ a ∧ r = newR k
theorem IsDif.one {a b : Tx} {D E : List Ro} (h : IsDif a b D) (h' : IsDif a b E) : D = E := riseR_ext h.1 h'.1 fun r => by rw [h.2, h'.2]
/-- P21.2, as the document merges. -/
def mrg : Tx → Tx → List Ro
  | [], [] => []
  | x :: a, [] => goneR x :: mrg a []
  | [], y :: b => newR y :: mrg [] b
  | x :: a, y :: b => if Op.bytesLess x y = true then goneR x :: mrg a (y :: b) else if Op.bytesLess y x = true then newR y :: mrg (x :: a) b else mrg a b
termination_by a b => a.length + b.length
theorem mrg_key : ∀ (a b : Tx) (r : Ro), r ∈ mrg a b → r.key ∈ a ∨ r.key ∈ b
  | [], [], r, h => by rw [mrg] at h; cases h
  | x :: a, [], r, h => by
    rw [mrg] at h
    rcases List.mem_cons.1 h with rfl | h
    · exact .inl (List.mem_cons_self ..)
    · rcases mrg_key a [] r h with h | h
      · exact .inl (List.mem_cons_of_mem _ h)
      · cases h
  | [], y :: b, r, h => by
    rw [mrg] at h
    rcases List.mem_cons.1 h with rfl | h
    · exact .inr (List.mem_cons_self ..)
    · rcases mrg_key [] b r h with h | h
      · cases h
      · exact .inr (List.mem_cons_of_mem _ h)
  | x :: a, y :: b, r, h => by
    rw [mrg] at h
    split at h
    · rcases List.mem_cons.1 h with rfl | h
      · exact .inl (List.mem_cons_self ..)
      · rcases mrg_key a (y :: b) r h with h | h
        · exact .inl (List.mem_cons_of_mem _ h)
        · exact .inr h
    · split at h
      · rcases List.mem_cons.1 h with rfl | h
        · exact .inr (List.mem_cons_self ..)
        · rcases mrg_key (x :: a) b r h with h | h
          · exact .inl h
          · exact .inr (List.mem_cons_of_mem _ h)
      · rcases mrg_key a b r h with h | h
        · exact .inl (List.mem_cons_of_mem _ h)
        · exact .inr (List.mem_cons_of_mem _ h)
termination_by a b => a.length + b.length
theorem riseT_not {x : List UInt8} {L : Tx} (h : ∀ b ∈ L, Op.bytesLess x b = true) : x ∉ L := fun hx => by have := h x hx; rw [less_irr] at this; cases this
theorem mrg_is : ∀ (a b : Tx), riseT a → riseT b → IsDif a b (mrg a b)
  | [], [], _, _ => ⟨by rw [mrg]; exact List.Pairwise.nil, fun r => by rw [mrg]; simp⟩
  | x :: a, [], ha, hb => by
    obtain ⟨a1, a2⟩ := List.pairwise_cons.1 ha
    obtain ⟨i1, i2⟩ := mrg_is a [] a2 hb
    rw [mrg]
    refine ⟨List.pairwise_cons.2 ⟨fun r hr => ?_, i1⟩, fun r => ?_⟩
    · rcases mrg_key a [] r hr with h | h
      · exact a1 _ h
      · cases h
    · rw [List.mem_cons, i2]
      constructor
      · rintro (rfl | ⟨k, h1, h2, rfl⟩ | ⟨k, h1, _⟩)
        · exact .inl ⟨x, List.mem_cons_self .., by simp, rfl⟩
        · exact .inl ⟨k, List.mem_cons_of_mem _ h1, h2, rfl⟩
        · cases h1
      · rintro (⟨k, h1, h2, rfl⟩ | ⟨k, h1, _⟩)
        · rcases List.mem_cons.1 h1 with rfl | h1
          · exact .inl rfl
          · exact .inr (.inl ⟨k, h1, h2, rfl⟩)
        · cases h1
  | [], y :: b, ha, hb => by
    obtain ⟨b1, b2⟩ := List.pairwise_cons.1 hb
    obtain ⟨i1, i2⟩ := mrg_is [] b ha b2
    rw [mrg]
    refine ⟨List.pairwise_cons.2 ⟨fun r hr => ?_, i1⟩, fun r => ?_⟩
    · rcases mrg_key [] b r hr with h | h
      · cases h
      · exact b1 _ h
    · rw [List.mem_cons, i2]
      constructor
      · rintro (rfl | ⟨k, h1, _⟩ | ⟨k, h1, h2, rfl⟩)
        · exact .inr ⟨y, List.mem_cons_self .., by simp, rfl⟩
        · cases h1
        · exact .inr ⟨k, List.mem_cons_of_mem _ h1, h2, rfl⟩
      · rintro (⟨k, h1, _⟩ | ⟨k, h1, h2, rfl⟩)
        · cases h1
        · rcases List.mem_cons.1 h1 with rfl | h1
          · exact .inl rfl
          · exact .inr (.inr ⟨k, h1, h2, rfl⟩)
  | x :: a, y :: b, ha, hb => by
    obtain ⟨a1, a2⟩ := List.pairwise_cons.1 ha
    obtain ⟨b1, b2⟩ := List.pairwise_cons.1 hb
    rw [mrg]
    by_cases hxy : Op.bytesLess x y = true
    · rw [if_pos hxy]
      obtain ⟨i1, i2⟩ := mrg_is a (y :: b) a2 hb
      have hxb : ∀ z ∈ y :: b, Op.bytesLess x z = true := fun z hz => by
        rcases List.mem_cons.1 hz with rfl | hz
        · exact hxy
        · exact less_trans _ _ _ hxy (b1 z hz)
      have hnx := riseT_not hxb
      have hna := riseT_not a1
      refine ⟨List.pairwise_cons.2 ⟨fun r hr => ?_, i1⟩, fun r => ?_⟩
      · rcases mrg_key a (y :: b) r hr with h | h
        · exact a1 _ h
        · exact hxb _ h
      · rw [List.mem_cons, i2]
        constructor
        · rintro (rfl | ⟨k, h1, h2, rfl⟩ | ⟨k, h1, h2, rfl⟩)
          · exact .inl ⟨x, List.mem_cons_self .., hnx, rfl⟩
          · exact .inl ⟨k, List.mem_cons_of_mem _ h1, h2, rfl⟩
          · refine .inr ⟨k, h1, fun h => ?_, rfl⟩
            rcases List.mem_cons.1 h with rfl | h
            · exact hnx h1
            · exact h2 h
        · rintro (⟨k, h1, h2, rfl⟩ | ⟨k, h1, h2, rfl⟩)
          · rcases List.mem_cons.1 h1 with rfl | h1
            · exact .inl rfl
            · exact .inr (.inl ⟨k, h1, h2, rfl⟩)
          · exact .inr (.inr ⟨k, h1, fun h => h2 (List.mem_cons_of_mem _ h), rfl⟩)
    · rw [if_neg hxy]
      by_cases hyx : Op.bytesLess y x = true
      · rw [if_pos hyx]
        obtain ⟨i1, i2⟩ := mrg_is (x :: a) b ha b2
        have hya : ∀ z ∈ x :: a, Op.bytesLess y z = true := fun z hz => by
          rcases List.mem_cons.1 hz with rfl | hz
          · exact hyx
          · exact less_trans _ _ _ hyx (a1 z hz)
        have hny := riseT_not hya
        refine ⟨List.pairwise_cons.2 ⟨fun r hr => ?_, i1⟩, fun r => ?_⟩
        · rcases mrg_key (x :: a) b r hr with h | h
          · exact hya _ h
          · exact b1 _ h
        · rw [List.mem_cons, i2]
          constructor
          · rintro (rfl | ⟨k, h1, h2, rfl⟩ | ⟨k, h1, h2, rfl⟩)
            · exact .inr ⟨y, List.mem_cons_self .., hny, rfl⟩
            · refine .inl ⟨k, h1, fun h => ?_, rfl⟩
              rcases List.mem_cons.1 h with rfl | h
              · exact hny h1
              · exact h2 h
            · exact .inr ⟨k, List.mem_cons_of_mem _ h1, h2, rfl⟩
          · rintro (⟨k, h1, h2, rfl⟩ | ⟨k, h1, h2, rfl⟩)
            · exact .inr (.inl ⟨k, h1, fun h => h2 (List.mem_cons_of_mem _ h), rfl⟩)
            · rcases List.mem_cons.1 h1 with rfl | h1
              · exact .inl rfl
              · exact .inr (.inr ⟨k, h1, h2, rfl⟩)
      · rw [if_neg hyx]
        have he : x = y := by
          rcases Classical.em (x = y) with e | e
          · exact e
          · exact absurd (less_tot (by simpa using hxy) e) hyx
        subst he
        obtain ⟨i1, i2⟩ := mrg_is a b a2 b2
        have hna := riseT_not a1
        have hnb := riseT_not b1
        refine ⟨i1, fun r => ?_⟩
        rw [i2]
        constructor
        · rintro (⟨k, h1, h2, rfl⟩ | ⟨k, h1, h2, rfl⟩)
          · refine .inl ⟨k, List.mem_cons_of_mem _ h1, fun h => ?_, rfl⟩
            rcases List.mem_cons.1 h with rfl | h
            · exact hna h1
            · exact h2 h
          · refine .inr ⟨k, List.mem_cons_of_mem _ h1, fun h => ?_, rfl⟩
            rcases List.mem_cons.1 h with rfl | h
            · exact hnb h1
            · exact h2 h
        · rintro (⟨k, h1, h2, rfl⟩ | ⟨k, h1, h2, rfl⟩)
          · rcases List.mem_cons.1 h1 with rfl | h1
            · exact absurd (List.mem_cons_self ..) h2
            · exact .inl ⟨k, h1, fun h => h2 (List.mem_cons_of_mem _ h), rfl⟩
          · rcases List.mem_cons.1 h1 with rfl | h1
            · exact absurd (List.mem_cons_self ..) h2
            · exact .inr ⟨k, h1, fun h => h2 (List.mem_cons_of_mem _ h), rfl⟩
termination_by a b => a.length + b.length
/-- A row's step: a key is struck, or laid in. -/
theorem dif_ends {a b : Tx} {D : List Ro} (ha : riseT a) (hb : riseT b) (h : IsDif a b D) {now : Tx} (hn : riseT now) (hm : ∀ x, x ∈ now ↔ (x ∈ a ∧ goneR x ∉ D) ∨ newR x ∈ D) : now = b := by
  refine riseT_ext hn hb fun x => ?_
  rw [hm, h.2, h.2]
  constructor
  · rintro (⟨h1, h2⟩ | ⟨k, h1, h2, e⟩ | ⟨k, h1, h2, e⟩)
    · rcases Classical.em (x ∈ b) with hx | hx
      · exact hx
      · exact absurd (.inl ⟨x, h1, hx, rfl⟩) h2
    · cases e
    · have : x = k := congrArg Ro.key e
      subst this
      exact h1
  · intro hx
    rcases Classical.em (x ∈ a) with h1 | h1
    · refine .inl ⟨h1, ?_⟩
      rintro (⟨k, h2, h3, e⟩ | ⟨k, h2, h3, e⟩)
      · have : x = k := congrArg Ro.key e
        subst this
        exact h3 hx
      · cases e
    · exact .inr (.inr ⟨x, hx, h1, rfl⟩)
end Go.Proofs.YtblfhonfjljndaaDoor
namespace Go.Proofs.YtblfhonfjljndaaDoor
open Go.RowKit Go.Maps Go.WideMaps
set_option maxRecDepth 100000

theorem keyS : Keyed Tryd.prog 9 := string_keyed Tryd.underlying9
theorem run_makeMapN {P : Program} {t a b : TypeId} (ht : P.underlying t = some (.map a b)) (w : World) (k : IntKind) (n : Nat) : (Instr.makeMap t (some (.int k (n : Int)))).run P w = .ok (.map (some w.heap.size)) (w.alloc (.map #[] 0)) := by
  simp [Instr.makeMap, run_underlying ht, asInt, Result.andThen]
  rfl
abbrev SetU (w : World) (b n : Nat) (D : DataW Unit) : Prop := w.ownsMap Tryd.prog 9 unitElem b n D
theorem ownsMap_mod {H : Type} {P : Program} {k : TypeId} {R : Value → Option (DataW H × List MemPlace)} {w w' : World} {b n : Nat} {D : DataW H} {F : Nat → Prop} (h : w.ownsMap P k R b n D) (hm : Mod F w w') (hn : ¬ F b) : w'.ownsMap P k R b n D := by
  have hlt := h.lt
  obtain ⟨es, clock, hb, F, hs, hD⟩ := h
  exact ⟨es, clock, (hm.block b hlt hn).trans hb, F, hs, hD⟩
/-- It is the set of some texts. -/
def IsSet (D : DataW Unit) (L : Tx) : Prop := IsMap D ∧ ∀ x, has D (.string x) = decide (x ∈ L)
theorem isSet_none : IsSet (.map []) [] := ⟨isMap_empty, fun x => by simp [has_eq]⟩
theorem IsSet.put {D : DataW Unit} {L : Tx} (h : IsSet D L) (x : List UInt8) : IsSet (D.put (.string x) (.agg [])) (L ++ [x]) := by
  refine ⟨h.1.put _ _, fun y => ?_⟩
  by_cases e : y = x
  · subst e
    rw [has_put_same h.1 (k := .string y) trivial]
    simp
  · rw [has_put_other (fun e2 => e (by injection e2)), h.2]
    simp [e]
theorem keyOf_sv (l : List UInt8) (h : l.length ≤ 140737488351232) : keyOf Tryd.prog 9 (sv l) = some (.string l) := by
  have := keyOf_string_mk (P := Tryd.prog) Tryd.underlying9 (s := ⟨l.toArray⟩) (by rw [sv_size]; simp only [maxLen]; omega)
  rw [this]

/-- v is a slice that reads as texts. -/
abbrev Ts (w : World) (S : Nat → Prop) (v : Value) (L : Tx) : Prop := Sl w S v (L.map sv)
def TFits (L : Tx) : Prop := ∀ l ∈ L, l.length ≤ 140737488351232

theorem riseT_adj {L : Tx} (h : ∀ i (hi : i + 1 < L.length), Op.bytesLess (L[i]'(by omega)) L[i + 1] = true) : riseT L := by
  refine List.pairwise_iff_getElem.2 fun i j hi hj hij => ?_
  obtain ⟨d, rfl⟩ : ∃ d, j = i + 1 + d := ⟨j - i - 1, by omega⟩
  induction d with
  | zero => exact h i hj
  | succ d ih => exact less_trans _ _ _ (ih (by omega) (by omega)) (h (i + 1 + d) hj)
end Go.Proofs.YtblfhonfjljndaaDoor
