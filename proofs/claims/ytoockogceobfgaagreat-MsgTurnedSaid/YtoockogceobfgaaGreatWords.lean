/- Words for memory, over any program: what has turned (Mod), what a slice reads as (Sl, Bs), what a call owns (Own); append, make, copy and byte stores said in these words. -/
import Derived.WalkKit
import Derived.Deep.AppendLies
import Derived.Deep.Draws
import Derived.Deep.QuietTactic
import Derived.BigQuiet
import Derived.Maps.AppendAt
import Derived.Lib.Hide
import Derived.Laws.CopyOwn
import Derived.Lib.SlBytesConst
namespace Go.Proofs.YtoockogceobfgaaGreat
open Go.RowKit

theorem block_of_add (a : Addr) (n : Nat) : (a.add n).block = a.block := by unfold Addr.add; split <;> rfl
theorem add_of_add (a : Addr) (i j : Nat) : (a.add i).add j = a.add (i + j) := by
  unfold Addr.add
  by_cases hi : i = 0 <;> by_cases hj : j = 0 <;> simp [hi, hj, Nat.add_assoc]
theorem add_lit (g j : Nat) : (⟨g, 0, none⟩ : Addr).add j = ⟨g, j, none⟩ := by unfold Addr.add; split <;> simp_all

/-- A byte as a value. -/
abbrev bv (u : UInt8) : Value := .int .u8 (u.toNat : Int)
theorem bv_one (l : List UInt8) : ∀ u ∈ l.map bv, u.oneCell' = true := by
  intro u hu
  obtain ⟨c, _, rfl⟩ := List.mem_map.1 hu
  rfl

/- WHAT HAS TURNED -/

/-- Of what was there only blocks of F may have turned. -/
structure Mod (F : Nat → Prop) (w w' : World) : Prop where
  os : w'.os = w.os
  tape : w'.tape = w.tape
  output : w'.output = w.output
  size : w.heap.size ≤ w'.heap.size
  block : ∀ k, k < w.heap.size → ¬ F k → w'.heap[k]? = w.heap[k]?

/-- Nothing that was there has turned. -/
abbrev Ext (w w' : World) : Prop := Mod (fun _ => False) w w'

section
variable {F G H : Nat → Prop} {a b c w w' : World}
theorem Mod.refl (F : Nat → Prop) (w : World) : Mod F w w := ⟨rfl, rfl, rfl, Nat.le_refl _, fun _ _ _ => rfl⟩
theorem Mod.mono (h : Mod F a b) (hF : ∀ k, k < a.heap.size → F k → G k) : Mod G a b := ⟨h.os, h.tape, h.output, h.size, fun k hk hg => h.block k hk (fun hf => hg (hF k hk hf))⟩
theorem Mod.trans (h : Mod F a b) (k : Mod G b c) (hF : ∀ k, k < a.heap.size → F k → H k) (hG : ∀ k, k < a.heap.size → G k → H k) : Mod H a c :=
  ⟨k.os.trans h.os, k.tape.trans h.tape, k.output.trans h.output, Nat.le_trans h.size k.size, fun i hi hn =>
    (k.block i (Nat.lt_of_lt_of_le hi h.size) (fun hg => hn (hG i hi hg))).trans (h.block i hi (fun hf => hn (hF i hi hf)))⟩
theorem Mod.then_ (h : Mod F a b) (k : Mod G b c) (hG : ∀ k, k < a.heap.size → G k → F k) : Mod F a c := h.trans k (fun _ _ h => h) hG
theorem Mod.drewN (h : Mod F a b) (n : Nat) : Mod F a (b.drewN n) := ⟨h.os, h.tape, h.output, h.size, h.block⟩
theorem Mod.drew (h : Mod F a b) : Mod F a b.drew := ⟨h.os, h.tape, h.output, h.size, h.block⟩
theorem Mod.alloc (h : Mod F a b) (o : Obj) : Mod F a (b.alloc o) :=
  ⟨h.os, h.tape, h.output, Nat.le_trans h.size (by simp), fun k hk hn => (Below.heap_alloc _ _ _ (Nat.lt_of_lt_of_le hk h.size)).trans (h.block k hk hn)⟩
theorem Mod.setCell (h : Mod F a b) {p : Addr} (hp : p.block < a.heap.size → F p.block) (u : Value) : Mod F a (b.setCell p u) :=
  ⟨h.os, h.tape, h.output, by simpa [World.setCell] using h.size, fun k hk hn => (Below.heap_setCell _ _ _ _ (by rintro rfl; exact hn (hp hk))).trans (h.block k hk hn)⟩
theorem Mod.of_below (h : Below a.heap.size a b) : Mod F a b := ⟨h.os, h.tape, h.output, h.size, fun k hk _ => h.block k hk⟩
theorem Mod.of_grown {row : Option Nat} (h : a.grownBy b row) (hF : ∀ k, row = some k → F k) : Mod F a b :=
  ⟨h.os, h.tape, h.output, h.size, fun k hk hn => h.block k hk (fun e => hn (hF k e.symm))⟩
theorem Mod.below {B : Nat} (h : Mod F a b) (hB : B ≤ a.heap.size) (hF : ∀ k, k < B → ¬ F k) : Below B a b :=
  ⟨h.os, h.tape, h.output, h.size, fun k hk => h.block k (by omega) (hF k hk)⟩
theorem Mod.ext (h : Mod F a b) (hF : ∀ k, k < a.heap.size → ¬ F k) : Ext a b := h.mono fun k hk hf => (hF k hk hf)
theorem Mod.toBelow (h : Ext a b) : Below a.heap.size a b := h.below (Nat.le_refl _) fun _ _ h => h
theorem Mod.cell (h : Mod F a b) {p : Addr} (hk : p.block < a.heap.size) (hn : ¬ F p.block) : b.cell? p = a.cell? p := World.cell?_of_block (h.block _ hk hn)
theorem Mod.frozen (h : Mod F a b) {p : Addr} (hk : p.block < a.heap.size) (hn : ¬ F p.block) : b.frozen? p = a.frozen? p := World.frozen?_of_block (h.block _ hk hn)
end

theorem lt_of_block {w : World} {k : Nat} {o : Obj} (h : w.heap[k]? = some o) : k < w.heap.size := (Array.getElem?_eq_some_iff.1 h).1

/- A BLOCK KNOWN WHOLE -/
def Blk (w : World) (g : Nat) (t : TypeId) (cs : Array Value) : Prop := w.heap[g]? = some (.cells cs t (0, 0))
section
variable {w w' : World} {g : Nat} {t : TypeId} {cs : Array Value}
theorem Blk.lt (h : Blk w g t cs) : g < w.heap.size := lt_of_block h
theorem Blk.cell (h : Blk w g t cs) (i : Nat) : w.cell? ⟨g, i, none⟩ = cs[i]? := cell_of_row w g i cs t (0, 0) h
theorem Blk.frozen (h : Blk w g t cs) (i : Nat) : w.frozen? ⟨g, i, none⟩ = false := by
  unfold Blk at h
  simp [World.frozen?, h]
theorem Blk.c0 {v : Value} (h : Blk w g t #[v]) : w.cell? ⟨g, 0, none⟩ = some v := h.cell 0
theorem Blk.new (w : World) (t : TypeId) (cs : Array Value) : Blk (w.alloc (.cells cs t)) w.heap.size t cs := heap_alloc_new w _
theorem Blk.drewN (h : Blk w g t cs) (n : Nat) : Blk (w.drewN n) g t cs := h
theorem Blk.alloc (h : Blk w g t cs) (o : Obj) : Blk (w.alloc o) g t cs := (Below.heap_alloc w o g h.lt).trans h
theorem Blk.set_ (h : Blk w g t cs) (i : Nat) (u : Value) : Blk (w.setCell ⟨g, i, none⟩ u) g t (cs.setIfInBounds i u) := by
  unfold Blk at h ⊢
  simp [World.setCell, Array.getElem?_modify, h]
theorem Blk.far (h : Blk w g t cs) {p : Addr} (hp : g ≠ p.block) (u : Value) : Blk (w.setCell p u) g t cs := (Below.heap_setCell w p u g hp).trans h
theorem Blk.mod {F : Nat → Prop} (h : Blk w g t cs) (hm : Mod F w w') (hg : ¬ F g) : Blk w' g t cs := (hm.block g h.lt hg).trans h
theorem Blk.ne_ {g' : Nat} {t' : TypeId} {cs' : Array Value} (h : Blk w g t cs) (h' : Blk w g' t' cs') (hne : t ≠ t') : g ≠ g' := by
  rintro rfl
  unfold Blk at h h'
  rw [h] at h'
  injection h' with h'
  injection h' with _ ht
  exact hne ht
end

/- WHAT A SLICE READS AS -/

/-- The cells xs lie at A, in blocks of S. -/
def Cells (w : World) (S : Nat → Prop) (A : Option Addr) (xs : List Value) : Prop :=
  ∀ k u, xs[k]? = some u → ∃ ad, A = some ad ∧ S ad.block ∧ w.cell? (ad.add k) = some u

/-- v is a slice (one cell an element) that reads as xs. -/
def Sl (w : World) (S : Nat → Prop) (v : Value) (xs : List Value) : Prop :=
  ∃ A c, v = .slice A xs.length c ∧ xs.length ≤ c ∧ c ≤ maxLen ∧ (A = none → c = 0) ∧ Cells w S A xs

abbrev Bs (w : World) (S : Nat → Prop) (v : Value) (l : List UInt8) : Prop := Sl w S v (l.map bv)

section
variable {w w' : World} {S T F : Nat → Prop} {A : Option Addr} {v : Value} {xs ys : List Value} {l : List UInt8}
theorem Cells.nil (w : World) (S : Nat → Prop) (A : Option Addr) : Cells w S A [] := fun k u h => by simp at h
theorem lt_of_cell {a : Addr} {u : Value} (h : w.cell? a = some u) : a.block < w.heap.size := block_lt_of_cell h
theorem Cells.mod (h : Cells w S A xs) (hm : Mod F w w') (hn : ∀ k, k < w.heap.size → S k → ¬ F k) : Cells w' S A xs := fun k u hu => by
  obtain ⟨ad, hA, hS, hc⟩ := h k u hu
  have hlt := lt_of_cell hc
  rw [block_of_add] at hlt
  exact ⟨ad, hA, hS, (hm.cell (p := ad.add k) (by rw [block_of_add]; exact hlt) (by rw [block_of_add]; exact hn _ hlt hS)).trans hc⟩
theorem Cells.mono (h : Cells w S A xs) (hS : ∀ k, k < w.heap.size → S k → T k) : Cells w T A xs := fun k u hu => by
  obtain ⟨ad, hA, hs, hc⟩ := h k u hu
  have hlt := lt_of_cell hc
  rw [block_of_add] at hlt
  exact ⟨ad, hA, hS _ hlt hs, hc⟩
theorem Cells.take (h : Cells w S A xs) (n : Nat) : Cells w S A (xs.take n) := fun k u hu => h k u (by
  rw [List.getElem?_take] at hu
  split at hu
  · exact hu
  · cases hu)
theorem Cells.drop (h : Cells w S A xs) (n : Nat) : Cells w S (A.map (·.add n)) (xs.drop n) := fun k u hu => by
  rw [List.getElem?_drop] at hu
  obtain ⟨ad, rfl, hS, hc⟩ := h _ _ hu
  exact ⟨ad.add n, rfl, by rw [block_of_add]; exact hS, by rw [add_of_add]; exact hc⟩
theorem Sl.mod (h : Sl w S v xs) (hm : Mod F w w') (hn : ∀ k, k < w.heap.size → S k → ¬ F k) : Sl w' S v xs := by
  obtain ⟨A, c, h1, h2, h3, h4, h5⟩ := h
  exact ⟨A, c, h1, h2, h3, h4, h5.mod hm hn⟩
theorem Sl.ext (h : Sl w S v xs) (hm : Ext w w') : Sl w' S v xs := h.mod hm fun _ _ _ h => h
theorem Sl.mono (h : Sl w S v xs) (hS : ∀ k, k < w.heap.size → S k → T k) : Sl w T v xs := by
  obtain ⟨A, c, h1, h2, h3, h4, h5⟩ := h
  exact ⟨A, c, h1, h2, h3, h4, h5.mono hS⟩
theorem Sl.nil (w : World) (S : Nat → Prop) : Sl w S (.slice none 0 0) [] := ⟨none, 0, rfl, Nat.le_refl _, Nat.zero_le _, fun _ => rfl, Cells.nil _ _ _⟩
theorem Sl.drewN (h : Sl w S v xs) (n : Nat) : Sl (w.drewN n) S v xs := h
theorem Cells.byte (h : Cells w S A (l.map bv)) {k : Nat} (hk : k < l.length) :
    ∃ ad, A = some ad ∧ S ad.block ∧ w.cell? (ad.add k) = some (.int .u8 (l[k].toNat : Int)) :=
  h k _ (by simp [hk])
/-- A byte slice opened: its address, its room. -/
theorem Bs.open_ (h : Bs w S v l) : ∃ A c, v = .slice A l.length c ∧ l.length ≤ c ∧ c ≤ 9223372036854775807 ∧ (A = none → c = 0) ∧ Cells w S A (l.map bv) := by
  obtain ⟨A, c, h1, h2, h3, h4, h5⟩ := h
  rw [List.length_map] at h1 h2
  exact ⟨A, c, h1, h2, by simpa [maxLen] using h3, h4, h5⟩
theorem Bs.mk {A : Option Addr} {n c : Nat} (hn : n = l.length) (hc : l.length ≤ c) (hm : c ≤ 9223372036854775807) (hA : A = none → c = 0) (h : Cells w S A (l.map bv)) : Bs w S (.slice A n c) l :=
  ⟨A, c, by rw [hn, List.length_map], by rw [List.length_map]; exact hc, by simpa [maxLen] using hm, hA, h⟩
end

theorem Sl.alloc {w : World} {S : Nat → Prop} {v : Value} {xs : List Value} (h : Sl w S v xs) (o : Obj) : Sl (w.alloc o) S v xs := h.ext ((Mod.refl _ w).alloc o)
/-- The block that holds a literal's elements. -/
theorem Sl.lit (w : World) (e : TypeId) (cs : List Value) (hm : cs.length ≤ maxLen) : Sl (w.alloc (.cells cs.toArray e)) (fun k => k = w.heap.size) (.slice (some ⟨w.heap.size, 0, none⟩) cs.length cs.length) cs :=
  ⟨_, _, rfl, Nat.le_refl _, hm, by simp, fun k u hu => ⟨_, rfl, rfl, by
    rw [add_lit, cell_of_row _ w.heap.size k cs.toArray e (0, 0) (heap_alloc_new w _)]
    simpa using hu⟩⟩
theorem Sl.one (w : World) (e : TypeId) (u : Value) : Sl (w.alloc (.cells #[u] e)) (fun k => k = w.heap.size) (.slice (some ⟨w.heap.size, 0, none⟩) 1 1) [u] := Sl.lit w e [u] (by simp [maxLen])

section
variable {w : World} {S : Nat → Prop} {A : Option Addr} {c m : Nat} {l : List UInt8}
/-- v[m:], of a slice that goes on behind m. -/
theorem Bs.rest (h : Bs w S (.slice A l.length c) l) (hm : m ≤ l.length) : Bs w S (.slice (A.map (fun x => x.add m)) (l.length - m) (c - m)) (l.drop m) := by
  obtain ⟨A', c', hv, h2, h3, h4, h5⟩ := h.open_
  injection hv with e1 e2 e3
  subst e1; subst e3
  refine Bs.mk (by simp) (by simp; omega) (by omega) (fun he => ?_) (by rw [List.map_drop]; exact h5.drop m)
  have := h4 (by cases A <;> simp_all); omega
/-- v[c:], at the slice's room. -/
theorem Bs.rest0 (h : Bs w S (.slice A l.length c) l) (hm : m ≤ l.length) (hc : c = m) : Bs w S (.slice A (l.length - m) 0) (l.drop m) := by
  obtain ⟨A', c', hv, h2, h3, h4, h5⟩ := h.open_
  injection hv with e1 e2 e3
  subst e1; subst e3
  have e : l.drop m = [] := List.drop_of_length_le (by omega)
  rw [e]
  exact Bs.mk (by simp; omega) (by simp) (by omega) (fun _ => rfl) (Cells.nil _ _ _)
/-- v[:m]. -/
theorem Bs.begin (h : Bs w S (.slice A l.length c) l) (hm : m ≤ l.length) : Bs w S (.slice A m c) (l.take m) := by
  obtain ⟨A', c', hv, h2, h3, h4, h5⟩ := h.open_
  injection hv with e1 e2 e3
  subst e1; subst e3
  exact Bs.mk (by simp; omega) (by simp; omega) h3 h4 (by rw [List.map_take]; exact h5.take m)
end

/-- An int as a value. -/
abbrev iv (n : Int) : Value := .int .i64 n
abbrev Is (w : World) (S : Nat → Prop) (v : Value) (l : List Int) : Prop := Sl w S v (l.map iv)
theorem Cells.at_ {w : World} {S : Nat → Prop} {A : Option Addr} {α : Type} {f : α → Value} {l : List α} (h : Cells w S A (l.map f)) {k : Nat} (hk : k < l.length) :
    ∃ ad, A = some ad ∧ S ad.block ∧ w.cell? (ad.add k) = some (f l[k]) := h k _ (by simp [hk])
theorem Sl.open_ {w : World} {S : Nat → Prop} {v : Value} {α : Type} {f : α → Value} {l : List α} (h : Sl w S v (l.map f)) : ∃ A c, v = .slice A l.length c ∧ l.length ≤ c ∧ c ≤ 9223372036854775807 ∧ (A = none → c = 0) ∧ Cells w S A (l.map f) := by
  obtain ⟨A, c, h1, h2, h3, h4, h5⟩ := h
  rw [List.length_map] at h1 h2
  exact ⟨A, c, h1, h2, by simpa [maxLen] using h3, h4, h5⟩

/-- Rows of bytes. -/
def Rw (w : World) (S : Nat → Prop) (v : Value) (L : List (List UInt8)) : Prop :=
  ∃ vs : List Value, vs.length = L.length ∧ Sl w S v vs ∧ ∀ (k : Nat) (x : Value) (l : List UInt8), vs[k]? = some x → L[k]? = some l → Bs w S x l
section
variable {w w' : World} {S T F : Nat → Prop} {v : Value} {L : List (List UInt8)}
theorem Rw.mod (h : Rw w S v L) (hm : Mod F w w') (hn : ∀ k, k < w.heap.size → S k → ¬ F k) : Rw w' S v L := by
  obtain ⟨vs, h1, h2, h3⟩ := h
  exact ⟨vs, h1, h2.mod hm hn, fun k x l hx hl => (h3 k x l hx hl).mod hm hn⟩
theorem Rw.mono (h : Rw w S v L) (hS : ∀ k, k < w.heap.size → S k → T k) : Rw w T v L := by
  obtain ⟨vs, h1, h2, h3⟩ := h
  exact ⟨vs, h1, h2.mono hS, fun k x l hx hl => (h3 k x l hx hl).mono hS⟩
theorem Rw.open_ (h : Rw w S v L) : ∃ A c vs, v = .slice A L.length c ∧ L.length ≤ c ∧ c ≤ 9223372036854775807 ∧ (A = none → c = 0) ∧ vs.length = L.length ∧ Cells w S A vs ∧ ∀ (k : Nat) (x : Value) (l : List UInt8), vs[k]? = some x → L[k]? = some l → Bs w S x l := by
  obtain ⟨vs, h0, ⟨A, c, h1, h2, h3, h4, h5⟩, h6⟩ := h
  rw [h0] at h1 h2
  exact ⟨A, c, vs, h1, h2, by simpa [maxLen] using h3, h4, h0, h5, h6⟩
theorem row_at {A : Option Addr} {vs : List Value} (h0 : vs.length = L.length) (h5 : Cells w S A vs) (h6 : ∀ (k : Nat) (x : Value) (l : List UInt8), vs[k]? = some x → L[k]? = some l → Bs w S x l) {k : Nat} (hk : k < L.length) :
    ∃ ad x, A = some ad ∧ S ad.block ∧ w.cell? (ad.add k) = some x ∧ Bs w S x L[k] := by
  have hk' : k < vs.length := by omega
  obtain ⟨ad, h1, h2, h3⟩ := h5 k vs[k] (by simp [hk'])
  exact ⟨ad, vs[k], h1, h2, h3, h6 k _ _ (by simp [hk']) (by simp [hk])⟩
/-- The cell as it stands now, what it reads as as it was. -/
theorem row_now {A : Option Addr} {vs : List Value} (h0 : vs.length = L.length) (h5 : Cells w S A vs) (h6 : ∀ (k : Nat) (x : Value) (l : List UInt8), vs[k]? = some x → L[k]? = some l → Bs w S x l) (hm : Mod F w w') (hn : ∀ k, k < w.heap.size → S k → ¬ F k) {k : Nat} (hk : k < L.length) :
    ∃ ad x, A = some ad ∧ w'.cell? (ad.add k) = some x ∧ Bs w S x L[k] := by
  have hk' : k < vs.length := by omega
  obtain ⟨ad, h1, h2, h3⟩ := (h5.mod hm hn) k vs[k] (by simp [hk'])
  exact ⟨ad, vs[k], h1, h3, h6 k _ _ (by simp [hk']) (by simp [hk])⟩
end

/-- A literal of bytes. -/
theorem Bs.lit (w : World) (e : TypeId) (l : List UInt8) (hm : l.length ≤ maxLen) : Bs (w.alloc (.cells (l.map bv).toArray e)) (fun k => k = w.heap.size) (.slice (some ⟨w.heap.size, 0, none⟩) l.length l.length) l := by
  have := Sl.lit w e (l.map bv) (by simpa using hm)
  simpa using this
/-- A constant text as bytes: its row bears a mark behind its last cell. -/
theorem Bs.text (w : World) (e : TypeId) (l : List UInt8) (fr : Nat × Nat) (hm : l.length ≤ maxLen) : Bs (w.alloc (.cells (l.map bv).toArray e fr)) (fun k => k = w.heap.size) (.slice (some ⟨w.heap.size, 0, none⟩) l.length l.length) l :=
  ⟨_, _, by rw [List.length_map], by rw [List.length_map]; exact Nat.le_refl _, hm, by simp, fun k u hu => ⟨_, rfl, rfl, by
    rw [add_lit, World.cell?_alloc_mark]
    simpa using hu⟩⟩
theorem Rw.one {w : World} {S : Nat → Prop} {v : Value} {l : List UInt8} (e : TypeId) (h : Bs w S v l) : Rw (w.alloc (.cells #[v] e)) (fun k => S k ∨ k = w.heap.size) (.slice (some ⟨w.heap.size, 0, none⟩) 1 1) [l] := by
  refine ⟨[v], rfl, (Sl.one w e v).mono (fun _ _ h => .inr h), fun k x l' hx hl => ?_⟩
  cases k with
  | zero =>
    simp at hx hl
    subst hx; subst hl
    exact (h.alloc _).mono (fun _ _ h => .inl h)
  | succ k => simp at hx
theorem Rw.two {w : World} {S T : Nat → Prop} {u v : Value} {l m : List UInt8} (e : TypeId) (h : Bs w S u l) (h' : Bs w T v m) : Rw (w.alloc (.cells #[u, v] e)) (fun k => S k ∨ T k ∨ k = w.heap.size) (.slice (some ⟨w.heap.size, 0, none⟩) 2 2) [l, m] := by
  refine ⟨[u, v], rfl, (Sl.lit w e [u, v] (by simp [maxLen])).mono (fun _ _ h => .inr (.inr h)), fun k x l' hx hl => ?_⟩
  match k with
  | 0 =>
    simp at hx hl
    subst hx; subst hl
    exact (h.alloc _).mono (fun _ _ h => .inl h)
  | 1 =>
    simp at hx hl
    subst hx; subst hl
    exact (h'.alloc _).mono (fun _ _ h => .inr (.inl h))
  | k + 2 => simp at hx

/- WHAT A CALL OWNS -/

/-- v is nil, or begins at the head of a row of e's that reads as xs and goes on to v's capacity. -/
def Own (w : World) (e : TypeId) (v : Value) (xs : List Value) : Prop := w.ownsRow 0 e 1 v xs.length xs
/-- v's block, if it has one, is B or a later one. -/
def Fresh (B : Nat) (v : Value) : Prop := ∀ k, v.ownBlock = some k → B ≤ k
/-- Behind an append: the same block, or a new one. -/
def Next (B : Nat) (v v' : Value) : Prop := v'.ownBlock = v.ownBlock ∨ Fresh B v'
/-- v's own block. -/
abbrev own (v : Value) : Nat → Prop := fun k => v.ownBlock = some k

section
variable {w w' : World} {e : TypeId} {v v' v'' : Value} {xs : List Value} {F : Nat → Prop} {B B' : Nat}
theorem Fresh.mono (h : Fresh B v) (hB : B' ≤ B) : Fresh B' v := fun k hk => Nat.le_trans hB (h k hk)
theorem Next.refl (B : Nat) (v : Value) : Next B v v := .inl rfl
theorem Next.trans (h : Next B v v') (h' : Next B' v' v'') (hB : B ≤ B') : Next B v v'' := by
  rcases h' with h' | h'
  · rcases h with h | h
    · exact .inl (h'.trans h)
    · exact .inr fun k hk => h k (h' ▸ hk)
  · exact .inr (h'.mono hB)
theorem Next.fresh (h : Next B v v') (hv : Fresh B' v) (hB : B' ≤ B) : Fresh B' v' := by
  rcases h with h | h
  · exact fun k hk => hv k (h ▸ hk)
  · exact h.mono hB
theorem Next.sub (h : Next B v v') {k : Nat} (hk : k < B) (ho : own v' k) : own v k := by
  rcases h with h | h
  · show v.ownBlock = some k
    rw [← h]; exact ho
  · have := h k ho; omega
theorem Next.ne (h : Next B v v') {k : Nat} (hk : k < B) (hne : v.ownBlock ≠ some k) : v'.ownBlock ≠ some k := fun e => hne (h.sub hk e)
theorem fresh_nil (B : Nat) (A : Nat) (C : Nat) : Fresh B (.slice none A C) := fun k hk => by simp [Value.ownBlock] at hk
theorem ext_app0 {a b c : World} (hm : Ext a b) (hf : Fresh a.heap.size v) (h : Mod (own v) b c) : Ext a c := hm.trans h (fun _ _ h => h) (fun k hk h => by have := hf k h; omega)
theorem ext_app {a b c : World} {o : Obj} (hm : Ext a b) (hf : Fresh a.heap.size v) (h : Mod (own v) (b.alloc o) c) : Ext a c := ext_app0 (Mod.alloc hm o) hf h
theorem ext_trans {a b c : World} (h : Ext a b) (k : Ext b c) : Ext a c := Mod.trans h k (fun _ _ h => h) (fun _ _ h => h)
theorem Own.nil (w : World) (e : TypeId) : Own w e (.slice none 0 0) [] := World.ownsRow_nil w 0 e 1
theorem Own.lt (h : Own w e v xs) {k : Nat} (hk : own v k) : k < w.heap.size := (World.ownsRow.lt h k hk).2
theorem Own.mod (h : Own w e v xs) (hm : Mod F w w') (hn : ∀ k, own v k → ¬ F k) : Own w' e v xs := by
  refine ⟨h.1, ?_⟩
  rcases h.2 with h2 | ⟨g, cap, cur, hv, hg, hh, r⟩
  · exact .inl h2
  · exact .inr ⟨g, cap, cur, hv, hg, (hm.block g (lt_of_block hh) (hn g (by rw [hv]; rfl))).trans hh, r⟩
theorem Own.alloc (h : Own w e v xs) (o : Obj) : Own (w.alloc o) e v xs := h.mod ((Mod.refl (fun _ => False) w).alloc o) fun _ _ h => h
theorem Own.drewN (h : Own w e v xs) (n : Nat) : Own (w.drewN n) e v xs := h
theorem Own.form (h : Own w e v xs) : (v = .slice none 0 0 ∧ xs = []) ∨ ∃ g cap, v = .slice (some ⟨g, 0, none⟩) xs.length cap ∧ xs.length ≤ cap ∧ cap ≤ maxLen ∧ g < w.heap.size := by
  rcases h.2 with ⟨h2, h3⟩ | ⟨g, cap, cur, hv, hg, hh, r1, r2, _⟩
  · exact .inl ⟨h2, List.eq_nil_of_length_eq_zero h3⟩
  · exact .inr ⟨g, cap, hv, r1, r2, lt_of_block hh⟩
theorem Own.shape (h : Own w e v xs) : ∃ A c, v = .slice A xs.length c := by
  rcases h.form with ⟨rfl, rfl⟩ | ⟨g, cap, rfl, _⟩
  · exact ⟨_, _, rfl⟩
  · exact ⟨_, _, rfl⟩
theorem Own.sl (h : Own w e v xs) : Sl w (own v) v xs := by
  rcases h.form with ⟨rfl, rfl⟩ | ⟨g, cap, rfl, h1, h2, h3⟩
  · exact Sl.nil _ _
  · exact ⟨_, _, rfl, h1, h2, by simp, fun k u hu => ⟨_, rfl, rfl, World.ownsRow.cells h (g := g) rfl k u hu⟩⟩
theorem Own.empty (w : World) (e : TypeId) : Own (w.alloc (.cells #[] e)) e (.slice (some ⟨w.heap.size, 0, none⟩) 0 0) [] :=
  ⟨rfl, .inr ⟨w.heap.size, 0, #[], rfl, Nat.zero_le _, heap_alloc_new w _, Nat.le_refl _, Nat.zero_le _, rfl, rfl⟩⟩
/-- A literal's elements. -/
theorem Own.lit (w : World) (e : TypeId) (cs : List Value) (hm : cs.length ≤ maxLen) : Own (w.alloc (.cells cs.toArray e)) e (.slice (some ⟨w.heap.size, 0, none⟩) cs.length cs.length) cs :=
  ⟨by simp, .inr ⟨w.heap.size, cs.length, cs.toArray, rfl, Nat.zero_le _, heap_alloc_new w _, Nat.le_refl _, hm, by simp, by simp⟩⟩
/-- v[:m]. -/
theorem Own.begin {A : Option Addr} {n c m : Nat} (h : Own w e (.slice A n c) xs) (hm : m ≤ xs.length) : Own w e (.slice A m c) (xs.take m) := by
  refine ⟨by simp, ?_⟩
  rcases h.2 with ⟨hv, hx⟩ | ⟨g, cap, cur, hv, hg, hh, r1, r2, r3, r4⟩
  · injection hv with e1 e2 e3
    subst e1; subst e3
    have : m = 0 := by omega
    subst this
    exact .inl ⟨rfl, by simp⟩
  · injection hv with e1 e2 e3
    subst e1; subst e3
    refine .inr ⟨g, c, cur, by rw [List.length_take, Nat.min_eq_left hm], hg, hh, by simp; omega, r2, r3, ?_⟩
    rw [List.length_take, Nat.min_eq_left hm, ← r4, List.take_take]
    congr 1; omega
theorem Own.length_eq {A : Option Addr} {n c : Nat} (h : Own w e (.slice A n c) xs) : n = xs.length := by
  obtain ⟨A', c', hv⟩ : ∃ A' c', Value.slice A n c = .slice A' xs.length c' := by
    rcases h.2 with ⟨h2, h3⟩ | ⟨g, cap, cur, hv, _⟩
    · exact ⟨_, _, by rw [h2, h3]⟩
    · exact ⟨_, _, hv⟩
  injection hv
theorem own_cap {A : Option Addr} {n c : Nat} (h : Own w e (.slice A n c) xs) : xs.length ≤ c := by
  rcases h.2 with ⟨hv, h3⟩ | ⟨g, cap, cur, hv, _, _, r, _⟩
  · injection hv with _ _ e3
    omega
  · injection hv with _ _ e3
    omega
/-- A store into what is owned. -/
theorem Own.store {g n c j : Nat} (h : Own w e (.slice (some ⟨g, 0, none⟩) n c) xs) (u : Value) : Own (w.setCell ⟨g, j, none⟩ u) e (.slice (some ⟨g, 0, none⟩) n c) (xs.set j u) := by
  have hn := h.length_eq
  subst hn
  have := World.ownsRow.stored (w := w) (base := 0) (e := e) (size := 1) (g := g) (n := xs.length) (cap := c) (xs := xs) h j u
  unfold Own
  rw [List.length_set]
  exact this.1
theorem Own.cellAt {g n c j : Nat} (h : Own w e (.slice (some ⟨g, 0, none⟩) n c) xs) (hj : j < xs.length) : w.cell? ⟨g, j, none⟩ = some xs[j] := by
  have := World.ownsRow.cells h (g := g) rfl j xs[j] (by simp [hj])
  rwa [add_lit] at this
theorem Own.frozenAt {g n c : Nat} (h : Own w e (.slice (some ⟨g, 0, none⟩) n c) xs) (j : Nat) : w.frozen? ⟨g, j, none⟩ = false := by
  rcases h.2 with ⟨hv, _⟩ | ⟨g', cap, cur, hv, _, hh, _⟩
  · cases hv
  · injection hv with e1
    injection e1 with e1
    injection e1 with e1
    subst e1
    simp [World.frozen?, hh]
theorem Own.ne_blk {g : Nat} {t : TypeId} {cs : Array Value} (h : Own w e v xs) (hg : Blk w g t cs) (hne : e ≠ t) : v.ownBlock ≠ some g := by
  rcases h.2 with ⟨rfl, _⟩ | ⟨g', cap, cur, rfl, _, hh, _⟩
  · simp [Value.ownBlock]
  · intro he
    have : g' = g := by simpa [Value.ownBlock] using he
    subst this
    exact Blk.ne_ (t := e) hh hg hne rfl
end

/- THE LAWS -/

/-- t is the type of slices of e's; an e is one cell, z at first, of so many bytes. -/
structure SliceTy (P : Program) (t e : TypeId) (z : Value) (bytes : Nat) : Prop where
  ht : P.underlying t = some (.slice e)
  hi : (P.info? e).map (fun i => (i.zero, i.size, i.bytes)) = some (some z, 1, bytes)
  hz : z.cells = #[z]
  hb : 1 ≤ bytes

section
variable {P : Program} {w : World} {t e : TypeId} {z : Value} {bytes : Nat} {S : Nat → Prop}

theorem run_app (hT : SliceTy P t e z bytes) (ty : TypeId) {v y : Value} {xs news : List Value} (hown : Own w e v xs) (hr : Sl w S y news) (h1 : ∀ u ∈ news, u.oneCell' = true)
    (hn : (xs.length + news.length) * bytes ≤ 140737488355328) :
    ∃ v' w', (Builtin.append_ #[t, t] ty #[v, y]).run P w = .ok v' w' ∧ Own w' e v' (xs ++ news) ∧ Mod (own v) w w' ∧ Next w.heap.size v v' := by
  obtain ⟨i, hi, hz0, hz1, hz2⟩ := info_parts hT.hi
  obtain ⟨A, c, rfl, hc, hm, hA, hcell⟩ := hr
  have hpos := hT.hb
  have h63 : xs.length + news.length ≤ maxLen := by
    have : (xs.length + news.length) * 1 ≤ (xs.length + news.length) * bytes := Nat.mul_le_mul_left _ hpos
    simp only [maxLen]; omega
  rcases A with _ | ad
  · have hc0 := hA rfl
    have hn0 : news = [] := List.eq_nil_of_length_eq_zero (by omega)
    subst hn0
    subst hc0
    refine ⟨v, w, ?_, by simpa using hown, Mod.refl _ _, Next.refl _ _⟩
    rcases hown.2 with ⟨rfl, h0⟩ | ⟨g, cap, cur, rfl, _, _, hnc, _⟩
    · simp [Builtin.append_, run_underlying hT.ht, sizeOf, typeInfo, hi, Builtin.lenOf, Builtin.firstCells]
    · simp [Builtin.append_, run_underlying hT.ht, sizeOf, typeInfo, hi, Builtin.lenOf, Builtin.firstCells, hnc, storeCells]
  · have hcells : ∀ j u, news[j]? = some u → w.cell? (ad.add j) = some u := by
      intro j u hu
      obtain ⟨ad', h, _, hc⟩ := hcell j u hu
      injection h with h
      subst h
      exact hc
    obtain ⟨v', w', hrun, h2, h3, _, h5⟩ := run_append_own_at (P := P) w 0 t ty e i z 1 bytes hT.ht hi hz0 hz1 hz2 (by rw [hT.hz]; rfl) (by omega) v xs.length xs hown ad news.length c news (by simp) hcells h1 h63 hn (Nat.zero_le _)
    refine ⟨v', w', hrun, by unfold Own; rw [List.length_append]; exact h2, Mod.of_grown h3 fun k hk => hk, ?_⟩
    rcases h5 with h5 | h5
    · exact .inl h5
    · exact .inr fun k hk => by rw [h5] at hk; injection hk with hk; omega

variable {ops : Array Oper} {rest : List Oper} {o : Oper} {a : Act} {Q : Exit → Act → World → Prop}
theorem wp_app (hT : SliceTy P t e z bytes) {v y : Value} {xs news : List Value} (hown : Own w e v xs) (hr : Sl w S y news) (h1 : ∀ u ∈ news, u.oneCell' = true)
    (hgd : o.guard = none) (s x : Operand) (ho : o.op = .call { callee := .builtin .append, args := #[s, x], argTypes := #[t, t] }) (hs : a.eval s = v) (hx : a.eval x = y)
    (hn : (xs.length + news.length) * bytes ≤ 140737488355328)
    (h : ∀ v' w', Own w' e v' (xs ++ news) → Mod (own v) w w' → Next w.heap.size v v' → wpList P ops Q rest (a.put o.dst v') w') : wpList P ops Q (o :: rest) a w := by
  refine wpList_plain hgd fun K hK => ?_
  obtain ⟨v', w', hrun, h2, h3, h4⟩ := run_app (P := P) hT o.type hown hr h1 hn
  unfold Oper.wp execOp
  simp only [ho, resolve, invoke, builtin, Sem.run_bind, Sem.run_pure, Result.andThen_ok, List.map_toArray, List.map_cons, List.map_nil, hs, hx, hrun]
  exact hK _ _ (h v' w' h2 h3 h4)

/-- make([]T, n). -/
theorem wp_make (hT : SliceTy P t e z bytes) (n : Nat) (hgd : o.guard = none) (l c : Operand) (ho : o.op = Op.makeSlice t l c) {kl kc : IntKind}
    (hl : a.eval l = .int kl (n : Int)) (hc : a.eval c = .int kc (n : Int)) (hn : bytes * n ≤ 281474976710656)
    (h : ∀ w', Own w' e (.slice (some ⟨w.heap.size, 0, none⟩) n n) (List.replicate n z) → Ext w w' → w.heap.size < w'.heap.size → wpList P ops Q rest (a.put o.dst (.slice (some ⟨w.heap.size, 0, none⟩) n n)) w') : wpList P ops Q (o :: rest) a w := by
  refine wpList_plain hgd fun K hK => ?_
  obtain ⟨i, hi, hz0, hz1, hz2⟩ := info_parts hT.hi
  have hb : 1 * n ≤ bytes * n := Nat.mul_le_mul_right _ hT.hb
  obtain ⟨w', hrun, h2, h3⟩ := run_make_full (P := P) w 0 t e i z 1 hT.ht hi hz0 hz1 kl kc n (by rw [hz2]; exact hn) (by simp only [maxLen]; omega) (Nat.zero_le _)
  rw [hT.hz, Nat.mul_one, toList_madeCells_one] at h2
  have h2' : Own w' e (.slice (some ⟨w.heap.size, 0, none⟩) n n) (List.replicate n z) := by unfold Own; rw [List.length_replicate]; exact h2
  unfold Oper.wp
  simp [execOp, ho, hl, hc, hrun, Result.andThen]
  exact hK _ _ (h w' h2' (Mod.of_grown h3 fun k hk => by cases hk) (h2'.lt rfl))

/-- make([]T, 0, n). -/
theorem wp_make0 (hT : SliceTy P t e z bytes) (n : Nat) (hgd : o.guard = none) (l c : Operand) (ho : o.op = Op.makeSlice t l c) {kl kc : IntKind}
    (hl : a.eval l = .int kl 0) (hc : a.eval c = .int kc (n : Int)) (hn : bytes * n ≤ 281474976710656)
    (h : ∀ w', Own w' e (.slice (some ⟨w.heap.size, 0, none⟩) 0 n) [] → Ext w w' → w.heap.size < w'.heap.size → wpList P ops Q rest (a.put o.dst (.slice (some ⟨w.heap.size, 0, none⟩) 0 n)) w') : wpList P ops Q (o :: rest) a w := by
  obtain ⟨i, hi, hz0, hz1, hz2⟩ := info_parts hT.hi
  have hb : 1 * n ≤ bytes * n := Nat.mul_le_mul_right _ hT.hb
  exact wpList_make_own w hgd l c t ho 0 e i z 1 hT.ht hi hz0 hz1 kl kc n n hl hc rfl (by rw [hz2]; exact hn) (by simp only [maxLen]; omega) (Nat.zero_le _) fun w' h1 h2 =>
    h w' h1 (Mod.of_grown h2 fun k hk => by cases hk) ((World.ownsRow.lt h1 _ rfl).2)

/-- copy(d, s), d a row of the call's own. -/
theorem wp_copy {t' : TypeId} (hT : SliceTy P t e z bytes) {v y : Value} {xs ys : List Value} (hown : Own w e v xs) (hr : Sl w S y ys) (h1 : ∀ u ∈ ys, u.oneCell' = true)
    (hgd : o.guard = none) (d s : Operand) (ho : o.op = .call { callee := .builtin .copy, args := #[d, s], argTypes := #[t, t'] }) (hd : a.eval d = v) (hs : a.eval s = y)
    (h : ∀ w', Own w' e v (ys.take (min ys.length xs.length) ++ xs.drop (min ys.length xs.length)) → Mod (own v) w w' → wpList P ops Q rest (a.put o.dst (goInt (min ys.length xs.length : Nat))) w') : wpList P ops Q (o :: rest) a w := by
  obtain ⟨i, hi, hz0, hz1, hz2⟩ := info_parts hT.hi
  have hsz : (P.info? e).map (·.size) = some 1 := by rw [hi]; simp [hz1]
  obtain ⟨A, c, rfl, hc, hm, hA, hcell⟩ := hr
  by_cases h0 : min ys.length xs.length = 0
  · rw [h0] at h
    rcases hown.form with ⟨rfl, rfl⟩ | ⟨g, cap, rfl, h4, h5, h6⟩
    · exact wpList_copy_nothing hgd d s t t' ho e hT.ht hsz none A 0 0 _ _ hd hs (by simp) (h w (by simpa using hown) (Mod.refl _ _))
    · exact wpList_copy_nothing hgd d s t t' ho e hT.ht hsz _ A _ _ _ _ hd hs (by simpa using h0) (h w (by simpa using hown) (Mod.refl _ _))
  · obtain ⟨hx, hown2⟩ := hown
    rcases hown2 with ⟨rfl, h2⟩ | ⟨g, cap, cur, rfl, hg0, hg, hnc, hcm, hcs, htake⟩
    · exact absurd h2 (by omega)
    · have hA2 : ∃ ad, A = some ad := by
        rcases A with _ | ad
        · have := hA rfl; omega
        · exact ⟨ad, rfl⟩
      obtain ⟨ad, rfl⟩ := hA2
      have hcl : (ys.take (min ys.length xs.length)).length = min ys.length xs.length := by rw [List.length_take]; omega
      refine wpList_copy_own hgd d s t t' ho e hT.ht hsz g 0 _ _ ad _ _ hd hs cur e hg (ys.take (min ys.length xs.length)) hcl
        (fun j u hu => ?_) (by rw [hcl, hcs]; omega) (fun u hu => h1 u (List.mem_of_mem_take hu)) ?_
      · obtain ⟨ad', h7, _, h8⟩ := hcell.take _ j u hu
        injection h7 with h7
        subst h7
        exact h8
      · rw [hcl]
        refine h _ ⟨?_, .inr ⟨g, cap, _, ?_, Nat.zero_le _, setRow_heap w g cur _ e _ hg, ?_, hcm, ?_, ?_⟩⟩ ⟨rfl, rfl, rfl, by simp, fun k _ hk => setRow_other w g k _ (fun e => hk (by simp [own, Value.ownBlock, e]))⟩
        · simp
        · congr 1; simp; omega
        · simp; omega
        · simp [hcs]; omega
        · simp only [Nat.mul_one, List.length_append, hcl, List.length_drop, List.take_zero, List.nil_append, Nat.zero_add]
          have h9 : min ys.length xs.length + (xs.length - min ys.length xs.length) = xs.length := by omega
          have h10 : cur.toList.take xs.length = xs := by simpa using htake
          rw [h9, List.take_append, List.take_of_length_le (by rw [hcl]; omega), hcl]
          congr 1
          rw [← List.drop_take, h10]
end
end Go.Proofs.YtoockogceobfgaaGreat
