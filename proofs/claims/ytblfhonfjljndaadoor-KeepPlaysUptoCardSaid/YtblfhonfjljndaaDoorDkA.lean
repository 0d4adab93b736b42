/- disk: files by their names, as rows that rise. -/
import Derived.Test.YtblfhonfjljndaaDoorIxA
namespace Go.Proofs.YtblfhonfjljndaaDoor
open Go.RowKit
set_option maxRecDepth 100000

/-- A file: its name, its bytes, how many of them last. -/
structure Fi where
  name : List UInt8
  b : List UInt8
  last : Nat
abbrev Fis := List Fi
def nms (L : Fis) : Tx := L.map Fi.name
def getF (L : Fis) (x : List UInt8) : Option Fi := L.find? fun f => f.name == x
def putF : Fis → Fi → Fis
  | [], f => [f]
  | g :: L, f => if g.name = f.name then f :: L else if Op.bytesLess f.name g.name then f :: g :: L else g :: putF L f
def delF (L : Fis) (x : List UInt8) : Fis := L.filter fun f => f.name != x
def sumB (L : Fis) : Nat := (L.map fun f => f.b.length).sum
abbrev Rise (L : Fis) : Prop := riseT (nms L)

theorem getF_name {L : Fis} {x : List UInt8} {f : Fi} (h : getF L x = some f) : f.name = x := by
  have := List.find?_some h
  simpa using this
theorem getF_mem {L : Fis} {x : List UInt8} {f : Fi} (h : getF L x = some f) : f ∈ L := List.mem_of_find?_eq_some h
theorem getF_none {L : Fis} {x : List UInt8} (h : getF L x = none) : x ∉ nms L := by
  intro hx
  obtain ⟨f, hf, rfl⟩ := List.mem_map.1 hx
  have := List.find?_eq_none.1 h f hf
  simp at this
theorem getF_some_of {L : Fis} {x : List UInt8} (h : x ∈ nms L) : ∃ f, getF L x = some f := by
  cases e : getF L x with
  | none => exact absurd h (getF_none e)
  | some f => exact ⟨f, rfl⟩
theorem getF_iff {L : Fis} {x : List UInt8} : x ∈ nms L ↔ (getF L x).isSome = true := by
  constructor
  · intro h; obtain ⟨f, hf⟩ := getF_some_of h; rw [hf]; rfl
  · intro h
    obtain ⟨f, hf⟩ := Option.isSome_iff_exists.1 h
    exact List.mem_map.2 ⟨f, getF_mem hf, getF_name hf⟩
theorem rise_ne {L : Fis} (h : Rise L) : L.Pairwise fun f g => f.name ≠ g.name := by
  have h2 : (nms L).Pairwise fun a b => a ≠ b := h.imp fun {a b} hab => less_ne hab
  exact (List.pairwise_map.1 h2)
theorem getF_of_mem {L : Fis} (h : Rise L) {f : Fi} (hf : f ∈ L) : getF L f.name = some f := by
  obtain ⟨g, hg⟩ := getF_some_of (List.mem_map.2 ⟨f, hf, rfl⟩)
  have h1 := getF_mem hg
  have h2 := getF_name hg
  have hp := rise_ne h
  rw [hg]
  congr 1
  clear hg h
  induction L with
  | nil => cases hf
  | cons a L ih =>
    obtain ⟨p1, p2⟩ := List.pairwise_cons.1 hp
    rcases List.mem_cons.1 hf with e1 | e1 <;> rcases List.mem_cons.1 h1 with e2 | e2
    · rw [e1, e2]
    · subst e1; exact absurd h2.symm (p1 _ e2)
    · subst e2; exact absurd h2 (p1 _ e1)
    · exact ih e1 e2 p2
theorem mem_putF {f : Fi} : ∀ {L : Fis}, Rise L → ∀ g, g ∈ putF L f ↔ g = f ∨ (g ∈ L ∧ g.name ≠ f.name)
  | [], _, g => by simp [putF]
  | a :: L, h, g => by
    have hp := List.pairwise_cons.1 (show (nms (a :: L)).Pairwise _ from h)
    have hL : Rise L := hp.2
    have hlt : ∀ x ∈ L, Op.bytesLess a.name x.name = true := fun x hx => hp.1 x.name (List.mem_map.2 ⟨x, hx, rfl⟩)
    unfold putF
    by_cases h1 : a.name = f.name
    · rw [if_pos h1]
      simp only [List.mem_cons]
      constructor
      · rintro (rfl | hg)
        · exact .inl rfl
        · exact .inr ⟨.inr hg, fun e => less_ne (hlt g hg) (h1.trans e.symm)⟩
      · rintro (rfl | ⟨rfl | hg, hn⟩)
        · exact .inl rfl
        · exact absurd h1 hn
        · exact .inr hg
    · rw [if_neg h1]
      by_cases h2 : Op.bytesLess f.name a.name = true
      · rw [if_pos h2]
        simp only [List.mem_cons]
        constructor
        · rintro (rfl | rfl | hg)
          · exact .inl rfl
          · exact .inr ⟨.inl rfl, h1⟩
          · exact .inr ⟨.inr hg, fun e => less_ne (less_trans _ _ _ h2 (hlt g hg)) e.symm⟩
        · rintro (rfl | ⟨rfl | hg, _⟩)
          · exact .inl rfl
          · exact .inr (.inl rfl)
          · exact .inr (.inr hg)
      · rw [if_neg h2, List.mem_cons, mem_putF hL, List.mem_cons]
        constructor
        · rintro (rfl | rfl | ⟨hg, hn⟩)
          · exact .inr ⟨.inl rfl, h1⟩
          · exact .inl rfl
          · exact .inr ⟨.inr hg, hn⟩
        · rintro (rfl | ⟨rfl | hg, hn⟩)
          · exact .inr (.inl rfl)
          · exact .inl rfl
          · exact .inr (.inr ⟨hg, hn⟩)
theorem rise_putF {f : Fi} : ∀ {L : Fis}, Rise L → Rise (putF L f)
  | [], _ => by simp [putF, Rise, nms, riseT]
  | a :: L, h => by
    have hp := List.pairwise_cons.1 (show (nms (a :: L)).Pairwise _ from h)
    have hL : Rise L := hp.2
    unfold putF
    by_cases h1 : a.name = f.name
    · rw [if_pos h1]
      show (nms (f :: L)).Pairwise _
      exact List.pairwise_cons.2 ⟨by rw [← h1]; exact hp.1, hp.2⟩
    · rw [if_neg h1]
      by_cases h2 : Op.bytesLess f.name a.name = true
      · rw [if_pos h2]
        refine List.pairwise_cons.2 ⟨fun x hx => ?_, h⟩
        rcases List.mem_cons.1 (show x ∈ a.name :: nms L from hx) with rfl | hx
        · exact h2
        · exact less_trans _ _ _ h2 (hp.1 x hx)
      · rw [if_neg h2]
        refine List.pairwise_cons.2 ⟨fun x hx => ?_, rise_putF hL⟩
        obtain ⟨g, hg, rfl⟩ := List.mem_map.1 hx
        rcases (mem_putF hL g).1 hg with rfl | ⟨hg, _⟩
        · exact less_tot (by simpa using h2) (fun e => h1 e.symm)
        · exact hp.1 _ (List.mem_map.2 ⟨g, hg, rfl⟩)
theorem mem_delF {L : Fis} {x : List UInt8} (g : Fi) : g ∈ delF L x ↔ g ∈ L ∧ g.name ≠ x := by
  simp [delF]
theorem rise_delF {L : Fis} (h : Rise L) (x : List UInt8) : Rise (delF L x) := by
  have h2 : L.Pairwise fun a b => Op.bytesLess a.name b.name = true := List.pairwise_map.1 h
  exact List.pairwise_map.2 (h2.filter _)
theorem mem_nms_putF {L : Fis} (h : Rise L) (f : Fi) (x : List UInt8) : x ∈ nms (putF L f) ↔ x = f.name ∨ x ∈ nms L := by
  constructor
  · intro hx
    obtain ⟨g, hg, rfl⟩ := List.mem_map.1 hx
    rcases (mem_putF h g).1 hg with rfl | ⟨hg, _⟩
    · exact .inl rfl
    · exact .inr (List.mem_map.2 ⟨g, hg, rfl⟩)
  · intro hx
    by_cases e : x = f.name
    · subst e
      exact List.mem_map.2 ⟨f, (mem_putF h f).2 (.inl rfl), rfl⟩
    · rcases hx with hx | hx
      · exact absurd hx e
      · obtain ⟨g, hg, rfl⟩ := List.mem_map.1 hx
        exact List.mem_map.2 ⟨g, (mem_putF h g).2 (.inr ⟨hg, e⟩), rfl⟩
theorem mem_nms_delF {L : Fis} (x y : List UInt8) : y ∈ nms (delF L x) ↔ y ∈ nms L ∧ y ≠ x := by
  constructor
  · intro h
    obtain ⟨g, hg, rfl⟩ := List.mem_map.1 h
    have := (mem_delF g).1 hg
    exact ⟨List.mem_map.2 ⟨g, this.1, rfl⟩, this.2⟩
  · rintro ⟨h, hn⟩
    obtain ⟨g, hg, rfl⟩ := List.mem_map.1 h
    exact List.mem_map.2 ⟨g, (mem_delF g).2 ⟨hg, hn⟩, rfl⟩
theorem getF_put_same {L : Fis} (h : Rise L) (f : Fi) : getF (putF L f) f.name = some f := getF_of_mem (rise_putF h) ((mem_putF h f).2 (.inl rfl))
theorem getF_put_other {L : Fis} (h : Rise L) (f : Fi) {x : List UInt8} (hx : x ≠ f.name) : getF (putF L f) x = getF L x := by
  cases e : getF L x with
  | some g =>
    have h1 := getF_name e
    have h2 := getF_of_mem (rise_putF (f := f) h) ((mem_putF h g).2 (.inr ⟨getF_mem e, by rw [h1]; exact hx⟩))
    rwa [h1] at h2
  | none =>
    cases e2 : getF (putF L f) x with
    | none => rfl
    | some g =>
      have h1 : x ∈ nms (putF L f) := getF_iff.2 (by rw [e2]; rfl)
      rcases (mem_nms_putF h f x).1 h1 with h1 | h1
      · exact absurd h1 hx
      · exact absurd h1 (getF_none e)
theorem getF_del_same (L : Fis) (x : List UInt8) : getF (delF L x) x = none := by
  cases e : getF (delF L x) x with
  | none => rfl
  | some g => exact absurd (getF_name e) ((mem_delF g).1 (getF_mem e)).2
theorem getF_del_other {L : Fis} (h : Rise L) {x y : List UInt8} (hn : y ≠ x) : getF (delF L x) y = getF L y := by
  cases e : getF L y with
  | some g =>
    have h1 := getF_name e
    have h2 := getF_of_mem (rise_delF h x) ((mem_delF g).2 ⟨getF_mem e, by rw [h1]; exact hn⟩)
    rwa [h1] at h2
  | none =>
    cases e2 : getF (delF L x) y with
    | none => rfl
    | some g => exact absurd ((mem_nms_delF x y).1 (getF_iff.2 (by rw [e2]; rfl))).1 (getF_none e)
theorem delF_none {L : Fis} {x : List UInt8} (h : x ∉ nms L) : delF L x = L := by
  refine List.filter_eq_self.2 fun f hf => ?_
  simp only [bne_iff_ne, ne_eq]
  exact fun e => h (List.mem_map.2 ⟨f, hf, e⟩)
theorem sumB_cons (f : Fi) (L : Fis) : sumB (f :: L) = f.b.length + sumB L := by simp [sumB]
/-- Bytes of a file that may not be there. -/
def lenB : Option Fi → Nat
  | some f => f.b.length
  | none => 0
def one : Option Fi → Nat
  | some _ => 1
  | none => 0
theorem getF_cons (a : Fi) (L : Fis) (x : List UInt8) : getF (a :: L) x = if a.name = x then some a else getF L x := by
  unfold getF
  rw [List.find?_cons]
  by_cases h : a.name = x
  · rw [if_pos h]; simp [h]
  · rw [if_neg h]
    have : (a.name == x) = false := by simpa using h
    rw [this]
theorem sumB_putF {f : Fi} : ∀ {L : Fis}, Rise L → sumB (putF L f) + lenB (getF L f.name) = sumB L + f.b.length ∧ (putF L f).length + one (getF L f.name) = L.length + 1
  | [], _ => by simp [putF, sumB, getF, lenB, one]
  | a :: L, h => by
    have hp := List.pairwise_cons.1 (show (nms (a :: L)).Pairwise _ from h)
    have hL : Rise L := hp.2
    rw [getF_cons]
    unfold putF
    by_cases h1 : a.name = f.name
    · rw [if_pos h1, if_pos h1]
      simp only [sumB_cons, lenB, one, List.length_cons]
      exact ⟨by omega, by first | trivial | omega⟩
    · rw [if_neg h1, if_neg h1]
      have ih := sumB_putF (f := f) hL
      by_cases h2 : Op.bytesLess f.name a.name = true
      · rw [if_pos h2]
        have hno : getF L f.name = none := by
          cases e : getF L f.name with
          | none => rfl
          | some g =>
            have h3 := hp.1 g.name (List.mem_map.2 ⟨g, getF_mem e, rfl⟩)
            rw [getF_name e] at h3
            have h4 := less_trans _ _ _ h2 h3
            rw [less_irr] at h4; cases h4
        rw [hno]
        simp only [sumB_cons, lenB, one, List.length_cons]
        exact ⟨by omega, by first | trivial | omega⟩
      · rw [if_neg h2]
        simp only [sumB_cons, List.length_cons]
        exact ⟨by omega, by first | trivial | omega⟩
theorem sumB_delF {x : List UInt8} : ∀ {L : Fis}, Rise L → sumB (delF L x) + lenB (getF L x) = sumB L ∧ (delF L x).length + one (getF L x) = L.length
  | [], _ => by simp [delF, sumB, getF, lenB, one]
  | a :: L, h => by
    have hp := List.pairwise_cons.1 (show (nms (a :: L)).Pairwise _ from h)
    have hL : Rise L := hp.2
    have ih := sumB_delF (x := x) hL
    rw [getF_cons]
    by_cases h1 : a.name = x
    · rw [if_pos h1]
      have e : delF (a :: L) x = delF L x := by simp [delF, h1]
      have hno : x ∉ nms L := fun hx => less_ne (hp.1 x hx) h1
      rw [e, delF_none hno]
      simp only [sumB_cons, lenB, one, List.length_cons]
      exact ⟨by omega, by first | trivial | omega⟩
    · rw [if_neg h1]
      have e : delF (a :: L) x = a :: delF L x := by simp [delF, h1]
      rw [e]
      simp only [sumB_cons, List.length_cons]
      exact ⟨by omega, by first | trivial | omega⟩
/-- Rows that rise are one when their files are. -/
theorem eq_of_nms : ∀ {L M : Fis}, Rise L → Rise M → (∀ x, x ∈ L ↔ x ∈ M) → L = M
  | [], [], _, _, _ => rfl
  | [], b :: M, _, _, h => by have := (h b).2 (by simp); cases this
  | a :: L, [], _, _, h => by have := (h a).1 (by simp); cases this
  | a :: L, b :: M, h1, h2, h => by
    have p1 := List.pairwise_cons.1 (show (nms (a :: L)).Pairwise _ from h1)
    have p2 := List.pairwise_cons.1 (show (nms (b :: M)).Pairwise _ from h2)
    have q1 : ∀ x ∈ L, Op.bytesLess a.name x.name = true := fun x hx => p1.1 _ (List.mem_map.2 ⟨x, hx, rfl⟩)
    have q2 : ∀ x ∈ M, Op.bytesLess b.name x.name = true := fun x hx => p2.1 _ (List.mem_map.2 ⟨x, hx, rfl⟩)
    have hab : a = b := by
      rcases List.mem_cons.1 ((h a).1 (by simp)) with e | e1
      · exact e
      · rcases List.mem_cons.1 ((h b).2 (by simp)) with e | e2
        · exact e.symm
        · have := less_trans _ _ _ (q1 b e2) (q2 a e1)
          rw [less_irr] at this; cases this
    subst hab
    rw [eq_of_nms p1.2 p2.2 fun x => ⟨fun hx => ?_, fun hx => ?_⟩]
    · rcases List.mem_cons.1 ((h x).1 (by simp [hx])) with e | e
      · subst e; have := q1 x hx; rw [less_irr] at this; cases this
      · exact e
    · rcases List.mem_cons.1 ((h x).2 (by simp [hx])) with e | e
      · subst e; have := q2 x hx; rw [less_irr] at this; cases this
      · exact e
theorem putF_put {L : Fis} (h : Rise L) {f g : Fi} (e : f.name = g.name) : putF (putF L f) g = putF L g := by
  refine eq_of_nms (rise_putF (rise_putF h)) (rise_putF h) fun x => ?_
  rw [mem_putF (rise_putF h), mem_putF h, mem_putF h, e]
  constructor
  · rintro (h1 | ⟨h1 | h1, h2⟩)
    · exact .inl h1
    · rw [h1] at h2; exact absurd e h2
    · exact .inr ⟨h1.1, h2⟩
  · rintro (h1 | ⟨h1, h2⟩)
    · exact .inl h1
    · exact .inr ⟨.inr ⟨h1, h2⟩, h2⟩
end Go.Proofs.YtblfhonfjljndaaDoor
