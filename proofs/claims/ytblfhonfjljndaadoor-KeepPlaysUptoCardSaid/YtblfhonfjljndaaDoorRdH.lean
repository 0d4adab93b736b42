/- disk: the document's Append: a file that is new. -/
import Derived.Test.YtblfhonfjljndaaDoorRdG
namespace Go.Proofs.YtblfhonfjljndaaDoor
open Go.RowKit Go.Maps Go.WideMaps
set_option maxRecDepth 100000

section
variable {S T F V : Nat → Prop} {w w' : World} {bd : Nat} {vL v y : Value} {A : List (Fi × Value)} {d : Ds} {b : List UInt8}
theorem tyF : SliceTyK Tryd.prog 56 74 (.agg #[.string ⟨#[]⟩, .slice none 0 0, .int .i64 0]) 3 48 := ⟨Tryd.underlying56, by kernel_rfl, rfl, by decide, by decide⟩
theorem fiv_one (hA : ∀ a ∈ A, ∃ q n c, a.2 = Value.slice q n c) : ∀ a ∈ A, ∀ u ∈ fiv a, u.oneCell' = true := fun a ha u hu => by
  obtain ⟨q, n, c, e⟩ := hA a ha
  simp only [fiv, List.mem_cons, List.not_mem_nil, or_false] at hu
  rcases hu with rfl | rfl | rfl
  · rfl
  · rw [e]; rfl
  · rfl
theorem RdAt.slices (h : RdAt S w bd vL A d) : ∀ a ∈ A, ∃ q n c, a.2 = Value.slice q n c := fun a ha => by
  obtain ⟨q, c, e, _⟩ := (h.fb a ha).open_
  exact ⟨q, _, c, e⟩
/-- A new row of files. -/
theorem RdAt.renew (h : RdAt S w bd vL A d) {w' : World} {vN : Value} {A' : List (Fi × Value)} {L' : Fis} (hm : Mod F w w') (hF : ∀ k, k < w.heap.size → F k → k = bd) (hblk : Blk w' bd 58 (rcells d vN)) (hrow : OwnR fiv 3 w' fileT vN A') (hfr : ∀ k, own vN k → w.heap.size ≤ k)
    (hnm : A'.map Prod.fst = L') (hA' : ∀ a ∈ A', a ∈ A ∨ Bs w' (fun k => w.heap.size ≤ k ∧ ¬ own vN k) a.2 a.1.b) (hrise : Rise L') (hfl : ∀ f ∈ L', f.last ≤ f.b.length) (hroom : sumB L' ≤ d.room) (hfew : L'.length ≤ 4096) :
    RdAt (Grow S w) w' bd vN A' { d with L := L' } := by
  have hlt := h.blk.lt
  refine ⟨.inl h.sd, hblk, hrow, fun k hk => ⟨.inr (hfr k hk), by have := hfr k hk; omega⟩, hnm, fun a ha => ?_, hrise, hfl, hroom, h.most, hfew, h.lf⟩
  rcases hA' a ha with h1 | h1
  · have h2 : Bs w (fun k => (S k ∧ k ≠ bd) ∧ k < w.heap.size) a.2 a.1.b := (h.fb a h1).mono fun k hk hs => ⟨⟨hs.1, hs.2.1⟩, hk⟩
    exact (h2.mod hm fun k hk hs hf => hs.1.2 (hF k hk hf)).mono fun k _ hs => ⟨.inl hs.1.1, hs.1.2, fun hv => by have := hfr k hv; have := hs.2; omega⟩
  · exact h1.mono fun k _ hs => ⟨.inr hs.1, by omega, hs.2⟩
theorem OwnR.form1 {α : Type} {f : α → List Value} {k : Nat} {w : World} {e : TypeId} {v : Value} {L : List α} (h : OwnR f k w e v L) {m : Nat} (hl : L.length = m) (hm : 0 < m) : ∃ p c, v = .slice (some p) m c := by
  rcases h.form with ⟨_, h0⟩ | ⟨g, c, e, _⟩
  · omega
  · exact ⟨_, c, by rw [e, hl]⟩
abbrev insA (A : List (Fi × Value)) (n : Nat) (x : List UInt8) : List (Fi × Value) := [] ++ A.take n ++ [((⟨x, [], 0⟩ : Fi), Value.slice none 0 0)] ++ A.drop n
theorem insA_len {A : List (Fi × Value)} {n : Nat} {x : List UInt8} (hn : n ≤ A.length) : (insA A n x).length = A.length + 1 := by
  simp only [insA, List.length_append, List.length_cons, List.length_nil, List.length_take, List.length_drop]
  omega
theorem insA_get {A : List (Fi × Value)} {n : Nat} {x : List UInt8} (hn : n ≤ A.length) (h : n < (insA A n x).length) : (insA A n x)[n] = ((⟨x, [], 0⟩ : Fi), Value.slice none 0 0) := by
  have e : (A.take n).length = n := by rw [List.length_take]; omega
  have : (insA A n x)[n]? = some ((⟨x, [], 0⟩ : Fi), Value.slice none 0 0) := by
    unfold insA
    rw [List.nil_append, List.append_assoc, List.getElem?_append_right (by omega), e, Nat.sub_self]
    rfl
  rw [List.getElem?_eq_getElem h] at this
  exact Option.some.inj this
theorem insA_mem {A : List (Fi × Value)} {n : Nat} {x : List UInt8} {a : Fi × Value} (h : a ∈ insA A n x) : a ∈ A ∨ a = ((⟨x, [], 0⟩ : Fi), Value.slice none 0 0) := by
  unfold insA at h
  rw [List.nil_append] at h
  rcases List.mem_append.1 h with h | h
  · rcases List.mem_append.1 h with h | h
    · exact .inl (List.mem_of_mem_take h)
    · exact .inr (List.mem_singleton.1 h)
  · exact .inl (List.mem_of_mem_drop h)
theorem insA_nm {A : List (Fi × Value)} {L : Fis} {x b : List UInt8} {v : Value} (hr : Rise L) (hx : getF L x = none) (h : A.map Prod.fst = L) : ((insA A (posF L x) x).set (posF L x) ((⟨x, b, 0⟩ : Fi), v)).map Prod.fst = putF L ⟨x, b, 0⟩ := by
  have hl : posF L x ≤ A.length := by have := posF_le L x; rw [← h, List.length_map] at this; rw [← h]; exact this
  have e : (A.take (posF L x)).length = posF L x := by rw [List.length_take]; omega
  have h1 : (insA A (posF L x) x).set (posF L x) ((⟨x, b, 0⟩ : Fi), v) = A.take (posF L x) ++ ((⟨x, b, 0⟩ : Fi), v) :: A.drop (posF L x) := by
    unfold insA
    rw [List.nil_append, List.append_assoc, List.set_append_right _ _ (by omega), e, Nat.sub_self]
    rfl
  rw [h1, putF_ins hr (f := ⟨x, b, 0⟩) hx, List.map_append, List.map_cons, List.map_take, List.map_drop, h]
end
end Go.Proofs.YtblfhonfjljndaaDoor
