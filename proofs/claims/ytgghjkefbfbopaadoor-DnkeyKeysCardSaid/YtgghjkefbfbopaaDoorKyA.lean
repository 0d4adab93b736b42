/- dnkey: a key read back, told without a walk: unescape, parts, the parts of a key. -/
import Derived.Test.YtgghjkefbfbopaaDoorMtY
import Derived.Test.YtgghjkefbfbopaaDoorOrd
namespace Go.Proofs.YtgghjkefbfbopaaDoor
open Go.Shelf Go.RowKit
set_option maxRecDepth 100000

/-- The marks behind noughts taken away. -/
def unE : List UInt8 → List UInt8
  | [] => []
  | [c] => [c]
  | c :: d :: r => if c = 0 ∧ d = 255 then 0 :: unE r else c :: unE (d :: r)
theorem unE_two (c d : UInt8) (r : List UInt8) : unE (c :: d :: r) = if c = 0 ∧ d = 255 then 0 :: unE r else c :: unE (d :: r) := by rw [unE]
theorem unE_cons {c : UInt8} {t : List UInt8} (h : ∀ r, c :: t ≠ 0 :: 255 :: r) : unE (c :: t) = c :: unE t := by
  cases t with
  | nil => rfl
  | cons d r =>
    rw [unE_two, if_neg (by rintro ⟨rfl, rfl⟩; exact h r rfl)]
theorem unE_esc : ∀ v : List UInt8, unE (escB v) = v
  | [] => rfl
  | b :: s => by
    rw [escB_cons]
    by_cases hb : b = 0
    · subst hb
      rw [if_pos rfl]
      show unE (0 :: 255 :: escB s) = _
      rw [unE_two, if_pos ⟨rfl, rfl⟩, unE_esc s]
    · rw [if_neg hb, List.singleton_append, unE_cons (fun r e => hb (List.cons.inj e).1), unE_esc s]
theorem unE_no : ∀ {s : List UInt8}, (∀ y z, s ≠ y ++ [0, 255] ++ z) → unE s = s
  | [], _ => rfl
  | c :: t, h => by
    rw [unE_cons (fun r e => h [] r e), unE_no (fun y z e => h (c :: y) z (by rw [e]; rfl))]
theorem unE_hit {r : List UInt8} : ∀ {x s : List UInt8}, First s [0, 255] x r → unE s = x ++ 0 :: unE r
  | [], s, h => by
    rw [h.1]
    show unE (0 :: 255 :: r) = _
    rw [unE_two, if_pos ⟨rfl, rfl⟩]; rfl
  | c :: x, s, h => by
    have h1 := h.1
    rw [h1]
    show unE (c :: (x ++ [0, 255] ++ r)) = c :: (x ++ 0 :: unE r)
    rw [unE_cons (fun q e => by
      have := h.2 [] q (by rw [h1]; exact e)
      simp at this), unE_hit (x := x) ⟨rfl, fun y z e => by
      have := h.2 (c :: y) z (by rw [h1, List.cons_append, List.cons_append, e]; rfl)
      simp only [List.length_cons] at this
      omega⟩]
theorem index_first {s p x r : List UInt8} (h : First s p x r) : Lib.index s p = x.length := by
  rcases Lib.index_spec s p with ⟨h1, h2⟩ | ⟨i, h1, h2, h3, h4⟩
  · have hx : x.length ≤ s.length := by rw [h.1]; simp
    have := h2 x.length hx
    rw [(occ_iff hx).2 ⟨x, r, h.1, rfl⟩] at this
    cases this
  · obtain ⟨y, z, h5, h6⟩ := (occ_iff h2).1 h3
    have h7 := h.2 y z h5
    by_cases hlt : x.length < i
    · have h8 := h4 _ hlt
      rw [(occ_iff (by omega)).2 ⟨x, r, h.1, rfl⟩] at h8
      cases h8
    · rw [h1]; omega
theorem index_no {s p : List UInt8} (h : ∀ y z, s ≠ y ++ p ++ z) : Lib.index s p = -1 := by
  rcases Lib.index_spec s p with ⟨h1, _⟩ | ⟨i, h1, h2, h3, h4⟩
  · exact h1
  · obtain ⟨y, z, h5, _⟩ := (occ_iff h2).1 h3
    exact absurd h5 (h y z)
theorem first_drop {s p x r : List UInt8} (h : First s p x r) : s.take x.length = x ∧ s.drop (x.length + p.length) = r := by
  rw [h.1, List.append_assoc]
  exact ⟨List.take_left, by rw [← List.append_assoc, List.drop_left' (by rw [List.length_append])]⟩
theorem rk_un : ∀ (n : Nat) (s : List UInt8), s.length ≤ n → Lib.replaceK [0, 255] [0] (Lib.count s [0, 255]) s = unE s
  | n, s, hn => by
    rcases cutO_spec s [0, 255] with ⟨_, h⟩ | ⟨x, r, _, h⟩
    · rw [Lib.count_miss (index_no h), unE_no h]; rfl
    · have hi := index_first h
      obtain ⟨d1, d2⟩ := first_drop h
      have hl : s.length = x.length + 2 + r.length := by rw [h.1]; simp; omega
      cases n with
      | zero => omega
      | succ n =>
        rw [Lib.count_hit (by simp) hi, Nat.add_comm, Lib.replaceK_hit _ _ _ _ _ hi, d1, d2, rk_un n r (by omega), unE_hit h, List.append_assoc]; rfl
theorem rall_un (s : List UInt8) : Lib.replaceAll s [0, 255] [0] = unE s := by
  unfold Lib.replaceAll Lib.replace Lib.replaceNum
  rw [if_neg (by decide), if_pos (by omega)]
  exact rk_un _ s (Nat.le_refl _)
/-- Each nought has its mark behind. -/
def Marked (x : List UInt8) : Prop := ∀ y z, x = y ++ 0 :: z → ∃ z', z = 255 :: z'
theorem marked_esc : ∀ v : List UInt8, Marked (escB v)
  | [], y, z, h => by cases y <;> cases h
  | b :: s, y, z, h => by
    rw [escB_cons] at h
    by_cases hb : b = 0
    · rw [if_pos hb] at h
      match y, h with
      | [], h => exact ⟨escB s, (List.cons.inj h).2.symm⟩
      | [c], h =>
        have := (List.cons.inj (List.cons.inj h).2).1
        cases this
      | c :: d :: y, h => exact marked_esc s y z (List.cons.inj (List.cons.inj h).2).2
    · rw [if_neg hb] at h
      match y, h with
      | [], h => exact absurd (List.cons.inj h).1 hb
      | c :: y, h => exact marked_esc s y z (List.cons.inj h).2
theorem marked_app {q : List UInt8} (hq : Marked q) : ∀ {p : List UInt8}, (0 : UInt8) ∉ p → Marked (p ++ q)
  | [], _, y, z, h => hq y z h
  | c :: p, hp, y, z, h => by
    match y, h with
    | [], h => exact absurd (List.cons.inj h).1 fun e => hp (e ▸ List.mem_cons_self)
    | d :: y, h => exact marked_app hq (fun h => hp (List.mem_cons_of_mem _ h)) y z (List.cons.inj h).2
theorem first_end {x r : List UInt8} (hx : Marked x) : First (x ++ [0, 1] ++ r) [0, 1] x r := by
  refine ⟨rfl, fun y z h => ?_⟩
  by_cases hl : x.length ≤ y.length
  · exact hl
  rw [List.append_assoc, List.append_assoc] at h
  rcases List.append_eq_append_iff.1 h with ⟨t, h1, h2⟩ | ⟨t, h1, h2⟩
  · rw [h1] at hl; simp at hl
  · cases t with
    | nil => rw [List.append_nil] at h1; rw [h1] at hl; omega
    | cons c t =>
      have hc : c = 0 := (List.cons.inj h2).1.symm
      subst hc
      obtain ⟨z', e⟩ := hx y t h1
      rw [e] at h2
      have := (List.cons.inj (List.cons.inj h2).2).1
      cases this
theorem first_is {x r : List UInt8} (hx : (61 : UInt8) ∉ x) : First (x ++ [61] ++ r) [61] x r := by
  refine ⟨rfl, fun y z h => ?_⟩
  by_cases hl : x.length ≤ y.length
  · exact hl
  rw [List.append_assoc, List.append_assoc] at h
  rcases List.append_eq_append_iff.1 h with ⟨t, h1, h2⟩ | ⟨t, h1, h2⟩
  · rw [h1] at hl; simp at hl
  · cases t with
    | nil => rw [List.append_nil] at h1; rw [h1] at hl; omega
    | cons c t =>
      have hc : c = 61 := (List.cons.inj h2).1.symm
      exact absurd (by rw [h1, hc]; simp) hx
theorem cut_first {s p x r : List UInt8} (h : First s p x r) : Lib.cut s p = (x, r, true) := by
  unfold Lib.cut
  obtain ⟨d1, d2⟩ := first_drop h
  rw [index_first h, if_pos (by omega), Int.toNat_natCast, d1, d2]
theorem cut_short {s p : List UInt8} (hp : 1 ≤ p.length) (h : (Lib.cut s p).2.2 ≠ false) : (Lib.cut s p).2.1.length < s.length := by
  rcases cutO_spec s p with ⟨h1, _⟩ | ⟨x, r, _, h1⟩
  · exact absurd (cut_none h1) h
  · rw [cut_first h1]
    show r.length < _
    rw [h1.1]; simp; omega
/-- The parts of a key, as they stand. -/
def partsR (s : List UInt8) (acc : List Av) : Option (List Av) :=
  if s = [] then some acc
  else if h : (Lib.cut s [0, 1]).2.2 = false then none
  else if (Lib.cut (Lib.cut s [0, 1]).1 [61]).2.2 = false then none
  else if acc.length = 12 then none
  else partsR (Lib.cut s [0, 1]).2.1 (acc ++ [((Lib.cut (Lib.cut s [0, 1]).1 [61]).1, unE (Lib.cut (Lib.cut s [0, 1]).1 [61]).2.1)])
termination_by s.length
decreasing_by exact cut_short (by simp) h
theorem partK_first {a : Av} (h0 : (0 : UInt8) ∉ a.1) (r : List UInt8) : First (partK a ++ r) [0, 1] (a.1 ++ [61] ++ escB a.2) r := by
  unfold partK
  refine first_end (marked_app (marked_esc _) ?_)
  simp only [List.mem_append, List.mem_singleton, not_or]
  exact ⟨h0, by decide⟩
theorem partsR_key : ∀ (M : List Av) (acc : List Av), (∀ a ∈ M, (0 : UInt8) ∉ a.1 ∧ (61 : UInt8) ∉ a.1) → acc.length + M.length ≤ 12 → partsR (M.flatMap partK) acc = some (acc ++ M)
  | [], acc, _, _ => by unfold partsR; simp
  | a :: M, acc, h, hl => by
    obtain ⟨h0, h1⟩ := h a List.mem_cons_self
    have hs : (a :: M).flatMap partK = partK a ++ M.flatMap partK := rfl
    have hne : (a :: M).flatMap partK ≠ [] := by
      rw [hs]; unfold partK; simp
    have e1 := cut_first (partK_first h0 (M.flatMap partK))
    have e2 := cut_first (first_is (r := escB a.2) h1)
    simp only [List.length_cons] at hl
    unfold partsR
    rw [if_neg hne, hs, e1]
    simp only [e2, unE_esc]
    rw [dif_neg (by simp), if_neg (by simp), if_neg (by omega), partsR_key M _ (fun a ha => h a (List.mem_cons_of_mem _ ha)) (by simp; omega)]
    simp
end Go.Proofs.YtgghjkefbfbopaaDoor
