/- batch: the cells that rows make. -/
import Derived.Test.YtlfooppmdgddkaaBatA
import Derived.Test.YtlfooppmdgddkaaMemB
namespace Go.Proofs.Ytlfooppmdgddkaa
open Go.RowKit
set_option maxRecDepth 100000

theorem keyof_sorted {L : List Ce} {s : Int} (hs : ∀ c ∈ L, c.seq = s) {a b : Ce} (ha : a ∈ L) (hb : b ∈ L) (h : lessC a b = true) : Op.bytesLess a.key b.key = true := by
  unfold lessC at h
  by_cases hk : a.key = b.key
  · rw [if_pos hk, hs a ha, hs b hb] at h
    have := of_decide_eq_true h
    omega
  · rwa [if_neg hk] at h

def hasK (L : List Ro) (k : List UInt8) : Bool := L.any fun r => r.key == k
theorem hasK_iff {L : List Ro} {k : List UInt8} : hasK L k = true ↔ ∃ r ∈ L, r.key = k := by simp [hasK]
theorem hasK_no {L : List Ro} {k : List UInt8} : hasK L k = false ↔ ∀ r ∈ L, r.key ≠ k := by
  rw [Bool.eq_false_iff, Ne, hasK_iff]
  exact ⟨fun h r hr e => h ⟨r, hr, e⟩, fun h ⟨r, hr, e⟩ => h r hr e⟩

/-- P10.2: the last row of each key, as cells, in order. -/
def cellsB (s : Int) : List Ro → List Ce
  | [] => []
  | a :: L => if hasK L a.key then cellsB s L else insC (cellsB s L) (cellR a s)
/-- Row i is the last of its key. -/
def lastI (L : List Ro) (i : Nat) : Prop := ∃ hi : i < L.length, ∀ j (hj : j < L.length), i < j → L[j].key ≠ L[i].key
theorem mem_cellsB (s : Int) : ∀ (L : List Ro) (c : Ce), c ∈ cellsB s L ↔ ∃ i, ∃ hi : i < L.length, lastI L i ∧ c = cellR L[i] s
  | [], c => by simp [cellsB]
  | a :: L, c => by
    have ih := mem_cellsB s L c
    have hstep : ∀ i, ∀ hi : i < L.length, (lastI (a :: L) (i + 1) ↔ lastI L i) := by
      intro i hi
      constructor
      · rintro ⟨_, h⟩
        exact ⟨hi, fun j hj hij => by have := h (j + 1) (by simpa using hj) (by omega); simpa using this⟩
      · rintro ⟨_, h⟩
        refine ⟨by simpa using hi, fun j hj hij => ?_⟩
        match j, hj, hij with
        | j + 1, hj, hij => simpa using h j (by simpa using hj) (by omega)
    have h0 : lastI (a :: L) 0 ↔ hasK L a.key = false := by
      rw [hasK_no]
      constructor
      · rintro ⟨_, h⟩ r hr
        obtain ⟨j, hj, rfl⟩ := List.mem_iff_getElem.1 hr
        have h2 := h (j + 1) (by simpa using hj) (by omega)
        exact h2
      · intro h
        refine ⟨by simp, fun j hj hij => ?_⟩
        match j, hj, hij with
        | j + 1, hj, _ =>
          have hj2 : j < L.length := by simpa using hj
          exact h (L[j]'hj2) (List.getElem_mem _)
    have hsplit : (∃ i, ∃ hi : i < (a :: L).length, lastI (a :: L) i ∧ c = cellR (a :: L)[i] s) ↔ (hasK L a.key = false ∧ c = cellR a s) ∨ ∃ i, ∃ hi : i < L.length, lastI L i ∧ c = cellR L[i] s := by
      constructor
      · rintro ⟨i, hi, hl, e⟩
        match i, hi, hl, e with
        | 0, _, hl, e => exact .inl ⟨h0.1 hl, e⟩
        | i + 1, hi, hl, e => exact .inr ⟨i, by simpa using hi, (hstep i (by simpa using hi)).1 hl, e⟩
      · rintro (⟨h, e⟩ | ⟨i, hi, hl, e⟩)
        · exact ⟨0, by simp, h0.2 h, e⟩
        · exact ⟨i + 1, by simpa using hi, (hstep i hi).2 hl, e⟩
    rw [hsplit]
    unfold cellsB
    by_cases hk : hasK L a.key = true
    · rw [if_pos hk, ih, hk]
      simp
    · rw [if_neg hk, mem_ins, ih]
      simp only [Bool.not_eq_true] at hk
      rw [hk]
      simp
theorem cellsB_seq {s : Int} {L : List Ro} {c : Ce} (h : c ∈ cellsB s L) : c.seq = s := by
  obtain ⟨i, hi, _, rfl⟩ := (mem_cellsB s L c).1 h
  rfl
theorem cellsB_key {s : Int} {L : List Ro} {c : Ce} (h : c ∈ cellsB s L) : ∃ r ∈ L, r.key = c.key := by
  obtain ⟨i, hi, _, rfl⟩ := (mem_cellsB s L c).1 h
  exact ⟨L[i], List.getElem_mem _, rfl⟩
theorem cellsB_no {s : Int} {L : List Ro} {a : Ro} (h : hasK L a.key = false) : ¬ hasC (cellsB s L) (cellR a s) := by
  rintro ⟨d, hd, hk, _⟩
  obtain ⟨r, hr, e⟩ := cellsB_key hd
  exact hasK_no.1 h r hr (e.trans hk)
theorem cellsB_sorted (s : Int) : ∀ L : List Ro, sortedC (cellsB s L)
  | [] => List.Pairwise.nil
  | a :: L => by
    unfold cellsB
    by_cases hk : hasK L a.key = true
    · rw [if_pos hk]; exact cellsB_sorted s L
    · rw [if_neg hk]; exact ins_sorted (cellsB_sorted s L) (cellsB_no (by simpa using hk))
theorem cellsB_len (s : Int) : ∀ L : List Ro, (cellsB s L).length ≤ L.length
  | [] => Nat.le_refl _
  | a :: L => by
    have := cellsB_len s L
    unfold cellsB
    by_cases hk : hasK L a.key = true
    · rw [if_pos hk, List.length_cons]; omega
    · rw [if_neg hk, ins_length, List.length_cons]; omega
/-- Its keys rise. -/
theorem cellsB_rise {s : Int} {L : List Ro} {i j : Nat} (hij : i < j) (hj : j < (cellsB s L).length) : Op.bytesLess (cellsB s L)[i].key (cellsB s L)[j].key = true :=
  keyof_sorted (fun c hc => cellsB_seq hc) (List.getElem_mem _) (List.getElem_mem _) (List.pairwise_iff_getElem.1 (cellsB_sorted s L) i j (by omega) hj hij)

/-- The rows ahead of k that are the last of their key in the whole. -/
def selR (L : List Ro) : Nat → List Ro
  | 0 => []
  | k + 1 => if h : k < L.length then (if hasK (L.drop (k + 1)) L[k].key then selR L k else selR L k ++ [L[k]]) else selR L k
theorem sel_len (L : List Ro) : ∀ k, (selR L k).length ≤ k
  | 0 => Nat.le_refl _
  | k + 1 => by
    have := sel_len L k
    unfold selR
    split
    · split
      · omega
      · rw [List.length_append, List.length_singleton]; omega
    · omega
theorem drop_hasK {L : List Ro} {k : Nat} (hk : k < L.length) : hasK (L.drop (k + 1)) L[k].key = false ↔ lastI L k := by
  rw [hasK_no]
  constructor
  · intro h
    refine ⟨hk, fun j hj hkj => h L[j] ?_⟩
    refine List.mem_iff_getElem.2 ⟨j - (k + 1), by rw [List.length_drop]; omega, ?_⟩
    rw [List.getElem_drop]
    congr 1; omega
  · rintro ⟨_, h⟩ r hr
    obtain ⟨j, hj, rfl⟩ := List.mem_iff_getElem.1 hr
    rw [List.length_drop] at hj
    rw [List.getElem_drop]
    exact h _ _ (by omega)
theorem mem_sel (L : List Ro) : ∀ (k : Nat), k ≤ L.length → ∀ r, r ∈ selR L k ↔ ∃ i, ∃ hi : i < L.length, i < k ∧ lastI L i ∧ r = L[i]
  | 0, _, r => by simp [selR]
  | k + 1, hk, r => by
    have ih := mem_sel L k (by omega) r
    have hlt : k < L.length := by omega
    have hd := drop_hasK hlt
    unfold selR
    rw [dif_pos hlt]
    by_cases h : hasK (L.drop (k + 1)) L[k].key = true
    · rw [if_pos h, ih]
      have hn : ¬ lastI L k := fun hl => by rw [hd.2 hl] at h; cases h
      constructor
      · rintro ⟨i, hi, hik, hl, e⟩
        exact ⟨i, hi, by omega, hl, e⟩
      · rintro ⟨i, hi, hik, hl, e⟩
        refine ⟨i, hi, ?_, hl, e⟩
        rcases Nat.lt_or_ge i k with h2 | h2
        · exact h2
        · obtain rfl : i = k := by omega
          exact absurd hl hn
    · rw [if_neg h, List.mem_append, List.mem_singleton, ih]
      have hl : lastI L k := hd.1 (by simpa using h)
      constructor
      · rintro (⟨i, hi, hik, hl, e⟩ | e)
        · exact ⟨i, hi, by omega, hl, e⟩
        · exact ⟨k, hlt, by omega, hl, e⟩
      · rintro ⟨i, hi, hik, hl2, e⟩
        rcases Nat.lt_or_ge i k with h2 | h2
        · exact .inl ⟨i, hi, h2, hl2, e⟩
        · obtain rfl : i = k := by omega
          exact .inr e
theorem sel_apart (L : List Ro) : ∀ (k : Nat), k ≤ L.length → (selR L k).Pairwise fun a b => a.key ≠ b.key
  | 0, _ => List.Pairwise.nil
  | k + 1, hk => by
    have ih := sel_apart L k (by omega)
    have hlt : k < L.length := by omega
    unfold selR
    rw [dif_pos hlt]
    by_cases h : hasK (L.drop (k + 1)) L[k].key = true
    · rw [if_pos h]; exact ih
    · rw [if_neg h]
      refine List.pairwise_append.2 ⟨ih, List.pairwise_singleton _ _, fun a ha b hb => ?_⟩
      rw [List.mem_singleton] at hb
      subst hb
      obtain ⟨i, hi, hik, ⟨_, hl⟩, rfl⟩ := (mem_sel L k (by omega) a).1 ha
      exact fun e => hl k hlt hik e.symm
/-- What of them is sorted by key is what the document's way makes. -/
theorem sel_sorts {L : List Ro} {s : Int} {M : List Ce} (hp : M.Perm ((selR L L.length).map fun r => cellR r s)) (hs : M.Pairwise fun a b => Op.bytesLess b.key a.key = false) : M = cellsB s L := by
  have hmem : ∀ c, c ∈ M ↔ ∃ i, ∃ hi : i < L.length, lastI L i ∧ c = cellR L[i] s := by
    intro c
    rw [hp.mem_iff, List.mem_map]
    constructor
    · rintro ⟨r, hr, rfl⟩
      obtain ⟨i, hi, _, hl, rfl⟩ := (mem_sel L _ (Nat.le_refl _) r).1 hr
      exact ⟨i, hi, hl, rfl⟩
    · rintro ⟨i, hi, hl, rfl⟩
      exact ⟨L[i], (mem_sel L _ (Nat.le_refl _) _).2 ⟨i, hi, hi, hl, rfl⟩, rfl⟩
  have hap : M.Pairwise fun a b => a.key ≠ b.key := by
    refine (hp.pairwise_iff (fun {a b} h => Ne.symm h)).2 ?_
    exact List.pairwise_map.2 ((sel_apart L _ (Nat.le_refl _)).imp fun h => h)
  refine sorted_ext ((hs.and hap).imp fun {a b} h => ?_) (cellsB_sorted s L) fun c => by rw [hmem, mem_cellsB]
  unfold lessC
  rw [if_neg h.2]
  have := less_asym _ _ h.2
  rw [h.1] at this
  simpa using this

/-- The last row ahead of k of a key. -/
def lastIx (L : List Ro) (key : List UInt8) : Nat → Nat
  | 0 => 0
  | k + 1 => if h : k < L.length then (if L[k].key = key then k else lastIx L key k) else lastIx L key k
theorem lastIx_at (L : List Ro) (key : List UInt8) : ∀ (k : Nat), k ≤ L.length → ∀ j (hj : j < L.length), j < k → L[j].key = key → ∃ m, lastIx L key k = m ∧ ∃ h : m < L.length, j ≤ m ∧ m < k ∧ L[m].key = key
  | 0, _, j, _, hjk, _ => by omega
  | k + 1, hk, j, hj, hjk, e => by
    have hlt : k < L.length := by omega
    by_cases h : L[k].key = key
    · refine ⟨k, by unfold lastIx; rw [dif_pos hlt, if_pos h], hlt, by omega, by omega, h⟩
    · have hjk2 : j < k := by
        rcases Nat.lt_or_ge j k with h2 | h2
        · exact h2
        · obtain rfl : j = k := by omega
          exact absurd e h
      obtain ⟨m, a, b, c, d, g⟩ := lastIx_at L key k (by omega) j hj hjk2 e
      exact ⟨m, by rw [← a]; conv => lhs; unfold lastIx
                   rw [dif_pos hlt, if_neg h], b, c, by omega, g⟩
theorem lastIx_is {L : List Ro} {i : Nat} (hi : i < L.length) : lastIx L L[i].key L.length = i ↔ hasK (L.drop (i + 1)) L[i].key = false := by
  rw [drop_hasK hi]
  obtain ⟨m, e, a, b, c, d⟩ := lastIx_at L L[i].key L.length (Nat.le_refl _) i hi hi rfl
  rw [e]
  constructor
  · intro h
    refine ⟨hi, fun j hj hij he => ?_⟩
    obtain ⟨m', e', _, b', _, _⟩ := lastIx_at L L[i].key L.length (Nat.le_refl _) j hj hj he
    omega
  · rintro ⟨_, h⟩
    rcases Nat.lt_or_ge i m with h2 | h2
    · exact absurd d (h _ a h2)
    · omega
/-- Each row's key is a cell's. -/
theorem cellsB_has {s : Int} {L : List Ro} {i : Nat} (hi : i < L.length) : ∃ c ∈ cellsB s L, c.key = L[i].key := by
  obtain ⟨m, e, a, b, c, d⟩ := lastIx_at L L[i].key L.length (Nat.le_refl _) i hi hi rfl
  refine ⟨cellR L[m] s, (mem_cellsB s L _).2 ⟨m, a, (drop_hasK a).1 ((lastIx_is a).1 (by rw [d]; exact e)), rfl⟩, d⟩
end Go.Proofs.Ytlfooppmdgddkaa
