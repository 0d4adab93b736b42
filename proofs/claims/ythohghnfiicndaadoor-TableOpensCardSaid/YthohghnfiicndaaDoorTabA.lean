/- table: cells in blocks, keys, bytes; pure. -/
import Derived.Test.YthohghnfiicndaaDoorCelL
import Derived.Test.YthohghnfiicndaaDoorMemB
import Derived.Test.YthohghnfiicndaaDoorBloG
import Derived.Test.YthohghnfiicndaaDoorFrmF
namespace Go.Proofs.YthohghnfiicndaaDoor
open Go.RowKit
set_option maxRecDepth 100000

def szC (c : Ce) : Nat := c.key.length + c.val.length + 16
/-- Where the cutting into blocks stands: those that are closed, the one that is open, its size. -/
structure Sp where
  parts : List (List Ce)
  now : List Ce
  n : Nat
def spStep (s : Sp) (c : Ce) : Sp := if s.now ≠ [] ∧ 512 < s.n + szC c then ⟨s.parts ++ [s.now], [c], szC c⟩ else ⟨s.parts, s.now ++ [c], s.n + szC c⟩
def spRun (L : List Ce) : Sp := L.foldl spStep ⟨[], [], 0⟩
def splitB (L : List Ce) : List (List Ce) := if (spRun L).now = [] then (spRun L).parts else (spRun L).parts ++ [(spRun L).now]
theorem spRun_snoc (L : List Ce) {k : Nat} (h : k < L.length) : spRun (L.take (k + 1)) = spStep (spRun (L.take k)) L[k] := by
  unfold spRun
  rw [List.take_succ_eq_append_getElem h, List.foldl_append]
  rfl
structure SpOk (M : List Ce) (s : Sp) : Prop where
  all : s.parts.flatten ++ s.now = M
  full : ∀ p ∈ s.parts, p ≠ []
  open_ : M ≠ [] → s.now ≠ []
  size : s.n ≤ wC M + 16 * M.length
theorem SpOk.step {M : List Ce} {s : Sp} (h : SpOk M s) (c : Ce) : SpOk (M ++ [c]) (spStep s c) := by
  have hw : wC (M ++ [c]) = wC M + (1 + c.key.length + c.val.length) := by rw [wC_append, wC_cons]; rfl
  unfold spStep
  split
  · rename_i hc
    refine ⟨by simp [← h.all], fun p hp => ?_, by simp, ?_⟩
    · rcases List.mem_append.1 hp with hp | hp
      · exact h.full p hp
      · rw [List.mem_singleton.1 hp]; exact hc.1
    · show szC c ≤ _
      rw [hw, List.length_append, List.length_singleton]; unfold szC; omega
  · refine ⟨by simp [← h.all], h.full, by simp, ?_⟩
    show s.n + szC c ≤ _
    have := h.size
    rw [hw, List.length_append, List.length_singleton]; unfold szC; omega
theorem sp_fold : ∀ (L M : List Ce) (s : Sp), SpOk M s → SpOk (M ++ L) (L.foldl spStep s)
  | [], M, s, h => by rw [List.append_nil]; exact h
  | c :: L, M, s, h => by
    have := sp_fold L (M ++ [c]) (spStep s c) (h.step c)
    rw [List.append_assoc] at this
    exact this
theorem sp_ok (L : List Ce) : SpOk L (spRun L) := sp_fold L [] _ ⟨rfl, (fun p hp => by cases hp), fun h => absurd rfl h, Nat.zero_le _⟩
theorem split_eq {L : List Ce} (h : L ≠ []) : splitB L = (spRun L).parts ++ [(spRun L).now] := by
  unfold splitB
  rw [if_neg ((sp_ok L).open_ h)]
theorem split_flat (L : List Ce) : (splitB L).flatten = L := by
  unfold splitB
  have h := (sp_ok L).all
  split
  · rename_i hn
    rw [hn, List.append_nil] at h
    exact h
  · rw [List.flatten_append, List.flatten_singleton]; exact h
theorem split_full (L : List Ce) : ∀ p ∈ splitB L, p ≠ [] := by
  unfold splitB
  intro p hp
  split at hp
  · exact (sp_ok L).full p hp
  · rename_i hn
    rcases List.mem_append.1 hp with hp | hp
    · exact (sp_ok L).full p hp
    · rw [List.mem_singleton.1 hp]; exact hn
theorem flat_len_ge : ∀ (Ls : List (List Ce)), (∀ p ∈ Ls, p ≠ []) → Ls.length ≤ Ls.flatten.length
  | [], _ => Nat.le_refl _
  | p :: Ls, h => by
    have h1 := flat_len_ge Ls (fun q hq => h q (List.mem_cons_of_mem _ hq))
    have h2 : 0 < p.length := List.length_pos_iff.2 (h p List.mem_cons_self)
    rw [List.flatten_cons, List.length_append, List.length_cons]; omega
theorem split_len (L : List Ce) : (splitB L).length ≤ L.length := by
  have := flat_len_ge _ (split_full L)
  rw [split_flat] at this
  exact this
theorem split_mem {L p : List Ce} (h : p ∈ splitB L) : ∃ A B, L = A ++ p ++ B := by
  obtain ⟨s, t, hst⟩ := List.append_of_mem h
  refine ⟨s.flatten, t.flatten, ?_⟩
  rw [← split_flat L, hst]
  simp
theorem split_sub {L p : List Ce} (h : p ∈ splitB L) : ∀ c ∈ p, c ∈ L := by
  obtain ⟨A, B, e⟩ := split_mem h
  intro c hc
  rw [e]; simp [hc]
theorem getD_mid {A p B : List Ce} {j : Nat} (hj : j < p.length) : (A ++ p ++ B).getD (A.length + j) default = p.getD j default := by
  rw [List.append_assoc, List.getD_eq_getElem?_getD, List.getElem?_append_right (by omega), Nat.add_sub_cancel_left, List.getElem?_append_left hj, ← List.getD_eq_getElem?_getD]
theorem rises_mid {A p B : List Ce} (h : rises (A ++ p ++ B)) : rises p := by
  intro i hi h0
  have := h (A.length + i) (by simp only [List.length_append]; omega) (by omega)
  rw [show A.length + i - 1 = A.length + (i - 1) by omega, getD_mid hi, getD_mid (by omega)] at this
  exact this
theorem riseN_of {L : List Ce} (h1 : ∀ c ∈ L, isC c) (h2 : rises L) : riseN L = 0 := by
  unfold riseN
  rw [if_pos h1, if_pos h2]
theorem split_rise {L p : List Ce} (h : riseN L = 0) (hp : p ∈ splitB L) : riseN p = 0 := by
  obtain ⟨h1, h2⟩ := riseN_zero h
  obtain ⟨A, B, e⟩ := split_mem hp
  rw [e] at h2
  exact riseN_of (fun c hc => h1 c (split_sub hp c hc)) (rises_mid h2)
theorem sorted_of {L : List Ce} (h : rises L) : sortedC L := List.pairwise_iff_getElem.2 fun i j hi hj hij => rises_at h hij hj
theorem wC_flat : ∀ (Ls : List (List Ce)), wC Ls.flatten = (Ls.map wC).sum
  | [] => rfl
  | p :: Ls => by rw [List.flatten_cons, wC_append, wC_flat Ls, List.map_cons, List.sum_cons]
theorem wC_part {L p : List Ce} (h : p ∈ splitB L) : wC p ≤ wC L := by
  obtain ⟨A, B, e⟩ := split_mem h
  rw [e, wC_append, wC_append]; omega

/- KEYS -/
def keyAt (L : List Ce) (i : Nat) : List (List UInt8) := if i = 0 ∨ (L.getD i default).key ≠ (L.getD (i - 1) default).key then [(L.getD i default).key] else []
def keysTo (L : List Ce) (k : Nat) : List (List UInt8) := (List.range k).flatMap (keyAt L)
def keysB (L : List Ce) : List (List UInt8) := keysTo L L.length
theorem keysTo_snoc (L : List Ce) (k : Nat) : keysTo L (k + 1) = keysTo L k ++ keyAt L k := by
  unfold keysTo
  rw [List.range_succ, List.flatMap_append]
  simp
theorem keyAt_len (L : List Ce) (k : Nat) : (keyAt L k).length ≤ 1 := by
  unfold keyAt; split <;> simp
theorem keysTo_len (L : List Ce) : ∀ k, (keysTo L k).length ≤ k
  | 0 => Nat.le_refl _
  | k + 1 => by
    have h1 := keysTo_len L k
    have h2 := keyAt_len L k
    rw [keysTo_snoc, List.length_append]; omega
theorem keysTo_mem {L : List Ce} {k : Nat} (hk : k ≤ L.length) : ∀ x ∈ keysTo L k, ∃ c ∈ L, x = c.key := by
  intro x hx
  obtain ⟨i, hi, hm⟩ := List.mem_flatMap.1 hx
  have hi' : i < L.length := Nat.lt_of_lt_of_le (List.mem_range.1 hi) hk
  unfold keyAt at hm
  split at hm
  · rw [getD_c L hi'] at hm
    exact ⟨L[i], List.getElem_mem hi', List.mem_singleton.1 hm⟩
  · cases hm
theorem keys_at (L : List Ce) : ∀ i, i < L.length → (L.getD i default).key ∈ keysB L
  | 0, h => List.mem_flatMap.2 ⟨0, List.mem_range.2 h, by unfold keyAt; rw [if_pos (.inl rfl)]; exact List.mem_singleton.2 rfl⟩
  | i + 1, h => by
    by_cases he : (L.getD (i + 1) default).key = (L.getD i default).key
    · rw [he]; exact keys_at L i (by omega)
    · exact List.mem_flatMap.2 ⟨i + 1, List.mem_range.2 h, by unfold keyAt; rw [if_pos (.inr he)]; exact List.mem_singleton.2 rfl⟩
theorem keysB_mem {L : List Ce} {c : Ce} (h : c ∈ L) : c.key ∈ keysB L := by
  obtain ⟨i, hi, rfl⟩ := List.getElem_of_mem h
  have := keys_at L i hi
  rw [getD_c L hi] at this
  exact this

/- BYTES -/
def lastC (p : List Ce) : Ce := p.getD (p.length - 1) default
theorem lastC_mem {p : List Ce} (h : p ≠ []) : lastC p ∈ p := by
  have h2 : 0 < p.length := List.length_pos_iff.2 h
  unfold lastC
  rw [getD_c p (by omega)]
  exact List.getElem_mem _
def blkE (p : List Ce) : List UInt8 := enc7 (lastC p).key.length ++ (lastC p).key ++ (enc7 (clamp (lastC p).seq) ++ (enc7 (encB p).length ++ encB p))
def filB (L : List Ce) : List UInt8 := mk (bn (keysB L).length) (keysB L)
def bodyB (L : List Ce) : List UInt8 := enc7 (splitB L).length ++ (splitB L).flatMap blkE ++ (enc7 L.length ++ (enc7 (filB L).length ++ filB L))
def buildN (L : List Ce) : Nat := if L = [] ∨ 4096 < L.length then 1 else riseN L
def buildB (L : List Ce) : List UInt8 := if buildN L = 0 then frec (bodyB L) else []
theorem build_rise {L : List Ce} (h : buildN L = 0) : L ≠ [] ∧ L.length ≤ 4096 ∧ riseN L = 0 := by
  unfold buildN at h
  split at h
  · cases h
  · rename_i hn
    exact ⟨fun e => hn (.inl e), by omega, h⟩
theorem filB_len {L : List Ce} : (filB L).length ≤ 2 * L.length + 10 := by
  unfold filB
  rw [mk_len]
  have := keysTo_len L L.length
  unfold bn keysB
  omega
theorem encB_le {L : List Ce} (h : ∀ c ∈ L, isC c) : (encB L).length ≤ wC L + 49 * L.length := by
  have := encTo_sharp L h L.length (Nat.le_refl _)
  rw [List.take_length] at this
  exact this
theorem blkE_len {p : List Ce} (h : ∀ c ∈ p, isC c) (hp : p ≠ []) (hw : wC p ≤ 1000000000) : (blkE p).length ≤ 2 * wC p + 79 * p.length := by
  have h1 := encB_le h
  have h2 := wC_mem (lastC_mem hp)
  have h3 : 0 < p.length := List.length_pos_iff.2 hp
  have h5 := wC_len p
  have e1 := enc7_ten (n := (lastC p).key.length) (by omega)
  have e2 := enc7_ten (n := clamp (lastC p).seq) (clamp_le _)
  have e3 := enc7_ten (n := (encB p).length) (by omega)
  unfold blkE
  simp only [List.length_append]
  omega
theorem blks_len : ∀ (Ls : List (List Ce)), (∀ p ∈ Ls, (∀ c ∈ p, isC c) ∧ p ≠ []) → wC Ls.flatten ≤ 1000000000 → (Ls.flatMap blkE).length ≤ 2 * wC Ls.flatten + 79 * Ls.flatten.length
  | [], _, _ => by simp
  | p :: Ls, h, hw => by
    rw [List.flatten_cons, wC_append] at hw
    have h1 := blks_len Ls (fun q hq => h q (List.mem_cons_of_mem _ hq)) (by omega)
    have h2 := blkE_len (h p List.mem_cons_self).1 (h p List.mem_cons_self).2 (by omega)
    rw [List.flatMap_cons, List.flatten_cons, wC_append, List.length_append, List.length_append]
    omega
theorem parts_ok {L : List Ce} (h : riseN L = 0) : ∀ p ∈ splitB L, (∀ c ∈ p, isC c) ∧ p ≠ [] := fun p hp => ⟨(riseN_zero (split_rise h hp)).1, split_full L p hp⟩
theorem body_len {L : List Ce} (h : riseN L = 0) (hw : wC L ≤ 1000000000) : (bodyB L).length ≤ 2 * wC L + 81 * L.length + 50 := by
  have h1 := blks_len _ (parts_ok h) (by rw [split_flat]; exact hw)
  rw [split_flat] at h1
  have h2 := split_len L
  have h3 := @filB_len L
  have h4 := wC_len L
  have e1 := enc7_ten (n := (splitB L).length) (by omega)
  have e2 := enc7_ten (n := L.length) (by omega)
  have e3 := enc7_ten (n := (filB L).length) (by omega)
  unfold bodyB
  simp only [List.length_append]
  omega
end Go.Proofs.YthohghnfiicndaaDoor
