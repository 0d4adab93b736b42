/- sorting files: where two rows are cut. -/
import Derived.Test.YtmjkgibeljbloaaLsE
namespace Go.Proofs.Ytmjkgibeljbloaa
open Go.RowKit
set_option maxRecDepth 100000

theorem leF_refl (a : Fl) : leF a a := fun h => leF_of h h
theorem Srt.le {L : List Fl} (h : Srt L) {i j : Nat} {x y : Fl} (hx : L[i]? = some x) (hy : L[j]? = some y) (hij : i ≤ j) : leF x y := by
  obtain ⟨h1, rfl⟩ := List.getElem?_eq_some_iff.1 hx
  obtain ⟨h2, rfl⟩ := List.getElem?_eq_some_iff.1 hy
  rcases Nat.lt_or_eq_of_le hij with q | rfl
  · exact h.get q h2
  · exact leF_refl _
/-- Where the numbers of a merge stand. -/
structure Mg (X A B : List Fl) (a m b mid nn lo hi : Nat) : Prop where
  ha : a = X.length
  hm : m = a + A.length
  hb : b = m + B.length
  hA : 1 ≤ A.length
  hB : 1 ≤ B.length
  hmid : mid = (a + b) / 2
  hnn : nn = mid + m
  hlo : (mid < m ∧ lo = nn - b ∧ hi = mid) ∨ (m ≤ mid ∧ lo = a ∧ hi = m)
theorem Mg.lohi {X A B : List Fl} {a m b mid nn lo hi : Nat} (h : Mg X A B a m b mid nn lo hi) : lo ≤ hi ∧ a ≤ lo ∧ hi ≤ m ∧ a < mid ∧ mid < b := by
  obtain ⟨h1, h2, h3, h4, h5, h6, h7, h8⟩ := h
  omega
theorem Mg.at_ {X A B : List Fl} {a m b mid nn lo hi : Nat} (h : Mg X A B a m b mid nn lo hi) {c : Nat} (h1 : lo ≤ c) (h2 : c < hi) : a ≤ c ∧ c < m ∧ m ≤ nn - 1 - c ∧ nn - 1 - c < b ∧ c ≤ nn - 1 := by
  obtain ⟨h1, h2, h3, h4, h5, h6, h7, h8⟩ := h
  omega
theorem Mg.end_ {X A B : List Fl} {a m b mid nn lo hi : Nat} (h : Mg X A B a m b mid nn lo hi) {s : Nat} (h1 : lo ≤ s) (h2 : s ≤ hi) : a ≤ s ∧ s ≤ m ∧ m ≤ nn - s ∧ nn - s ≤ b ∧ (nn - s) - m + s = mid ∧ s ≤ nn ∧ s ≤ mid ∧ mid ≤ nn - s := by
  obtain ⟨h1, h2, h3, h4, h5, h6, h7, h8⟩ := h
  omega
theorem in_A {X A B Z : List Fl} {u : Nat} (h1 : X.length ≤ u) (h2 : u < X.length + A.length) : (X ++ A ++ B ++ Z)[u]? = A[u - X.length]? := by
  rw [List.append_assoc, List.append_assoc, List.getElem?_append_right h1, List.getElem?_append_left (by omega)]
theorem in_B {X A B Z : List Fl} {u : Nat} (h1 : X.length + A.length ≤ u) (h2 : u < X.length + A.length + B.length) : (X ++ A ++ B ++ Z)[u]? = B[u - (X.length + A.length)]? := by
  have e : (X ++ A).length = X.length + A.length := List.length_append
  rw [List.append_assoc, List.getElem?_append_right (by omega), e, List.getElem?_append_left (by omega)]
/-- At c the two rows stand as they should. -/
def Qs (D : List Fl) (pp : Nat) (c : Nat) : Prop := ∃ p q, D[c]? = some p ∧ D[pp - c]? = some q ∧ ¬ aheadF q p
theorem Mg.down {X A B Z : List Fl} {a m b mid nn lo hi : Nat} (h : Mg X A B a m b mid nn lo hi) (hA : Srt A) (hB : Srt B) : Dn (Qs (X ++ A ++ B ++ Z) (nn - 1)) lo hi := by
  intro u v h1 h2 h3 hv
  obtain ⟨p, q, hp, hq, hn⟩ := hv
  have k1 := h.at_ (c := v) (by omega) h3
  have k2 := h.at_ (c := u) h1 (by omega)
  have ea := h.ha
  have em := h.hm
  have eb := h.hb
  have lA : u - X.length < A.length := by omega
  have lB : nn - 1 - u - (X.length + A.length) < B.length := by omega
  rw [in_A (by omega) (by omega)] at hp
  rw [in_B (by omega) (by omega)] at hq
  refine ⟨A[u - X.length], B[nn - 1 - u - (X.length + A.length)], ?_, ?_, ?_⟩
  · rw [in_A (by omega) (by omega)]; exact List.getElem?_eq_getElem lA
  · rw [in_B (by omega) (by omega)]; exact List.getElem?_eq_getElem lB
  · exact leF_trans (hA.le (List.getElem?_eq_getElem lA) hp (by omega)) (leF_trans hn (hB.le hq (List.getElem?_eq_getElem lB) (by omega)))
/-- Two rows in four parts. -/
structure Cutp (A B A1 A2 B1 B2 : List Fl) : Prop where
  hA : A1 ++ A2 = A
  hB : B1 ++ B2 = B
  cross : ∀ x ∈ A1 ++ B1, ∀ y ∈ A2 ++ B2, leF x y
theorem Mg.spl {X A B Z : List Fl} {a m b mid nn lo hi s : Nat} (h : Mg X A B a m b mid nn lo hi) (hA : Srt A) (hB : Srt B) (hs : Hv (Qs (X ++ A ++ B ++ Z) (nn - 1)) lo hi s s) :
    Cutp A B (A.take (s - a)) (A.drop (s - a)) (B.take (nn - s - m)) (B.drop (nn - s - m)) := by
  refine ⟨List.take_append_drop _ _, List.take_append_drop _ _, ?_⟩
  have ke := h.end_ hs.l1 hs.l3
  have ea := h.ha
  have em := h.hm
  have eb := h.hb
  have el := h.hlo
  have en := h.hnn
  have l1 := hs.l1
  have l3 := hs.l3
  intro x hx y hy
  rcases List.mem_append.1 hx with hx | hx
  · obtain ⟨i, hi1, hxi⟩ := mem_take_get hx
    rcases List.mem_append.1 hy with hy | hy
    · obtain ⟨j, hj1, hj2, hj⟩ := mem_drop_get hy
      exact hA.le hxi hj (by omega)
    · obtain ⟨j, hj1, hj2, hj⟩ := mem_drop_get hy
      obtain ⟨p, q, hp, hq, hn⟩ := hs.yes (s - 1) (by omega) (by omega)
      rw [in_A (by omega) (by omega)] at hp
      rw [in_B (by omega) (by omega)] at hq
      exact leF_trans (hA.le hxi hp (by omega)) (leF_trans hn (hB.le hq hj (by omega)))
  · obtain ⟨i, hi1, hxi⟩ := mem_take_get hx
    rcases List.mem_append.1 hy with hy | hy
    · obtain ⟨j, hj1, hj2, hj⟩ := mem_drop_get hy
      have hlt : s < hi := by omega
      have hq := hs.no s (Nat.le_refl _) hlt
      have k2 := h.at_ (c := s) l1 hlt
      have lA : s - X.length < A.length := by omega
      have lB : nn - 1 - s - (X.length + A.length) < B.length := by omega
      have hle : leF B[nn - 1 - s - (X.length + A.length)] A[s - X.length] := by
        refine leF_of (Decidable.byContradiction fun hc => hq ⟨A[s - X.length], B[nn - 1 - s - (X.length + A.length)], ?_, ?_, hc⟩)
        · rw [in_A (by omega) (by omega)]; exact List.getElem?_eq_getElem lA
        · rw [in_B (by omega) (by omega)]; exact List.getElem?_eq_getElem lB
      exact leF_trans (hB.le hxi (List.getElem?_eq_getElem lB) (by omega)) (leF_trans hle (hA.le (List.getElem?_eq_getElem lA) hj (by omega)))
    · obtain ⟨j, hj1, hj2, hj⟩ := mem_drop_get hy
      exact hB.le hxi hj (by omega)
theorem Cutp.fin {A B A1 A2 B1 B2 S1 S2 : List Fl} (h : Cutp A B A1 A2 B1 B2) (p1 : S1.Perm (A1 ++ B1)) (s1 : Srt S1) (p2 : S2.Perm (A2 ++ B2)) (s2 : Srt S2) : (S1 ++ S2).Perm (A ++ B) ∧ Srt (S1 ++ S2) := by
  refine ⟨?_, s1.app s2 (fun x hx y hy => h.cross x (p1.mem_iff.1 hx) y (p2.mem_iff.1 hy))⟩
  rw [← h.hA, ← h.hB]
  refine (p1.append p2).trans ?_
  rw [List.append_assoc, List.append_assoc]
  refine List.Perm.append_left A1 ?_
  rw [← List.append_assoc, ← List.append_assoc]
  exact List.Perm.append_right B2 List.perm_append_comm
theorem Cutp.srt {A B A1 A2 B1 B2 : List Fl} (h : Cutp A B A1 A2 B1 B2) (hA : Srt A) (hB : Srt B) : Srt A1 ∧ Srt A2 ∧ Srt B1 ∧ Srt B2 := by
  rw [← h.hA] at hA
  rw [← h.hB] at hB
  obtain ⟨a1, a2, -⟩ := List.pairwise_append.1 hA
  obtain ⟨b1, b2, -⟩ := List.pairwise_append.1 hB
  exact ⟨a1, a2, b1, b2⟩
theorem srt_one {P Q : List Fl} (hP : Srt P) (hQ : Srt Q) (h : P.length = 0 ∨ Q.length = 0) : Srt (P ++ Q) := by
  rcases h with h | h
  · rw [List.eq_nil_of_length_eq_zero h, List.nil_append]; exact hQ
  · rw [List.eq_nil_of_length_eq_zero h, List.append_nil]; exact hP
end Go.Proofs.Ytmjkgibeljbloaa
