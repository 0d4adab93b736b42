/- cells in order: what isn't ahead of a cell; some of them. -/
import Derived.Test.YthohghnfiicndaaDoorCelL
namespace Go.Proofs.YthohghnfiicndaaDoor
open Go.RowKit
set_option maxRecDepth 100000

theorem less_irr : ∀ x : List UInt8, Op.bytesLess x x = false
  | [] => rfl
  | a :: x => by
    show (decide (a < a) || (a == a && Op.bytesLess x x)) = false
    rw [less_irr x, decide_eq_false (by rw [UInt8.lt_iff_toNat_lt]; omega)]
    simp
def sortedC (L : List Ce) : Prop := L.Pairwise fun a b => lessC a b = true
/-- What isn't ahead of a cell. -/
def fromC (L : List Ce) (c : Ce) : List Ce := L.dropWhile fun x => lessC x c
theorem drop_head {α : Type} (p : α → Bool) : ∀ (L : List α) {x : α} {R : List α}, L.dropWhile p = x :: R → p x = false
  | [], _, _, h => by cases h
  | y :: L, x, R, h => by
    rw [List.dropWhile_cons] at h
    by_cases hy : p y = true
    · rw [if_pos hy] at h; exact drop_head p L h
    · rw [if_neg hy] at h
      injection h with h1 _
      subst h1
      cases hp : p y
      · rfl
      · exact absurd hp hy
theorem take_all {α : Type} (p : α → Bool) : ∀ (L : List α) {x : α}, x ∈ L.takeWhile p → p x = true
  | [], _, h => by cases h
  | y :: L, x, h => by
    rw [List.takeWhile_cons] at h
    by_cases hy : p y = true
    · rw [if_pos hy] at h
      rcases List.mem_cons.1 h with rfl | h
      · exact hy
      · exact take_all p L h
    · rw [if_neg hy] at h; cases h
theorem from_split (L : List Ce) (c : Ce) : (L.takeWhile fun x => lessC x c) ++ fromC L c = L := List.takeWhile_append_dropWhile
theorem from_ge {L : List Ce} {c x : Ce} (hs : sortedC L) (hx : x ∈ fromC L c) : lessC x c = false := by
  have hd : sortedC (fromC L c) := List.Pairwise.sublist (List.dropWhile_sublist _) hs
  cases hR : fromC L c with
  | nil => rw [hR] at hx; cases hx
  | cons y R =>
    have hy := drop_head (fun x => lessC x c) L hR
    rw [hR] at hx hd
    rcases List.mem_cons.1 hx with rfl | hx
    · exact hy
    · have := (List.pairwise_cons.1 hd).1 x hx
      cases hc : lessC x c
      · rfl
      · have h2 := lessC_trans this hc
        rw [hy] at h2; cases h2
/-- What a key has, told by what isn't ahead of it. -/
theorem first_from {L : List Ce} (hs : sortedC L) (key : List UInt8) (seq : Int) :
    outS (firstC L key seq) = match fromC L ⟨key, [], false, seq⟩ with
      | [] => (cz, false)
      | y :: _ => if y.key = key then (y, true) else (cz, false) := by
  have h1 : firstC L key seq = firstC (fromC L ⟨key, [], false, seq⟩) key seq := by
    unfold firstC
    conv => lhs; rw [← from_split L ⟨key, [], false, seq⟩]
    rw [List.find?_append]
    have : List.find? (fun c => c.key == key && decide (c.seq ≤ seq)) (L.takeWhile fun x => lessC x ⟨key, [], false, seq⟩) = none := by
      rw [List.find?_eq_none]
      intro x hx
      have := take_all _ L hx
      simp only [Bool.and_eq_true, beq_iff_eq, decide_eq_true_eq]
      rintro ⟨hk, hq⟩
      unfold lessC at this
      rw [if_pos hk] at this
      have := of_decide_eq_true this
      simp only at this
      omega
    rw [this, Option.none_or]
  rw [h1]
  have hd : sortedC (fromC L ⟨key, [], false, seq⟩) := List.Pairwise.sublist (List.dropWhile_sublist _) hs
  cases hR : fromC L ⟨key, [], false, seq⟩ with
  | nil => rfl
  | cons y R =>
    have hy := drop_head (fun x => lessC x ⟨key, [], false, seq⟩) L hR
    rw [hR] at hd
    simp only at hy ⊢
    unfold lessC at hy
    simp only at hy
    by_cases hk : y.key = key
    · rw [if_pos hk] at hy ⊢
      have := of_decide_eq_false hy
      unfold firstC
      rw [List.find?_cons, hk, beq_self_eq_true, decide_eq_true (by omega)]
      rfl
    · rw [if_neg hk] at hy ⊢
      have hgt : Op.bytesLess key y.key = true := by rw [less_asym _ _ (Ne.symm hk), hy]; rfl
      have : firstC (y :: R) key seq = none := by
        unfold firstC
        rw [List.find?_eq_none]
        intro x hx
        simp only [Bool.and_eq_true, beq_iff_eq, decide_eq_true_eq]
        rintro ⟨hxk, _⟩
        rcases List.mem_cons.1 hx with rfl | hx
        · exact hk hxk
        · have h2 := (List.pairwise_cons.1 hd).1 x hx
          unfold lessC at h2
          by_cases hyx : y.key = x.key
          · exact hk (hyx.trans hxk)
          · rw [if_neg hyx, hxk, hy] at h2; cases h2
      rw [this]
      rfl
/-- All cells of keys from one to another. -/
def scanC (L : List Ce) (a b : List UInt8) : List Ce := L.filter fun c => !Op.bytesLess c.key a && (b == [] || Op.bytesLess c.key b)
theorem drop_filter {L : List Ce} (hs : sortedC L) (p : Ce → Bool) (hp : ∀ a b, lessC a b = true → p b = true → p a = true) : L.dropWhile p = L.filter fun x => !p x := by
  induction L with
  | nil => rfl
  | cons a L ih =>
    obtain ⟨h1, h2⟩ := List.pairwise_cons.1 hs
    rw [List.dropWhile_cons, List.filter_cons]
    cases ha : p a
    · simp only [Bool.not_false, if_true]
      rw [if_neg (by simp), List.filter_eq_self.2]
      intro x hx
      cases hx2 : p x
      · rfl
      · have := hp a x (h1 x hx) hx2
        rw [ha] at this; cases this
    · simp only [Bool.not_true, if_true]
      rw [if_neg (by simp)]
      exact ih h2
theorem take_filter {L : List Ce} (hs : sortedC L) (p : Ce → Bool) (hp : ∀ a b, lessC a b = true → p b = true → p a = true) : L.takeWhile p = L.filter p := by
  induction L with
  | nil => rfl
  | cons a L ih =>
    obtain ⟨h1, h2⟩ := List.pairwise_cons.1 hs
    rw [List.takeWhile_cons, List.filter_cons]
    cases ha : p a
    · rw [if_neg (by simp), if_neg (by simp), eq_comm, List.filter_eq_nil_iff]
      intro x hx hx2
      have := hp a x (h1 x hx) hx2
      rw [ha] at this; cases this
    · rw [if_pos rfl, if_pos rfl, ih h2]
theorem key_le {a b : Ce} {k : List UInt8} (h : lessC a b = true) (hb : Op.bytesLess b.key k = true) : Op.bytesLess a.key k = true := by
  unfold lessC at h
  by_cases he : a.key = b.key
  · rw [he]; exact hb
  · rw [if_neg he] at h
    exact less_trans _ _ _ h hb
end Go.Proofs.YthohghnfiicndaaDoor
