/- octet: what its small functions do to the world. -/
import Derived.Test.YtdfjldlfimbimaaRows
import Derived.Test.YtdfjldlfimbimaaWords
namespace Go.Proofs.Ytdfjldlfimbimaa
open Go.RowKit

theorem tyB : SliceTy Try.prog 71 5 (.int .u8 0) 1 := ⟨Try.underlying71, by kernel_rfl, rfl, Nat.le_refl _⟩
end Go.Proofs.Ytdfjldlfimbimaa
namespace Go.Proofs.Ytdfjldlfimbimaa
open Go.RowKit

theorem take_next {α : Type} {xs ys : List α} {k : Nat} (hx : k < xs.length) (hy : k < ys.length) (h : xs.take k = ys.take k) (he : xs[k] = ys[k]) : xs.take (k + 1) = ys.take (k + 1) := by
  rw [List.take_succ_eq_append_getElem hx, List.take_succ_eq_append_getElem hy, h, he]
theorem byte_bne (a b : UInt8) : ((a.toNat : Int) != (b.toNat : Int)) = decide (a ≠ b) := by
  rw [Bool.eq_iff_iff]; simp only [bne_iff_ne, ne_eq, decide_eq_true_eq, ← UInt8.toNat_inj]; omega
/-- How much rows weigh. -/
def weight (L : List (List UInt8)) : Nat := (L.map fun p => p.length + 3).sum
theorem weight_snoc (L : List (List UInt8)) (k : Nat) (h : k < L.length) : weight (L.take (k + 1)) = weight (L.take k) + (L[k].length + 3) := by
  unfold weight
  rw [List.take_succ_eq_append_getElem h, List.map_append, List.sum_append]
  simp
theorem weight_take (L : List (List UInt8)) (k : Nat) : weight (L.take k) ≤ weight L := by
  have e : weight L = weight (L.take k) + weight (L.drop k) := by
    unfold weight
    rw [← List.sum_append, ← List.map_append, List.take_append_drop]
  omega
end Go.Proofs.Ytdfjldlfimbimaa
namespace Go.Proofs.Ytdfjldlfimbimaa
open Go.RowKit
set_option maxRecDepth 100000

theorem weight_flat (L : List (List UInt8)) : L.flatten.length ≤ weight L := by
  unfold weight
  induction L with
  | nil => simp
  | cons a L ih => simp only [List.flatten_cons, List.length_append, List.map_cons, List.sum_cons]; omega
end Go.Proofs.Ytdfjldlfimbimaa
namespace Go.Proofs.Ytdfjldlfimbimaa
open Go.RowKit
set_option maxRecDepth 100000

/-- Rows with the values that hold them named. -/
theorem Rw.vals {w : World} {S : Nat → Prop} {v : Value} {L : List (List UInt8)} (h : Rw w S v L) : ∃ vs : List Value, vs.length = L.length ∧ Sl w S v vs ∧ (∀ (k : Nat) (x : Value) (l : List UInt8), vs[k]? = some x → L[k]? = some l → Bs w S x l) ∧ ∀ u ∈ vs, u.oneCell' = true := by
  obtain ⟨vs, h1, h2, h3⟩ := h
  refine ⟨vs, h1, h2, h3, fun u hu => ?_⟩
  obtain ⟨k, hk, rfl⟩ := List.mem_iff_getElem.1 hu
  obtain ⟨A, c, he, _⟩ := h3 k vs[k] (L[k]'(by omega)) (by simp [hk]) (by simp [h1 ▸ hk])
  rw [he]; rfl
end Go.Proofs.Ytdfjldlfimbimaa
namespace Go.Proofs.Ytdfjldlfimbimaa
open Go.RowKit
set_option maxRecDepth 100000

theorem len_le_weight (L : List (List UInt8)) (k : Nat) (h : k < L.length) : L[k].length ≤ weight L := by
  have h1 := weight_snoc L k h
  have h2 := weight_take L (k + 1)
  omega
theorem roomy_begin {w : World} {A : Option Addr} {c : Nat} {l : List UInt8} (h : Own w 5 (.slice A (l.length + 1) c) ((l ++ [171]).map bv)) : Bs w (own (.slice A (l.length + 1) c)) (.slice A l.length c) l := by
  have h1 : Bs w (own (.slice A (l.length + 1) c)) (.slice A (l ++ [171]).length c) (l ++ [171]) := by
    have e : (l ++ [(171 : UInt8)]).length = l.length + 1 := by simp
    rw [e]; exact h.sl
  have := Bs.begin h1 (m := l.length) (by simp)
  rwa [List.take_append_of_le_length (Nat.le_refl _), List.take_of_length_le (Nat.le_refl _)] at this
end Go.Proofs.Ytdfjldlfimbimaa
namespace Go.Proofs.Ytdfjldlfimbimaa
open Go.RowKit
set_option maxRecDepth 100000

/-- Rows of unlike elements are not one block's. -/
theorem own_ne {w : World} {e e' : TypeId} {v v' : Value} {xs ys : List Value} (h : Own w e v xs) (h' : Own w e' v' ys) (hne : e ≠ e') {k : Nat} (hk : own v k) (hk' : own v' k) : False := by
  rcases h'.2 with ⟨rfl, _⟩ | ⟨g, cap, cur, rfl, _, hh, _⟩
  · cases hk'
  · have : g = k := Option.some.inj hk'
    subst this
    exact h.ne_blk (t := e') hh hne hk
end Go.Proofs.Ytdfjldlfimbimaa
