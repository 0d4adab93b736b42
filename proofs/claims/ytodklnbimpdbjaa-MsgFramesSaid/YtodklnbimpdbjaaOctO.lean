/- octet: rows joined in two parts: the statement's own walk. -/
import Derived.Test.YtodklnbimpdbjaaOctF
namespace Go.Proofs.Ytodklnbimpdbjaa
open Go.RowKit
set_option maxRecDepth 100000

theorem tyR : SliceTy Try.prog 67 22 (.slice none 0 0) 24 := ⟨Try.underlying67, by kernel_rfl, rfl, by omega⟩
/-- Rows with the values that hold them named. -/
theorem Rw.vals {w : World} {S : Nat → Prop} {v : Value} {L : List (List UInt8)} (h : Rw w S v L) : ∃ vs : List Value, vs.length = L.length ∧ Sl w S v vs ∧ (∀ (k : Nat) (x : Value) (l : List UInt8), vs[k]? = some x → L[k]? = some l → Bs w S x l) ∧ ∀ u ∈ vs, u.oneCell' = true := by
  obtain ⟨vs, h1, h2, h3⟩ := h
  refine ⟨vs, h1, h2, h3, fun u hu => ?_⟩
  obtain ⟨k, hk, rfl⟩ := List.mem_iff_getElem.1 hu
  obtain ⟨A, c, he, _⟩ := h3 k vs[k] (L[k]'(by omega)) (by simp [hk]) (by simp [h1 ▸ hk])
  rw [he]; rfl
/-- Two lists of rows in one of the call's own. -/
theorem Rw.join {w w' : World} {S : Nat → Prop} {v : Value} {L M : List (List UInt8)} {vs us : List Value} (hown : Own w' 22 v (vs ++ us)) (hx : Ext w w') (h1 : vs.length = L.length) (h2 : us.length = M.length)
    (h3 : ∀ (k : Nat) (x : Value) (l : List UInt8), vs[k]? = some x → L[k]? = some l → Bs w S x l) (h4 : ∀ (k : Nat) (x : Value) (l : List UInt8), us[k]? = some x → M[k]? = some l → Bs w S x l) :
    Rw w' (fun k => S k ∨ own v k) v (L ++ M) := by
  refine ⟨vs ++ us, by simp [h1, h2], hown.sl.mono (fun _ _ h => .inr h), fun k x l hx' hl => ?_⟩
  by_cases hk : k < vs.length
  · rw [List.getElem?_append_left hk] at hx'
    rw [List.getElem?_append_left (by omega)] at hl
    exact ((h3 k x l hx' hl).ext hx).mono (fun _ _ h => .inl h)
  · rw [List.getElem?_append_right (by omega)] at hx'
    rw [List.getElem?_append_right (by omega)] at hl
    rw [h1] at hx'
    exact ((h4 _ x l hx' hl).ext hx).mono (fun _ _ h => .inl h)
end Go.Proofs.Ytodklnbimpdbjaa
