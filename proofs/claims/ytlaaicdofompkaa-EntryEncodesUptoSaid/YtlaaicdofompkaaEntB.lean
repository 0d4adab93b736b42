/- entry: entries in memory. -/
import Derived.Test.YtlaaicdofompkaaEntA
namespace Go.Proofs.Ytlaaicdofompkaa
open Go.RowKit
set_option maxRecDepth 100000

abbrev AtV : Type := List UInt8 × Value
abbrev atc (x : AtV) : List Value := [sv x.1, x.2]
theorem atc_len (x : AtV) : (atc x).length = 2 := rfl
theorem atc_ok {t : List UInt8} {A : Option Addr} {n c : Nat} : ∀ u ∈ atc (t, .slice A n c), u.oneCell' = true := by
  intro u hu
  simp only [atc, List.mem_cons, List.not_mem_nil, or_false] at hu
  rcases hu with rfl | rfl <;> rfl
theorem tyAt : SliceTyK Try.prog 23 46 (.agg #[.string ⟨#[]⟩, .slice none 0 0]) 2 40 := ⟨Try.underlying23, by kernel_rfl, rfl, by decide, by decide⟩
theorem tyS : SliceTy Try.prog 34 9 (.string ⟨#[]⟩) 16 := ⟨Try.underlying34, by kernel_rfl, rfl, by omega⟩
abbrev All : Nat → Prop := fun _ => True
/-- A slice that reads as these attributes. -/
def Ats (w : World) (v : Value) (L : List Att) : Prop :=
  ∃ rs : List AtV, Rc atc 2 w All v rs ∧ rs.length = L.length ∧ ∀ (k : Nat) (r : AtV) (a : Att), rs[k]? = some r → L[k]? = some a → r.1 = a.typ ∧ Ss w All r.2 a.vals
theorem Ats.ext {w w' : World} {v : Value} {L : List Att} (h : Ats w v L) (hm : Ext w w') : Ats w' v L := by
  obtain ⟨rs, h1, h2, h3⟩ := h
  exact ⟨rs, h1.ext hm, h2, fun k r a hr ha => ⟨(h3 k r a hr ha).1, (h3 k r a hr ha).2.ext hm⟩⟩
theorem Ats.nil (w : World) : Ats w (.slice none 0 0) [] := ⟨[], (OwnR.nil atc 2 w 0).rc.mono (fun _ _ _ => trivial), rfl, fun k r a hr => by simp at hr⟩
theorem Ats.open_ {w : World} {v : Value} {L : List Att} (h : Ats w v L) : ∃ A c, v = .slice A L.length c ∧ ∀ (i : Nat) (hi : i < L.length), ∃ ad y, A = some ad ∧ w.cell? (ad.add (i * 2)) = some (sv L[i].typ) ∧ w.cell? ⟨(ad.add (i * 2)).block, (ad.add (i * 2)).off + 1, none⟩ = some y ∧ Ss w All y L[i].vals := by
  obtain ⟨rs, h1, h2, h3⟩ := h
  obtain ⟨A, c, rfl, _, _, _, h4⟩ := h1.open_ atc_len
  refine ⟨A, c, by rw [h2], fun i hi => ?_⟩
  obtain ⟨ad, e1, _, c0⟩ := h4 i 0 _ (by omega) (by omega) rfl
  obtain ⟨ad', e1', _, c1⟩ := h4 i 1 _ (by omega) (by omega) rfl
  rw [e1] at e1'
  injection e1' with e1'
  subst e1'
  obtain ⟨k1, k2⟩ := h3 i rs[i] L[i] (by simp [h2, hi]) (by simp [hi])
  rw [Nat.add_zero] at c0
  rw [add_next _ _ _ (by omega)] at c1
  exact ⟨ad, rs[i].2, e1, by rw [← k1]; exact c0, c1, k2⟩
/-- Attributes of a call's own, the values of each too. -/
structure OAt (w : World) (v : Value) (rs : List AtV) (L : List Att) : Prop where
  own : OwnR atc 2 w 46 v rs
  len : rs.length = L.length
  els : ∀ (k : Nat) (r : AtV) (a : Att), rs[k]? = some r → L[k]? = some a → r.1 = a.typ ∧ Own w 9 r.2 (a.vals.map sv)
theorem own_neR {w : World} {e e' : TypeId} {v v' : Value} {xs : List AtV} {ys : List Value} (h : OwnR atc 2 w e v xs) (h' : Own w e' v' ys) (hne : e' ≠ e) {b : Nat} (hk : own v b) (hk' : own v' b) : False := by
  rcases h.2 with ⟨rfl, _⟩ | ⟨g, cap, cur, rfl, _, hh, _⟩
  · cases hk
  · have : g = b := Option.some.inj hk
    subst this
    exact h'.ne_blk (t := e) hh hne hk'
section
variable {w w' : World} {v v' : Value} {rs : List AtV} {L : List Att} {r : AtV} {a : Att}
theorem OAt.nil (w : World) : OAt w (.slice none 0 0) [] [] := ⟨OwnR.nil _ _ _ _, rfl, fun k r a hr => by simp at hr⟩
theorem OAt.ext (h : OAt w v rs L) (hm : Ext w w') : OAt w' v rs L := ⟨h.own.ext hm, h.len, fun k r a hr ha => ⟨(h.els k r a hr ha).1, (h.els k r a hr ha).2.mod hm (fun _ _ h => h)⟩⟩
theorem OAt.ats (h : OAt w v rs L) : Ats w v L := ⟨rs, h.own.rc.mono (fun _ _ _ => trivial), h.len, fun k r a hr ha => ⟨(h.els k r a hr ha).1, (h.els k r a hr ha).2.sl.mono (fun _ _ _ => trivial)⟩⟩
theorem OAt.snoc (h : OAt w v rs L) (h1 : OwnR atc 2 w' 46 v' (rs ++ [r])) (h2 : Mod (Go.Proofs.Ytlaaicdofompkaa.own v) w w') (ht : r.1 = a.typ) (hx : Own w 9 r.2 (a.vals.map sv)) : OAt w' v' (rs ++ [r]) (L ++ [a]) := by
  have ne : ∀ {y : Value} {m : List Value}, Own w 9 y m → Own w' 9 y m := fun hy => hy.mod h2 (fun k hk hv => own_neR h.own hy (by decide) hv hk)
  refine ⟨h1, by rw [List.length_append, List.length_append, h.len]; rfl, fun k y m hy hm => ?_⟩
  by_cases hk : k < rs.length
  · rw [List.getElem?_append_left hk] at hy
    rw [List.getElem?_append_left (by rw [← h.len]; exact hk)] at hm
    exact ⟨(h.els k y m hy hm).1, ne (h.els k y m hy hm).2⟩
  · rw [List.getElem?_append_right (by omega)] at hy
    rw [List.getElem?_append_right (by rw [← h.len]; omega), ← h.len] at hm
    generalize k - rs.length = j at *
    cases j with
    | zero =>
      simp at hy hm
      subst hy; subst hm
      exact ⟨ht, ne hx⟩
    | succ j => simp at hy
end
end Go.Proofs.Ytlaaicdofompkaa
