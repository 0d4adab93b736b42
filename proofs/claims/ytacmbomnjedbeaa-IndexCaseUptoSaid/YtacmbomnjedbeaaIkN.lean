/- index: the law IndexCase. -/
import Derived.Test.YtacmbomnjedbeaaIkM
namespace Go.Proofs.Ytacmbomnjedbeaa
open Go.RowKit
set_option maxRecDepth 100000

def upAv (a : Av) : Av := (a.1.map up, a.2.map up)
theorem upAv_snoc (L : List Av) {k : Nat} (h : k < L.length) : (L.take (k + 1)).map upAv = (L.take k).map upAv ++ [upAv L[k]] := by
  rw [List.take_succ_eq_append_getElem h, List.map_append]; rfl
theorem own_neR {w : World} {e e' : TypeId} {v v' : Value} {xs : List AtV} {ys : List Value} (h : OwnR atc 2 w e v xs) (h' : Own w e' v' ys) (hne : e' ≠ e) {b : Nat} (hk : own v b) (hk' : own v' b) : False := by
  rcases h.2 with ⟨rfl, _⟩ | ⟨g, cap, cur, rfl, _, hh, _⟩
  · cases hk
  · have : g = b := Option.some.inj hk
    subst this
    exact h'.ne_blk (t := e) hh hne hk'
section
variable {w w' : World} {v v' : Value} {rs : List AtV} {r : AtV} {L : List Att} {a : Att}
/-- Attributes of a call's own, the values of each too. -/
structure OAt (w : World) (v : Value) (rs : List AtV) (L : List Att) : Prop where
  own : OwnR atc 2 w 37 v rs
  len : rs.length = L.length
  els : ∀ (k : Nat) (r : AtV) (a : Att), rs[k]? = some r → L[k]? = some a → r.1 = a.typ ∧ Own w 9 r.2 (a.vals.map sv)
theorem OAt.nil (w : World) : OAt w (.slice none 0 0) [] [] := ⟨OwnR.nil _ _ _ _, rfl, fun k r a hr => by simp at hr⟩
theorem OAt.ext (h : OAt w v rs L) (hm : Ext w w') : OAt w' v rs L := ⟨h.own.ext hm, h.len, fun k r a hr ha => ⟨(h.els k r a hr ha).1, (h.els k r a hr ha).2.mod hm (fun _ _ h => h)⟩⟩
theorem OAt.ats (h : OAt w v rs L) : Ats w v L := ⟨rs, h.own.rc.mono (fun _ _ _ => trivial), h.len, fun k r a hr ha => ⟨(h.els k r a hr ha).1, (h.els k r a hr ha).2.sl.mono (fun _ _ _ => trivial)⟩⟩
theorem OAt.snoc (h : OAt w v rs L) (h1 : OwnR atc 2 w' 37 v' (rs ++ [r])) (h2 : Mod (Go.Proofs.Ytacmbomnjedbeaa.own v) w w') (ht : r.1 = a.typ) (hx : Own w 9 r.2 (a.vals.map sv)) : OAt w' v' (rs ++ [r]) (L ++ [a]) := by
  have ne : ∀ {y : Value} {m : List Value}, Own w 9 y m → Own w' 9 y m := fun hy => hy.mod h2 (fun k hk hv => own_neR h.own hy (by decide) hv hk)
  refine ⟨h1, by rw [List.length_append, List.length_append, h.len]; rfl, fun k y m hy hm => ?_⟩
  by_cases hk : k < rs.length
  · rw [List.getElem?_append_left hk] at hy
    rw [List.getElem?_append_left (by rw [← h.len]; exact hk)] at hm
    exact ⟨(h.els k y m hy hm).1, ne (h.els k y m hy hm).2⟩
  · rw [List.getElem?_append_right (by omega)] at hy
    rw [List.getElem?_append_right (by rw [← h.len]; omega), ← h.len] at hm
    generalize k - rs.length = j at *
    cases j with
    | zero =>
      simp at hy hm
      subst hy; subst hm
      exact ⟨ht, ne hx⟩
    | succ j => simp at hy
theorem OAt.mod {w w' : World} {F : Nat → Prop} {v : Value} {rs : List AtV} {L : List Att} (h : OAt w v rs L) (hm : Mod F w w') (h1 : ∀ k, Go.Proofs.Ytacmbomnjedbeaa.own v k → ¬ F k) (h2 : ∀ r ∈ rs, ∀ k, Go.Proofs.Ytacmbomnjedbeaa.own r.2 k → ¬ F k) : OAt w' v rs L :=
  ⟨h.own.mod hm h1, h.len, fun k r a hr ha => ⟨(h.els k r a hr ha).1, (h.els k r a hr ha).2.mod hm (h2 r (List.mem_of_getElem? hr))⟩⟩
end
theorem own_neAA {w : World} {e e' : TypeId} {v v' : Value} {xs : List Av} {ys : List AtV} (h : OwnR avc 2 w e v xs) (h' : OwnR atc 2 w e' v' ys) (hne : e ≠ e') {b : Nat} (hk : own v b) (hk' : own v' b) : False := by
  rcases h.2 with ⟨rfl, _⟩ | ⟨g, cap, cur, rfl, _, hh, _⟩
  · cases hk
  · have : g = b := Option.some.inj hk
    subst this
    rcases h'.2 with ⟨rfl, _⟩ | ⟨g', cap', cur', rfl, _, hh', _⟩
    · cases hk'
    · have : g' = g := Option.some.inj hk'
      subst this
      rw [hh] at hh'
      injection hh' with hh'
      injection hh' with _ he _
      exact hne he
def upV (n : Nat) (v : List UInt8) : List UInt8 := if n ≤ 5 then v.map up else v
def upAt (a : Att) : Att := ⟨a.typ.map up, a.vals.map (upV a.typ.length)⟩
theorem up_snoc {α β : Type} (f : α → β) (L : List α) {k : Nat} (h : k < L.length) : (L.take (k + 1)).map f = (L.take k).map f ++ [f L[k]] := by
  rw [List.take_succ_eq_append_getElem h, List.map_append]; rfl
theorem upV_len (n : Nat) (v : List UInt8) : (upV n v).length = v.length := by unfold upV; split <;> simp
theorem wV_up (n : Nat) (V : List (List UInt8)) : wV (V.map (upV n)) = wV V := by
  unfold wV
  rw [List.map_map]
  congr 1
  exact List.map_congr_left fun v _ => by show 1 + (upV n v).length = _; rw [upV_len]
theorem wA_up (L : List Att) : wA (L.map upAt) = wA L := by
  unfold wA
  rw [List.map_map]
  congr 1
  exact List.map_congr_left fun a _ => by show 1 + (a.typ.map up).length + wV (a.vals.map (upV a.typ.length)) = _; rw [List.length_map, wV_up]
theorem wD_up (D : List Av) : wD (D.map upAv) = wD D := by
  unfold wD
  rw [List.map_map]
  congr 1
  exact List.map_congr_left fun a _ => by show 1 + (a.1.map up).length + (a.2.map up).length = _; rw [List.length_map, List.length_map]
theorem key_up (D : List Av) : keyB (D.map upAv) = keyB D := by
  show partsK (norm (D.map upAv)) = partsK (norm D)
  rw [show D.map upAv = D.map (fun a => (a.1.map up, a.2.map up)) from rfl, norm_up]
theorem short_text : ∀ t ∈ typesL, t.length ≤ 5 → synT t = 1 := by
  have h : typesL.all (fun t => !decide (t.length ≤ 5) || decide (synT t = 1)) = true := by kernel_rfl
  intro t ht h5
  have := List.all_eq_true.1 h t ht
  rw [dtrue h5] at this
  simpa using this
theorem isBeg_up {T : List UInt8} {n : Int} {m : Nat} {V : List (List UInt8)} (hn : m ≤ 5 → n = 1) (x : List UInt8) : isBeg T n (V.map (upV m)) x ↔ isBeg T n V x := by
  have hv : ∀ v, normM n (upV m v) = normM n v := fun v => by
    unfold upV
    split
    · rename_i h
      rw [hn h, textB_up]
    · rfl
  unfold isBeg
  refine or_congr Iff.rfl ?_
  constructor
  · rintro ⟨v, h, hx⟩
    obtain ⟨u, hu, rfl⟩ := List.mem_map.1 h
    rw [hv] at hx
    exact ⟨u, hu, hx⟩
  · rintro ⟨v, h, hx⟩
    refine ⟨upV m v, List.mem_map.2 ⟨v, h, rfl⟩, ?_⟩
    rw [hv]
    exact hx
theorem isBegin_up (a : Att) (x : List UInt8) : isBegin (upAt a) x ↔ isBegin a x := by
  unfold isBegin
  have hf : foldB (upAt a).typ = foldB a.typ := fold_up a.typ
  have hne : (upAt a).vals ≠ [] ↔ a.vals ≠ [] := by show a.vals.map _ ≠ [] ↔ _; simp
  rw [hf]
  constructor
  · rintro ⟨n, q, h1, h2, h3⟩
    refine ⟨n, q, h1, hne.1 h2, (isBeg_up (fun h5 => ?_) x).1 h3⟩
    have h6 := lk_in h1
    have h7 := short_text _ h6.1 (Nat.le_trans (foldB_len a.typ) h5)
    have h8 := h6.2
    injection h8 with h8
    have h9 := congrArg (fun (a : Array Value) => a[0]?) h8
    simp at h9
    rw [h9, h7]
  · rintro ⟨n, q, h1, h2, h3⟩
    refine ⟨n, q, h1, hne.2 h2, (isBeg_up (fun h5 => ?_) x).2 h3⟩
    have h6 := lk_in h1
    have h7 := short_text _ h6.1 (Nat.le_trans (foldB_len a.typ) h5)
    have h8 := h6.2
    injection h8 with h8
    have h9 := congrArg (fun (a : Array Value) => a[0]?) h8
    simp at h9
    rw [h9, h7]
theorem isKey_up (K : List UInt8) (L : List Att) (x : List UInt8) : isKey K (L.map upAt) x ↔ isKey K L x := by
  unfold isKey
  constructor
  · rintro ⟨a, ha, b, hb, e⟩
    obtain ⟨c, hc, rfl⟩ := List.mem_map.1 ha
    exact ⟨c, hc, b, (isBegin_up c b).1 hb, e⟩
  · rintro ⟨a, ha, b, hb, e⟩
    exact ⟨upAt a, List.mem_map.2 ⟨a, ha, rfl⟩, b, (isBegin_up a b).2 hb, e⟩
end Go.Proofs.Ytacmbomnjedbeaa
