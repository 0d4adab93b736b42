/- schema: what an entry may be, purely. -/
import Derived.Test.YtdfjldlfimbimaaEvD
import Derived.Test.YtdfjldlfimbimaaIxC
import Derived.Test.YtdfjldlfimbimaaEnx
namespace Go.Proofs.Ytdfjldlfimbimaa
open Go.RowKit
set_option maxRecDepth 100000

abbrev ocB : List UInt8 := [111, 98, 106, 101, 99, 116, 99, 108, 97, 115, 115]
/-- The classes: a name, what it asks, what it lets be beside. -/
def clTab : List (List UInt8 × Tx × Tx) := [([116, 111, 112], [[111, 98, 106, 101, 99, 116, 99, 108, 97, 115, 115]], []), ([112, 101, 114, 115, 111, 110], [[99, 110], [115, 110]], [[117, 115, 101, 114, 112, 97, 115, 115, 119, 111, 114, 100], [116, 101, 108, 101, 112, 104, 111, 110, 101, 110, 117, 109, 98, 101, 114], [100, 101, 115, 99, 114, 105, 112, 116, 105, 111, 110], [116, 105, 116, 108, 101], [109, 97, 105, 108], [109, 97, 110, 97, 103, 101, 114], [100, 105, 115, 112, 108, 97, 121, 110, 97, 109, 101], [115, 101, 101, 97, 108, 115, 111], [108], [117, 105, 100], [117, 105, 100, 110, 117, 109, 98, 101, 114], [103, 105, 100, 110, 117, 109, 98, 101, 114], [111, 117]]), ([111, 114, 103, 97, 110, 105, 122, 97, 116, 105, 111, 110], [[111]], [[100, 101, 115, 99, 114, 105, 112, 116, 105, 111, 110], [108], [116, 101, 108, 101, 112, 104, 111, 110, 101, 110, 117, 109, 98, 101, 114], [117, 115, 101, 114, 112, 97, 115, 115, 119, 111, 114, 100], [115, 101, 101, 97, 108, 115, 111]]), ([111, 114, 103, 97, 110, 105, 122, 97, 116, 105, 111, 110, 97, 108, 117, 110, 105, 116], [[111, 117]], [[100, 101, 115, 99, 114, 105, 112, 116, 105, 111, 110], [108], [116, 101, 108, 101, 112, 104, 111, 110, 101, 110, 117, 109, 98, 101, 114], [117, 115, 101, 114, 112, 97, 115, 115, 119, 111, 114, 100], [115, 101, 101, 97, 108, 115, 111], [109, 97, 110, 97, 103, 101, 114]]), ([100, 111, 109, 97, 105, 110], [[100, 99]], [[100, 101, 115, 99, 114, 105, 112, 116, 105, 111, 110], [111], [108]]), ([97, 99, 99, 111, 117, 110, 116], [[117, 105, 100]], [[100, 101, 115, 99, 114, 105, 112, 116, 105, 111, 110], [108], [111], [111, 117], [117, 115, 101, 114, 112, 97, 115, 115, 119, 111, 114, 100], [117, 105, 100, 110, 117, 109, 98, 101, 114], [103, 105, 100, 110, 117, 109, 98, 101, 114]]), ([103, 114, 111, 117, 112, 111, 102, 110, 97, 109, 101, 115], [[99, 110], [109, 101, 109, 98, 101, 114]], [[100, 101, 115, 99, 114, 105, 112, 116, 105, 111, 110], [111], [111, 117], [115, 101, 101, 97, 108, 115, 111]])]
def clIn : List (List UInt8 × Tx × Tx) → List UInt8 → Option (Tx × Tx)
  | [], _ => none
  | p :: r, k => if k = p.1 then some p.2 else clIn r k
abbrev clP (k : List UInt8) : Option (Tx × Tx) := clIn clTab k
/-- What a type is: its form, and whether there is one value at most. -/
def tyP (t : List UInt8) : Option (Int × Bool) := match lk ⟨t.toArray⟩ tyD with
  | some (.agg #[.int .i64 n, .bool q]) => some (n, q)
  | _ => none
def selE (F : List UInt8) (a : Att) : List (List UInt8) := if foldB a.typ = F then a.vals else []
theorem selE_len : ∀ (F : List UInt8) (L : List Att), (L.flatMap (selE F)).length ≤ wA L
  | _, [] => Nat.zero_le _
  | F, a :: L => by
    have h1 := selE_len F L
    have h2 := wV_ge a.vals
    have e : wA (a :: L) = 1 + a.typ.length + wV a.vals + wA L := rfl
    have h3 : (selE F a).length ≤ a.vals.length := by unfold selE; split <;> simp
    rw [List.flatMap_cons, List.length_append, e]; omega
theorem selE_next (F : List UInt8) (L : List Att) {k : Nat} (h : k < L.length) : (L.take (k + 1)).flatMap (selE F) = (L.take k).flatMap (selE F) ++ selE F L[k] := by
  rw [List.take_succ_eq_append_getElem h, List.flatMap_append, List.flatMap_cons, List.flatMap_nil, List.append_nil]
theorem sv_ones (l : List (List UInt8)) : ∀ u ∈ l.map sv, u.oneCell' = true := fun u hu => by obtain ⟨x, _, rfl⟩ := List.mem_map.1 hu; rfl
abbrev valsS (L : List Att) (F : List UInt8) : Tx := L.flatMap (selE F)
/-- Each type is known, and each class. -/
def knownA (a : Att) : Prop := (lk ⟨(foldB a.typ).toArray⟩ tyD).isSome = true ∧ (foldB a.typ = ocB → ∀ v ∈ a.vals, (clP (foldB v)).isSome = true)
instance (a : Att) : Decidable (knownA a) := by unfold knownA; infer_instance
def knownE (L : List Att) : Prop := ∀ a ∈ L, knownA a
instance (L : List Att) : Decidable (knownE L) := by unfold knownE; infer_instance
/-- The classes that are named. -/
def clD (v : List UInt8) : Tx × Tx := (clP (foldB v)).getD ([], [])
abbrev namedE (L : List Att) : List (Tx × Tx) := (valsS L ocB).map clD
theorem knownE_next (L : List Att) {k : Nat} (h : k < L.length) : knownE (L.take (k + 1)) ↔ knownE (L.take k) ∧ knownA L[k] := by
  unfold knownE
  rw [List.take_succ_eq_append_getElem h]
  constructor
  · exact fun q => ⟨fun a ha => q a (List.mem_append_left _ ha), q _ (List.mem_append_right _ (List.mem_singleton.2 rfl))⟩
  · rintro ⟨q1, q2⟩ a ha
    rcases List.mem_append.1 ha with r | r
    · exact q1 a r
    · rw [List.mem_singleton.1 r]; exact q2
theorem namedE_next (L : List Att) {k : Nat} (h : k < L.length) : namedE (L.take (k + 1)) = namedE (L.take k) ++ (selE ocB L[k]).map clD := by
  show ((L.take (k + 1)).flatMap (selE ocB)).map clD = _
  rw [selE_next ocB L h, List.map_append]
def oneV (t : List UInt8) : Bool := match lk ⟨t.toArray⟩ tyD with
  | some (.agg #[.int .i64 _, .bool q]) => q
  | _ => false
def goodA (a : Att) : Prop := a.vals.length ≠ 0 ∧ a.vals.length ≤ 16 ∧ (oneV (foldB a.typ) = true → a.vals.length ≤ 1)
instance (a : Att) : Decidable (goodA a) := by unfold goodA; infer_instance
/-- There are as many attributes and values as there may be. -/
def countsE (L : List Att) : Prop := (L.map fun a => foldB a.typ).Nodup ∧ (∀ a ∈ L, goodA a) ∧ L.length ≤ 16
instance (L : List Att) : Decidable (countsE L) := by unfold countsE; infer_instance
/-- All is there that the classes ask, and nothing that none of them lets be. -/
def askedE (L : List Att) (N : List (Tx × Tx)) : Prop := (∀ c ∈ N, ∀ m ∈ c.1, m ∈ L.map fun a => foldB a.typ) ∧ ∀ a ∈ L, foldB a.typ = ocB ∨ ∃ c ∈ N, foldB a.typ ∈ c.1 ∨ foldB a.typ ∈ c.2
instance (L : List Att) (N : List (Tx × Tx)) : Decidable (askedE L N) := by unfold askedE; infer_instance
/-- The first part of its name is one of its values. -/
def nameE (D : List Av) (L : List Att) : Prop := ∀ p, D.head? = some p → ∃ a ∈ L, foldB a.typ = foldB p.1 ∧ ∃ v ∈ a.vals, foldB v = foldB p.2
instance (D : List Av) (L : List Att) : Decidable (nameE D L) := by
  unfold nameE
  cases D with
  | nil => exact isTrue (fun p h => by cases h)
  | cons p D => exact decidable_of_iff (∃ a ∈ L, foldB a.typ = foldB p.1 ∧ ∃ v ∈ a.vals, foldB v = foldB p.2) ⟨fun h q e => by cases e; exact h, fun h => h p rfl⟩
/-- Whether an entry may be: nothing, or which error. -/
def chkE (E : Ent) : Int :=
  if ¬ knownE E.ats then 17 else if valsS E.ats ocB = [] then 65 else if ¬ countsE E.ats then 19 else if ¬ askedE E.ats (namedE E.ats) then 65 else if ¬ nameE E.dn E.ats then 64 else 0
end Go.Proofs.Ytdfjldlfimbimaa
