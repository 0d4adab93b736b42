/- filter: texts as filters, without memory. -/
import Derived.Test.YtekocbphdckmkaaFlE
import Derived.Test.YtekocbphdckmkaaDnPE
namespace Go.Proofs.Ytekocbphdckmkaa
open Go.RowKit
set_option maxRecDepth 100000

/-- A value up to a bracket: its pieces, and what is left, the bracket first; cur is what of the piece at hand has come. -/
def valP : List UInt8 → List UInt8 → Option (List (List UInt8) × List UInt8)
  | [], _ => none
  | c :: R, cur =>
    if c = 41 then some ([cur], c :: R)
    else if c = 40 ∨ c = 0 then none
    else if c = 42 then (valP R []).map fun x => (cur :: x.1, x.2)
    else if c = 92 then
      match R with
      | a :: b :: R' => (digB a).bind fun x => (digB b).bind fun y => valP R' (cur ++ [x <<< 4 ||| y])
      | _ => none
    else valP R (cur ++ [c])
theorem valP_end {R cur : List UInt8} : valP (41 :: R) cur = some ([cur], 41 :: R) := by rw [valP.eq_def]; simp
theorem valP_bad {c : UInt8} {R cur : List UInt8} (h : c = 40 ∨ c = 0) : valP (c :: R) cur = none := by
  rw [valP.eq_def]
  rcases h with rfl | rfl <;> simp
theorem valP_star {R cur : List UInt8} : valP (42 :: R) cur = (valP R []).map fun x => (cur :: x.1, x.2) := by rw [valP.eq_def]; simp
theorem valP_esc {R cur : List UInt8} {a b x y : UInt8} (ha : digB a = some x) (hb : digB b = some y) : valP (92 :: a :: b :: R) cur = valP R (cur ++ [x <<< 4 ||| y]) := by
  rw [valP.eq_def]; simp [ha, hb]
theorem valP_noesc {R cur : List UInt8} (h : ∀ a b R' x y, R = a :: b :: R' → digB a = some x → digB b = some y → False) : valP (92 :: R) cur = none := by
  rw [valP.eq_def]
  simp only [show ¬ ((92 : UInt8) = 41) by decide, show ¬ ((92 : UInt8) = 40 ∨ (92 : UInt8) = 0) by decide, show ¬ ((92 : UInt8) = 42) by decide, if_false, if_true]
  match R with
  | [] => rfl
  | [a] => rfl
  | a :: b :: R' =>
    show (digB a).bind _ = none
    cases ha : digB a with
    | none => rfl
    | some x =>
      show (digB b).bind _ = none
      cases hb : digB b with
      | none => rfl
      | some y => exact (h a b R' x y rfl ha hb).elim
theorem valP_plain {c : UInt8} {R cur : List UInt8} (h1 : c ≠ 41) (h2 : ¬ (c = 40 ∨ c = 0)) (h3 : c ≠ 42) (h4 : c ≠ 92) : valP (c :: R) cur = valP R (cur ++ [c]) := by
  rw [valP.eq_def]; simp only [h1, h2, h3, h4, if_false]
/-- What comes of a value. -/
theorem valP_ok : ∀ (m : Nat) (R cur : List UInt8) (p : List (List UInt8)) (R' : List UInt8), R.length ≤ m → valP R cur = some (p, R') → R'.length ≤ R.length ∧ R'.head? = some 41 ∧ p ≠ [] ∧ p.length ≤ R.length ∧ ∀ x ∈ p, x.length ≤ cur.length + R.length
  | 0, R, cur, p, R', hm, h => by
    obtain rfl : R = [] := List.eq_nil_of_length_eq_zero (by omega)
    cases h
  | m + 1, [], cur, p, R', hm, h => by cases h
  | m + 1, c :: R, cur, p, R', hm, h => by
    simp only [List.length_cons] at hm
    by_cases h1 : c = 41
    · subst h1
      rw [valP_end] at h
      cases h
      simp
    by_cases h2 : c = 40 ∨ c = 0
    · rw [valP_bad h2] at h; cases h
    by_cases h3 : c = 42
    · subst h3
      rw [valP_star] at h
      obtain ⟨⟨q, R2⟩, h5, h6⟩ := Option.map_eq_some_iff.1 h
      cases h6
      obtain ⟨k1, k2, k3, k4, k5⟩ := valP_ok m R [] q R2 (by omega) h5
      refine ⟨by simp; omega, k2, by simp, by simp; omega, fun x hx => ?_⟩
      rcases List.mem_cons.1 hx with rfl | hx
      · omega
      · have := k5 x hx
        simp only [List.length_nil, List.length_cons] at this ⊢
        omega
    by_cases h4 : c = 92
    · subst h4
      match R with
      | [] => rw [valP_noesc (by intro a b R' x y h; cases h)] at h; cases h
      | [a] => rw [valP_noesc (by intro a b R' x y h; cases h)] at h; cases h
      | a :: b :: R2 =>
        cases ha : digB a with
        | none => rw [valP_noesc (by intro a' b' R' x y h hx hy; cases h; rw [ha] at hx; cases hx)] at h; cases h
        | some x =>
          cases hb : digB b with
          | none => rw [valP_noesc (by intro a' b' R' x y h hx hy; cases h; rw [hb] at hy; cases hy)] at h; cases h
          | some y =>
            rw [valP_esc ha hb] at h
            simp only [List.length_cons] at hm
            obtain ⟨k1, k2, k3, k4, k5⟩ := valP_ok m R2 _ p R' (by omega) h
            refine ⟨by simp; omega, k2, k3, by simp; omega, fun x hx => ?_⟩
            have := k5 x hx
            simp only [List.length_append, List.length_nil, List.length_cons] at this ⊢
            omega
    · rw [valP_plain h1 h2 h3 h4] at h
      obtain ⟨k1, k2, k3, k4, k5⟩ := valP_ok m R _ p R' (by omega) h
      refine ⟨by simp; omega, k2, k3, by simp; omega, fun x hx => ?_⟩
      have := k5 x hx
      simp only [List.length_append, List.length_nil, List.length_cons] at this ⊢
      omega
/-- What stands for a sign. -/
def sgnB (c : UInt8) : Bool := c == 61 || c == 62 || c == 60 || c == 126
/-- A sign; what is left. -/
def sgnP : List UInt8 → Option (UInt8 × List UInt8)
  | [] => none
  | c :: R => if c = 61 then some (c, R) else if (c = 126 ∨ c = 62 ∨ c = 60) ∧ R.head? = some 61 then some (c, R.tail) else none
/-- A type, a sign; what is left. -/
def typR (R : List UInt8) : Option (List UInt8 × UInt8 × List UInt8) :=
  if isTyp (R.takeWhile (! sgnB ·)) then (sgnP (R.dropWhile (! sgnB ·))).map fun x => (R.takeWhile (! sgnB ·), x.1, x.2) else none
/-- A type, a sign and pieces as a filter. -/
def mkItem (T : List UInt8) (c : UInt8) (p : List (List UInt8)) : Option Fi :=
  if c ≠ 61 ∧ 1 < p.length then none
  else if c = 62 then some (.mk 5 T (p.headD []) [] [])
  else if c = 60 then some (.mk 6 T (p.headD []) [] [])
  else if p = [[], []] then some (.mk 7 T [] [] [])
  else if 1 < p.length then some (.mk 4 T [] p [])
  else some (.mk 3 T (p.headD []) [] [])
def itemP (R : List UInt8) : Option (Fi × List UInt8) :=
  (typR R).bind fun x => (valP x.2.2 []).bind fun y => (mkItem x.1 x.2.1 y.1).map fun f => (f, y.2)

abbrev PR : Type := Except Nat (Fi × List UInt8)
/-- Filters, one behind the other. -/
def manyP (p : List UInt8 → PR) : Nat → Bool → List Fi → List UInt8 → Except Nat (List Fi × List UInt8)
  | 0, _, _, _ => .error 3
  | m + 1, b, K, R => if K = [] ∨ (b = true ∧ R.head? = some 40) then (match p R with | .error e => .error e | .ok (F, R') => manyP p m b (K ++ [F]) R') else .ok (K, R)
def kidsP (p : List UInt8 → PR) (kd : Int) (b : Bool) (R : List UInt8) : PR :=
  match manyP p (R.length + 1) b [] R with
  | .error e => .error e
  | .ok (K, R') => .ok (.mk kd [] [] [] K, R')
def innerP (p : List UInt8 → PR) (R : List UInt8) : PR :=
  if R.head? = some 38 then kidsP p 0 true R.tail
  else if R.head? = some 124 then kidsP p 1 true R.tail
  else if R.head? = some 33 then kidsP p 2 false R.tail
  else match itemP R with
    | none => .error 3
    | some x => .ok x
def closeP : PR → PR
  | .error e => .error e
  | .ok (F, R) => if R.head? = some 41 then .ok (F, R.tail) else .error 3
/-- A text as a filter: n more may be within one another. -/
def filP : Nat → List UInt8 → PR
  | 0, R => if R.head? = some 40 then .error 10 else .error 3
  | n + 1, R => if R.head? = some 40 then closeP (innerP (filP n) R.tail) else .error 3
def parseP (s : List UInt8) : Except Nat Fi :=
  match filP 16 s with
  | .error e => .error e
  | .ok (F, R) => if R = [] then (if isN 16 F = true then .ok F else .error 5) else .error 3
end Go.Proofs.Ytekocbphdckmkaa
