/- frame: records as bytes, and what bytes begin with. -/
import Derived.Test.YtckgnnopoekniaaDoorOctR
namespace Go.Proofs.YtckgnnopoekniaaDoor
open Go.RowKit
set_option maxRecDepth 100000

/-- A number in four bytes, the lowest first. -/
def four (n : Nat) : List UInt8 := [UInt8.ofNat n, UInt8.ofNat (n / 256), UInt8.ofNat (n / 65536), UInt8.ofNat (n / 16777216)]
def from4 (l : List UInt8) : Nat := (l.getD 0 0).toNat + 256 * (l.getD 1 0).toNat + 65536 * (l.getD 2 0).toNat + 16777216 * (l.getD 3 0).toNat
theorem u8_mod (n : Nat) : (UInt8.ofNat n).toNat = n % 256 := by simp
theorem from4_lt (l : List UInt8) : from4 l < 4294967296 := by
  have h0 := (l.getD 0 0).toNat_lt
  have h1 := (l.getD 1 0).toNat_lt
  have h2 := (l.getD 2 0).toNat_lt
  have h3 := (l.getD 3 0).toNat_lt
  unfold from4
  omega
theorem from4_four (n : Nat) (r : List UInt8) (h : n < 4294967296) : from4 (four n ++ r) = n := by
  simp only [from4, four, List.cons_append, List.getD_cons_zero, List.getD_cons_succ, u8_mod]
  omega
theorem four_len (n : Nat) : (four n).length = 4 := rfl
theorem from4_app {a : List UInt8} (b c : List UInt8) (h : 4 ≤ a.length) : from4 (a ++ b) = from4 (a ++ c) := by
  match a, h with
  | x0 :: x1 :: x2 :: x3 :: a, _ => simp [from4]
theorem from4_app0 {a : List UInt8} (b : List UInt8) (h : 4 ≤ a.length) : from4 (a ++ b) = from4 a := by
  rw [from4_app b [] h, List.append_nil]
theorem from4_inj {a b : List UInt8} (ha : a.length = 4) (hb : b.length = 4) (h : from4 a = from4 b) : a = b := by
  match a, ha, b, hb with
  | [x0, x1, x2, x3], _, [y0, y1, y2, y3], _ =>
    simp only [from4, List.getD_cons_zero, List.getD_cons_succ] at h
    have a0 := x0.toNat_lt
    have a1 := x1.toNat_lt
    have a2 := x2.toNat_lt
    have a3 := x3.toNat_lt
    have b0 := y0.toNat_lt
    have b1 := y1.toNat_lt
    have b2 := y2.toNat_lt
    have b3 := y3.toNat_lt
    have e0 : x0 = y0 := UInt8.toNat_inj.1 (by omega)
    have e1 : x1 = y1 := UInt8.toNat_inj.1 (by omega)
    have e2 : x2 = y2 := UInt8.toNat_inj.1 (by omega)
    have e3 : x3 = y3 := UInt8.toNat_inj.1 (by omega)
    rw [e0, e1, e2, e3]
theorem sumOf_lt (l : List UInt8) : sumOf l < 4294967296 := xor_lt32 (by omega) (crc_lt _ _ (by omega))

/-- The head of a record, and what it holds. -/
def fhead (n : Nat) : List UInt8 := four n ++ four (sumOf (four n))
def fbody (p : List UInt8) : List UInt8 := fhead p.length ++ p
/-- A record. -/
def frec (p : List UInt8) : List UInt8 := fbody p ++ four (sumOf (fbody p))
theorem fhead_len (n : Nat) : (fhead n).length = 8 := rfl
theorem fbody_len (p : List UInt8) : (fbody p).length = 8 + p.length := by rw [fbody, List.length_append, fhead_len]
theorem frec_len (p : List UInt8) : (frec p).length = 12 + p.length := by rw [frec, List.length_append, fbody_len, four_len]; omega

/-- What bytes begin with: what the record holds, how many bytes it takes; the error. -/
def dec (l : List UInt8) : List UInt8 × Nat × Nat :=
  if l.length < 8 then ([], 0, 2)
  else if from4 (l.drop 4) ≠ sumOf (l.take 4) then ([], 0, 4)
  else if 1048576 < from4 l then ([], 0, 5)
  else if l.length < 12 + from4 l then ([], 0, 2)
  else if from4 (l.drop (8 + from4 l)) ≠ sumOf (l.take (8 + from4 l)) then ([], 0, 4)
  else ((l.drop 8).take (from4 l), 12 + from4 l, 0)
theorem dec_ok {l : List UInt8} (h : (dec l).2.2 = 0) : 8 ≤ l.length ∧ from4 (l.drop 4) = sumOf (l.take 4) ∧ from4 l ≤ 1048576 ∧ 12 + from4 l ≤ l.length ∧ from4 (l.drop (8 + from4 l)) = sumOf (l.take (8 + from4 l)) ∧ dec l = ((l.drop 8).take (from4 l), 12 + from4 l, 0) := by
  unfold dec at h
  split at h
  · cases h
  · split at h
    · cases h
    · split at h
      · cases h
      · split at h
        · cases h
        · split at h
          · cases h
          · rename_i h1 h2 h3 h4 h5
            have h2' : from4 (l.drop 4) = sumOf (l.take 4) := Decidable.not_not.1 h2
            have h5' : from4 (l.drop (8 + from4 l)) = sumOf (l.take (8 + from4 l)) := Decidable.not_not.1 h5
            refine ⟨by omega, h2', by omega, by omega, h5', ?_⟩
            unfold dec
            rw [if_neg h1, if_neg h2, if_neg h3, if_neg h4, if_neg h5]
theorem dec_err {l : List UInt8} (h : (dec l).2.2 ≠ 0) : dec l = ([], 0, (dec l).2.2) := by
  unfold dec at h ⊢
  split
  · rfl
  · split
    · rfl
    · split
      · rfl
      · split
        · rfl
        · split
          · rfl
          · rename_i h1 h2 h3 h4 h5
            rw [if_neg h1, if_neg h2, if_neg h3, if_neg h4, if_neg h5] at h
            exact absurd rfl h
theorem dec_size {l : List UInt8} (h : (dec l).2.2 = 0) : 12 ≤ (dec l).2.1 ∧ (dec l).2.1 ≤ l.length := by
  obtain ⟨h1, _, _, h4, _, h6⟩ := dec_ok h
  rw [h6]
  exact ⟨by simp, h4⟩
theorem dec_iff {l : List UInt8} (h1 : 8 ≤ l.length) (h2 : from4 (l.drop 4) = sumOf (l.take 4)) (h3 : from4 l ≤ 1048576) (h4 : 12 + from4 l ≤ l.length) (h5 : from4 (l.drop (8 + from4 l)) = sumOf (l.take (8 + from4 l))) :
    dec l = ((l.drop 8).take (from4 l), 12 + from4 l, 0) := by
  unfold dec
  rw [if_neg (by omega), if_neg (fun h => h h2), if_neg (by omega), if_neg (by omega), if_neg (fun h => h h5)]

theorem frec_parts (p more : List UInt8) : frec p ++ more = four p.length ++ (four (sumOf (four p.length)) ++ (p ++ (four (sumOf (fbody p)) ++ more))) := by simp [frec, fbody, fhead]
theorem frec_parts2 (p more : List UInt8) : frec p ++ more = fhead p.length ++ (p ++ (four (sumOf (fbody p)) ++ more)) := by simp [frec, fbody]
theorem frec_parts3 (p more : List UInt8) : frec p ++ more = fbody p ++ (four (sumOf (fbody p)) ++ more) := by simp [frec]
theorem drop_app {α : Type} {a b : List α} {n : Nat} (h : a.length = n) : (a ++ b).drop n = b := by subst h; simp
theorem take_app {α : Type} {a b : List α} {n : Nat} (h : a.length = n) : (a ++ b).take n = a := by subst h; simp
theorem dec_frec (p more : List UInt8) (h : p.length ≤ 1048576) : dec (frec p ++ more) = (p, 12 + p.length, 0) := by
  have e1 : from4 (frec p ++ more) = p.length := by rw [frec_parts, from4_four _ _ (by omega)]
  have e2 : from4 ((frec p ++ more).drop 4) = sumOf (four p.length) := by rw [frec_parts, drop_app (four_len _), from4_four _ _ (sumOf_lt _)]
  have e3 : (frec p ++ more).take 4 = four p.length := by rw [frec_parts, take_app (four_len _)]
  have e4 : (frec p ++ more).drop (8 + p.length) = four (sumOf (fbody p)) ++ more := by rw [frec_parts3, drop_app (fbody_len _)]
  have e5 : (frec p ++ more).take (8 + p.length) = fbody p := by rw [frec_parts3, take_app (fbody_len _)]
  have e6 : ((frec p ++ more).drop 8).take p.length = p := by rw [frec_parts2, drop_app (fhead_len _), take_app rfl]
  have hl : (frec p ++ more).length = 12 + p.length + more.length := by rw [List.length_append, frec_len]
  rw [dec_iff (by omega) (by rw [e2, e3]) (by omega) (by omega) (by rw [e1, e4, e5, from4_four _ _ (sumOf_lt _)]), e1, e6]
theorem dec_cut (p more : List UInt8) (c : Nat) (hc : c < (frec p).length) (h : p.length ≤ 1048576) : (dec ((frec p ++ more).take c)).2.2 ≠ 0 := by
  intro hd
  obtain ⟨h1, h2, h3, h4, h5, h6⟩ := dec_ok hd
  rw [List.take_append_of_le_length (by omega)] at h1 h4
  rw [frec_len] at hc
  have hl : ((frec p).take c).length = c := by rw [List.length_take, frec_len]; omega
  rw [hl] at h1 h4
  have e : from4 ((frec p).take c) = p.length := by
    rw [← from4_app0 ((frec p).drop c) (by omega), List.take_append_drop, ← List.append_nil (frec p), frec_parts, from4_four _ _ (by omega)]
  omega
theorem sumOf_set' (l : List UInt8) (i : Nat) (c : UInt8) (hi : i < l.length) (hc : l[i]? ≠ some c) : sumOf (l.set i c) ≠ sumOf l :=
  sumOf_set l i c hi (fun e => hc (by rw [List.getElem?_eq_getElem hi, e]))
theorem four_set (s j : Nat) (b : UInt8) (hj : j < 4) (hs : s < 4294967296) (hb : (four s)[j]? ≠ some b) : from4 ((four s).set j b) ≠ s := by
  intro h
  have e : (four s).set j b = four s := from4_inj (by simp [four_len]) (four_len _) (by rw [h]; have := from4_four s [] hs; rw [List.append_nil] at this; exact this.symm)
  apply hb
  rw [← e, List.getElem?_set_self (by rw [four_len]; exact hj)]
theorem dec_flip (p more : List UInt8) (i : Nat) (b : UInt8) (hi : i < (frec p).length) (hb : (frec p)[i]? ≠ some b) (h : p.length ≤ 1048576) : (dec ((frec p).set i b ++ more)).2.2 ≠ 0 := by
  intro hd
  obtain ⟨_, h2, h3, h4, h5, h6⟩ := dec_ok hd
  clear hd h6 h3 h4
  rw [frec_len] at hi
  have q0 := frec_parts p []
  have q3 := frec_parts3 p []
  rw [List.append_nil, List.append_nil] at q0 q3
  by_cases c1 : i < 4
  · rw [q0, List.getElem?_append_left (by rw [four_len]; exact c1)] at hb
    rw [q0, List.set_append, if_pos (by rw [four_len]; exact c1), List.append_assoc, drop_app (by simp [four_len]), take_app (by simp [four_len]), List.append_assoc, from4_four _ _ (sumOf_lt _)] at h2
    exact sumOf_set' _ i b (by rw [four_len]; exact c1) hb h2.symm
  by_cases c2 : i < 8
  · rw [q0, List.getElem?_append_right (by rw [four_len]; omega), four_len, List.getElem?_append_left (by rw [four_len]; omega)] at hb
    rw [q0, List.set_append, if_neg (by rw [four_len]; omega), List.set_append, four_len, if_pos (by rw [four_len]; omega), List.append_assoc, drop_app (four_len _), take_app (four_len _), List.append_assoc, from4_app0 _ (by simp [four_len])] at h2
    exact four_set _ _ b (by omega) (sumOf_lt _) hb h2
  have e1 : from4 ((frec p).set i b ++ more) = p.length := by
    rw [q0, List.set_append, if_neg (by rw [four_len]; omega), List.append_assoc, from4_four _ _ (by omega)]
  rw [e1] at h5
  by_cases c3 : i < 8 + p.length
  · rw [q3, List.getElem?_append_left (by rw [fbody_len]; exact c3)] at hb
    rw [q3, List.set_append, if_pos (by rw [fbody_len]; exact c3), List.append_assoc, drop_app (by rw [List.length_set, fbody_len]), take_app (by rw [List.length_set, fbody_len]), from4_four _ _ (sumOf_lt _)] at h5
    exact sumOf_set' _ i b (by rw [fbody_len]; exact c3) hb h5.symm
  · rw [q3, List.getElem?_append_right (by rw [fbody_len]; omega), fbody_len] at hb
    rw [q3, List.set_append, if_neg (by rw [fbody_len]; omega), fbody_len, List.append_assoc, drop_app (fbody_len _), take_app (fbody_len _), from4_app0 _ (by simp [four_len])] at h5
    exact four_set _ _ b (by omega) (sumOf_lt _) hb h5

/-- All records from the beginning on, and how many bytes they take. -/
def scan (l : List UInt8) : List (List UInt8) × Nat :=
  if h : (dec l).2.2 = 0 then ((dec l).1 :: (scan (l.drop (dec l).2.1)).1, (dec l).2.1 + (scan (l.drop (dec l).2.1)).2) else ([], 0)
termination_by l.length
decreasing_by all_goals (have := dec_size h; simp only [List.length_drop]; omega)
theorem scan_ok {l : List UInt8} (h : (dec l).2.2 = 0) : scan l = ((dec l).1 :: (scan (l.drop (dec l).2.1)).1, (dec l).2.1 + (scan (l.drop (dec l).2.1)).2) := by rw [scan, dif_pos h]
theorem scan_no {l : List UInt8} (h : (dec l).2.2 ≠ 0) : scan l = ([], 0) := by rw [scan, dif_neg h]
theorem dec_nil : (dec []).2.2 ≠ 0 := by simp [dec]
theorem scan_frec (p more : List UInt8) (h : p.length ≤ 1048576) : scan (frec p ++ more) = (p :: (scan more).1, (frec p).length + (scan more).2) := by
  have e := dec_frec p more h
  rw [scan_ok (by rw [e]), e]
  simp only
  rw [drop_app (by rw [frec_len]), frec_len]
/-- Records one behind the other. -/
def frecs (L : List (List UInt8)) : List UInt8 := L.flatMap frec
theorem frecs_snoc (L : List (List UInt8)) (k : Nat) (h : k < L.length) : frecs (L.take (k + 1)) = frecs (L.take k) ++ frec L[k] := by
  unfold frecs
  rw [List.take_add_one, List.getElem?_eq_getElem h, List.flatMap_append]; simp
theorem frecs_cons (p : List UInt8) (L : List (List UInt8)) : frecs (p :: L) = frec p ++ frecs L := by simp [frecs]
theorem frecs_take (L : List (List UInt8)) (k : Nat) : (frecs (L.take k)).length ≤ (frecs L).length := by
  unfold frecs
  conv => rhs; rw [← List.take_append_drop k L]
  rw [List.flatMap_append, List.length_append]; omega
theorem scan_frecs (L : List (List UInt8)) (more : List UInt8) (h : ∀ p ∈ L, p.length ≤ 1048576) : scan (frecs L ++ more) = (L ++ (scan more).1, (frecs L).length + (scan more).2) := by
  induction L with
  | nil => simp [frecs]
  | cons p L ih =>
    rw [frecs_cons, List.append_assoc, scan_frec _ _ (h p (by simp)), ih (fun q hq => h q (by simp [hq])), List.length_append]
    simp [Nat.add_assoc]
theorem scan_all (L : List (List UInt8)) (h : ∀ p ∈ L, p.length ≤ 1048576) : scan (frecs L) = (L, (frecs L).length) := by
  have := scan_frecs L [] h
  rw [scan_no dec_nil] at this
  simpa using this
theorem scan_cut (L : List (List UInt8)) : ∀ (k n : Nat), n ≤ L.length → (∀ p ∈ L, p.length ≤ 1048576) → (frecs (L.take n)).length ≤ k → (n < L.length → k < (frecs (L.take (n + 1))).length) → k ≤ (frecs L).length →
    scan ((frecs L).take k) = (L.take n, (frecs (L.take n)).length) := by
  induction L with
  | nil =>
    intro k n hn _ _ _ hk
    have : (frecs ([] : List (List UInt8))).take k = [] := by simp [frecs]
    rw [this, scan_no dec_nil]
    simp [frecs]
  | cons p L ih =>
    intro k n hn hp h1 h2 hk
    rw [frecs_cons] at hk ⊢
    cases n with
    | zero =>
      have := h2 (by simp)
      simp only [Nat.zero_add, List.take_succ_cons, List.take_zero] at this
      rw [frecs_cons] at this
      have h3 : k < (frec p).length := by simpa [frecs] using this
      rw [scan_no (dec_cut p _ k h3 (hp p (by simp)))]
      simp [frecs]
    | succ n =>
      rw [List.take_succ_cons, frecs_cons, List.length_append] at h1
      rw [List.length_append] at hk
      have e : (frec p ++ frecs L).take k = frec p ++ (frecs L).take (k - (frec p).length) := by
        rw [List.take_append, List.take_of_length_le (by omega)]
      rw [e, scan_frec _ _ (hp p (by simp)), ih (k - (frec p).length) n (by simpa using hn) (fun q hq => hp q (by simp [hq])) (by omega) ?_ (by omega)]
      · rw [List.take_succ_cons, frecs_cons, List.length_append]
      · intro hlt
        have := h2 (by simpa using hlt)
        rw [List.take_succ_cons, frecs_cons, List.length_append] at this
        omega
end Go.Proofs.YtckgnnopoekniaaDoor
