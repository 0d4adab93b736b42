/- frame: records as bytes, and what bytes begin with. -/
import Derived.Test.YtblfhonfjljndaaDoorOctR
import Derived.Deep.QuietTactic
import Derived.BigQuiet
import Derived.Deep.RegionHeld3
import Derived.Deep.DeepCutAuto
namespace Go.Proofs.YtblfhonfjljndaaDoor
open Go.RowKit
set_option maxRecDepth 100000

/-- A number in four bytes, the lowest first. -/
def four (n : Nat) : List UInt8 := [UInt8.ofNat n, UInt8.ofNat (n / 256), UInt8.ofNat (n / 65536), UInt8.ofNat (n / 16777216)]
def from4 (l : List UInt8) : Nat := (l.getD 0 0).toNat + 256 * (l.getD 1 0).toNat + 65536 * (l.getD 2 0).toNat + 16777216 * (l.getD 3 0).toNat
theorem u8_mod (n : Nat) : (UInt8.ofNat n).toNat = n % 256 := by simp
theorem from4_lt (l : List UInt8) : from4 l < 4294967296 := by
  have h0 := (l.getD 0 0).toNat_lt
  have h1 := (l.getD 1 0).toNat_lt
  have h2 := (l.getD 2 0).toNat_lt
  have h3 := (l.getD 3 0).toNat_lt
  unfold from4
  omega
theorem from4_four (n : Nat) (r : List UInt8) (h : n < 4294967296) : from4 (four n ++ r) = n := by
  simp only [from4, four, List.cons_append, List.getD_cons_zero, List.getD_cons_succ, u8_mod]
  omega
theorem four_len (n : Nat) : (four n).length = 4 := rfl
theorem from4_app {a : List UInt8} (b c : List UInt8) (h : 4 ≤ a.length) : from4 (a ++ b) = from4 (a ++ c) := by
  match a, h with
  | x0 :: x1 :: x2 :: x3 :: a, _ => simp [from4]
theorem from4_app0 {a : List UInt8} (b : List UInt8) (h : 4 ≤ a.length) : from4 (a ++ b) = from4 a := by
  rw [from4_app b [] h, List.append_nil]
theorem from4_inj {a b : List UInt8} (ha : a.length = 4) (hb : b.length = 4) (h : from4 a = from4 b) : a = b := by
  match a, ha, b, hb with
  | [x0, x1, x2, x3], _, [y0, y1, y2, y3], _ =>
    simp only [from4, List.getD_cons_zero, List.getD_cons_succ] at h
    have a0 := x0.toNat_lt
    have a1 := x1.toNat_lt
    have a2 := x2.toNat_lt
    have a3 := x3.toNat_lt
    have b0 := y0.toNat_lt
    have b1 := y1.toNat_lt
    have b2 := y2.toNat_lt
    have b3 := y3.toNat_lt
    have e0 : x0 = y0 := UInt8.toNat_inj.1 (by omega)
    have e1 : x1 = y1 := UInt8.toNat_inj.1 (by omega)
    have e2 : x2 = y2 := UInt8.toNat_inj.1 (by omega)
    have e3 : x3 = y3 := UInt8.toNat_inj.1 (by omega)
    rw [e0, e1, e2, e3]
theorem sumOf_lt (l : List UInt8) : sumOf l < 4294967296 := xor_lt32 (by omega) (crc_lt _ _ (by omega))

/-- The head of a record, and what it holds. -/
def fhead (n : Nat) : List UInt8 := four n ++ four (sumOf (four n))
def fbody (p : List UInt8) : List UInt8 := fhead p.length ++ p
/-- A record. -/
def frec (p : List UInt8) : List UInt8 := fbody p ++ four (sumOf (fbody p))
theorem fhead_len (n : Nat) : (fhead n).length = 8 := rfl
theorem fbody_len (p : List UInt8) : (fbody p).length = 8 + p.length := by rw [fbody, List.length_append, fhead_len]
theorem frec_len (p : List UInt8) : (frec p).length = 12 + p.length := by rw [frec, List.length_append, fbody_len, four_len]; omega

/-- What bytes begin with: what the record holds, how many bytes it takes; the error. -/
def dec (l : List UInt8) : List UInt8 × Nat × Nat :=
  if l.length < 8 then ([], 0, 2)
  else if from4 (l.drop 4) ≠ sumOf (l.take 4) then ([], 0, 4)
  else if 1048576 < from4 l then ([], 0, 5)
  else if l.length < 12 + from4 l then ([], 0, 2)
  else if from4 (l.drop (8 + from4 l)) ≠ sumOf (l.take (8 + from4 l)) then ([], 0, 4)
  else ((l.drop 8).take (from4 l), 12 + from4 l, 0)
theorem dec_ok {l : List UInt8} (h : (dec l).2.2 = 0) : 8 ≤ l.length ∧ from4 (l.drop 4) = sumOf (l.take 4) ∧ from4 l ≤ 1048576 ∧ 12 + from4 l ≤ l.length ∧ from4 (l.drop (8 + from4 l)) = sumOf (l.take (8 + from4 l)) ∧ dec l = ((l.drop 8).take (from4 l), 12 + from4 l, 0) := by
  unfold dec at h
  split at h
  · cases h
  · split at h
    · cases h
    · split at h
      · cases h
      · split at h
        · cases h
        · split at h
          · cases h
          · rename_i h1 h2 h3 h4 h5
            have h2' : from4 (l.drop 4) = sumOf (l.take 4) := Decidable.not_not.1 h2
            have h5' : from4 (l.drop (8 + from4 l)) = sumOf (l.take (8 + from4 l)) := Decidable.not_not.1 h5
            refine ⟨by omega, h2', by omega, by omega, h5', ?_⟩
            unfold dec
            rw [if_neg h1, if_neg h2, if_neg h3, if_neg h4, if_neg h5]
theorem dec_err {l : List UInt8} (h : (dec l).2.2 ≠ 0) : dec l = ([], 0, (dec l).2.2) := by
  unfold dec at h ⊢
  split
  · rfl
  · split
    · rfl
    · split
      · rfl
      · split
        · rfl
        · split
          · rfl
          · rename_i h1 h2 h3 h4 h5
            rw [if_neg h1, if_neg h2, if_neg h3, if_neg h4, if_neg h5] at h
            exact absurd rfl h
theorem dec_size {l : List UInt8} (h : (dec l).2.2 = 0) : 12 ≤ (dec l).2.1 ∧ (dec l).2.1 ≤ l.length := by
  obtain ⟨h1, _, _, h4, _, h6⟩ := dec_ok h
  rw [h6]
  exact ⟨by simp, h4⟩
theorem dec_iff {l : List UInt8} (h1 : 8 ≤ l.length) (h2 : from4 (l.drop 4) = sumOf (l.take 4)) (h3 : from4 l ≤ 1048576) (h4 : 12 + from4 l ≤ l.length) (h5 : from4 (l.drop (8 + from4 l)) = sumOf (l.take (8 + from4 l))) :
    dec l = ((l.drop 8).take (from4 l), 12 + from4 l, 0) := by
  unfold dec
  rw [if_neg (by omega), if_neg (fun h => h h2), if_neg (by omega), if_neg (by omega), if_neg (fun h => h h5)]

theorem frec_parts (p more : List UInt8) : frec p ++ more = four p.length ++ (four (sumOf (four p.length)) ++ (p ++ (four (sumOf (fbody p)) ++ more))) := by simp [frec, fbody, fhead]
theorem frec_parts2 (p more : List UInt8) : frec p ++ more = fhead p.length ++ (p ++ (four (sumOf (fbody p)) ++ more)) := by simp [frec, fbody]
theorem frec_parts3 (p more : List UInt8) : frec p ++ more = fbody p ++ (four (sumOf (fbody p)) ++ more) := by simp [frec]
theorem drop_app {α : Type} {a b : List α} {n : Nat} (h : a.length = n) : (a ++ b).drop n = b := by subst h; simp
theorem take_app {α : Type} {a b : List α} {n : Nat} (h : a.length = n) : (a ++ b).take n = a := by subst h; simp
theorem dec_frec (p more : List UInt8) (h : p.length ≤ 1048576) : dec (frec p ++ more) = (p, 12 + p.length, 0) := by
  have e1 : from4 (frec p ++ more) = p.length := by rw [frec_parts, from4_four _ _ (by omega)]
  have e2 : from4 ((frec p ++ more).drop 4) = sumOf (four p.length) := by rw [frec_parts, drop_app (four_len _), from4_four _ _ (sumOf_lt _)]
  have e3 : (frec p ++ more).take 4 = four p.length := by rw [frec_parts, take_app (four_len _)]
  have e4 : (frec p ++ more).drop (8 + p.length) = four (sumOf (fbody p)) ++ more := by rw [frec_parts3, drop_app (fbody_len _)]
  have e5 : (frec p ++ more).take (8 + p.length) = fbody p := by rw [frec_parts3, take_app (fbody_len _)]
  have e6 : ((frec p ++ more).drop 8).take p.length = p := by rw [frec_parts2, drop_app (fhead_len _), take_app rfl]
  have hl : (frec p ++ more).length = 12 + p.length + more.length := by rw [List.length_append, frec_len]
  rw [dec_iff (by omega) (by rw [e2, e3]) (by omega) (by omega) (by rw [e1, e4, e5, from4_four _ _ (sumOf_lt _)]), e1, e6]
theorem dec_cut (p more : List UInt8) (c : Nat) (hc : c < (frec p).length) (h : p.length ≤ 1048576) : (dec ((frec p ++ more).take c)).2.2 ≠ 0 := by
  intro hd
  obtain ⟨h1, h2, h3, h4, h5, h6⟩ := dec_ok hd
  rw [List.take_append_of_le_length (by omega)] at h1 h4
  rw [frec_len] at hc
  have hl : ((frec p).take c).length = c := by rw [List.length_take, frec_len]; omega
  rw [hl] at h1 h4
  have e : from4 ((frec p).take c) = p.length := by
    rw [← from4_app0 ((frec p).drop c) (by omega), List.take_append_drop, ← List.append_nil (frec p), frec_parts, from4_four _ _ (by omega)]
  omega
theorem sumOf_set' (l : List UInt8) (i : Nat) (c : UInt8) (hi : i < l.length) (hc : l[i]? ≠ some c) : sumOf (l.set i c) ≠ sumOf l :=
  sumOf_set l i c hi (fun e => hc (by rw [List.getElem?_eq_getElem hi, e]))
theorem four_set (s j : Nat) (b : UInt8) (hj : j < 4) (hs : s < 4294967296) (hb : (four s)[j]? ≠ some b) : from4 ((four s).set j b) ≠ s := by
  intro h
  have e : (four s).set j b = four s := from4_inj (by simp [four_len]) (four_len _) (by rw [h]; have := from4_four s [] hs; rw [List.append_nil] at this; exact this.symm)
  apply hb
  rw [← e, List.getElem?_set_self (by rw [four_len]; exact hj)]
theorem dec_flip (p more : List UInt8) (i : Nat) (b : UInt8) (hi : i < (frec p).length) (hb : (frec p)[i]? ≠ some b) (h : p.length ≤ 1048576) : (dec ((frec p).set i b ++ more)).2.2 ≠ 0 := by
  intro hd
  obtain ⟨_, h2, h3, h4, h5, h6⟩ := dec_ok hd
  clear hd h6 h3 h4
  rw [frec_len] at hi
  have q0 := frec_parts p []
  have q3 := frec_parts3 p []
  rw [List.append_nil, List.append_nil] at q0 q3
  by_cases c1 : i < 4
  · rw [q0, List.getElem?_append_left (by rw [four_len]; exact c1)] at hb
    rw [q0, List.set_append, if_pos (by rw [four_len]; exact c1), List.append_assoc, drop_app (by simp [four_len]), take_app (by simp [four_len]), List.append_assoc, from4_four _ _ (sumOf_lt _)] at h2
    exact sumOf_set' _ i b (by rw [four_len]; exact c1) hb h2.symm
  by_cases c2 : i < 8
  · rw [q0, List.getElem?_append_right (by rw [four_len]; omega), four_len, List.getElem?_append_left (by rw [four_len]; omega)] at hb
    rw [q0, List.set_append, if_neg (by rw [four_len]; omega), List.set_append, four_len, if_pos (by rw [four_len]; omega), List.append_assoc, drop_app (four_len _), take_app (four_len _), List.append_assoc, from4_app0 _ (by simp [four_len])] at h2
    exact four_set _ _ b (by omega) (sumOf_lt _) hb h2
  have e1 : from4 ((frec p).set i b ++ more) = p.length := by
    rw [q0, List.set_append, if_neg (by rw [four_len]; omega), List.append_assoc, from4_four _ _ (by omega)]
  rw [e1] at h5
  by_cases c3 : i < 8 + p.length
  · rw [q3, List.getElem?_append_left (by rw [fbody_len]; exact c3)] at hb
    rw [q3, List.set_append, if_pos (by rw [fbody_len]; exact c3), List.append_assoc, drop_app (by rw [List.length_set, fbody_len]), take_app (by rw [List.length_set, fbody_len]), from4_four _ _ (sumOf_lt _)] at h5
    exact sumOf_set' _ i b (by rw [fbody_len]; exact c3) hb h5.symm
  · rw [q3, List.getElem?_append_right (by rw [fbody_len]; omega), fbody_len] at hb
    rw [q3, List.set_append, if_neg (by rw [fbody_len]; omega), fbody_len, List.append_assoc, drop_app (fbody_len _), take_app (fbody_len _), from4_app0 _ (by simp [four_len])] at h5
    exact four_set _ _ b (by omega) (sumOf_lt _) hb h5

/-- All records from the beginning on, and how many bytes they take. -/
def scan (l : List UInt8) : List (List UInt8) × Nat :=
  if h : (dec l).2.2 = 0 then ((dec l).1 :: (scan (l.drop (dec l).2.1)).1, (dec l).2.1 + (scan (l.drop (dec l).2.1)).2) else ([], 0)
termination_by l.length
decreasing_by all_goals (have := dec_size h; simp only [List.length_drop]; omega)
theorem scan_ok {l : List UInt8} (h : (dec l).2.2 = 0) : scan l = ((dec l).1 :: (scan (l.drop (dec l).2.1)).1, (dec l).2.1 + (scan (l.drop (dec l).2.1)).2) := by rw [scan, dif_pos h]
theorem scan_no {l : List UInt8} (h : (dec l).2.2 ≠ 0) : scan l = ([], 0) := by rw [scan, dif_neg h]
theorem dec_nil : (dec []).2.2 ≠ 0 := by simp [dec]
theorem scan_frec (p more : List UInt8) (h : p.length ≤ 1048576) : scan (frec p ++ more) = (p :: (scan more).1, (frec p).length + (scan more).2) := by
  have e := dec_frec p more h
  rw [scan_ok (by rw [e]), e]
  simp only
  rw [drop_app (by rw [frec_len]), frec_len]
/-- Records oneR behind the other. -/
def frecs (L : List (List UInt8)) : List UInt8 := L.flatMap frec
theorem frecs_snoc (L : List (List UInt8)) (k : Nat) (h : k < L.length) : frecs (L.take (k + 1)) = frecs (L.take k) ++ frec L[k] := by
  unfold frecs
  rw [List.take_add_one, List.getElem?_eq_getElem h, List.flatMap_append]; simp
theorem frecs_cons (p : List UInt8) (L : List (List UInt8)) : frecs (p :: L) = frec p ++ frecs L := by simp [frecs]
theorem frecs_take (L : List (List UInt8)) (k : Nat) : (frecs (L.take k)).length ≤ (frecs L).length := by
  unfold frecs
  conv => rhs; rw [← List.take_append_drop k L]
  rw [List.flatMap_append, List.length_append]; omega
theorem scan_frecs (L : List (List UInt8)) (more : List UInt8) (h : ∀ p ∈ L, p.length ≤ 1048576) : scan (frecs L ++ more) = (L ++ (scan more).1, (frecs L).length + (scan more).2) := by
  induction L with
  | nil => simp [frecs]
  | cons p L ih =>
    rw [frecs_cons, List.append_assoc, scan_frec _ _ (h p (by simp)), ih (fun q hq => h q (by simp [hq])), List.length_append]
    simp [Nat.add_assoc]
theorem scan_all (L : List (List UInt8)) (h : ∀ p ∈ L, p.length ≤ 1048576) : scan (frecs L) = (L, (frecs L).length) := by
  have := scan_frecs L [] h
  rw [scan_no dec_nil] at this
  simpa using this
theorem scan_cut (L : List (List UInt8)) : ∀ (k n : Nat), n ≤ L.length → (∀ p ∈ L, p.length ≤ 1048576) → (frecs (L.take n)).length ≤ k → (n < L.length → k < (frecs (L.take (n + 1))).length) → k ≤ (frecs L).length →
    scan ((frecs L).take k) = (L.take n, (frecs (L.take n)).length) := by
  induction L with
  | nil =>
    intro k n hn _ _ _ hk
    have : (frecs ([] : List (List UInt8))).take k = [] := by simp [frecs]
    rw [this, scan_no dec_nil]
    simp [frecs]
  | cons p L ih =>
    intro k n hn hp h1 h2 hk
    rw [frecs_cons] at hk ⊢
    cases n with
    | zero =>
      have := h2 (by simp)
      simp only [Nat.zero_add, List.take_succ_cons, List.take_zero] at this
      rw [frecs_cons] at this
      have h3 : k < (frec p).length := by simpa [frecs] using this
      rw [scan_no (dec_cut p _ k h3 (hp p (by simp)))]
      simp [frecs]
    | succ n =>
      rw [List.take_succ_cons, frecs_cons, List.length_append] at h1
      rw [List.length_append] at hk
      have e : (frec p ++ frecs L).take k = frec p ++ (frecs L).take (k - (frec p).length) := by
        rw [List.take_append, List.take_of_length_le (by omega)]
      rw [e, scan_frec _ _ (hp p (by simp)), ih (k - (frec p).length) n (by simpa using hn) (fun q hq => hp q (by simp [hq])) (by omega) ?_ (by omega)]
      · rw [List.take_succ_cons, frecs_cons, List.length_append]
      · intro hlt
        have := h2 (by simpa using hlt)
        rw [List.take_succ_cons, frecs_cons, List.length_append] at this
        omega
end Go.Proofs.YtblfhonfjljndaaDoor
namespace Go.Proofs.YtblfhonfjljndaaDoor
open Go.RowKit
set_option maxRecDepth 100000

theorem cells4 {w : World} {S : Nat → Prop} {A : Option Addr} {l : List UInt8} (h : Cells w S A (l.map bv)) (hl : 4 ≤ l.length) :
    ∃ (ad : Addr) (x0 x1 x2 x3 : Nat), A = some ad ∧ x0 < 256 ∧ x1 < 256 ∧ x2 < 256 ∧ x3 < 256 ∧ from4 l = x0 + 256 * x1 + 65536 * x2 + 16777216 * x3 ∧
      w.cell? ad = some (.int .u8 x0) ∧ w.cell? ⟨ad.block, ad.off + 1, none⟩ = some (.int .u8 x1) ∧ w.cell? ⟨ad.block, ad.off + 2, none⟩ = some (.int .u8 x2) ∧ w.cell? ⟨ad.block, ad.off + 3, none⟩ = some (.int .u8 x3) := by
  match l, hl with
  | b0 :: b1 :: b2 :: b3 :: l, _ =>
    obtain ⟨ad, rfl, _, c0⟩ := h.at_ (show 0 < (b0 :: b1 :: b2 :: b3 :: l).length by simp)
    obtain ⟨_, e, _, c1⟩ := h.at_ (show 1 < (b0 :: b1 :: b2 :: b3 :: l).length by simp)
    cases e
    obtain ⟨_, e, _, c2⟩ := h.at_ (show 2 < (b0 :: b1 :: b2 :: b3 :: l).length by simp)
    cases e
    obtain ⟨_, e, _, c3⟩ := h.at_ (show 3 < (b0 :: b1 :: b2 :: b3 :: l).length by simp)
    cases e
    refine ⟨ad, b0.toNat, b1.toNat, b2.toNat, b3.toNat, rfl, b0.toNat_lt, b1.toNat_lt, b2.toNat_lt, b3.toNat_lt, rfl, c0, ?_, ?_, ?_⟩
    · exact c1
    · exact c2
    · exact c3
theorem or_up (i a b : Nat) (ha : a < 2 ^ i) (hb : b < 256) (hi : i ≤ 24) : bits .or .u32 (a : Int) ((b * 2 ^ i : Nat) : Int) = ((a + b * 2 ^ i : Nat) : Int) := by
  have h1 : 2 ^ i ≤ 2 ^ 24 := Nat.pow_le_pow_right (by omega) hi
  have h2 : b * 2 ^ i ≤ 255 * 2 ^ 24 := Nat.mul_le_mul (by omega) h1
  rw [u32_or_nat _ _ (by omega) (by omega)]
  congr 1
  rw [Nat.or_comm, ← Nat.shiftLeft_eq, ← Nat.shiftLeft_add_eq_or_of_lt ha, Nat.add_comm]
theorem or4 (x0 x1 x2 x3 : Nat) (h0 : x0 < 256) (h1 : x1 < 256) (h2 : x2 < 256) (h3 : x3 < 256) :
    bits .or .u32 (bits .or .u32 (bits .or .u32 (x0 : Int) ((x1 : Int) * 256)) ((x2 : Int) * 65536)) ((x3 : Int) * 16777216) = ((x0 + 256 * x1 + 65536 * x2 + 16777216 * x3 : Nat) : Int) := by
  have p8 : (2 ^ 8 : Nat) = 256 := rfl
  have p16 : (2 ^ 16 : Nat) = 65536 := rfl
  have p24 : (2 ^ 24 : Nat) = 16777216 := rfl
  have e1 := or_up 8 x0 x1 (by omega) h1 (by omega)
  have e2 := or_up 16 (x0 + x1 * 2 ^ 8) x2 (by omega) h2 (by omega)
  have e3 := or_up 24 (x0 + x1 * 2 ^ 8 + x2 * 2 ^ 16) x3 (by omega) h3 (by omega)
  rw [p8] at e1 e2 e3
  rw [p16] at e2 e3
  rw [p24] at e3
  rw [Int.natCast_mul] at e1 e2 e3
  rw [show (x1 : Int) * 256 = (x1 : Int) * ((256 : Nat) : Int) from rfl, e1, show (x2 : Int) * 65536 = (x2 : Int) * ((65536 : Nat) : Int) from rfl, e2, show (x3 : Int) * 16777216 = (x3 : Int) * ((16777216 : Nat) : Int) from rfl, e3]
  congr 1
  omega

set_option maxHeartbeats 1000000 in
theorem take_any {w : World} {S : Nat → Prop} {v : Value} {l : List UInt8} (h : Bs w S v l) (hl : 4 ≤ l.length) :
    Calls Tryd.prog 68 #[v] w fun e w' => e = .returned (.int .u32 (from4 l : Nat)) ∧ ∃ n, w' = w.drewN n := by
  obtain ⟨A, c, rfl, h1, h2, h3, h4⟩ := h.open_
  obtain ⟨ad, x0, x1, x2, x3, rfl, y0, y1, y2, y3, hv, c0, c1, c2, c3⟩ := cells4 h4 hl
  rw [hv]
  have b0 : (0 : Int) < (l.length : Int) := by omega
  have b1 : (1 : Int) < (l.length : Int) := by omega
  have b2 : (2 : Int) < (l.length : Int) := by omega
  have b3 : (3 : Int) < (l.length : Int) := by omega
  clear hv h3 h4 h1 h2 h
  go_enter Tryd.func68, Tryd.ntmps68
  go_wp2_with fail
  go_quiet (fail)
  go_wp2_with fail
  go_ret
  exact ⟨by rw [← or4 x0 x1 x2 x3 y0 y1 y2 y3]; rfl, _, rfl⟩
set_option maxHeartbeats 1000000 in
theorem from_any {w : World} {S : Nat → Prop} {v : Value} {l : List UInt8} (h : Bs w S v l) (hl : 4 ≤ l.length) :
    Calls Tryd.prog 69 #[v] w fun e w' => e = .returned (.int .u32 (from4 l : Nat)) ∧ ∃ n, w' = w.drewN n := by
  obtain ⟨A, c, rfl, h1, h2, h3, h4⟩ := h.open_
  obtain ⟨ad, x0, x1, x2, x3, rfl, y0, y1, y2, y3, hv, c0, c1, c2, c3⟩ := cells4 h4 hl
  rw [hv]
  have b0 : (0 : Int) < (l.length : Int) := by omega
  have b1 : (1 : Int) < (l.length : Int) := by omega
  have b2 : (2 : Int) < (l.length : Int) := by omega
  have b3 : (3 : Int) < (l.length : Int) := by omega
  clear hv h3 h4 h1 h2 h
  go_enter Tryd.func69, Tryd.ntmps69
  go_wp2_with fail
  go_quiet (fail)
  go_wp2_with fail
  go_ret
  exact ⟨by rw [← or4 x0 x1 x2 x3 y0 y1 y2 y3]; rfl, _, rfl⟩

theorem four_map (n : Nat) (hn : n < 4294967296) : (four n).map bv = [.int .u8 ((n : Int) % 256), .int .u8 ((n : Int) / 256 % 256), .int .u8 ((n : Int) / 65536 % 256), .int .u8 ((n : Int) / 16777216)] := by
  have : n / 16777216 % 256 = n / 16777216 := by omega
  simp only [four, List.map_cons, List.map_nil, bv, u8_mod, this]
  rfl
set_option maxHeartbeats 1000000 in
theorem four_any {w : World} (n : Nat) (hn : n < 4294967296) :
    Calls Tryd.prog 54 #[.int .u32 n] w fun e w' => ∃ v', e = .returned v' ∧ Own w' 5 v' ((four n).map bv) ∧ Fresh w.heap.size v' ∧ Ext w w' := by
  go_enter Tryd.func54, Tryd.ntmps54
  go_wp2_with fail
  go_ret
  rw [four_map n hn]
  exact ⟨_, rfl, Own.lit w 5 _ (by simp [maxLen]), fun k hk => by have : w.heap.size = k := Option.some.inj hk; omega, (Mod.refl _ w).alloc _⟩
set_option maxHeartbeats 1000000 in
theorem lay_any {w : World} {v : Value} {xs : List Value} (h : Own w 5 v xs) (n : Nat) (hn : n < 4294967296) (hl : xs.length + 4 ≤ 140737488355328) :
    Calls Tryd.prog 48 #[v, .int .u32 n] w fun e w' => ∃ v', e = .returned v' ∧ Own w' 5 v' (xs ++ (four n).map bv) ∧ Next w.heap.size v v' ∧ Mod (own v) w w' := by
  have hs := Sl.lit w 5 [.int .u8 ((n : Int) % 256), .int .u8 ((n : Int) / 256 % 256), .int .u8 ((n : Int) / 65536 % 256), .int .u8 ((n : Int) / 16777216)] (by simp [maxLen])
  have ho : ∀ u ∈ [Value.int .u8 ((n : Int) % 256), .int .u8 ((n : Int) / 256 % 256), .int .u8 ((n : Int) / 65536 % 256), .int .u8 ((n : Int) / 16777216)], u.oneCell' = true := by simp [Value.oneCell']
  obtain ⟨A, c, rfl⟩ := h.shape
  rw [four_map n hn]
  go_enter Tryd.func48, Tryd.ntmps48
  go_wp2_with ((with_reducible show wpList _ _ _ (⟨some 18, _, _, _, _, _⟩ :: _) _ _); refine wp_app tyB (h.alloc _) hs ho rfl (.tmp 5) (.tmp 17) rfl rfl rfl ?hn ?_; rotate_right; intro v1 w1 hown1 hmod1 hnx1)
  case hn => simp; omega
  go_ret
  exact ⟨v1, rfl, hown1, hnx1.imp id (fun h => h.mono (by simp)), (Mod.alloc (Mod.refl (fun _ => False) w) _).trans hmod1 (fun _ _ h => h.elim) (fun _ _ h => h)⟩
end Go.Proofs.YtblfhonfjljndaaDoor
namespace Go.Proofs.YtblfhonfjljndaaDoor
open Go.RowKit
set_option maxRecDepth 100000

theorem add_up (ad : Addr) (k : Nat) : ad.add (k + 1) = ⟨ad.block, ad.off + (k + 1), none⟩ := by simp [Addr.add]
theorem Blk.drew {w : World} {g : Nat} {t : TypeId} {cs : Array Value} (h : Blk w g t cs) : Blk w.drew g t cs := h
theorem Rw.blk {w : World} {S : Nat → Prop} {g : Nat} {t : TypeId} {v : Value} {l : List UInt8} (hb : Blk w g t #[v]) (h : Bs w S v l) : Rw w (fun k => S k ∨ k = g) (.slice (some ⟨g, 0, none⟩) 1 1) [l] := by
  have h1 : Sl w (fun k => k = g) (.slice (some ⟨g, 0, none⟩) 1 1) [v] := by
    refine ⟨some ⟨g, 0, none⟩, 1, rfl, Nat.le_refl _, by simp [maxLen], (fun h => nomatch h), fun k u hu => ?_⟩
    cases k with
    | zero =>
      cases hu
      exact ⟨⟨g, 0, none⟩, rfl, rfl, by rw [add_lit]; exact hb.c0⟩
    | succ k => simp at hu
  refine ⟨[v], rfl, h1.mono (fun _ _ h => .inr h), fun k x l' hx hl => ?_⟩
  cases k with
  | zero =>
    simp at hx hl
    subst hx; subst hl
    exact h.mono (fun _ _ h => .inl h)
  | succ k => simp at hx

set_option maxHeartbeats 1000000 in
theorem look_any {w : World} {S : Nat → Prop} {v : Value} {l : List UInt8} (h : Bs w S v l) (hN : Nib w) (hl : l.length ≤ 140737488355328) :
    Calls Tryd.prog 59 #[v] w fun e w' => ∃ v', e = .returned (.tuple #[v', .int .i64 ((dec l).2.1 : Nat), .int .i64 ((dec l).2.2 : Nat)]) ∧ Bs w' S v' (dec l).1 ∧ Ext w w' := by
  have h0 := h
  obtain ⟨A, c, rfl, h1, h2, h3, h4⟩ := h.open_
  by_cases c1 : l.length < 8
  · have hd : dec l = ([], 0, 2) := by unfold dec; rw [if_pos c1]
    rw [hd]
    clear hd
    go_enter Tryd.func59, Tryd.ntmps59
    go_wp2_with fail
    go_ret3
    exact ⟨_, rfl, Sl.nil _ _, Mod.refl _ _⟩
  obtain ⟨ad, rfl, -, -⟩ := h4.at_ (show 0 < l.length by omega)
  have hc8 : 8 ≤ c := by omega
  have hq : ∀ wx, Ext w wx → Bs wx S (.slice (some ad) l.length c) l := fun wx hx => h0.ext hx
  have hT : ∀ m, 0 < m → m + 4 ≤ l.length → ∀ wx, Ext w wx → Calls Tryd.prog 68 #[.slice (some (ad.add m)) (l.length - m) (c - m)] wx fun e w' => e = .returned (.int .u32 (from4 (l.drop m) : Nat)) ∧ Ext w w' ∧ Ext wx w' := by
    intro m hm0 hm wx hx
    have := Bs.rest (hq wx hx) (m := m) (by omega)
    simp only [Option.map_some] at this
    refine (take_any this (by rw [List.length_drop]; omega)).mono ?_
    rintro e w' ⟨rfl, n, rfl⟩
    exact ⟨rfl, hx.drewN n, (Mod.refl _ _).drewN n⟩
  have hS : ∀ m, m ≤ l.length → ∀ wx g, Ext w wx → Blk wx g 32 #[.slice (some ad) m c] → Calls Tryd.prog 49 #[.slice (some ⟨g, 0, none⟩) 1 1] wx fun e w' => e = .returned (.int .u32 (sumOf (l.take m) : Nat)) ∧ w' = wx := by
    intro m hm wx g hx hb
    have := sum_any (Rw.blk hb (Bs.begin (hq wx hx) (m := m) (by omega))) (hN.mod hx (fun h => h))
    simpa using this
  have hT4 := hT 4 (by omega) (by omega)
  rw [show ad.add 4 = ⟨ad.block, ad.off + 4, none⟩ from add_up ad 3] at hT4
  have hS4 := hS 4 (by omega)
  obtain ⟨a1, ha1⟩ : ∃ a1 : Int, a1 = (from4 (l.drop 4) : Nat) := ⟨_, rfl⟩
  obtain ⟨a2, ha2⟩ : ∃ a2 : Int, a2 = (sumOf (l.take 4) : Nat) := ⟨_, rfl⟩
  rw [← ha1] at hT4
  rw [← ha2] at hS4
  replace ha1 := Lib.hid ha1
  replace ha2 := Lib.hid ha2
  clear hq h4 h h3
  replace hT := Lib.hid hT
  replace hS := Lib.hid hS
  replace hT4 := Lib.hid hT4
  replace hS4 := Lib.hid hS4
  replace h0 := Lib.hid h0
  replace hN := Lib.hid hN
  have c4 : ¬ c = 4 := by omega
  have x1 : (4 : Int) ≤ (l.length : Int) := by omega
  have x2 : (4 : Int) ≤ (c : Int) := by omega
  have x3 : (l.length : Int) ≤ (c : Int) := by omega
  go_enter Tryd.func59, Tryd.ntmps59
  go_upto_region 3 with fail
  go_cut [17] (fun s17 wx => s17 = .bool (a1 != a2) ∧ Ext w wx)
  case first =>
    go_region_held3 (fun _ => True) (exact trivial)
      ((first
        | (go_at_call 68; refine (hT4.out _ ?_).mono ?_; (focus (repeat' (first | assumption | exact Mod.refl _ _ | (refine Mod.drew ?_) | (refine Mod.drewN ?_ _) | (refine Mod.alloc ?_ _)))); rintro e w5 ⟨rfl, hx5, hy5⟩)
        | (go_at_call 49; refine (hS4.out _ _ ?_ ?_).mono ?_; (focus (repeat' (first | assumption | exact Mod.refl _ _ | (refine Mod.drew ?_) | (refine Mod.drewN ?_ _) | (refine Mod.alloc ?_ _)))); (first | exact Blk.new _ _ _ | exact (Blk.new _ _ _).drew | exact (Blk.new _ _ _).drew.mod hy5 (fun h => h) | exact (Blk.new _ _ _).mod hy5 (fun h => h)); rintro e w6 ⟨rfl, hw6⟩; have hx6 : Ext w w6 := (by rw [hw6]; (focus (repeat' (first | assumption | exact Mod.refl _ _ | (refine Mod.drew ?_) | (refine Mod.drewN ?_ _) | (refine Mod.alloc ?_ _))))); clear hw6)))
    all_goals (go_wp2_with fail; go_meet; exact ⟨rfl, by first | exact hx6 | (focus (repeat' (first | assumption | exact Mod.refl _ _ | (refine Mod.drew ?_) | (refine Mod.drewN ?_ _) | (refine Mod.alloc ?_ _))))⟩)
  case rest =>
    obtain ⟨rfl, hx1⟩ := hcut
    by_cases c2 : from4 (l.drop 4) = sumOf (l.take 4)
    rotate_left
    · have hb : (a1 != a2) = true := by rw [ha1.out, ha2.out, bne_iff_ne]; exact fun h => c2 (Int.ofNat.inj h)
      have hd : dec l = ([], 0, 4) := by unfold dec; rw [if_neg c1, if_pos c2]
      replace hd := Lib.hid hd
      clear c2
      go_wp2_with fail
      go_ret3
      rw [hd.out]
      exact ⟨_, rfl, Sl.nil _ _, hx1⟩
    have hb : (a1 != a2) = false := by rw [ha1.out, ha2.out, c2]; simp
    replace c2 := Lib.hid c2
    go_wp2_with fail
    refine (take_any (h0.out.ext hx1) (by omega)).mono ?_
    rintro e w2 ⟨rfl, n2, hw2⟩
    have hx2 : Ext w w2 := by rw [hw2]; exact hx1.drewN n2
    clear hw2
    obtain ⟨n, hn⟩ : ∃ n, n = from4 l := ⟨_, rfl⟩
    have hnl : n < 4294967296 := by rw [hn]; exact from4_lt l
    rw [← hn]
    by_cases c3 : 1048576 < n
    · have hd : dec l = ([], 0, 5) := by unfold dec; rw [if_neg c1, if_neg (fun h => h c2.out), if_pos (by rw [← hn]; exact c3)]
      replace hd := Lib.hid hd
      replace hn := Lib.hid hn
      go_wp2_with fail
      go_ret3
      rw [hd.out]
      exact ⟨_, rfl, Sl.nil _ _, hx2⟩
    by_cases c5 : l.length < 12 + n
    · have hd : dec l = ([], 0, 2) := by unfold dec; rw [if_neg c1, if_neg (fun h => h c2.out), if_neg (by rw [← hn]; exact c3), if_pos (by rw [← hn]; exact c5)]
      replace hd := Lib.hid hd
      replace hn := Lib.hid hn
      go_wp2_with fail
      go_ret3
      rw [hd.out]
      exact ⟨_, rfl, Sl.nil _ _, hx2⟩
    have hn0 := hn
    replace hn := Lib.hid hn
    have c6 : ¬ c = 8 := by omega
    clear hn0
    go_wp2_with fail
    have hn := hn.out
    clear hT4 hS4 c4 x1 x2
    obtain ⟨m, hm⟩ : ∃ m : Nat, (8 : Int) + n = m := ⟨8 + n, by omega⟩
    have hmn : m = 8 + n := by omega
    have c7 : ¬ c = m := by omega
    have hTm := hT.out m (by omega) (by omega)
    have hSm := hS.out m (by omega)
    obtain ⟨b1, hb1⟩ : ∃ b1 : Int, b1 = (from4 (l.drop m) : Nat) := ⟨_, rfl⟩
    obtain ⟨b2, hb2⟩ : ∃ b2 : Int, b2 = (sumOf (l.take m) : Nat) := ⟨_, rfl⟩
    rw [← hb1] at hTm
    rw [← hb2] at hSm
    replace hb1 := Lib.hid hb1
    replace hb2 := Lib.hid hb2
    replace hTm := Lib.hid hTm
    replace hSm := Lib.hid hSm
    have y0 : (0 : Int) ≤ (m : Int) := by omega
    have y1 : (m : Int) ≤ (l.length : Int) := by omega
    have y2 : (m : Int) ≤ (c : Int) := by omega
    have y3 : (8 : Int) ≤ (m : Int) := by omega
    have y4 : m - 8 = n := by omega
    clear hT hS
    replace hn := Lib.hid hn
    rw [hm]
    replace hm := Lib.hid hm
    replace hmn := Lib.hid hmn

    go_cut [39] (fun s39 wx => s39 = .bool (b1 != b2) ∧ Ext w wx)
    case first =>
      go_region_held3 (fun _ => True) (exact trivial)
        ((first
          | (go_at_call 68; refine (hTm.out _ ?_).mono ?_; (focus (repeat' (first | assumption | exact Mod.refl _ _ | (refine Mod.drew ?_) | (refine Mod.drewN ?_ _) | (refine Mod.alloc ?_ _)))); rintro e w5 ⟨rfl, hx5, hy5⟩)
          | (go_at_call 49; refine (hSm.out _ _ ?_ ?_).mono ?_; (focus (repeat' (first | assumption | exact Mod.refl _ _ | (refine Mod.drew ?_) | (refine Mod.drewN ?_ _) | (refine Mod.alloc ?_ _)))); (first | exact Blk.new _ _ _ | exact (Blk.new _ _ _).drew | exact (Blk.new _ _ _).drew.mod hy5 (fun h => h) | exact (Blk.new _ _ _).mod hy5 (fun h => h)); rintro e w6 ⟨rfl, hw6⟩; have hx6 : Ext w w6 := (by rw [hw6]; (focus (repeat' (first | assumption | exact Mod.refl _ _ | (refine Mod.drew ?_) | (refine Mod.drewN ?_ _) | (refine Mod.alloc ?_ _))))); clear hw6)))
      all_goals (go_wp2_with fail; go_meet; exact ⟨rfl, by first | exact hx6 | (focus (repeat' (first | assumption | exact Mod.refl _ _ | (refine Mod.drew ?_) | (refine Mod.drewN ?_ _) | (refine Mod.alloc ?_ _))))⟩)
    case rest =>
      obtain ⟨rfl, hx3⟩ := hcut
      by_cases c8 : from4 (l.drop (8 + n)) = sumOf (l.take (8 + n))
      rotate_left
      · have hb : (b1 != b2) = true := by rw [hb1.out, hb2.out, bne_iff_ne, hmn.out]; exact fun h => c8 (Int.ofNat.inj h)
        have hd : dec l = ([], 0, 4) := by
          rw [hn.out] at c3 c5 c8
          unfold dec; rw [if_neg c1, if_neg (fun h => h c2.out), if_neg c3, if_neg c5, if_pos c8]
        replace hd := Lib.hid hd
        clear c8
        go_wp2_with fail
        go_ret3
        rw [hd.out]
        exact ⟨_, rfl, Sl.nil _ _, hx3⟩
      have hb : (b1 != b2) = false := by rw [hb1.out, hb2.out, hmn.out, c8]; simp
      have hd : dec l = ((l.drop 8).take n, 12 + n, 0) := by
        rw [hn.out] at c3 c5 c8 ⊢
        exact dec_iff (by omega) c2.out (by omega) (by omega) c8
      replace hd := Lib.hid hd
      clear c8
      go_wp2_with fail
      go_ret3
      rw [hd.out]
      have e1 : ((12 + n : Nat) : Int) = (m : Int) + 4 := by have := hmn.out; omega
      have h8 := Bs.rest (h0.out.ext hx3) (m := 8) (by omega)
      simp only [Option.map_some] at h8
      rw [show ad.add 8 = ⟨ad.block, ad.off + 8, none⟩ from add_up ad 7, ← List.length_drop] at h8
      refine ⟨_, ?_, Bs.begin h8 (m := n) (by rw [List.length_drop]; omega), hx3⟩
      rw [e1]
      rfl
end Go.Proofs.YtblfhonfjljndaaDoor
