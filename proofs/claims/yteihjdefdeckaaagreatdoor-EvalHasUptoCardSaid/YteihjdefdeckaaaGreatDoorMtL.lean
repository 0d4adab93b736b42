/- Rows of texts that rise; over any program. -/
import Derived.Test.YteihjdefdeckaaaGreatDoorWords
import Derived.Test.YteihjdefdeckaaaGreatDoorMtC
namespace Go.Proofs.YteihjdefdeckaaaGreatDoor
open Go.RowKit
set_option maxRecDepth 100000

theorem less_irr : ∀ x : List UInt8, Op.bytesLess x x = false
  | [] => rfl
  | a :: x => by
    show (decide (a < a) || (a == a && Op.bytesLess x x)) = false
    rw [less_irr x, decide_eq_false (by rw [UInt8.lt_iff_toNat_lt]; omega)]
    simp
theorem less_asym : ∀ (x y : List UInt8), x ≠ y → Op.bytesLess x y = !Op.bytesLess y x
  | [], [], h => absurd rfl h
  | [], b :: y, _ => rfl
  | a :: x, [], _ => rfl
  | a :: x, b :: y, h => by
    show (decide (a < b) || (a == b && Op.bytesLess x y)) = !(decide (b < a) || (b == a && Op.bytesLess y x))
    by_cases hab : a = b
    · subst hab
      have hxy : x ≠ y := fun e => h (by rw [e])
      rw [less_asym x y hxy, decide_eq_false (by rw [UInt8.lt_iff_toNat_lt]; omega)]
      simp
    · have hba : ¬ b = a := fun e => hab e.symm
      have h1 : (a == b) = false := by simpa using hab
      have h2 : (b == a) = false := by simpa using hba
      rw [h1, h2]
      simp only [Bool.false_and, Bool.or_false]
      have : a.toNat ≠ b.toNat := fun e => hab (UInt8.toNat_inj.1 e)
      by_cases hl : a < b
      · rw [decide_eq_true hl, decide_eq_false (by rw [UInt8.lt_iff_toNat_lt] at *; omega)]; rfl
      · rw [decide_eq_false hl, decide_eq_true (by rw [UInt8.lt_iff_toNat_lt] at *; omega)]; rfl
theorem less_trans : ∀ (x y z : List UInt8), Op.bytesLess x y = true → Op.bytesLess y z = true → Op.bytesLess x z = true
  | [], [], _, h, _ => by cases h
  | _ :: _, [], _, h, _ => by cases h
  | [], _ :: _, [], _, h => by cases h
  | _ :: _, _ :: _, [], _, h => by cases h
  | [], _ :: _, _ :: _, _, _ => rfl
  | a :: x, b :: y, c :: z, h1, h2 => by
    have e1 : (decide (a < b) || (a == b && Op.bytesLess x y)) = true := h1
    have e2 : (decide (b < c) || (b == c && Op.bytesLess y z)) = true := h2
    show (decide (a < c) || (a == c && Op.bytesLess x z)) = true
    simp only [Bool.or_eq_true, Bool.and_eq_true, decide_eq_true_eq, beq_iff_eq] at *
    rcases e1 with e1 | ⟨rfl, e1⟩
    · left
      rcases e2 with e2 | ⟨rfl, _⟩
      · rw [UInt8.lt_iff_toNat_lt] at *; omega
      · exact e1
    · rcases e2 with e2 | ⟨rfl, e2⟩
      · exact .inl e2
      · exact .inr ⟨rfl, less_trans x y z e1 e2⟩
theorem less_ne {x y : List UInt8} (h : Op.bytesLess x y = true) : x ≠ y := by
  rintro rfl
  rw [less_irr] at h; cases h
theorem less_tot {x y : List UInt8} (h : Op.bytesLess x y = false) (hne : x ≠ y) : Op.bytesLess y x = true := by
  have := less_asym x y hne
  rw [h] at this
  simpa using this.symm

abbrev Tx := List (List UInt8)
/-- It rises, each once. -/
def riseT (L : Tx) : Prop := L.Pairwise fun a b => Op.bytesLess a b = true
theorem riseT_ext : ∀ {L M : Tx}, riseT L → riseT M → (∀ c, c ∈ L ↔ c ∈ M) → L = M
  | [], [], _, _, _ => rfl
  | [], b :: M, _, _, h => absurd ((h b).2 (List.mem_cons_self ..)) (by simp)
  | a :: L, [], _, _, h => absurd ((h a).1 (List.mem_cons_self ..)) (by simp)
  | a :: L, b :: M, hl, hm, h => by
    obtain ⟨hl1, hl2⟩ := List.pairwise_cons.1 hl
    obtain ⟨hm1, hm2⟩ := List.pairwise_cons.1 hm
    have hab : a = b := by
      rcases List.mem_cons.1 ((h a).1 (List.mem_cons_self ..)) with e | e
      · exact e
      · rcases List.mem_cons.1 ((h b).2 (List.mem_cons_self ..)) with e2 | e2
        · exact e2.symm
        · have := less_trans _ _ _ (hl1 b e2) (hm1 a e)
          rw [less_irr] at this; cases this
    subst hab
    rw [riseT_ext hl2 hm2 fun c => ⟨fun hc => ?_, fun hc => ?_⟩]
    · rcases List.mem_cons.1 ((h c).1 (List.mem_cons_of_mem _ hc)) with e | e
      · subst e; have := hl1 c hc; rw [less_irr] at this; cases this
      · exact e
    · rcases List.mem_cons.1 ((h c).2 (List.mem_cons_of_mem _ hc)) with e | e
      · subst e; have := hm1 c hc; rw [less_irr] at this; cases this
      · exact e
theorem riseT_at {L : Tx} (h : riseT L) {i j : Nat} (hij : i < j) (hj : j < L.length) : Op.bytesLess (L[i]'(Nat.lt_trans hij hj)) L[j] = true :=
  List.pairwise_iff_getElem.1 h i j (Nat.lt_trans hij hj) hj hij
theorem takeWhile_at {α : Type} (p : α → Bool) : ∀ (L : List α), ∃ n, n ≤ L.length ∧ (∀ j (hj : j < L.length), j < n → p L[j] = true) ∧ ∀ hn : n < L.length, p L[n] = false
  | [] => ⟨0, by simp, fun j hj => by simp at hj, fun hn => by simp at hn⟩
  | a :: L => by
    by_cases h : p a = true
    · obtain ⟨n, h1, h4, h5⟩ := takeWhile_at p L
      refine ⟨n + 1, by simpa using h1, fun j hj hjn => ?_, fun hn => ?_⟩
      · match j, hj, hjn with
        | 0, _, _ => exact h
        | j + 1, hj, hjn => exact h4 j (by simpa using hj) (by omega)
      · exact h5 (by simpa using hn)
    · exact ⟨0, by simp, fun j _ hj => by omega, fun _ => by simpa using h⟩
/-- Where a text comes in a row that rises. -/
theorem comesT {L : Tx} (h : riseT L) (s : List UInt8) : ∃ n, n ≤ L.length ∧ (∀ j (hj : j < L.length), j < n → Op.bytesLess L[j] s = true) ∧ (∀ hn : n < L.length, Op.bytesLess L[n] s = false) ∧ (s ∈ L ↔ ∃ hn : n < L.length, L[n] = s) ∧
    ((∀ hn : n < L.length, L[n] ≠ s) → riseT ((L.take n ++ [s]) ++ L.drop n) ∧ ∀ x, x ∈ (L.take n ++ [s]) ++ L.drop n ↔ x ∈ L ∨ x = s) := by
  obtain ⟨n, h1, h4, h5⟩ := takeWhile_at (fun x => Op.bytesLess x s) L
  have hmem : s ∈ L ↔ ∃ hn : n < L.length, L[n] = s := by
    constructor
    · intro hs
      obtain ⟨j, hj, e⟩ := List.mem_iff_getElem.1 hs
      have hnj : n ≤ j := by
        rcases Nat.lt_or_ge j n with h6 | h6
        · have h7 : Op.bytesLess L[j] s = true := h4 j hj h6
          rw [e, less_irr] at h7; cases h7
        · exact h6
      refine ⟨by omega, ?_⟩
      rcases Nat.lt_or_ge n j with h6 | h6
      · have h7 := riseT_at h h6 hj
        have h8 : Op.bytesLess L[n] s = false := h5 (by omega)
        rw [e] at h7
        rw [h7] at h8; cases h8
      · obtain rfl : n = j := by omega
        exact e
    · rintro ⟨hn, e⟩
      exact e ▸ List.getElem_mem _
  refine ⟨n, h1, h4, h5, hmem, fun hno => ⟨?_, fun x => ?_⟩⟩
  · have hsp : L.take n ++ L.drop n = L := List.take_append_drop n L
    have h' := h
    unfold riseT at h'
    rw [← hsp] at h'
    obtain ⟨p1, p2, p3⟩ := List.pairwise_append.1 h'
    have ht : ∀ a ∈ L.take n, Op.bytesLess a s = true := fun a ha => by
      obtain ⟨j, hj, rfl⟩ := List.mem_iff_getElem.1 ha
      rw [List.length_take] at hj
      rw [List.getElem_take]
      exact h4 j (by omega) (by omega)
    have hd : ∀ b ∈ L.drop n, Op.bytesLess s b = true := fun b hb => by
      obtain ⟨j, hj, rfl⟩ := List.mem_iff_getElem.1 hb
      rw [List.length_drop] at hj
      rw [List.getElem_drop]
      have hn : n < L.length := by omega
      have e1 : Op.bytesLess s L[n] = true := less_tot (h5 hn) (hno hn)
      rcases Nat.eq_zero_or_pos j with e | e
      · subst e; exact e1
      · exact less_trans _ _ _ e1 (riseT_at h (by omega) (by omega))
    refine List.pairwise_append.2 ⟨List.pairwise_append.2 ⟨p1, List.pairwise_singleton _ _, fun a ha b hb => ?_⟩, p2, fun a ha b hb => ?_⟩
    · rw [List.mem_singleton] at hb
      subst hb
      exact ht a ha
    · rcases List.mem_append.1 ha with ha | ha
      · exact p3 a ha b hb
      · rw [List.mem_singleton] at ha
        subst ha
        exact hd b hb
  · conv => rhs; rw [← List.take_append_drop n L]
    simp only [List.mem_append, List.mem_singleton]
    constructor
    · rintro ((h | h) | h)
      · exact .inl (.inl h)
      · exact .inr h
      · exact .inl (.inr h)
    · rintro ((h | h) | h)
      · exact .inl (.inl h)
      · exact .inr h
      · exact .inl (.inr h)
end Go.Proofs.YteihjdefdeckaaaGreatDoor
namespace Go.Proofs.YteihjdefdeckaaaGreatDoor
open Go.RowKit
set_option maxRecDepth 100000

theorem or3L {p q r : Prop} (h : p ∨ q ∨ r) : q ∨ p ∨ r := by
  rcases h with h | h | h
  · exact .inr (.inl h)
  · exact .inl h
  · exact .inr (.inr h)
theorem less_no {k : Int} {a b : List UInt8} (h : (normM k a).2 = false ∨ (normM k b).2 = false ∨ k = 3) : lessM k a b = (false, false) := by unfold lessM; rw [if_pos h]
theorem less_yes {k : Int} {a b : List UInt8} (h : ¬ ((normM k a).2 = false ∨ (normM k b).2 = false ∨ k = 3)) : lessM k a b = if k = 2 then (decide (numV (normM k a).1 < numV (normM k b).1), true) else (Op.bytesLess (normM k a).1 (normM k b).1, true) := by unfold lessM; rw [if_neg h]
theorem equal_comm_ok {k : Int} {a b : List UInt8} : (lessM k a b).2 = (lessM k b a).2 := by
  by_cases h : (normM k a).2 = false ∨ (normM k b).2 = false ∨ k = 3
  · rw [less_no h, less_no (or3L h)]
  · rw [less_yes h, less_yes (fun h2 => h (or3L h2))]
    by_cases h2 : k = 2
    · rw [if_pos h2, if_pos h2]
    · rw [if_neg h2, if_neg h2]
/-- Of two values that can be ordered just one is below, or they are one. -/
theorem less_one {k : Int} {a b : List UInt8} (h : (lessM k a b).2 = true) : (equalM k a b != ((lessM k a b).1 || (lessM k b a).1)) = true ∧ ((lessM k a b).1 && (lessM k b a).1) = false := by
  by_cases h1 : (normM k a).2 = false ∨ (normM k b).2 = false ∨ k = 3
  · rw [less_no h1] at h; cases h
  rw [less_yes h1, less_yes (fun h2 => h1 (or3L h2))]
  have ha : (normM k a).2 = true := by cases e : (normM k a).2 with | true => rfl | false => exact absurd (.inl e) h1
  have hb : (normM k b).2 = true := by cases e : (normM k b).2 with | true => rfl | false => exact absurd (.inr (.inl e)) h1
  unfold equalM
  rw [ha, hb, Bool.true_and, Bool.true_and]
  clear h h1
  by_cases h2 : k = 2
  · subst h2
    obtain ⟨e1, n1⟩ := normM_num ha
    obtain ⟨e2, n2⟩ := normM_num hb
    rw [e1, e2, if_pos rfl, if_pos rfl]
    simp only
    by_cases he : a = b
    · subst he; simp
    · have hne : numV a ≠ numV b := fun e => he (numV_inj n1 n2 e)
      rw [beq_eq_false_iff_ne.2 he]
      rcases Int.lt_or_gt_of_ne hne with hl | hl
      · rw [decide_eq_true hl, decide_eq_false (by omega)]; exact ⟨rfl, rfl⟩
      · rw [decide_eq_false (by omega), decide_eq_true (by omega)]; exact ⟨rfl, rfl⟩
  · rw [if_neg h2, if_neg h2]
    simp only
    generalize (normM k a).1 = p
    generalize (normM k b).1 = q
    by_cases he : p = q
    · subst he; rw [less_irr]; simp
    · rw [beq_eq_false_iff_ne.2 he, less_asym p q he]
      cases Op.bytesLess q p <;> exact ⟨rfl, rfl⟩
/-- What is below one that is below is below. -/
theorem less_chain {k : Int} {a b c : List UInt8} (h : (lessM k a b).2 = true) (h2 : (lessM k b c).2 = true) (hx : (lessM k a b).1 = true) (hz : (lessM k b c).1 = true) : (lessM k a c).1 = true := by
  by_cases h1 : (normM k a).2 = false ∨ (normM k b).2 = false ∨ k = 3
  · rw [less_no h1] at h; cases h
  by_cases h3 : (normM k b).2 = false ∨ (normM k c).2 = false ∨ k = 3
  · rw [less_no h3] at h2; cases h2
  have h4 : ¬ ((normM k a).2 = false ∨ (normM k c).2 = false ∨ k = 3) := fun h4 => by
    rcases h4 with h4 | h4 | h4
    · exact h1 (.inl h4)
    · exact h3 (.inr (.inl h4))
    · exact h1 (.inr (.inr h4))
  rw [less_yes h1] at hx
  rw [less_yes h3] at hz
  rw [less_yes h4]
  by_cases h5 : k = 2
  · rw [if_pos h5] at hx hz ⊢
    simp only [decide_eq_true_eq] at hx hz ⊢
    omega
  · rw [if_neg h5] at hx hz ⊢
    exact less_trans _ _ _ hx hz
/-- A number in digits. -/
def decS (n : Nat) : List UInt8 := if h : n < 10 then [UInt8.ofNat (48 + n)] else decS (n / 10) ++ [UInt8.ofNat (48 + n % 10)]
termination_by n
decreasing_by omega
theorem decS_small {n : Nat} (h : n < 10) : decS n = [UInt8.ofNat (48 + n)] := by rw [decS, dif_pos h]
theorem decS_step {n : Nat} (h : ¬ n < 10) : decS n = decS (n / 10) ++ [UInt8.ofNat (48 + n % 10)] := by rw [decS, dif_neg h]
theorem dig_of {d : Nat} (h : d < 10) : (UInt8.ofNat (48 + d)).toNat = 48 + d := by rw [UInt8.toNat_ofNat_of_lt' (by show 48 + d < 256; omega)]
theorem decS_len : ∀ (k n : Nat), n < 10 ^ (k + 1) → (decS n).length ≤ k + 1
  | 0, n, h => by rw [decS_small (by simpa using h)]; simp
  | k + 1, n, h => by
    by_cases h1 : n < 10
    · rw [decS_small h1]; simp
    · rw [decS_step h1, List.length_append]
      have h2 : n / 10 < 10 ^ (k + 1) := Nat.div_lt_of_lt_mul (by rw [Nat.pow_succ] at h; omega)
      have := decS_len k (n / 10) h2
      simp only [List.length_singleton]
      omega
theorem decS_all (n : Nat) : (decS n).all digB9 = true := by
  induction n using Nat.strongRecOn with
  | _ n ih =>
    by_cases h : n < 10
    · rw [decS_small h]
      simp only [List.all_cons, List.all_nil, Bool.and_true]
      unfold digB9
      rw [dig_of h]
      exact decide_eq_true (by omega)
    · rw [decS_step h, List.all_append, ih (n / 10) (by omega)]
      simp only [List.all_cons, List.all_nil, Bool.and_true, Bool.true_and]
      unfold digB9
      rw [dig_of (by omega)]
      exact decide_eq_true (by omega)
theorem decA_app (a : Nat) (x : List UInt8) (b : UInt8) : decA a (x ++ [b]) = decA a x * 10 + (b.toNat - 48) := by
  unfold decA
  rw [List.foldl_append]
  rfl
theorem decS_val (n : Nat) : decA 0 (decS n) = n := by
  induction n using Nat.strongRecOn with
  | _ n ih =>
    by_cases h : n < 10
    · rw [decS_small h]
      have := dig_of h
      simp only [decA, List.foldl_cons, List.foldl_nil]
      omega
    · rw [decS_step h, decA_app, ih (n / 10) (by omega), dig_of (by omega)]
      omega
theorem decS_pos (n : Nat) : 1 ≤ (decS n).length := by
  by_cases h : n < 10
  · rw [decS_small h]; simp
  · rw [decS_step h, List.length_append]; simp
theorem decS_head (n : Nat) (hn : 0 < n) : (decS n).getD 0 0 ≠ 48 := by
  induction n using Nat.strongRecOn with
  | _ n ih =>
    by_cases h : n < 10
    · rw [decS_small h]
      intro e
      have h1 : (UInt8.ofNat (48 + n)) = 48 := e
      have h2 := dig_of h
      rw [h1] at h2
      have : (48 : UInt8).toNat = 48 := rfl
      omega
    · rw [decS_step h]
      have h1 := ih (n / 10) (by omega) (by omega)
      have h2 := decS_pos (n / 10)
      cases he : decS (n / 10) with
      | nil => rw [he] at h2; simp at h2
      | cons c r => rw [he] at h1; exact h1
theorem decS_ne45 (n : Nat) : ∃ c d, decS n = c :: d ∧ c ≠ 45 := by
  have h1 := decS_all n
  have h2 := decS_pos n
  cases h : decS n with
  | nil => rw [h] at h2; simp at h2
  | cons c d =>
    refine ⟨c, d, rfl, fun e => ?_⟩
    rw [h] at h1
    simp only [List.all_cons, Bool.and_eq_true] at h1
    have := dig_bd h1.1
    rw [e] at this
    simp at this
theorem body_dec (n : Nat) : bodyN (decS n) = decS n ∧ negN (decS n) = false := by
  obtain ⟨c, d, h1, h2⟩ := decS_ne45 n
  rw [h1]
  exact ⟨by simp [bodyN, h2], by simp [negN, h2]⟩
theorem isNum_dec {n : Nat} (h : n < 10 ^ 18) : isNum (decS n) = true := by
  have hl := decS_len 17 n (by simpa using h)
  unfold isNum
  rw [(body_dec n).1, Bool.and_eq_true, decide_eq_true_eq]
  refine ⟨⟨decS_pos n, by omega, fun ⟨h1, h2⟩ => ?_⟩, decS_all n⟩
  by_cases h0 : n < 10
  · rw [decS_small h0] at h2; simp at h2
  · exact decS_head n (by omega) h1
theorem isNum_neg {n : Nat} (h : n < 10 ^ 18) (h0 : 0 < n) : isNum (45 :: decS n) = true := by
  have hl := decS_len 17 n (by simpa using h)
  unfold isNum
  rw [show bodyN (45 :: decS n) = decS n from rfl, Bool.and_eq_true, decide_eq_true_eq]
  exact ⟨⟨decS_pos n, by omega, fun ⟨h1, _⟩ => decS_head n h0 h1⟩, decS_all n⟩
theorem numV_dec (n : Nat) : numV (decS n) = (n : Int) := by
  unfold numV
  rw [(body_dec n).1, (body_dec n).2, decS_val]
  rfl
theorem numV_neg (n : Nat) : numV (45 :: decS n) = -(n : Int) := by
  unfold numV
  rw [show bodyN (45 :: decS n) = decS n from rfl, show negN (45 :: decS n) = true from rfl, decS_val]
  rfl
theorem lessM_num {a b : List UInt8} (ha : isNum a = true) (hb : isNum b = true) : lessM 2 a b = (decide (numV a < numV b), true) := by
  have h1 : ∀ x : List UInt8, isNum x = true → normM 2 x = (x, true) := fun x hx => by
    have h2 := isNum_out hx
    have h3 := neg_len hx
    rw [normM_short (by split at h3 <;> omega)]
    show numB x = (x, true)
    unfold numB
    rw [if_pos hx]
  rw [less_yes (fun h => by
    rw [h1 a ha, h1 b hb] at h
    rcases h with h | h | h
    · cases h
    · cases h
    · omega), h1 a ha, h1 b hb, if_pos rfl]
theorem equalM_num {a b : List UInt8} (ha : isNum a = true) (hb : isNum b = true) : equalM 2 a b = decide (numV a = numV b) := by
  have h1 : ∀ x : List UInt8, isNum x = true → normM 2 x = (x, true) := fun x hx => by
    have h2 := isNum_out hx
    have h3 := neg_len hx
    rw [normM_short (by split at h3 <;> omega)]
    show numB x = (x, true)
    unfold numB
    rw [if_pos hx]
  unfold equalM
  rw [h1 a ha, h1 b hb, Bool.eq_iff_iff]
  simp only [Bool.true_and, beq_iff_eq, decide_eq_true_eq]
  exact ⟨fun e => by rw [e], fun e => numV_inj ha hb e⟩
end Go.Proofs.YteihjdefdeckaaaGreatDoor
