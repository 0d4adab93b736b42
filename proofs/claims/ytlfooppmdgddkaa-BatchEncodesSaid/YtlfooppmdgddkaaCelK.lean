/- block: what is laid is taken again; the first cell with a key and a number. -/
import Derived.Test.YtlfooppmdgddkaaCelI
import Derived.Test.YtlfooppmdgddkaaOctK
import Derived.Test.YtlfooppmdgddkaaOctP
namespace Go.Proofs.Ytlfooppmdgddkaa
open Go.RowKit
set_option maxRecDepth 100000

theorem comm_take : ∀ (a b : List UInt8), a.take (comm a b) = b.take (comm a b)
  | [], b => by cases b <;> rfl
  | a :: x, [] => rfl
  | a :: x, b :: y => by
    show (a :: x).take (if a = b then comm x y + 1 else 0) = (b :: y).take (if a = b then comm x y + 1 else 0)
    by_cases h : a = b
    · rw [if_pos h, List.take_succ_cons, List.take_succ_cons, comm_take x y, h]
    · rw [if_neg h, List.take_zero, List.take_zero]

theorem riseN_zero {L : List Ce} (h : riseN L = 0) : (∀ c ∈ L, isC c) ∧ rises L := by
  unfold riseN at h
  by_cases h1 : ∀ c ∈ L, isC c
  · rw [if_pos h1] at h
    by_cases h2 : rises L
    · exact ⟨h1, h2⟩
    · rw [if_neg h2] at h
      cases h
  · rw [if_neg h1] at h
    cases h

theorem takeC_enc {a ah rest : List UInt8} {c : Ce} (h : isC c) (ha : a = [] ∨ a = ah) : takeC ah (some (encC a c ++ rest)) = (c, some rest) := by
  obtain ⟨h1, h2, h3, h4, h5, h6⟩ := h
  have hle := comm_le a c.key
  have hn : comm a c.key ≤ ah.length := by
    rcases ha with rfl | rfl
    · exact Nat.le_trans hle.1 (Nat.zero_le _)
    · exact hle.1
  have ht : ah.take (comm a c.key) ++ c.key.drop (comm a c.key) = c.key := by
    rcases ha with rfl | rfl
    · have : comm [] c.key = 0 := by simpa using hle.1
      rw [this]
      simp
    · rw [comm_take, List.take_append_drop]
  have hs : ((clamp c.seq : Nat) : Int) = c.seq := by unfold clamp; omega
  have hd : (c.key.drop (comm a c.key)).length ≤ 4611686018427387904 := by simp only [List.length_drop]; omega
  have hv : c.val.length ≤ 4611686018427387904 := by omega
  have hc := clamp_le c.seq
  have hall : ∀ T : List UInt8, enc7 (comm a c.key) ++ (enc7 (c.key.drop (comm a c.key)).length ++ c.key.drop (comm a c.key)) ++ enc7 (clamp c.seq) ++ T ++ rest = enc7 (comm a c.key) ++ ((enc7 (c.key.drop (comm a c.key)).length ++ c.key.drop (comm a c.key)) ++ (enc7 (clamp c.seq) ++ (T ++ rest))) := by
    intro T
    simp only [List.append_assoc]
  have e1 := fun R => takeN_enc (comm a c.key) R (by omega)
  have e2 := fun R => takeB_enc (c.key.drop (comm a c.key)) R hd
  have e3 := fun R => takeN_enc (clamp c.seq) R hc
  unfold encC takeC
  rw [hall, e1]
  simp only
  rw [if_neg (Nat.not_lt.2 hn), e2]
  simp only
  rw [e3]
  simp only
  cases hdel : c.del with
  | true =>
    have e4 : takeN (some ((if (true : Bool) = true then enc7 1 else enc7 0 ++ (enc7 c.val.length ++ c.val)) ++ rest)) = (1, some rest) := takeN_enc 1 rest (by omega)
    rw [e4]
    simp only
    rw [if_pos trivial, ht, hs, ← h4 hdel, ← hdel]
  | false =>
    have e4 := takeN_enc 0 (enc7 c.val.length ++ c.val ++ rest) (by omega)
    have e5 := takeB_enc c.val rest hv
    have e6 : takeN (some ((if (false : Bool) = true then enc7 1 else enc7 0 ++ (enc7 c.val.length ++ c.val)) ++ rest)) = (0, some (enc7 c.val.length ++ c.val ++ rest)) := by
      rw [if_neg (by decide), ← e4]
      simp only [List.append_assoc]
    rw [e6]
    simp only
    rw [if_neg (by decide), if_neg (by decide), e5]
    simp only
    rw [ht, hs, ← hdel]

def encS (L : List Ce) (k : Nat) : List UInt8 := (List.range' k (L.length - k)).flatMap fun i => encC (aheadC L i) (L.getD i default)
def prevC (L : List Ce) (k : Nat) : List UInt8 := if k = 0 then [] else (L.getD (k - 1) default).key
theorem encS_zero (L : List Ce) : encS L 0 = encB L := by
  unfold encS encB encTo
  rw [List.range_eq_range']
  rfl
theorem encS_step (L : List Ce) {k : Nat} (h : k < L.length) : encS L k = encC (aheadC L k) (L.getD k default) ++ encS L (k + 1) := by
  unfold encS
  rw [show L.length - k = (L.length - (k + 1)) + 1 by omega, List.range'_succ, List.flatMap_cons]
theorem encS_end (L : List Ce) : encS L L.length = [] := by
  unfold encS
  rw [Nat.sub_self]
  rfl
theorem encC_pos (a : List UInt8) (c : Ce) : 0 < (encC a c).length := by
  have := enc7_pos (comm a c.key)
  unfold encC
  simp only [List.length_append]
  omega
theorem ahead_prev (L : List Ce) (k : Nat) : aheadC L k = [] ∨ aheadC L k = prevC L k := by
  unfold aheadC prevC
  by_cases h : k % 4 = 0
  · exact .inl (if_pos h)
  · rw [if_neg h, if_neg (fun e => h (by rw [e]))]
    exact .inr rfl

theorem decF_enc {L : List Ce} (h : ∀ c ∈ L, isC c) : ∀ (m k f : Nat), k + m = L.length → (encS L k).length < f → decF f (prevC L k) (encS L k) (L.take k) = some L := by
  intro m
  induction m with
  | zero =>
    intro k f hk hf
    obtain rfl : k = L.length := by omega
    rw [encS_end] at hf ⊢
    obtain ⟨f, rfl⟩ : ∃ g, f = g + 1 := ⟨f - 1, by simp only [List.length_nil] at hf; omega⟩
    show (if ([] : List UInt8) = [] then some (L.take L.length) else _) = _
    rw [if_pos rfl, List.take_length]
  | succ m ih =>
    intro k f hk hf
    have hkl : k < L.length := by omega
    obtain ⟨f, rfl⟩ : ∃ g, f = g + 1 := ⟨f - 1, by omega⟩
    have hs := encS_step L hkl
    have hp := encC_pos (aheadC L k) (L.getD k default)
    have hc : isC (L.getD k default) := by rw [getD_c L hkl]; exact h _ (List.getElem_mem hkl)
    have hne : encS L k ≠ [] := by
      intro e
      have := congrArg List.length e
      rw [hs, List.length_append, List.length_nil] at this
      omega
    have hlen : (encS L (k + 1)).length < f := by
      rw [hs, List.length_append] at hf
      omega
    have ht : takeC (prevC L k) (some (encS L k)) = (L.getD k default, some (encS L (k + 1))) := by
      rw [hs]
      exact takeC_enc hc (ahead_prev L k)
    unfold decF
    rw [if_neg hne, ht]
    simp only
    rw [if_pos hc]
    have h2 : L.take k ++ [L.getD k default] = L.take (k + 1) := by rw [getD_c L hkl, List.take_append_getElem hkl]
    rw [h2]
    have h3 : (L.getD k default).key = prevC L (k + 1) := by
      unfold prevC
      rw [if_neg (by omega)]
      rfl
    rw [h3]
    exact ih (k + 1) f (by omega) hlen

theorem decB_enc {L : List Ce} (h : riseN L = 0) : decB (encB L) = (L, 0) := by
  have hz := riseN_zero h
  have := decF_enc hz.1 L.length 0 ((encB L).length + 1) (by omega) (by rw [encS_zero]; omega)
  rw [encS_zero] at this
  unfold decB
  rw [show decF ((encB L).length + 1) [] (encB L) [] = some L from this]
  show (if riseN L = 0 ∧ encB L = encB L then (L, 0) else ([], 3)) = _
  rw [if_pos ⟨h, rfl⟩]

theorem encTo_sharp (L : List Ce) (h : ∀ c ∈ L, isC c) : ∀ k : Nat, k ≤ L.length → (encTo L k).length ≤ wC (L.take k) + 49 * k := by
  intro k
  induction k with
  | zero => intro _; exact Nat.zero_le _
  | succ k ih =>
    intro hk
    have hkl : k < L.length := hk
    have i1 := ih (by omega)
    have hc := h _ (List.getElem_mem hkl)
    obtain ⟨g1, g2, g3, g4, g5, g6⟩ := hc
    have i2 := encC_len (aheadC L k) L[k] (by omega) (by omega) (by have := aheadC_len L h k; omega)
    rw [encTo_snoc, getD_c L hkl, List.length_append, wC_snoc L hkl]
    omega
theorem encB_len {L : List Ce} (h : riseN L = 0) (hw : wC L ≤ 6000) (hl : L.length ≤ 201) : (encB L).length ≤ 16000 := by
  have := encTo_sharp L (riseN_zero h).1 L.length (Nat.le_refl _)
  rw [List.take_length] at this
  unfold encB
  omega
theorem encR_zero {L : List Ce} (h : riseN L = 0) : encR L = encB L := if_pos h

theorem rises_lt {L : List Ce} (h : rises L) : ∀ (d i : Nat) (hi : i + d + 1 < L.length), lessC (L[i]'(by omega)) L[i + d + 1] = true := by
  intro d
  induction d with
  | zero =>
    intro i hi
    have := h (i + 1) hi (by omega)
    rw [getD_c L hi, show i + 1 - 1 = i by omega, getD_c L (by omega)] at this
    exact this
  | succ d ih =>
    intro i hi
    have h1 := ih i (by omega)
    have h2 := h (i + d + 1 + 1) hi (by omega)
    rw [getD_c L (k := i + d + 1 + 1) hi, show i + d + 1 + 1 - 1 = i + d + 1 by omega, getD_c L (k := i + d + 1) (by omega)] at h2
    exact lessC_trans h1 h2
theorem rises_at {L : List Ce} (h : rises L) {i j : Nat} (hij : i < j) (hj : j < L.length) : lessC (L[i]'(by omega)) L[j] = true := by
  obtain ⟨d, rfl⟩ : ∃ d, j = i + d + 1 := ⟨j - i - 1, by omega⟩
  exact rises_lt h d i hj
theorem lessC_key {a b : Ce} (h : lessC a b = true) (hk : a.key = b.key) : b.seq < a.seq := by
  unfold lessC at h
  rw [if_pos hk] at h
  exact of_decide_eq_true h
theorem firstC_key {L : List Ce} {key : List UInt8} {s : Int} {c : Ce} (h : firstC L key s = some c) : c.key = key ∧ c.seq ≤ s := by
  have := List.find?_some h
  simp only [Bool.and_eq_true, beq_iff_eq, decide_eq_true_eq] at this
  exact this
theorem firstC_at {L : List Ce} (h : rises L) {i : Nat} (hi : i < L.length) : firstC L L[i].key L[i].seq = some L[i] := by
  unfold firstC
  rw [List.find?_eq_some_iff_getElem]
  refine ⟨by simp, i, hi, rfl, fun j hj => ?_⟩
  have hl := rises_at h hj hi
  simp only [Bool.not_eq_true', Bool.and_eq_false_iff, beq_eq_false_iff_ne, decide_eq_false_iff_not]
  by_cases hk : L[j].key = L[i].key
  · exact .inr (by have := lessC_key hl hk; omega)
  · exact .inl hk
theorem seekB_at {L : List Ce} (h : riseN L = 0) {i : Nat} (hi : i < L.length) : seekB (encB L) L[i].key L[i].seq = ((L[i], true), 0) := by
  unfold seekB
  rw [decB_enc h]
  simp only
  rw [if_pos trivial, firstC_at (riseN_zero h).2 hi]
  rfl
theorem seekB_enc {L : List Ce} (h : riseN L = 0) (key : List UInt8) (s : Int) : seekB (encB L) key s = (outS (firstC L key s), 0) := by
  unfold seekB
  rw [decB_enc h]
  simp only
  rw [if_pos trivial]
theorem firstC_up {L : List Ce} (h : rises L) {key : List UInt8} {a b : Int} (hab : a ≤ b) {x : Ce} (hx : firstC L key a = some x) : ∃ y, firstC L key b = some y ∧ x.seq ≤ y.seq := by
  have hx2 := hx
  unfold firstC at hx2
  rw [List.find?_eq_some_iff_getElem] at hx2
  obtain ⟨p1, i, hi, rfl, p2⟩ := hx2
  simp only [Bool.and_eq_true, beq_iff_eq, decide_eq_true_eq] at p1
  cases hy : firstC L key b with
  | none =>
    unfold firstC at hy
    rw [List.find?_eq_none] at hy
    have := hy L[i] (List.getElem_mem hi)
    simp only [Bool.and_eq_true, beq_iff_eq, decide_eq_true_eq] at this
    exact absurd ⟨p1.1, by omega⟩ this
  | some y =>
    refine ⟨y, rfl, ?_⟩
    have hy2 := hy
    unfold firstC at hy2
    rw [List.find?_eq_some_iff_getElem] at hy2
    obtain ⟨q1, j, hj, rfl, q2⟩ := hy2
    simp only [Bool.and_eq_true, beq_iff_eq, decide_eq_true_eq] at q1
    rcases Nat.lt_trichotomy j i with hji | rfl | hij
    · exact Int.le_of_lt (lessC_key (rises_at h hji hi) (by rw [q1.1, p1.1]))
    · exact Int.le_refl _
    · have := q2 i hij
      simp only [Bool.not_eq_true', Bool.and_eq_false_iff, beq_eq_false_iff_ne, decide_eq_false_iff_not] at this
      rcases this with hne | hne
      · exact absurd p1.1 hne
      · exact absurd (show L[i].seq ≤ b by omega) hne
end Go.Proofs.Ytlfooppmdgddkaa
