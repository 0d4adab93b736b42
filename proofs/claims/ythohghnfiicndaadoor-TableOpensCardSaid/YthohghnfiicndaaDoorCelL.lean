/- block: the laws Looks and Order. -/
import Derived.Test.YthohghnfiicndaaDoorCelH
import Derived.WideShapes
import Derived.Deep.DeepCutAuto
import Derived.Test.YthohghnfiicndaaDoorOctU
namespace Go.Proofs.YthohghnfiicndaaDoor
open Go.RowKit Go.WideShapes Go.ChangeShapes
set_option maxRecDepth 100000

section
variable {H : Type} {enc : TypeId × Value → H} {W : World} {base : Nat} {spare : Nat → Bool} {held : Bool} {v : Value} {d : DataW H} {p : List MemPlace}
theorem cell_each (cs : List Value) (x : DataW H × List MemPlace) (n : Nat) (h : DataW.trod enc Tryd.prog W base spare held n 37 cs = some x) (hl : Light Tryd.prog 37 x.1) :
    ∃ c : Ce, cs = cel c ∧ CFits c := by
  obtain ⟨xs, m, _, rfl, hlen, hxl, hfi⟩ := DataW.trod_struct Tryd.underlying37 h
  have hc : Tryd.prog.cellsOf 37 = 4 := by kernel_rfl
  match xs, hxl, cs, hlen.trans hc with
  | [y0, y1, y2, y3], _, [v0, v1, v2, v3], _ =>
    have k1 : Tryd.prog.cellsOf 3 = 1 := by kernel_rfl
    have k3 : Tryd.prog.cellsOf 4 = 1 := by kernel_rfl
    have k4 : Tryd.prog.cellsOf 9 = 1 := by kernel_rfl
    have g0 : DataW.trod enc Tryd.prog W base spare held m 9 (([v0, v1, v2, v3].drop 0).take (Tryd.prog.cellsOf 9)) = some y0 := hfi 0 _ rfl
    rw [k4] at g0
    replace g0 : DataW.trod enc Tryd.prog W base spare held m 9 [v0] = some y0 := g0
    have g1 : DataW.trod enc Tryd.prog W base spare held m 9 (([v0, v1, v2, v3].drop 1).take (Tryd.prog.cellsOf 9)) = some y1 := hfi 1 _ rfl
    rw [k4] at g1
    replace g1 : DataW.trod enc Tryd.prog W base spare held m 9 [v1] = some y1 := g1
    have g2 : DataW.trod enc Tryd.prog W base spare held m 4 (([v0, v1, v2, v3].drop 2).take (Tryd.prog.cellsOf 4)) = some y2 := hfi 2 _ rfl
    rw [k3] at g2
    replace g2 : DataW.trod enc Tryd.prog W base spare held m 4 [v2] = some y2 := g2
    have g3 : DataW.trod enc Tryd.prog W base spare held m 3 (([v0, v1, v2, v3].drop 3).take (Tryd.prog.cellsOf 3)) = some y3 := hfi 3 _ rfl
    rw [k1] at g3
    replace g3 : DataW.trod enc Tryd.prog W base spare held m 3 [v3] = some y3 := g3
    obtain ⟨x0, q0, z0, _⟩ := DataW.trod_string Tryd.underlying9 g0
    obtain ⟨x1, q1, z1, _⟩ := DataW.trod_string Tryd.underlying9 g1
    obtain ⟨b2, q2, _⟩ := DataW.trod_bool Tryd.underlying4 g2
    obtain ⟨n3, q3, _, _⟩ := DataW.trod_int Tryd.underlying3 g3
    have l0 := Light.part (j := 0) Tryd.underlying37 hl rfl rfl
    have l1 := Light.part (j := 1) Tryd.underlying37 hl rfl rfl
    rw [z0] at l0
    rw [z1] at l1
    injection q0 with q0
    injection q1 with q1
    injection q2 with q2
    injection q3 with q3
    exact ⟨⟨x0.data.toList, x1.data.toList, b2, n3⟩, by rw [q0, q1, q2, q3, sv_of x0, sv_of x1], l0.str, l1.str⟩
theorem cells_in (h : DataW.Trod enc Tryd.prog W base spare held 22 v d p) (hv : ∃ a len cap, v = .slice a len cap) (hl : Light Tryd.prog 22 d) :
    ∃ L, Cs W (fun _ => True) v L ∧ LFits L := by
  obtain ⟨L, h1, h2, h3⟩ := recs_in cel cel_len CFits Tryd.underlying22 (by kernel_rfl) (bts := 48) (by kernel_rfl) cell_each hv h hl
  exact ⟨L, h1, h2, h3⟩
theorem cell_in {r : Reach} {b0 : Nat} (h : DataW.Trod enc Tryd.prog W base spare held 37 v d p) (hv : Value.okWide Tryd.prog W r b0 37 v) (hl : Light Tryd.prog 37 d) :
    ∃ c : Ce, v = .agg (car c) ∧ CFits c := by
  obtain ⟨cs, rfl, hsz⟩ := okWide_struct Tryd.underlying37 hv
  obtain ⟨fuel, hf⟩ := h
  obtain ⟨c, h1, h2⟩ := cell_each _ _ _ hf hl
  have : cs = car c := by
    apply Array.toList_inj.1
    simpa [Value.cells] using h1
  exact ⟨c, by rw [this], h2⟩
end

theorem less_asym : ∀ (x y : List UInt8), x ≠ y → Op.bytesLess x y = !Op.bytesLess y x
  | [], [], h => absurd rfl h
  | [], _ :: _, _ => rfl
  | _ :: _, [], _ => rfl
  | a :: x, b :: y, h => by
    show (decide (a < b) || (a == b && Op.bytesLess x y)) = !(decide (b < a) || (b == a && Op.bytesLess y x))
    by_cases hab : a = b
    · subst hab
      rw [decide_eq_false (by simp), beq_self_eq_true, less_asym x y (fun e => h (by rw [e]))]
      simp
    · rw [beq_eq_false_iff_ne.2 hab, beq_eq_false_iff_ne.2 (Ne.symm hab)]
      have : decide (b < a) = !decide (a < b) := by
        by_cases h1 : a < b
        · have h2 : ¬ b < a := by rw [UInt8.lt_iff_toNat_lt] at *; omega
          rw [decide_eq_true h1, decide_eq_false h2]; rfl
        · have h2 : b < a := by
            have : a.toNat ≠ b.toNat := fun e => hab (UInt8.toNat_inj.1 e)
            rw [UInt8.lt_iff_toNat_lt] at *; omega
          rw [decide_eq_false h1, decide_eq_true h2]; rfl
      rw [this]
      simp
theorem less_trans : ∀ (x y z : List UInt8), Op.bytesLess x y = true → Op.bytesLess y z = true → Op.bytesLess x z = true
  | [], [], _, h, _ => by cases h
  | _ :: _, [], _, h, _ => by cases h
  | [], _ :: _, [], _, h => by cases h
  | _ :: _, _ :: _, [], _, h => by cases h
  | [], _ :: _, _ :: _, _, _ => rfl
  | a :: x, b :: y, c :: z, h1, h2 => by
    have e1 : (decide (a < b) || (a == b && Op.bytesLess x y)) = true := h1
    have e2 : (decide (b < c) || (b == c && Op.bytesLess y z)) = true := h2
    show (decide (a < c) || (a == c && Op.bytesLess x z)) = true
    simp only [Bool.or_eq_true, Bool.and_eq_true, decide_eq_true_eq, beq_iff_eq] at *
    rcases e1 with e1 | ⟨rfl, e1⟩
    · left
      rcases e2 with e2 | ⟨rfl, _⟩
      · rw [UInt8.lt_iff_toNat_lt] at *; omega
      · exact e1
    · rcases e2 with e2 | ⟨rfl, e2⟩
      · exact .inl e2
      · exact .inr ⟨rfl, less_trans x y z e1 e2⟩
theorem lessC_one {a b : Ce} (h : a.key = b.key ∧ a.seq = b.seq) : lessC a b = false := by
  unfold lessC
  rw [if_pos h.1, h.2, decide_eq_false (by omega)]
theorem lessC_other {a b : Ce} (h : ¬ (a.key = b.key ∧ a.seq = b.seq)) : lessC a b = !lessC b a := by
  unfold lessC
  by_cases hk : a.key = b.key
  · rw [if_pos hk, if_pos hk.symm]
    have hs : a.seq ≠ b.seq := fun e => h ⟨hk, e⟩
    by_cases h1 : b.seq < a.seq
    · rw [decide_eq_true h1, decide_eq_false (by omega)]; rfl
    · rw [decide_eq_false h1, decide_eq_true (by omega)]; rfl
  · rw [if_neg hk, if_neg (Ne.symm hk)]
    exact less_asym _ _ hk
theorem lessC_trans {a b c : Ce} (h1 : lessC a b = true) (h2 : lessC b c = true) : lessC a c = true := by
  unfold lessC at *
  by_cases hab : a.key = b.key
  · rw [if_pos hab] at h1
    by_cases hbc : b.key = c.key
    · rw [if_pos hbc] at h2
      rw [if_pos (hab.trans hbc)]
      have := of_decide_eq_true h1
      have := of_decide_eq_true h2
      exact decide_eq_true (by omega)
    · rw [if_neg hbc] at h2
      rw [if_neg (by rw [hab]; exact hbc), hab]
      exact h2
  · rw [if_neg hab] at h1
    by_cases hbc : b.key = c.key
    · rw [if_neg (by rw [← hbc]; exact hab), ← hbc]
      exact h1
    · rw [if_neg hbc] at h2
      have h3 := less_trans _ _ _ h1 h2
      by_cases hac : a.key = c.key
      · rw [hac, less_self] at h3; cases h3
      · rw [if_neg hac]; exact h3

end Go.Proofs.YthohghnfiicndaaDoor
namespace Go.Proofs.YthohghnfiicndaaDoor
open Go.RowKit
set_option maxRecDepth 100000

theorem comm_take : ∀ (a b : List UInt8), a.take (comm a b) = b.take (comm a b)
  | [], b => by cases b <;> rfl
  | a :: x, [] => rfl
  | a :: x, b :: y => by
    show (a :: x).take (if a = b then comm x y + 1 else 0) = (b :: y).take (if a = b then comm x y + 1 else 0)
    by_cases h : a = b
    · rw [if_pos h, List.take_succ_cons, List.take_succ_cons, comm_take x y, h]
    · rw [if_neg h, List.take_zero, List.take_zero]

theorem riseN_zero {L : List Ce} (h : riseN L = 0) : (∀ c ∈ L, isC c) ∧ rises L := by
  unfold riseN at h
  by_cases h1 : ∀ c ∈ L, isC c
  · rw [if_pos h1] at h
    by_cases h2 : rises L
    · exact ⟨h1, h2⟩
    · rw [if_neg h2] at h
      cases h
  · rw [if_neg h1] at h
    cases h

theorem takeC_enc {a ah rest : List UInt8} {c : Ce} (h : isC c) (ha : a = [] ∨ a = ah) : takeC ah (some (encC a c ++ rest)) = (c, some rest) := by
  obtain ⟨h1, h2, h3, h4, h5, h6⟩ := h
  have hle := comm_le a c.key
  have hn : comm a c.key ≤ ah.length := by
    rcases ha with rfl | rfl
    · exact Nat.le_trans hle.1 (Nat.zero_le _)
    · exact hle.1
  have ht : ah.take (comm a c.key) ++ c.key.drop (comm a c.key) = c.key := by
    rcases ha with rfl | rfl
    · have : comm [] c.key = 0 := by simpa using hle.1
      rw [this]
      simp
    · rw [comm_take, List.take_append_drop]
  have hs : ((clamp c.seq : Nat) : Int) = c.seq := by unfold clamp; omega
  have hd : (c.key.drop (comm a c.key)).length ≤ 4611686018427387904 := by simp only [List.length_drop]; omega
  have hv : c.val.length ≤ 4611686018427387904 := by omega
  have hc := clamp_le c.seq
  have hall : ∀ T : List UInt8, enc7 (comm a c.key) ++ (enc7 (c.key.drop (comm a c.key)).length ++ c.key.drop (comm a c.key)) ++ enc7 (clamp c.seq) ++ T ++ rest = enc7 (comm a c.key) ++ ((enc7 (c.key.drop (comm a c.key)).length ++ c.key.drop (comm a c.key)) ++ (enc7 (clamp c.seq) ++ (T ++ rest))) := by
    intro T
    simp only [List.append_assoc]
  have e1 := fun R => takeN_enc (comm a c.key) R (by omega)
  have e2 := fun R => takeB_enc (c.key.drop (comm a c.key)) R hd
  have e3 := fun R => takeN_enc (clamp c.seq) R hc
  unfold encC takeC
  rw [hall, e1]
  simp only
  rw [if_neg (Nat.not_lt.2 hn), e2]
  simp only
  rw [e3]
  simp only
  cases hdel : c.del with
  | true =>
    have e4 : takeN (some ((if (true : Bool) = true then enc7 1 else enc7 0 ++ (enc7 c.val.length ++ c.val)) ++ rest)) = (1, some rest) := takeN_enc 1 rest (by omega)
    rw [e4]
    simp only
    rw [if_pos trivial, ht, hs, ← h4 hdel, ← hdel]
  | false =>
    have e4 := takeN_enc 0 (enc7 c.val.length ++ c.val ++ rest) (by omega)
    have e5 := takeB_enc c.val rest hv
    have e6 : takeN (some ((if (false : Bool) = true then enc7 1 else enc7 0 ++ (enc7 c.val.length ++ c.val)) ++ rest)) = (0, some (enc7 c.val.length ++ c.val ++ rest)) := by
      rw [if_neg (by decide), ← e4]
      simp only [List.append_assoc]
    rw [e6]
    simp only
    rw [if_neg (by decide), if_neg (by decide), e5]
    simp only
    rw [ht, hs, ← hdel]

def encS (L : List Ce) (k : Nat) : List UInt8 := (List.range' k (L.length - k)).flatMap fun i => encC (aheadC L i) (L.getD i default)
def prevC (L : List Ce) (k : Nat) : List UInt8 := if k = 0 then [] else (L.getD (k - 1) default).key
theorem encS_zero (L : List Ce) : encS L 0 = encB L := by
  unfold encS encB encTo
  rw [List.range_eq_range']
  rfl
theorem encS_step (L : List Ce) {k : Nat} (h : k < L.length) : encS L k = encC (aheadC L k) (L.getD k default) ++ encS L (k + 1) := by
  unfold encS
  rw [show L.length - k = (L.length - (k + 1)) + 1 by omega, List.range'_succ, List.flatMap_cons]
theorem encS_end (L : List Ce) : encS L L.length = [] := by
  unfold encS
  rw [Nat.sub_self]
  rfl
theorem encC_pos (a : List UInt8) (c : Ce) : 0 < (encC a c).length := by
  have := enc7_pos (comm a c.key)
  unfold encC
  simp only [List.length_append]
  omega
theorem ahead_prev (L : List Ce) (k : Nat) : aheadC L k = [] ∨ aheadC L k = prevC L k := by
  unfold aheadC prevC
  by_cases h : k % 4 = 0
  · exact .inl (if_pos h)
  · rw [if_neg h, if_neg (fun e => h (by rw [e]))]
    exact .inr rfl

theorem decF_enc {L : List Ce} (h : ∀ c ∈ L, isC c) : ∀ (m k f : Nat), k + m = L.length → (encS L k).length < f → decF f (prevC L k) (encS L k) (L.take k) = some L := by
  intro m
  induction m with
  | zero =>
    intro k f hk hf
    obtain rfl : k = L.length := by omega
    rw [encS_end] at hf ⊢
    obtain ⟨f, rfl⟩ : ∃ g, f = g + 1 := ⟨f - 1, by simp only [List.length_nil] at hf; omega⟩
    show (if ([] : List UInt8) = [] then some (L.take L.length) else _) = _
    rw [if_pos rfl, List.take_length]
  | succ m ih =>
    intro k f hk hf
    have hkl : k < L.length := by omega
    obtain ⟨f, rfl⟩ : ∃ g, f = g + 1 := ⟨f - 1, by omega⟩
    have hs := encS_step L hkl
    have hp := encC_pos (aheadC L k) (L.getD k default)
    have hc : isC (L.getD k default) := by rw [getD_c L hkl]; exact h _ (List.getElem_mem hkl)
    have hne : encS L k ≠ [] := by
      intro e
      have := congrArg List.length e
      rw [hs, List.length_append, List.length_nil] at this
      omega
    have hlen : (encS L (k + 1)).length < f := by
      rw [hs, List.length_append] at hf
      omega
    have ht : takeC (prevC L k) (some (encS L k)) = (L.getD k default, some (encS L (k + 1))) := by
      rw [hs]
      exact takeC_enc hc (ahead_prev L k)
    unfold decF
    rw [if_neg hne, ht]
    simp only
    rw [if_pos hc]
    have h2 : L.take k ++ [L.getD k default] = L.take (k + 1) := by rw [getD_c L hkl, List.take_append_getElem hkl]
    rw [h2]
    have h3 : (L.getD k default).key = prevC L (k + 1) := by
      unfold prevC
      rw [if_neg (by omega)]
      rfl
    rw [h3]
    exact ih (k + 1) f (by omega) hlen

theorem decB_enc {L : List Ce} (h : riseN L = 0) : decB (encB L) = (L, 0) := by
  have hz := riseN_zero h
  have := decF_enc hz.1 L.length 0 ((encB L).length + 1) (by omega) (by rw [encS_zero]; omega)
  rw [encS_zero] at this
  unfold decB
  rw [show decF ((encB L).length + 1) [] (encB L) [] = some L from this]
  show (if riseN L = 0 ∧ encB L = encB L then (L, 0) else ([], 3)) = _
  rw [if_pos ⟨h, rfl⟩]

theorem encTo_sharp (L : List Ce) (h : ∀ c ∈ L, isC c) : ∀ k : Nat, k ≤ L.length → (encTo L k).length ≤ wC (L.take k) + 49 * k := by
  intro k
  induction k with
  | zero => intro _; exact Nat.zero_le _
  | succ k ih =>
    intro hk
    have hkl : k < L.length := hk
    have i1 := ih (by omega)
    have hc := h _ (List.getElem_mem hkl)
    obtain ⟨g1, g2, g3, g4, g5, g6⟩ := hc
    have i2 := encC_len (aheadC L k) L[k] (by omega) (by omega) (by have := aheadC_len L h k; omega)
    rw [encTo_snoc, getD_c L hkl, List.length_append, wC_snoc L hkl]
    omega
theorem encB_len {L : List Ce} (h : riseN L = 0) (hw : wC L ≤ 6000) (hl : L.length ≤ 201) : (encB L).length ≤ 16000 := by
  have := encTo_sharp L (riseN_zero h).1 L.length (Nat.le_refl _)
  rw [List.take_length] at this
  unfold encB
  omega
theorem encR_zero {L : List Ce} (h : riseN L = 0) : encR L = encB L := if_pos h

theorem rises_lt {L : List Ce} (h : rises L) : ∀ (d i : Nat) (hi : i + d + 1 < L.length), lessC (L[i]'(by omega)) L[i + d + 1] = true := by
  intro d
  induction d with
  | zero =>
    intro i hi
    have := h (i + 1) hi (by omega)
    rw [getD_c L hi, show i + 1 - 1 = i by omega, getD_c L (by omega)] at this
    exact this
  | succ d ih =>
    intro i hi
    have h1 := ih i (by omega)
    have h2 := h (i + d + 1 + 1) hi (by omega)
    rw [getD_c L (k := i + d + 1 + 1) hi, show i + d + 1 + 1 - 1 = i + d + 1 by omega, getD_c L (k := i + d + 1) (by omega)] at h2
    exact lessC_trans h1 h2
theorem rises_at {L : List Ce} (h : rises L) {i j : Nat} (hij : i < j) (hj : j < L.length) : lessC (L[i]'(by omega)) L[j] = true := by
  obtain ⟨d, rfl⟩ : ∃ d, j = i + d + 1 := ⟨j - i - 1, by omega⟩
  exact rises_lt h d i hj
theorem lessC_key {a b : Ce} (h : lessC a b = true) (hk : a.key = b.key) : b.seq < a.seq := by
  unfold lessC at h
  rw [if_pos hk] at h
  exact of_decide_eq_true h
theorem firstC_key {L : List Ce} {key : List UInt8} {s : Int} {c : Ce} (h : firstC L key s = some c) : c.key = key ∧ c.seq ≤ s := by
  have := List.find?_some h
  simp only [Bool.and_eq_true, beq_iff_eq, decide_eq_true_eq] at this
  exact this
theorem firstC_at {L : List Ce} (h : rises L) {i : Nat} (hi : i < L.length) : firstC L L[i].key L[i].seq = some L[i] := by
  unfold firstC
  rw [List.find?_eq_some_iff_getElem]
  refine ⟨by simp, i, hi, rfl, fun j hj => ?_⟩
  have hl := rises_at h hj hi
  simp only [Bool.not_eq_true', Bool.and_eq_false_iff, beq_eq_false_iff_ne, decide_eq_false_iff_not]
  by_cases hk : L[j].key = L[i].key
  · exact .inr (by have := lessC_key hl hk; omega)
  · exact .inl hk
theorem seekB_at {L : List Ce} (h : riseN L = 0) {i : Nat} (hi : i < L.length) : seekB (encB L) L[i].key L[i].seq = ((L[i], true), 0) := by
  unfold seekB
  rw [decB_enc h]
  simp only
  rw [if_pos trivial, firstC_at (riseN_zero h).2 hi]
  rfl
theorem seekB_enc {L : List Ce} (h : riseN L = 0) (key : List UInt8) (s : Int) : seekB (encB L) key s = (outS (firstC L key s), 0) := by
  unfold seekB
  rw [decB_enc h]
  simp only
  rw [if_pos trivial]
theorem firstC_up {L : List Ce} (h : rises L) {key : List UInt8} {a b : Int} (hab : a ≤ b) {x : Ce} (hx : firstC L key a = some x) : ∃ y, firstC L key b = some y ∧ x.seq ≤ y.seq := by
  have hx2 := hx
  unfold firstC at hx2
  rw [List.find?_eq_some_iff_getElem] at hx2
  obtain ⟨p1, i, hi, rfl, p2⟩ := hx2
  simp only [Bool.and_eq_true, beq_iff_eq, decide_eq_true_eq] at p1
  cases hy : firstC L key b with
  | none =>
    unfold firstC at hy
    rw [List.find?_eq_none] at hy
    have := hy L[i] (List.getElem_mem hi)
    simp only [Bool.and_eq_true, beq_iff_eq, decide_eq_true_eq] at this
    exact absurd ⟨p1.1, by omega⟩ this
  | some y =>
    refine ⟨y, rfl, ?_⟩
    have hy2 := hy
    unfold firstC at hy2
    rw [List.find?_eq_some_iff_getElem] at hy2
    obtain ⟨q1, j, hj, rfl, q2⟩ := hy2
    simp only [Bool.and_eq_true, beq_iff_eq, decide_eq_true_eq] at q1
    rcases Nat.lt_trichotomy j i with hji | rfl | hij
    · exact Int.le_of_lt (lessC_key (rises_at h hji hi) (by rw [q1.1, p1.1]))
    · exact Int.le_refl _
    · have := q2 i hij
      simp only [Bool.not_eq_true', Bool.and_eq_false_iff, beq_eq_false_iff_ne, decide_eq_false_iff_not] at this
      rcases this with hne | hne
      · exact absurd p1.1 hne
      · exact absurd (show L[i].seq ≤ b by omega) hne
end Go.Proofs.YthohghnfiicndaaDoor
namespace Go.Proofs.YthohghnfiicndaaDoor
open Go.RowKit
set_option maxRecDepth 100000

set_option maxHeartbeats 8000000 in
theorem rise_any {w : World} {S : Nat → Prop} {v : Value} {L : List Ce} (h : Cs w S v L) (hw : wC L ≤ 1000000000) :
    Calls Tryd.prog 23 #[v] w fun e w' => e = .returned (.int .i64 (riseN L : Nat)) ∧ Ext w w' := by
  have hlw := wC_len L
  obtain ⟨A, c, rfl, h1, h2, h3, h4⟩ := h.open_ cel_len
  obtain ⟨R, hR⟩ : ∃ R, R = riseN L := ⟨_, rfl⟩
  rw [← hR]
  unfold riseN at hR
  replace hR := Lib.hid hR
  clear h
  go_enter Tryd.func23, Tryd.ntmps23
  go_wp2_with fail
  go_loopw [3] (fun i wr => ∃ k : Nat, k ≤ L.length ∧ i = .int .i64 k ∧ Hid (∀ c ∈ L.take k, isC c) ∧ Ext w wr) (fun i _ => L.length - (intOf i).toNat)
  case atStart => exact ⟨0, Nat.zero_le _, rfl, Lib.hid (by simp), Mod.refl _ _⟩
  case round =>
    obtain ⟨k, hk, rfl, hs, q3⟩ := hrel
    by_cases hlt : k < L.length
    · have hbl : decide ((k : Int) < (L.length : Int)) = true := dtrue (by omega)
      obtain ⟨ad, hA, hS, c0, c1, c2, c3⟩ := Cs.at_ (h4.ext q3) hlt
      subst hA
      have hin : ¬ isC L[k] → R = 1 := fun hn => by rw [hR.out, if_neg (fun h => hn (h _ (List.getElem_mem hlt)))]
      have hsn : isC L[k] → ∀ c ∈ L.take (k + 1), isC c := fun hi c hc => by
        rw [List.take_succ_eq_append_getElem hlt] at hc
        rcases List.mem_append.1 hc with hc | hc
        · exact hs.out c hc
        · rw [List.mem_singleton.1 hc]; exact hi
      have hi0 : (0 : Int) ≤ (k : Int) := by omega
      have hi1 : (k : Int) < (L.length : Int) := by omega
      generalize L[k] = x at *
      go_wp2_with fail
      refine (ris_any x).mono ?_
      rintro e w2 ⟨rfl, x2⟩
      have q4 : Ext w w2 := ext_trans q3 x2
      by_cases hx : isC x
      · rw [dtrue hx]
        have hs2 := Lib.hid (hsn hx)
        clear hin hsn
        go_wp2_with fail
        exact ⟨⟨k + 1, by omega, by go_num, hs2, q4⟩, by simp [intOf] <;> omega⟩
      · rw [dfalse hx]
        have hR1 := Lib.hid (hin hx)
        clear hin hsn
        go_wp2_with fail
        go_ret
        exact ⟨by rw [hR1.out]; rfl, q4⟩
    have hbl : decide ((k : Int) < (L.length : Int)) = false := dfalse (by omega)
    have hall : ∀ c ∈ L, isC c := by have := hs.out; rwa [List.take_of_length_le (by omega)] at this
    have hR2 := hR.out
    rw [if_pos hall] at hR2
    clear hR hs
    replace hR := Lib.hid hR2
    clear hR2 hbl hall
    go_wp2_with fail
    clear hk hlt
    go_loopw [4] (fun i wr => ∃ j : Nat, j ≤ L.length ∧ i = .int .i64 ((j : Int) + 1) ∧ Hid (∀ i, i < j + 1 → 0 < i → lessC (L.getD (i - 1) default) (L.getD i default) = true) ∧ Ext w wr) (fun i _ => L.length + 1 - (intOf i).toNat)
    case atStart => exact ⟨0, Nat.zero_le _, rfl, Lib.hid (fun i hi h0 => by omega), q3⟩
    case round =>
      clear q3
      obtain ⟨j, hjl, rfl, hs, q3⟩ := hrel
      by_cases hlt : j + 1 < L.length
      · have hbl : decide ((j : Int) + 1 < (L.length : Int)) = true := dtrue (by omega)
        have hj : j < L.length := by omega
        have hx : ∀ {wx : World}, Ext w wx → ∃ ad, A = some ad ∧ wx.cell? (ad.add (j * 4)) = some (sv L[j].key) ∧ wx.cell? ⟨(ad.add (j * 4)).block, (ad.add (j * 4)).off + 1, none⟩ = some (sv L[j].val) ∧ wx.cell? ⟨(ad.add (j * 4)).block, (ad.add (j * 4)).off + 2, none⟩ = some (.bool L[j].del) ∧ wx.cell? ⟨(ad.add (j * 4)).block, (ad.add (j * 4)).off + 3, none⟩ = some (.int .i64 L[j].seq) ∧ wx.cell? (ad.add ((j + 1) * 4)) = some (sv L[j + 1].key) ∧ wx.cell? ⟨(ad.add ((j + 1) * 4)).block, (ad.add ((j + 1) * 4)).off + 1, none⟩ = some (sv L[j + 1].val) ∧ wx.cell? ⟨(ad.add ((j + 1) * 4)).block, (ad.add ((j + 1) * 4)).off + 2, none⟩ = some (.bool L[j + 1].del) ∧ wx.cell? ⟨(ad.add ((j + 1) * 4)).block, (ad.add ((j + 1) * 4)).off + 3, none⟩ = some (.int .i64 L[j + 1].seq) := fun hx => by
          obtain ⟨ad, hA, _, d0, d1, d2, d3⟩ := Cs.at_ (h4.ext hx) hj
          obtain ⟨ad', hA', _, e0, e1, e2, e3⟩ := Cs.at_ (h4.ext hx) hlt
          rw [hA] at hA'
          cases hA'
          exact ⟨ad, hA, d0, d1, d2, d3, e0, e1, e2, e3⟩
        obtain ⟨ad, hA, _⟩ := hx q3
        subst hA
        have hls : lessC L[j] L[j + 1] = true → ∀ i, i < j + 1 + 1 → 0 < i → lessC (L.getD (i - 1) default) (L.getD i default) = true := fun hl i hi h0 => by
          by_cases hij : i = j + 1
          · subst hij
            rw [show j + 1 - 1 = j by omega, getD_c L hj, getD_c L hlt]; exact hl
          · exact hs.out i (by omega) h0
        have hno : lessC L[j] L[j + 1] = false → R = 11 := fun hl => by
          rw [hR.out, if_neg]
          intro hr
          have := hr (j + 1) hlt (by omega)
          rw [show j + 1 - 1 = j by omega, getD_c L hj, getD_c L hlt, hl] at this
          cases this
        have hi0 : (0 : Int) ≤ (j : Int) := by omega
        have hi1 : (j : Int) + 1 < (L.length : Int) := by omega
        have hi2 : (j : Int) < (L.length : Int) := by omega
        have hi3 : (0 : Int) ≤ (j : Int) + 1 := by omega
        have hi5 : IntKind.i64.wrap (j : Int) = (j : Int) := by rw [IntKind.wrap_i64]; omega
        generalize L[j] = x at *
        generalize L[j + 1] = y at *
        have q0 : Ext w wr.drew := q3.drew
        have hcx : ∀ {wx : World}, Ext w wx → wx.cell? (ad.add (j * 4)) = some (sv x.key) ∧ wx.cell? ⟨(ad.add (j * 4)).block, (ad.add (j * 4)).off + 1, none⟩ = some (sv x.val) ∧ wx.cell? ⟨(ad.add (j * 4)).block, (ad.add (j * 4)).off + 2, none⟩ = some (.bool x.del) ∧ wx.cell? ⟨(ad.add (j * 4)).block, (ad.add (j * 4)).off + 3, none⟩ = some (.int .i64 x.seq) ∧ wx.cell? (ad.add ((j + 1) * 4)) = some (sv y.key) ∧ wx.cell? ⟨(ad.add ((j + 1) * 4)).block, (ad.add ((j + 1) * 4)).off + 1, none⟩ = some (sv y.val) ∧ wx.cell? ⟨(ad.add ((j + 1) * 4)).block, (ad.add ((j + 1) * 4)).off + 2, none⟩ = some (.bool y.del) ∧ wx.cell? ⟨(ad.add ((j + 1) * 4)).block, (ad.add ((j + 1) * 4)).off + 3, none⟩ = some (.int .i64 y.seq) := fun h => by
          obtain ⟨ad', hA, d⟩ := hx h
          cases hA
          exact d
        have hless := fun wx => rless_any (w := wx) x y
        cases hl : lessC x y
        · rw [hl] at hless
          have hR1 := Lib.hid (hno hl)
          clear hx hls hno hl
          go_wp2_with fail
          go_region_held3 (fun w' => w'.cell? (ad.add (j * 4)) = some (sv x.key) ∧ w'.cell? ⟨(ad.add (j * 4)).block, (ad.add (j * 4)).off + 1, none⟩ = some (sv x.val) ∧ w'.cell? ⟨(ad.add (j * 4)).block, (ad.add (j * 4)).off + 2, none⟩ = some (.bool x.del) ∧ w'.cell? ⟨(ad.add (j * 4)).block, (ad.add (j * 4)).off + 3, none⟩ = some (.int .i64 x.seq) ∧ w'.cell? (ad.add ((j + 1) * 4)) = some (sv y.key) ∧ w'.cell? ⟨(ad.add ((j + 1) * 4)).block, (ad.add ((j + 1) * 4)).off + 1, none⟩ = some (sv y.val) ∧ w'.cell? ⟨(ad.add ((j + 1) * 4)).block, (ad.add ((j + 1) * 4)).off + 2, none⟩ = some (.bool y.del) ∧ w'.cell? ⟨(ad.add ((j + 1) * 4)).block, (ad.add ((j + 1) * 4)).off + 3, none⟩ = some (.int .i64 y.seq)) (first | exact hcx q0 | exact hcx q1) (first
            | (go_at_call 58; (with_reducible refine (hless _).mono ?_); rintro e wa ⟨rfl, xa⟩; have q1 := ext_trans q0 xa))
          all_goals go_wp2_with fail
          all_goals go_ret
          all_goals exact ⟨by rw [hR1.out]; rfl, q1⟩
        · rw [hl] at hless
          have hs2 := Lib.hid (hls hl)
          clear hx hls hno hl
          go_wp2_with fail
          go_region_held3 (fun w' => w'.cell? (ad.add (j * 4)) = some (sv x.key) ∧ w'.cell? ⟨(ad.add (j * 4)).block, (ad.add (j * 4)).off + 1, none⟩ = some (sv x.val) ∧ w'.cell? ⟨(ad.add (j * 4)).block, (ad.add (j * 4)).off + 2, none⟩ = some (.bool x.del) ∧ w'.cell? ⟨(ad.add (j * 4)).block, (ad.add (j * 4)).off + 3, none⟩ = some (.int .i64 x.seq) ∧ w'.cell? (ad.add ((j + 1) * 4)) = some (sv y.key) ∧ w'.cell? ⟨(ad.add ((j + 1) * 4)).block, (ad.add ((j + 1) * 4)).off + 1, none⟩ = some (sv y.val) ∧ w'.cell? ⟨(ad.add ((j + 1) * 4)).block, (ad.add ((j + 1) * 4)).off + 2, none⟩ = some (.bool y.del) ∧ w'.cell? ⟨(ad.add ((j + 1) * 4)).block, (ad.add ((j + 1) * 4)).off + 3, none⟩ = some (.int .i64 y.seq)) (first | exact hcx q0 | exact hcx q1) (first
            | (go_at_call 58; (with_reducible refine (hless _).mono ?_); rintro e wa ⟨rfl, xa⟩; have q1 := ext_trans q0 xa))
          all_goals go_wp2_with fail
          all_goals exact ⟨⟨j + 1, by omega, by go_num, hs2, q1⟩, by simp [intOf] <;> omega⟩
      have hbl : decide ((j : Int) + 1 < (L.length : Int)) = false := dfalse (by omega)
      have hris : rises L := fun i hi h0 => hs.out i (by omega) h0
      have hR1 : Hid (R = 0) := Lib.hid (by rw [hR.out, if_pos hris])
      clear hR hs hris
      go_wp2_with fail
      go_ret
      exact ⟨by rw [hR1.out]; rfl, q3⟩
end Go.Proofs.YthohghnfiicndaaDoor
