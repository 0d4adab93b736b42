/- sorting files: two neighbouring ranges turned about. -/
import Derived.Test.YtmjkgibeljbloaaLsA
namespace Go.Proofs.Ytmjkgibeljbloaa
open Go.RowKit
set_option maxRecDepth 100000

/-- How the ranges stand in the k-th round. -/
structure Rot (T : List Fl) (m i j : Nat) (D : List Fl) (X P Q Z : List Fl) : Prop where
  hD : D = X ++ P ++ Q ++ Z
  hT : X ++ Q ++ P ++ Z = T
  hm : X.length + i = m
  hi : P.length = i
  hj : Q.length = j
  i1 : 1 ≤ i
  j1 : 1 ≤ j
theorem Rot.len {T : List Fl} {m i j : Nat} {D X P Q Z : List Fl} (h : Rot T m i j D X P Q Z) : D.length = T.length ∧ m + j ≤ D.length := by
  rw [← h.hT, h.hD]
  have := h.hm; have := h.hi; have := h.hj
  simp only [List.length_append]
  omega
/-- The left one is the longer. -/
theorem Rot.left {T : List Fl} {m i j : Nat} {D X P Q Z : List Fl} (h : Rot T m i j D X P Q Z) (hij : j < i) :
    D = X ++ P.take j ++ P.drop j ++ Q ++ Z ∧ (P.take j).length = Q.length ∧ X.length = m - i ∧ X.length + (P.take j).length + (P.drop j).length = m ∧ (P.take j).length = j ∧ Rot T m (i - j) j (X ++ Q ++ P.drop j ++ P.take j ++ Z) (X ++ Q) (P.drop j) (P.take j) Z := by
  have h1 := h.hm; have h2 := h.hi; have h3 := h.hj; have h4 := h.i1; have h5 := h.j1
  have l1 : (P.take j).length = j := by rw [List.length_take]; omega
  have l2 : (P.drop j).length = i - j := by rw [List.length_drop]; omega
  refine ⟨?_, by omega, by omega, by omega, l1, ⟨rfl, ?_, by rw [List.length_append]; omega, l2, l1, by omega, h5⟩⟩
  · rw [h.hD, List.append_assoc X (P.take j), List.take_append_drop]
  · rw [← h.hT, List.append_assoc (X ++ Q), List.take_append_drop]
/-- The right one is the longer. -/
theorem Rot.right {T : List Fl} {m i j : Nat} {D X P Q Z : List Fl} (h : Rot T m i j D X P Q Z) (hij : i < j) :
    D = X ++ P ++ Q.take (j - i) ++ Q.drop (j - i) ++ Z ∧ P.length = (Q.drop (j - i)).length ∧ X.length = m - i ∧ X.length + P.length + (Q.take (j - i)).length = m + j - i ∧ P.length = i ∧ Rot T m i (j - i) (X ++ Q.drop (j - i) ++ Q.take (j - i) ++ P ++ Z) X (Q.drop (j - i)) (Q.take (j - i)) (P ++ Z) := by
  have h1 := h.hm; have h2 := h.hi; have h3 := h.hj; have h4 := h.i1; have h5 := h.j1
  have l1 : (Q.take (j - i)).length = j - i := by rw [List.length_take]; omega
  have l2 : (Q.drop (j - i)).length = i := by rw [List.length_drop]; omega
  refine ⟨?_, by omega, by omega, by omega, h2, ⟨by simp only [List.append_assoc], ?_, h1, l2, l1, h4, by omega⟩⟩
  · rw [h.hD, List.append_assoc (X ++ P) (Q.take _), List.take_append_drop]
  · rw [← h.hT, List.append_assoc X, List.take_append_drop, ← List.append_assoc]
/-- Both are as long. -/
theorem Rot.same {T : List Fl} {m i : Nat} {D X P Q Z : List Fl} (h : Rot T m i i D X P Q Z) :
    D = X ++ P ++ [] ++ Q ++ Z ∧ P.length = Q.length ∧ X.length = m - i ∧ X.length + P.length + ([] : List Fl).length = m ∧ P.length = i ∧ X ++ Q ++ [] ++ P ++ Z = T := by
  have h1 := h.hm; have h2 := h.hi; have h3 := h.hj
  exact ⟨by rw [h.hD, List.append_nil], by omega, by omega, by rw [List.length_nil]; omega, h2, by rw [List.append_nil, h.hT]⟩
theorem swapRange_at {w : World} {g n c a b k : Nat} {D X P Y Q Z : List Fl} (h : OwnF w (slF g n c) D) (hn : n = D.length) (hl : n ≤ 1000000) (hD : D = X ++ P ++ Y ++ Q ++ Z) (hPQ : P.length = Q.length) (ha : X.length = a) (hb : X.length + P.length + Y.length = b) (hk : P.length = k) :
    Calls Try.prog 74 #[slF g n c, .int .i64 (a : Nat), .int .i64 (b : Nat), .int .i64 (k : Nat), cF] w fun e w' => e = .returned (.tuple #[]) ∧ OwnF w' (slF g n c) (X ++ Q ++ Y ++ P ++ Z) ∧ Mod (fun k => k = g) w w' := by
  subst ha hb hk hD
  exact swapRange_any h hn hPQ hl

set_option maxHeartbeats 32000000 in
theorem rotate_any {w : World} {g n c : Nat} {X P Q Z : List Fl} (h : OwnF w (slF g n c) (X ++ P ++ Q ++ Z)) (hn : n = (X ++ P ++ Q ++ Z).length) (hP : 1 ≤ P.length) (hQ : 1 ≤ Q.length) (hl : n ≤ 1000000) :
    Calls Try.prog 73 #[slF g n c, .int .i64 (X.length : Nat), .int .i64 (X.length + P.length : Nat), .int .i64 (X.length + P.length + Q.length : Nat), cF] w fun e w' => e = .returned (.tuple #[]) ∧ OwnF w' (slF g n c) (X ++ Q ++ P ++ Z) ∧ Mod (fun k => k = g) w w' := by
  obtain ⟨T, hT⟩ : ∃ T, T = X ++ Q ++ P ++ Z := ⟨_, rfl⟩
  have hr0 : Rot T (X.length + P.length) P.length Q.length (X ++ P ++ Q ++ Z) X P Q Z := ⟨rfl, hT.symm, rfl, rfl, rfl, hP, hQ⟩
  obtain ⟨D0, hD0⟩ : ∃ D, D = X ++ P ++ Q ++ Z := ⟨_, rfl⟩
  rw [← hT]
  rw [← hD0] at h hn hr0
  have hb := hr0.len
  have hTn : T.length = n := by omega
  obtain ⟨i0, hi0⟩ : ∃ i0, i0 = P.length := ⟨_, rfl⟩
  obtain ⟨j0, hj0⟩ : ∃ j0, j0 = Q.length := ⟨_, rfl⟩
  obtain ⟨a, ha⟩ : ∃ a, a = X.length := ⟨_, rfl⟩
  rw [← hi0] at hP
  rw [← hj0] at hQ
  rw [← hi0, ← hj0, ← ha] at hr0 hb ⊢
  have q1 : ((a + i0 : Nat) : Int) - (a : Int) = (i0 : Int) := by omega
  have q2 : ((a + i0 + j0 : Nat) : Int) - ((a + i0 : Nat) : Int) = (j0 : Int) := by omega
  obtain ⟨m, hm⟩ : ∃ m, m = a + i0 := ⟨_, rfl⟩
  obtain ⟨b, hbb⟩ : ∃ b, b = a + i0 + j0 := ⟨_, rfl⟩
  rw [← hbb, ← hm] at q2 ⊢
  rw [← hm] at q1 hr0 hb
  replace hn := Lib.hid hn
  replace hTn := Lib.hid hTn
  have hlm : m + j0 ≤ n := by have := hn.out; omega
  replace hb := Lib.hid hb
  replace hm := Lib.hid hm
  replace hbb := Lib.hid hbb
  have u1 : IntKind.i64.wrap ((m : Int) - (a : Int)) = (i0 : Int) := by have := hm.out; rw [IntKind.wrap_i64]; omega
  have u2 : IntKind.i64.wrap ((b : Int) - (m : Int)) = (j0 : Int) := by have := hm.out; have := hbb.out; rw [IntKind.wrap_i64]; omega
  replace hr0 := Lib.hid hr0
  clear hT hD0 hi0 hj0 ha
  go_enter Try.func73, Try.ntmps73
  go_wp2_with fail
  go_loopw [10, 11] (fun iv jv wr => ∃ (i j : Nat) (D X P Q Z : List Fl), iv = .int .i64 i ∧ jv = .int .i64 j ∧ Hid (Rot T m i j D X P Q Z) ∧ OwnF wr (slF g n c) D ∧ Mod (fun k => k = g) w wr) (fun i j _ => (intOf i).toNat + (intOf j).toNat)
  case atStart => exact ⟨i0, j0, D0, X, P, Q, Z, rfl, rfl, hr0, h, Mod.refl _ _⟩
  case round =>
    clear h hr0 hlm hb u1 u2 q1 q2 hm hbb X P Q Z
    obtain ⟨i, j, D, X, P, Q, Z, rfl, rfl, hr, ho, hm⟩ := hrel
    have hlb := hr.out.len
    have hDn : n = D.length := by have := hTn.out; omega
    have hmj : m + j ≤ n := by omega
    have him : i ≤ m := by have := hr.out.hm; omega
    have i1 := hr.out.i1
    have j1 := hr.out.j1
    replace hlb := Lib.hid hlb
    by_cases heq : i = j
    case pos =>
      subst heq
      obtain ⟨e1, e2, e3, e4, e5, e6⟩ := hr.out.same
      have ks := swapRange_at ho hDn hl e1 e2 e3 e4 e5
      rw [e6] at ks
      have u3 : IntKind.i64.wrap ((m : Int) - (i : Int)) = ((m - i : Nat) : Int) := by rw [IntKind.wrap_i64]; omega
      have u4 : (m : Int) - (i : Int) = ((m - i : Nat) : Int) := by omega
      generalize m - i = mi at *
      clear e1 e2 e3 e4 e5 e6
      replace hDn := Lib.hid hDn
      go_wp2_with (go_at_call 74; refine ks.mono ?_; rintro e1 wx ⟨rfl, ox, mx⟩)
      go_end0
      exact ⟨rfl, ox, hm.then_ mx (fun _ _ h => h)⟩
    have v1 : decide ((i : Int) = (j : Int)) = false := dfalse (by omega)
    have v1' : decide (i = j) = false := dfalse heq
    by_cases hgt : j < i
    case pos =>
      have v2 : decide ((j : Int) < (i : Int)) = true := dtrue (by omega)
      have v2' : decide (j < i) = true := dtrue hgt
      obtain ⟨e1, e2, e3, e4, e5, e6⟩ := hr.out.left hgt
      have ks := swapRange_at ho hDn hl e1 e2 e3 e4 e5
      replace e6 := Lib.hid e6
      have u3 : IntKind.i64.wrap ((m : Int) - (i : Int)) = ((m - i : Nat) : Int) := by rw [IntKind.wrap_i64]; omega
      have u4 : (m : Int) - (i : Int) = ((m - i : Nat) : Int) := by omega
      obtain ⟨i2, hi2⟩ : ∃ i2, i2 = i - j := ⟨_, rfl⟩
      have u5 : IntKind.i64.wrap ((i : Int) - (j : Int)) = (i2 : Int) := by rw [IntKind.wrap_i64]; omega
      have u6 : (i : Int) - (j : Int) = (i2 : Int) := by omega
      rw [← hi2] at e6
      have hdec : i2 < i := by omega
      generalize m - i = mi at *
      clear e1 e2 e3 e4 e5 hi2
      generalize X ++ Q ++ P.drop j ++ P.take j ++ Z = D2 at *
      generalize X ++ Q = X2 at *
      generalize P.drop j = P2 at *
      generalize P.take j = Q2 at *
      replace hDn := Lib.hid hDn
      go_wp2_with (go_at_call 74; refine ks.mono ?_; rintro e1 wx ⟨rfl, ox, mx⟩)
      exact ⟨⟨i2, j, D2, X2, P2, Q2, Z, by go_num, by go_num, e6, ox, hm.then_ mx (fun _ _ h => h)⟩, by simp [intOf] <;> omega⟩
    have v2 : decide ((j : Int) < (i : Int)) = false := dfalse (by omega)
    have v2' : decide (j < i) = false := dfalse hgt
    obtain ⟨e1, e2, e3, e4, e5, e6⟩ := hr.out.right (by omega)
    have ks := swapRange_at ho hDn hl e1 e2 e3 e4 e5
    replace e6 := Lib.hid e6
    have u3 : IntKind.i64.wrap ((m : Int) - (i : Int)) = ((m - i : Nat) : Int) := by rw [IntKind.wrap_i64]; omega
    have u4 : (m : Int) - (i : Int) = ((m - i : Nat) : Int) := by omega
    have u7 : IntKind.i64.wrap ((m : Int) + (j : Int)) = ((m + j : Nat) : Int) := by rw [IntKind.wrap_i64]; omega
    have u8 : (m : Int) + (j : Int) = ((m + j : Nat) : Int) := by omega
    have u9 : IntKind.i64.wrap (((m + j : Nat) : Int) - (i : Int)) = ((m + j - i : Nat) : Int) := by rw [IntKind.wrap_i64]; omega
    have u10 : ((m + j : Nat) : Int) - (i : Int) = ((m + j - i : Nat) : Int) := by omega
    obtain ⟨j2, hj2⟩ : ∃ j2, j2 = j - i := ⟨_, rfl⟩
    have u5 : IntKind.i64.wrap ((j : Int) - (i : Int)) = (j2 : Int) := by rw [IntKind.wrap_i64]; omega
    have u6 : (j : Int) - (i : Int) = (j2 : Int) := by omega
    rw [← hj2] at e6 ks
    have hdec : j2 < j := by omega
    generalize m + j - i = mji at *
    generalize hMJ : m + j = mj at *
    generalize m - i = mi at *
    clear e1 e2 e3 e4 e5 hj2
    generalize X ++ Q.drop j2 ++ Q.take j2 ++ P ++ Z = D2 at *
    generalize Q.drop j2 = P2 at *
    generalize Q.take j2 = Q2 at *
    replace hDn := Lib.hid hDn
    go_wp2_with (go_at_call 74; refine ks.mono ?_; rintro e1 wx ⟨rfl, ox, mx⟩)
    exact ⟨⟨i, j2, D2, X, P2, Q2, P ++ Z, by go_num, by go_num, e6, ox, hm.then_ mx (fun _ _ h => h)⟩, by simp [intOf] <;> omega⟩
end Go.Proofs.Ytmjkgibeljbloaa
