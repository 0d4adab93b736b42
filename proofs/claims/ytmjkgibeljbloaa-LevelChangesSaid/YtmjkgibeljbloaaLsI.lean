/- sorting files: all of it. -/
import Derived.Test.YtmjkgibeljbloaaLsH
namespace Go.Proofs.Ytmjkgibeljbloaa
open Go.RowKit
set_option maxRecDepth 100000

theorem mrg_all : ∀ N, Mrg N
  | 0 => ⟨fun h => absurd h (Nat.not_lt_zero _)⟩
  | N + 1 => ⟨by
    intro w g n c a m b X A B Z hlt h hn hl ha hm hb hA hB sA sB
    have ih : Mrg (A.length + B.length) := by
      have := mrg_all N
      exact ⟨fun h => this.call (by omega)⟩
    by_cases hA2 : 2 ≤ A.length
    · by_cases hB2 : 2 ≤ B.length
      · exact merge3_any h hn hl ha hm hb hA2 hB2 sA sB ih
      · obtain ⟨y, rfl⟩ := List.length_eq_one_iff.1 (show B.length = 1 by omega)
        have e : X ++ A ++ [y] ++ Z = X ++ A ++ y :: Z := by simp
        rw [e] at h hn
        refine (merge2_any h hn hl ha hm hb hA2 sA).mono ?_
        rintro e w' ⟨rfl, S, p, s, o, m⟩
        exact ⟨rfl, S, p.trans (List.perm_append_comm (l₁ := [y])), s, o, m⟩
    · obtain ⟨x, rfl⟩ := List.length_eq_one_iff.1 (show A.length = 1 by omega)
      have e : X ++ [x] ++ B ++ Z = X ++ x :: (B ++ Z) := by simp
      rw [e] at h hn
      refine (merge1_any h hn hl ha hm hb sB).mono ?_
      rintro e w' ⟨rfl, S, p, s, o, m⟩
      exact ⟨rfl, S, p, s, o, m⟩⟩
/-- Two sorted rows side by side become one. -/
theorem merge_any {w : World} {g n c a m b : Nat} {X A B Z : List Fl} (h : OwnF w (slF g n c) (X ++ A ++ B ++ Z)) (hn : n = (X ++ A ++ B ++ Z).length) (hl : n ≤ 1000000) (ha : a = X.length) (hm : m = a + A.length) (hb : b = m + B.length) (hA : 1 ≤ A.length) (hB : 1 ≤ B.length) (sA : Srt A) (sB : Srt B) :
    Calls Try.prog 71 #[slF g n c, .int .i64 (a : Nat), .int .i64 (m : Nat), .int .i64 (b : Nat), cF] w fun e w' => e = .returned (.tuple #[]) ∧ ∃ S, S.Perm (A ++ B) ∧ Srt S ∧ OwnF w' (slF g n c) (X ++ S ++ Z) ∧ Mod (fun k => k = g) w w' :=
  (mrg_all (A.length + B.length + 1)).call (Nat.lt_succ_self _) h hn hl ha hm hb hA hB sA sB

/-- c sorted rows of k files each. -/
def Chs (k : Nat) (X : List Fl) (c : Nat) : Prop := ∃ Ls : List (List Fl), X = Ls.flatten ∧ Ls.length = c ∧ ∀ l ∈ Ls, l.length = k ∧ Srt l
theorem Chs.nil (k : Nat) : Chs k [] 0 := ⟨[], rfl, rfl, fun l h => by cases h⟩
theorem Chs.snoc {k c : Nat} {X A : List Fl} (h : Chs k X c) (hk : A.length = k) (hA : Srt A) : Chs k (X ++ A) (c + 1) := by
  obtain ⟨Ls, rfl, rfl, h3⟩ := h
  refine ⟨Ls ++ [A], by simp, by simp, fun l hl => ?_⟩
  rcases List.mem_append.1 hl with q | q
  · exact h3 l q
  · rw [List.mem_singleton.1 q]; exact ⟨hk, hA⟩
theorem Chs.uncons {k c : Nat} {X : List Fl} (h : Chs k X (c + 1)) : ∃ A X', X = A ++ X' ∧ A.length = k ∧ Srt A ∧ Chs k X' c := by
  obtain ⟨Ls, rfl, h2, h3⟩ := h
  rcases Ls with _ | ⟨A, Ls⟩
  · cases h2
  · have := h3 A (List.mem_cons_self ..)
    exact ⟨A, Ls.flatten, rfl, this.1, this.2, Ls, rfl, by simpa using h2, fun l hl => h3 l (List.mem_cons_of_mem _ hl)⟩
theorem Chs.zero {k : Nat} {X : List Fl} (h : Chs k X 0) : X = [] := by
  obtain ⟨Ls, rfl, h2, h3⟩ := h
  rw [List.eq_nil_of_length_eq_zero h2]; rfl
/-- The rows of twenty, from the left. -/
structure St1 (L : List Fl) (a : Nat) (D X T : List Fl) : Prop where
  hX : ∃ c, Chs 20 X c
  ha : X.length = a
  hD : D = X ++ T
  hp : D.Perm L
/-- All in rows of k, and a rest. -/
def St2 (L : List Fl) (k : Nat) (D : List Fl) : Prop := ∃ X T c, Chs k X c ∧ D = X ++ T ∧ T.length < k ∧ Srt T ∧ D.Perm L
/-- Rows of twice k, then of k, and a rest. -/
structure St3 (L : List Fl) (k a : Nat) (D Y X T : List Fl) (c : Nat) : Prop where
  hY : ∃ c, Chs (2 * k) Y c
  hX : Chs k X c
  ha : Y.length = a
  hT : T.length < k
  sT : Srt T
  hD : D = Y ++ X ++ T
  hp : D.Perm L
theorem St1.start (L : List Fl) : St1 L 0 L [] L := ⟨⟨0, Chs.nil _⟩, rfl, rfl, List.Perm.refl _⟩
theorem St1.step {L D X T : List Fl} {a : Nat} (h : St1 L a D X T) (hn : a + 20 ≤ L.length) :
    ∃ A Z, D = X ++ A ++ Z ∧ a = X.length ∧ a + 20 = X.length + A.length ∧ ∀ S : List Fl, S.Perm A → Srt S → St1 L (a + 20) (X ++ S ++ Z) (X ++ S) Z := by
  obtain ⟨⟨c, h1⟩, h2, h3, h4⟩ := h
  have hl := h4.length_eq
  rw [h3, List.length_append] at hl
  have l1 : (T.take 20).length = 20 := by rw [List.length_take]; omega
  have e : D = X ++ T.take 20 ++ T.drop 20 := by rw [List.append_assoc, List.take_append_drop, h3]
  refine ⟨T.take 20, T.drop 20, e, h2.symm, by omega, fun S p s => ⟨⟨c + 1, h1.snoc (p.length_eq.trans l1) s⟩, ?_, rfl, ?_⟩⟩
  · rw [List.length_append, p.length_eq, l1, h2]
  · refine List.Perm.trans ?_ h4
    rw [e]
    exact List.Perm.append_right _ (List.Perm.append_left _ p)
theorem St1.last {L D X T : List Fl} {a : Nat} (h : St1 L a D X T) (hn : L.length < a + 20) :
    ∃ A, D = X ++ A ++ [] ∧ a = X.length ∧ L.length = X.length + A.length ∧ ∀ S : List Fl, S.Perm A → Srt S → St2 L 20 (X ++ S ++ []) := by
  obtain ⟨⟨c, h1⟩, h2, h3, h4⟩ := h
  have hl := h4.length_eq
  rw [h3, List.length_append] at hl
  refine ⟨T, by rw [List.append_nil, h3], h2.symm, by omega, fun S p s => ⟨X, S, c, h1, by rw [List.append_nil], by rw [p.length_eq]; omega, s, ?_⟩⟩
  refine List.Perm.trans ?_ h4
  rw [h3, List.append_nil]
  exact List.Perm.append_left _ p
theorem St2.start {L D : List Fl} {k : Nat} (h : St2 L k D) : ∃ X T c, St3 L k 0 D [] X T c := by
  obtain ⟨X, T, c, h1, h2, h3, h4, h5⟩ := h
  exact ⟨X, T, c, ⟨0, Chs.nil _⟩, h1, rfl, h3, h4, by rw [h2]; rfl, h5⟩
theorem St2.done {L D : List Fl} {k : Nat} (h : St2 L k D) (hk : L.length ≤ k) : D.Perm L ∧ Srt D := by
  obtain ⟨X, T, c, h1, h2, h3, h4, h5⟩ := h
  refine ⟨h5, ?_⟩
  have hl := h5.length_eq
  rw [h2, List.length_append] at hl
  rcases c with _ | c
  · rw [h2, h1.zero]; exact h4
  · obtain ⟨A, X', e, l, s, h6⟩ := h1.uncons
    rw [e, List.length_append] at hl
    have e1 : X' = [] := List.eq_nil_of_length_eq_zero (by omega)
    have e2 : T = [] := List.eq_nil_of_length_eq_zero (by omega)
    rw [h2, e, e1, e2, List.append_nil, List.append_nil]
    exact s
theorem St3.step {L D Y X T : List Fl} {k a c : Nat} (h : St3 L k a D Y X T c) (hn : a + 2 * k ≤ L.length) :
    ∃ A B X' c', D = Y ++ A ++ B ++ (X' ++ T) ∧ A.length = k ∧ B.length = k ∧ Srt A ∧ Srt B ∧ a = Y.length ∧ ∀ S : List Fl, S.Perm (A ++ B) → Srt S → St3 L k (a + 2 * k) (Y ++ S ++ (X' ++ T)) (Y ++ S) X' T c' := by
  obtain ⟨⟨d, h1⟩, h2, h3, h4, h5, h6, h7⟩ := h
  have hl := h7.length_eq
  rw [h6, List.length_append, List.length_append] at hl
  rcases c with _ | c
  · rw [h2.zero, List.length_nil] at hl; omega
  · obtain ⟨A, X1, e1, l1, s1, h8⟩ := h2.uncons
    rcases c with _ | c
    · rw [e1, h8.zero, List.append_nil] at hl; omega
    · obtain ⟨B, X2, e2, l2, s2, h9⟩ := h8.uncons
      have e : D = Y ++ A ++ B ++ (X2 ++ T) := by rw [h6, e1, e2]; simp only [List.append_assoc]
      refine ⟨A, B, X2, c, e, l1, l2, s1, s2, h3.symm, fun S p s => ⟨⟨d + 1, h1.snoc ?_ s⟩, h9, ?_, h4, h5, by rw [List.append_assoc (Y ++ S)], ?_⟩⟩
      · rw [p.length_eq, List.length_append]; omega
      · rw [List.length_append, p.length_eq, List.length_append]; omega
      · refine List.Perm.trans ?_ h7
        rw [e, List.append_assoc Y A B]
        exact List.Perm.append_right _ (List.Perm.append_left _ p)
theorem St3.fin1 {L D Y X T : List Fl} {k a c : Nat} (h : St3 L k a D Y X T c) (hn : L.length < a + 2 * k) (hm : a + k < L.length) :
    ∃ A B, D = Y ++ A ++ B ++ [] ∧ A.length = k ∧ 1 ≤ B.length ∧ a + k + B.length = L.length ∧ Srt A ∧ Srt B ∧ a = Y.length ∧ ∀ S : List Fl, S.Perm (A ++ B) → Srt S → St2 L (2 * k) (Y ++ S ++ []) := by
  obtain ⟨⟨d, h1⟩, h2, h3, h4, h5, h6, h7⟩ := h
  have hl := h7.length_eq
  rw [h6, List.length_append, List.length_append] at hl
  rcases c with _ | c
  · rw [h2.zero, List.length_nil] at hl; omega
  · obtain ⟨A, X1, e1, l1, s1, h8⟩ := h2.uncons
    have lX : X.length = k + X1.length := by rw [e1, List.length_append, l1]
    have hX1 : X1 = [] := by
      rcases c with _ | c
      · exact h8.zero
      · obtain ⟨B, X2, e2, l2, s2, h9⟩ := h8.uncons
        rw [e2, List.length_append] at lX
        omega
    rw [hX1, List.length_nil] at lX
    have e : D = Y ++ A ++ T ++ [] := by rw [h6, e1, hX1]; simp only [List.append_nil]
    refine ⟨A, T, e, l1, by omega, by omega, s1, h5, h3.symm, fun S p s => ⟨Y, S, d, h1, by rw [List.append_nil], ?_, s, ?_⟩⟩
    · rw [p.length_eq, List.length_append]; omega
    · refine List.Perm.trans ?_ h7
      rw [e, List.append_nil, List.append_nil, List.append_assoc Y A T]
      exact List.Perm.append_left _ p
theorem St3.fin2 {L D Y X T : List Fl} {k a c : Nat} (h : St3 L k a D Y X T c) (hm : L.length ≤ a + k) : St2 L (2 * k) D := by
  obtain ⟨⟨d, h1⟩, h2, h3, h4, h5, h6, h7⟩ := h
  have hl := h7.length_eq
  rw [h6, List.length_append, List.length_append] at hl
  rcases c with _ | c
  · exact ⟨Y, T, d, h1, by rw [h6, h2.zero, List.append_nil], by omega, h5, h7⟩
  · obtain ⟨A, X1, e1, l1, s1, h8⟩ := h2.uncons
    have lX : X.length = k + X1.length := by rw [e1, List.length_append, l1]
    have e2 : X1 = [] := List.eq_nil_of_length_eq_zero (by omega)
    have e3 : T = [] := List.eq_nil_of_length_eq_zero (by omega)
    exact ⟨Y, A, d, h1, by rw [h6, e1, e2, e3]; simp only [List.append_nil], by omega, s1, h7⟩
theorem insert_at {w : World} {g n c a b : Nat} {D X A Z : List Fl} (h : OwnF w (slF g n c) D) (hn : n = D.length) (hl : n ≤ 1000000) (hD : D = X ++ A ++ Z) (ha : a = X.length) (hb : b = X.length + A.length) :
    Calls Try.prog 70 #[slF g n c, .int .i64 (a : Nat), .int .i64 (b : Nat), cF] w fun e w' => e = .returned (.tuple #[]) ∧ ∃ S, S.Perm A ∧ Srt S ∧ OwnF w' (slF g n c) (X ++ S ++ Z) ∧ Mod (fun k => k = g) w w' := by
  subst hD ha hb
  exact insert_any h hn hl

set_option maxHeartbeats 16000000 in
theorem stable2_any {w : World} {g n c : Nat} {L : List Fl} (h : OwnF w (slF g n c) L) (hn : n = L.length) (hl : n ≤ 1000000) :
    Calls Try.prog 66 #[slF g n c, .int .i64 (n : Nat), cF] w fun e w' => e = .returned (.tuple #[]) ∧ ∃ S, S.Perm L ∧ Srt S ∧ OwnF w' (slF g n c) S ∧ Mod (fun k => k = g) w w' := by
  replace hn := Lib.hid hn
  go_enter Try.func66, Try.ntmps66
  go_wp2_with fail
  go_loopw [7, 8] (fun av bv wr => ∃ (a b : Nat) (D X T : List Fl), av = .int .i64 a ∧ bv = .int .i64 b ∧ b = a + 20 ∧ a ≤ n ∧ Hid (St1 L a D X T) ∧ OwnF wr (slF g n c) D ∧ Mod (fun k => k = g) w wr) (fun a _ _ => n - (intOf a).toNat)
  case atStart => exact ⟨0, 20, L, [], L, rfl, rfl, rfl, Nat.zero_le _, Lib.hid (St1.start L), h, Mod.refl _ _⟩
  case round =>
    clear h
    obtain ⟨a, b, D, X, T, rfl, rfl, hb, han, hs, ho, hm⟩ := hrel
    have hDn : n = D.length := by rw [hn.out]; exact hs.out.hp.length_eq.symm
    by_cases hbn : b ≤ n
    case pos =>
      have q1 : decide ((b : Int) ≤ (n : Int)) = true := dtrue (by omega)
      have q1' : decide (b ≤ n) = true := dtrue hbn
      obtain ⟨A, Z, e1, e2, e3, e4⟩ := hs.out.step (by have := hn.out; omega)
      have ki := insert_at (a := a) (b := b) ho hDn hl e1 e2 (by omega)
      have u1 : IntKind.i64.wrap ((b : Int) + 20) = ((b + 20 : Nat) : Int) := by rw [IntKind.wrap_i64]; omega
      have u1' : (b : Int) + 20 = ((b + 20 : Nat) : Int) := by omega
      obtain ⟨b2, hb2⟩ : ∃ b2, b2 = b + 20 := ⟨_, rfl⟩
      rw [← hb2] at u1 u1'
      rw [← hb] at e4
      have hdec : n - b < n - a := by omega
      replace hb := Lib.hid hb
      replace hb2 := Lib.hid hb2
      clear e1 e2 e3 hDn hs
      go_wp2_with fail
      refine ki.mono ?_
      rintro e w1 ⟨rfl, S, p, s, o1, m1⟩
      have hs2 := Lib.hid (e4 S p s)
      generalize X ++ S ++ Z = D2 at *
      generalize X ++ S = X2 at *
      clear e4 p
      go_wp2_with fail
      exact ⟨⟨b, b2, D2, X2, Z, by go_num, by go_num, hb2.out, hbn, hs2, o1, hm.then_ m1 (fun _ _ h => h)⟩, by simp [intOf] <;> omega⟩
    have q1 : decide ((b : Int) ≤ (n : Int)) = false := dfalse (by omega)
    have q1' : decide (b ≤ n) = false := dfalse hbn
    obtain ⟨A, e1, e2, e3, e4⟩ := hs.out.last (by have := hn.out; omega)
    have ki := insert_at (a := a) (b := n) ho hDn hl e1 e2 (by have := hn.out; omega)
    clear e1 e2 e3 hDn hs hb
    go_wp2_with fail
    refine ki.mono ?_
    rintro e w1 ⟨rfl, S, p, s, o1, m1⟩
    have hs2 := Lib.hid (e4 S p s)
    replace m1 := hm.then_ m1 (fun _ _ h => h)
    generalize X ++ S ++ [] = D1 at *
    clear e4 p hm ho ki
    go_wp2_with fail
    go_loopw [6] (fun kv wr => ∃ (k : Nat) (D : List Fl), kv = .int .i64 k ∧ 1 ≤ k ∧ Hid (St2 L k D) ∧ OwnF wr (slF g n c) D ∧ Mod (fun k => k = g) w wr) (fun k _ => n - (intOf k).toNat)
    case atStart => exact ⟨20, D1, rfl, by omega, hs2, o1, m1⟩
    case round =>
      clear hs2 o1 m1
      obtain ⟨k, D, rfl, hk1, hs, ho, hm⟩ := hrel
      by_cases hkn : k < n
      case neg =>
        have q2 : decide ((k : Int) < (n : Int)) = false := dfalse (by omega)
        have q2' : decide (k < n) = false := dfalse hkn
        have hfin := hs.out.done (by have := hn.out; omega)
        go_wp2_with fail
        go_end0
        exact ⟨rfl, D, hfin.1, hfin.2, ho, hm⟩
      have q2 : decide ((k : Int) < (n : Int)) = true := dtrue (by omega)
      have q2' : decide (k < n) = true := dtrue hkn
      obtain ⟨k2, hk2⟩ : ∃ k2, k2 = 2 * k := ⟨_, rfl⟩
      have u2 : IntKind.i64.wrap (2 * (k : Int)) = (k2 : Int) := by rw [IntKind.wrap_i64]; omega
      have u2' : 2 * (k : Int) = (k2 : Int) := by omega
      have u3 : IntKind.i64.wrap ((k : Int) * 2) = (k2 : Int) := by rw [IntKind.wrap_i64]; omega
      have u3' : (k : Int) * 2 = (k2 : Int) := by omega
      obtain ⟨X0, T0, c0, hs0⟩ := hs.out.start
      replace hs0 := Lib.hid hs0
      have hkk : k < k2 := by omega
      have hk2n : k2 ≤ 2 * n := by omega
      replace hk2 := Lib.hid hk2
      clear hs
      go_wp2_with fail
      go_loopw [7, 8] (fun av bv wr => ∃ (a b : Nat) (D Y X T : List Fl) (c1 : Nat), av = .int .i64 a ∧ bv = .int .i64 b ∧ b = a + k2 ∧ a ≤ n ∧ Hid (St3 L k a D Y X T c1) ∧ OwnF wr (slF g n c) D ∧ Mod (fun k => k = g) w wr) (fun a _ _ => n - (intOf a).toNat)
      case atStart => exact ⟨0, k2, D, [], X0, T0, c0, rfl, rfl, by omega, Nat.zero_le _, hs0, ho, hm⟩
      case round =>
        clear hs0 ho hm
        obtain ⟨a, b, D, Y, X, T, c1, rfl, rfl, hb, han, hs, ho, hm⟩ := hrel
        have hDn : n = D.length := by rw [hn.out]; exact hs.out.hp.length_eq.symm
        obtain ⟨m, hmv⟩ : ∃ m, m = a + k := ⟨_, rfl⟩
        have u4 : IntKind.i64.wrap ((a : Int) + (k : Int)) = (m : Int) := by rw [IntKind.wrap_i64]; omega
        have u4' : (a : Int) + (k : Int) = (m : Int) := by omega
        by_cases hbn : b ≤ n
        case pos =>
          have q3 : decide ((b : Int) ≤ (n : Int)) = true := dtrue (by omega)
          have q3' : decide (b ≤ n) = true := dtrue hbn
          obtain ⟨A, B, X2, c2, e1, e2, e3, e4, e5, e6, e7⟩ := hs.out.step (by have := hn.out; have := hk2.out; omega)
          rw [e1] at ho hDn
          have ki := merge_any (a := a) (m := m) (b := b) ho hDn hl e6 (by omega) (by have := hk2.out; omega) (by omega) (by omega) e4 e5
          rw [← hk2.out, ← hb] at e7
          have u5 : IntKind.i64.wrap ((b : Int) + (k2 : Int)) = ((b + k2 : Nat) : Int) := by rw [IntKind.wrap_i64]; omega
          have u5' : (b : Int) + (k2 : Int) = ((b + k2 : Nat) : Int) := by omega
          obtain ⟨b2, hb2⟩ : ∃ b2, b2 = b + k2 := ⟨_, rfl⟩
          rw [← hb2] at u5 u5'
          have hdec : n - b < n - a := by omega
          replace hb := Lib.hid hb
          replace hb2 := Lib.hid hb2
          replace hmv := Lib.hid hmv
          clear e1 e2 e3 e4 e5 e6 hDn hs ho
          go_wp2_with fail
          refine ki.mono ?_
          rintro e w1 ⟨rfl, S, p, s, o1, m1⟩
          have hs2 := Lib.hid (e7 S p s)
          replace m1 := hm.then_ m1 (fun _ _ h => h)
          generalize Y ++ S ++ (X2 ++ T) = D2 at *
          generalize Y ++ S = Y2 at *
          clear e7 p ki hm
          go_wp2_with fail
          exact ⟨⟨b, b2, D2, Y2, X2, T, c2, by go_num, by go_num, hb2.out, hbn, hs2, o1, m1⟩, by simp [intOf] <;> omega⟩
        have q3 : decide ((b : Int) ≤ (n : Int)) = false := dfalse (by omega)
        have q3' : decide (b ≤ n) = false := dfalse hbn
        by_cases hmn : m < n
        case pos =>
          have q4 : decide ((m : Int) < (n : Int)) = true := dtrue (by omega)
          have q4' : decide (m < n) = true := dtrue hmn
          obtain ⟨A, B, e1, e2, e3, e4, e5, e6, e7, e8⟩ := hs.out.fin1 (by have := hn.out; have := hk2.out; omega) (by have := hn.out; omega)
          rw [e1] at ho hDn
          have ki := merge_any (a := a) (m := m) (b := n) ho hDn hl e7 (by omega) (by have := hn.out; omega) (by omega) (by omega) e5 e6
          rw [← hk2.out] at e8
          replace hb := Lib.hid hb
          replace hmv := Lib.hid hmv
          clear e1 e2 e3 e4 e5 e6 e7 hDn hs ho
          go_wp2_with fail
          refine ki.mono ?_
          rintro e w1 ⟨rfl, S, p, s, o1, m1⟩
          have hs2 := Lib.hid (e8 S p s)
          replace m1 := hm.then_ m1 (fun _ _ h => h)
          generalize Y ++ S ++ [] = D2 at *
          clear e8 p ki hm
          go_wp2_with fail
          exact ⟨⟨k2, D2, by go_num, by omega, hs2, o1, m1⟩, by simp [intOf] <;> omega⟩
        have q4 : decide ((m : Int) < (n : Int)) = false := dfalse (by omega)
        have q4' : decide (m < n) = false := dfalse hmn
        have hs2 := hs.out.fin2 (by have := hn.out; omega)
        rw [← hk2.out] at hs2
        replace hs2 := Lib.hid hs2
        replace hb := Lib.hid hb
        replace hmv := Lib.hid hmv
        clear hDn hs
        go_wp2_with fail
        exact ⟨⟨k2, D, by go_num, by omega, hs2, ho, hm⟩, by simp [intOf] <;> omega⟩
set_option maxHeartbeats 4000000 in
theorem sortfull_any {w : World} {g n c : Nat} {L : List Fl} (h : OwnF w (slF g n c) L) (hn : n = L.length) (hl : n ≤ 1000000) :
    Calls Try.prog 50 #[slF g n c, cF] w fun e w' => e = .returned (.tuple #[]) ∧ ∃ S, S.Perm L ∧ Srt S ∧ OwnF w' (slF g n c) S ∧ Mod (fun k => k = g) w w' := by
  have hin := stable2_any h hn hl
  clear h hn hl
  go_enter Try.func50, Try.ntmps50
  go_wp2_with fail
  refine hin.mono ?_
  rintro e w1 ⟨rfl, S, p, s, o, m⟩
  go_wp2_with fail
  go_end0
  exact ⟨rfl, S, p, s, o, m⟩
end Go.Proofs.Ytmjkgibeljbloaa
