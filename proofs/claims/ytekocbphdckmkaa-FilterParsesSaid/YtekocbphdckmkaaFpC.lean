/- filter: the program's reader: escape, value, sign. -/
import Derived.Test.YtekocbphdckmkaaFpB
import Derived.Test.YtekocbphdckmkaaAppS
import Derived.Laws.ResultCell
namespace Go.Proofs.Ytekocbphdckmkaa
open Go.RowKit
set_option maxRecDepth 100000

theorem digB_zero : digB 0 = none := by decide
theorem head_some {R : List UInt8} {x : UInt8} (h : digB (R.headD 0) = some x) : ∃ a, R = a :: R.tail ∧ digB a = some x := by
  cases R with
  | nil => exact absurd h (by simp [digB_zero])
  | cons a R => exact ⟨a, rfl, h⟩
theorem drop_lt {s R : List UInt8} {k : Nat} {a : UInt8} (h : s.drop k = a :: R) : k < s.length ∧ s.drop (k + 1) = R := by
  have hk : k < s.length := by
    rcases Nat.lt_or_ge k s.length with h1 | h1
    · exact h1
    · rw [List.drop_of_length_le h1] at h; cases h
  refine ⟨hk, ?_⟩
  rw [List.drop_eq_getElem_cons hk] at h
  exact (List.cons.inj h).2
set_option maxHeartbeats 8000000 in
theorem fesc_any {w : World} {g : Nat} {s : List UInt8} {k : Nat} (h : Rd w g s k) (hk : k < s.length) (hl : s.length ≤ 140737488351232) :
    Calls Try.prog 63 #[.pointer (some ⟨g, 0, none⟩)] w fun e w' => ∃ (v : UInt8) (ok : Bool) (j : Nat), e = .returned (.tuple #[bv v, .bool ok]) ∧ j ≤ s.length ∧ Rd w' g s j ∧ Mod (fun b => b = g) w w' ∧
      ((ok = true ∧ j = k + 2 ∧ ∃ a b x y, s.drop (k + 1) = a :: b :: s.drop (k + 3) ∧ digB a = some x ∧ digB b = some y ∧ v = x <<< 4 ||| y ∧ k + 3 ≤ s.length) ∨ (ok = false ∧ ∀ a b R' x y, s.drop (k + 1) = a :: b :: R' → digB a = some x → digB b = some y → False)) := by
  obtain ⟨c0, c1⟩ := h.c
  have z1 := Blk.frozen h 1
  have r1 := h.step
  have m1 := step_mod (w := w) (g := g) (.int .i64 ((k : Int) + 1))
  go_enter Try.func63, Try.ntmps63
  go_wp2_with fail
  obtain ⟨w1, hw1⟩ : ∃ x, x = w.setCell ⟨g, 1, none⟩ (.int .i64 ((k : Int) + 1)) := ⟨_, rfl⟩
  rw [← hw1] at r1 m1 ⊢
  clear hw1 h c0 c1 z1
  obtain ⟨c, hc⟩ : ∃ c, c = (s.drop (k + 1)).headD 0 := ⟨_, rfl⟩
  have hn := next_any r1 (by omega)
  rw [← hc] at hn
  refine hn.mono ?_
  rintro e w2 ⟨rfl, n2, hw2⟩
  have x2 : Ext w1 w2 := by rw [hw2]; exact (Mod.refl _ w1).drewN n2
  clear hw2 hn
  have r2 := r1.mod x2 (fun h => h)
  have m2 := m1.then_ x2 (fun _ _ h => h.elim)
  clear r1 m1 x2
  have hdg := fun wx => digit_any (w := wx) c
  cases hd : digB c with
  | none =>
    rw [hd] at hdg
    simp only [Option.getD_none, Option.isSome_none] at hdg
    have hno : ∀ a b R' x y, s.drop (k + 1) = a :: b :: R' → digB a = some x → digB b = some y → False := fun a b R' x y he ha _ => by
      rw [he] at hc
      rw [hc, List.headD_cons, ha] at hd
      cases hd
    replace hno := Lib.hid hno
    clear hd hc
    go_wp2_with fail
    refine (hdg _).mono ?_
    rintro e w3 ⟨rfl, rfl⟩
    clear hdg
    go_wp2_with fail
    go_ret2
    exact ⟨0, false, k + 1, rfl, by omega, r2, m2, .inr ⟨rfl, hno.out⟩⟩
  | some x =>
    rw [hd] at hdg
    simp only [Option.getD_some, Option.isSome_some] at hdg
    have hx16 := digB_lt hd
    rw [hc] at hd
    obtain ⟨a, hRa, ha⟩ := head_some hd
    obtain ⟨hk1, hRt⟩ := drop_lt hRa
    obtain ⟨Q, hQ⟩ : ∃ Q, Q = s.drop (k + 1 + 1) := ⟨_, rfl⟩
    rw [← hQ] at hRt
    obtain ⟨d, hdc⟩ : ∃ d, d = Q.headD 0 := ⟨_, rfl⟩
    obtain ⟨c0, c1⟩ := r2.c
    have z1 := Blk.frozen r2 1
    have r3 := r2.step
    have m3 := m2.then_ (step_mod (w := w2) (g := g) (.int .i64 (((k + 1 : Nat) : Int) + 1))) (fun _ _ h => h)
    have hc2 : ((k + 1 : Nat) : Int) = (k : Int) + 1 := by omega
    rw [hc2] at r3 m3 c1
    replace hRa := Lib.hid hRa
    replace hRt := Lib.hid hRt
    replace hQ := Lib.hid hQ
    replace hdc := Lib.hid hdc
    clear hd r2 m2 hc hc2
    go_wp2_with fail
    refine (hdg _).mono ?_
    rintro e w3 ⟨rfl, rfl⟩
    clear hdg
    go_wp2_with fail
    obtain ⟨w4, hw4⟩ : ∃ x, x = w3.setCell ⟨g, 1, none⟩ (.int .i64 ((k : Int) + 1 + 1)) := ⟨_, rfl⟩
    rw [← hw4] at r3 m3 ⊢
    clear hw4 c0 c1 z1
    have hn := next_any r3 (by omega)
    rw [← hQ.out, ← hdc.out] at hn
    refine hn.mono ?_
    rintro e w5 ⟨rfl, n5, hw5⟩
    have x5 : Ext w4 w5 := by rw [hw5]; exact (Mod.refl _ w4).drewN n5
    clear hw5 hn
    have r5 := r3.mod x5 (fun h => h)
    have m5 := m3.then_ x5 (fun _ _ h => h.elim)
    clear r3 m3 x5
    have hdg := fun wx => digit_any (w := wx) d
    have hx4 : (0 : Int) ≤ (x.toNat : Int) * 16 ∧ (x.toNat : Int) * 16 < 256 := by omega
    cases hd : digB d with
    | none =>
      rw [hd] at hdg
      simp only [Option.getD_none, Option.isSome_none] at hdg
      have hno : ∀ a b R' x y, s.drop (k + 1) = a :: b :: R' → digB a = some x → digB b = some y → False := fun a' b R' x' y he ha' hb' => by
        rw [hRa.out] at he
        injection he with _ he
        rw [← hRt.out] at he
        rw [hdc.out, he, List.headD_cons, hb'] at hd
        cases hd
      replace hno := Lib.hid hno
      have hbt : bits BinOp.or IntKind.u8 ((x.toNat : Int) * 16) 0 = ((x <<< 4 ||| 0 : UInt8).toNat : Int) := bits_eq x 0 hx16 (by decide)
      replace hbt := Lib.hid hbt
      clear hd
      go_wp2_with fail
      refine (hdg _).mono ?_
      rintro e w6 ⟨rfl, rfl⟩
      clear hdg
      go_wp2_with fail
      go_ret2
      exact ⟨x <<< 4 ||| 0, false, k + 1 + 1, (by have h9 := congrArg (fun z => Ending.returned (.tuple #[.int .u8 z, .bool false])) hbt.out; exact h9), by omega, r5, m5, .inr ⟨rfl, hno.out⟩⟩
    | some y =>
      rw [hd] at hdg
      simp only [Option.getD_some, Option.isSome_some] at hdg
      have hbt := Lib.hid (bits_eq x y hx16 (digB_lt hd))
      rw [hdc.out] at hd
      obtain ⟨b, hQb, hb⟩ := head_some hd
      obtain ⟨hk2, hQt⟩ := drop_lt (hQ.out.symm.trans hQb)
      replace hQb := Lib.hid hQb
      replace hQt := Lib.hid hQt
      clear hd
      go_wp2_with fail
      refine (hdg _).mono ?_
      rintro e w6 ⟨rfl, rfl⟩
      clear hdg
      go_wp2_with fail
      go_ret2
      exact ⟨x <<< 4 ||| y, true, k + 1 + 1, (by have h9 := congrArg (fun z => Ending.returned (.tuple #[.int .u8 z, .bool true])) hbt.out; exact h9), by omega, r5, m5, .inl ⟨rfl, rfl, a, b, x, y, hRa.out.trans (by rw [← hRt.out, hQb.out]; congr 2; exact hQt.out.symm), ha, hb, rfl, by omega⟩⟩
end Go.Proofs.Ytekocbphdckmkaa
