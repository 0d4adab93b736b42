/- filter: the program's reader: sign. -/
import Derived.Test.YtekocbphdckmkaaFpD
namespace Go.Proofs.Ytekocbphdckmkaa
open Go.RowKit
set_option maxRecDepth 100000

theorem preB_len {x p : List UInt8} (h : preB x p = true) : p.length ≤ x.length := of_decide_eq_true (Bool.and_eq_true_iff.1 h).1
theorem pre_one (R : List UInt8) (a : UInt8) : preB R [a] = decide (R.head? = some a) := by
  cases R with
  | nil => simp [preB]
  | cons b R => simp [preB, Bool.beq_eq_decide_eq]
theorem pre_two (R : List UInt8) (a b : UInt8) : preB R [a, b] = decide (R.head? = some a ∧ R.tail.head? = some b) := by
  match R with
  | [] => simp [preB]
  | [x] => simp [preB]
  | x :: y :: R => simp [preB, Bool.beq_eq_decide_eq]
/-- The kind that a sign stands for. -/
def kindC (c : UInt8) : Int := if c = 62 then 5 else if c = 60 then 6 else 3
theorem sgnP_eq {R : List UInt8} (h : R.head? = some 61) : sgnP R = some (61, R.drop 1) := by
  cases R with
  | nil => cases h
  | cons a R => cases h; rfl
theorem sgnP_two {R : List UInt8} {c : UInt8} (h : R.head? = some c ∧ R.tail.head? = some 61) (hc : c = 126 ∨ c = 62 ∨ c = 60) : sgnP R = some (c, R.drop 2) := by
  match R, h with
  | a :: b :: R, ⟨h1, h2⟩ =>
    cases h1
    cases h2
    have hne : ¬ (c = 61) := by rcases hc with rfl | rfl | rfl <;> decide
    simp [sgnP, hne, hc]
theorem sgnP_no {R : List UInt8} (h0 : ¬ R.head? = some 61) (h : ∀ c, c = 126 ∨ c = 62 ∨ c = 60 → ¬ (R.head? = some c ∧ R.tail.head? = some 61)) : sgnP R = none := by
  cases R with
  | nil => rfl
  | cons a R =>
    have h1 : ¬ (a = 61) := fun e => h0 (by rw [e]; rfl)
    simp only [sgnP, h1, if_false]
    rw [if_neg]
    rintro ⟨h2, h3⟩
    exact h a h2 ⟨rfl, h3⟩
set_option maxHeartbeats 8000000 in
theorem fsign_any {w : World} {g : Nat} {s : List UInt8} {k : Nat} (h : Rd w g s k) (hk : k ≤ s.length) (hl : s.length ≤ 1000000) :
    Calls Try.prog 54 #[.pointer (some ⟨g, 0, none⟩)] w fun e w' => ∃ (kd : Int) (st ok : Bool) (j : Nat), e = .returned (.tuple #[.agg #[.int .i64 kd, .bool st], .bool ok]) ∧ j ≤ s.length ∧ Rd w' g s j ∧ Mod (fun b => b = g) w w' ∧
      ((ok = true ∧ ∃ c, sgnP (s.drop k) = some (c, s.drop j) ∧ kd = kindC c ∧ st = (c == 61)) ∨ (ok = false ∧ sgnP (s.drop k) = none)) := by
  have hgB := h.lt
  obtain ⟨w1, hw1⟩ : ∃ x, x = w.alloc (.cells #[.int .i64 0, .bool false] 73) := ⟨_, rfl⟩
  obtain ⟨p, hp⟩ : ∃ p, p = w.heap.size := ⟨_, rfl⟩
  have x1 : Ext w w1 := by rw [hw1]; exact (Mod.refl _ w).alloc _
  have B1 : Blk w1 p 73 #[.int .i64 0, .bool false] := by rw [hw1, hp]; exact Blk.new w _ _
  have r1 := h.mod x1 (fun h => h)
  have m1 : Mod (fun b => b = g) w w1 := x1.mono (fun _ _ h => h.elim)
  have hpg : p ≠ g := by omega
  replace hw1 := Lib.hid hw1
  replace hp := Lib.hid hp
  clear h
  go_enter Try.func54, Try.ntmps54
  go_wp2_with fail
  rw [← hw1.out, ← hp.out]
  have hfin : ∀ {wx : World} (Bx : Blk wx p 73 #[.int .i64 0, .bool false]), wx.frozen? ⟨p, 0, none⟩ = false ∧ wx.frozen? ⟨p, 1, none⟩ = false ∧ wx.cell? ⟨p, 0, none⟩ = some (.int .i64 0) ∧ wx.cell? ⟨p, 1, none⟩ = some (.bool false) := fun B => ⟨B.frozen 0, B.frozen 1, B.cell 0, B.cell 1⟩
  have hset : ∀ {wx : World} (Bx : Blk wx p 73 #[.int .i64 0, .bool false]) (a b : Value), Blk ((wx.setCell ⟨p, 0, none⟩ a).setCell ⟨p, 1, none⟩ b) p 73 #[a, b] := fun B a b => (B.set_ 0 a).set_ 1 b
  have hmod : ∀ {wx : World} (a b : Value), Mod (fun b => b = g) w wx → Mod (fun b => b = g) w ((wx.setCell ⟨p, 0, none⟩ a).setCell ⟨p, 1, none⟩ b) := fun a b m => (m.setCell (p := ⟨p, 0, none⟩) (fun h => by have := hp.out; change p < _ at h; omega) a).setCell (p := ⟨p, 1, none⟩) (fun h => by have := hp.out; change p < _ at h; omega) b
  have hrd : ∀ {wx : World} {j : Nat} (a b : Value), Rd wx g s j → Rd ((wx.setCell ⟨p, 0, none⟩ a).setCell ⟨p, 1, none⟩ b) g s j := fun a b r => Blk.far (p := ⟨p, 1, none⟩) (Blk.far (p := ⟨p, 0, none⟩) r (fun h => hpg h.symm) a) (fun h => hpg h.symm) b
  refine (take_any r1 hk (by omega) [61] (by decide)).mono ?_
  rintro e w2 ⟨b1, rfl, hb1, r2, y2⟩
  have m2 := m1.then_ y2 (fun _ _ h => h)
  have B2 := B1.mod y2 hpg
  clear y2
  replace hb1 := Lib.hid hb1
  cases b1
  case true =>
    obtain ⟨z0, z1, c0, c1⟩ := hfin B2
    rw [if_pos rfl] at r2
    have r := hrd (.int .i64 3) (.bool true) r2
    go_wp2_with fail
    refine bodyPost_ret (results_cell_row2 Try.results54 _ _ _ _ _ _ _ rfl (hset B2 (.int .i64 3) (.bool true)) Try.underlying73 rfl (by kernel_rfl)) rfl ?_
    have hq := hb1.out.symm
    rw [pre_one] at hq
    have hq2 := of_decide_eq_true hq
    refine ⟨3, true, true, _, rfl, ?_, r, hmod _ _ m2, .inl ⟨rfl, 61, ?_, rfl, rfl⟩⟩
    · have := preB_len hb1.out.symm
      simp only [List.length_drop, List.length_cons, List.length_nil] at this ⊢
      omega
    · rw [sgnP_eq hq2, List.drop_drop]; rfl
  rw [if_neg (by decide)] at r2
  go_wp2_with fail
  refine (take_any r2 hk (by omega) [126, 61] (by decide)).mono ?_
  rintro e w3 ⟨b2, rfl, hb2, r3, y3⟩
  have m3 := m2.then_ y3 (fun _ _ h => h)
  have B3 := B2.mod y3 hpg
  clear y3
  replace hb2 := Lib.hid hb2
  cases b2
  case true =>
    obtain ⟨z0, z1, c0, c1⟩ := hfin B3
    rw [if_pos rfl] at r3
    have r := hrd (.int .i64 3) (.bool false) r3
    go_wp2_with fail
    refine bodyPost_ret (results_cell_row2 Try.results54 _ _ _ _ _ _ _ rfl (hset B3 (.int .i64 3) (.bool false)) Try.underlying73 rfl (by kernel_rfl)) rfl ?_
    have hq := hb2.out.symm
    rw [pre_two] at hq
    have hq2 := of_decide_eq_true hq
    refine ⟨3, false, true, _, rfl, ?_, r, hmod _ _ m3, .inl ⟨rfl, 126, ?_, rfl, rfl⟩⟩
    · have := preB_len hb2.out.symm
      simp only [List.length_drop, List.length_cons, List.length_nil] at this ⊢
      omega
    · rw [sgnP_two hq2 (by decide), List.drop_drop]; rfl
  rw [if_neg (by decide)] at r3
  go_wp2_with fail
  refine (take_any r3 hk (by omega) [62, 61] (by decide)).mono ?_
  rintro e w4 ⟨b3, rfl, hb3, r4, y4⟩
  have m4 := m3.then_ y4 (fun _ _ h => h)
  have B4 := B3.mod y4 hpg
  clear y4
  replace hb3 := Lib.hid hb3
  cases b3
  case true =>
    obtain ⟨z0, z1, c0, c1⟩ := hfin B4
    rw [if_pos rfl] at r4
    have r := hrd (.int .i64 5) (.bool false) r4
    go_wp2_with fail
    refine bodyPost_ret (results_cell_row2 Try.results54 _ _ _ _ _ _ _ rfl (hset B4 (.int .i64 5) (.bool false)) Try.underlying73 rfl (by kernel_rfl)) rfl ?_
    have hq := hb3.out.symm
    rw [pre_two] at hq
    have hq2 := of_decide_eq_true hq
    refine ⟨5, false, true, _, rfl, ?_, r, hmod _ _ m4, .inl ⟨rfl, 62, ?_, rfl, rfl⟩⟩
    · have := preB_len hb3.out.symm
      simp only [List.length_drop, List.length_cons, List.length_nil] at this ⊢
      omega
    · rw [sgnP_two hq2 (by decide), List.drop_drop]; rfl
  rw [if_neg (by decide)] at r4
  go_wp2_with fail
  refine (take_any r4 hk (by omega) [60, 61] (by decide)).mono ?_
  rintro e w5 ⟨b4, rfl, hb4, r5, y5⟩
  have m5 := m4.then_ y5 (fun _ _ h => h)
  have B5 := B4.mod y5 hpg
  clear y5
  replace hb4 := Lib.hid hb4
  cases b4
  case true =>
    obtain ⟨z0, z1, c0, c1⟩ := hfin B5
    rw [if_pos rfl] at r5
    have r := hrd (.int .i64 6) (.bool false) r5
    go_wp2_with fail
    refine bodyPost_ret (results_cell_row2 Try.results54 _ _ _ _ _ _ _ rfl (hset B5 (.int .i64 6) (.bool false)) Try.underlying73 rfl (by kernel_rfl)) rfl ?_
    have hq := hb4.out.symm
    rw [pre_two] at hq
    have hq2 := of_decide_eq_true hq
    refine ⟨6, false, true, _, rfl, ?_, r, hmod _ _ m5, .inl ⟨rfl, 60, ?_, rfl, rfl⟩⟩
    · have := preB_len hb4.out.symm
      simp only [List.length_drop, List.length_cons, List.length_nil] at this ⊢
      omega
    · rw [sgnP_two hq2 (by decide), List.drop_drop]; rfl
  rw [if_neg (by decide)] at r5
  obtain ⟨z0, z1, c0, c1⟩ := hfin B5
  have r := hrd (.int .i64 0) (.bool false) r5
  go_wp2_with fail
  refine bodyPost_ret (results_cell_row2 Try.results54 _ _ _ _ _ _ _ rfl (hset B5 (.int .i64 0) (.bool false)) Try.underlying73 rfl (by kernel_rfl)) rfl ?_
  refine ⟨0, false, false, _, rfl, hk, r, hmod _ _ m5, .inr ⟨rfl, ?_⟩⟩
  replace hb1 := hb1.out
  replace hb2 := hb2.out
  replace hb3 := hb3.out
  replace hb4 := hb4.out
  rw [pre_one] at hb1
  rw [pre_two] at hb2 hb3 hb4
  refine sgnP_no (of_decide_eq_false hb1.symm) fun c hc => ?_
  rcases hc with rfl | rfl | rfl
  · exact of_decide_eq_false hb2.symm
  · exact of_decide_eq_false hb3.symm
  · exact of_decide_eq_false hb4.symm
end Go.Proofs.Ytekocbphdckmkaa
