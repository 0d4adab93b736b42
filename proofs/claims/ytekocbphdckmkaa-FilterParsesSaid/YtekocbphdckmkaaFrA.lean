/- filter: the document's reader: sign, bad. -/
import Derived.Test.YtekocbphdckmkaaFqG
import Derived.BigQuiet
namespace Go.Proofs.Ytekocbphdckmkaa
open Go.RowKit
set_option maxRecDepth 100000

/-- The document's reader g over s has come to k; its error is x. -/
def R3 (w : World) (g : Nat) (s : List UInt8) (k x : Nat) : Prop := Blk w g 45 #[sv s, .int .i64 k, .int .i64 x]
theorem R3.c {w : World} {g : Nat} {s : List UInt8} {k x : Nat} (h : R3 w g s k x) : w.cell? ⟨g, 0, none⟩ = some (sv s) ∧ w.cell? ⟨g, 1, none⟩ = some (.int .i64 k) ∧ w.cell? ⟨g, 2, none⟩ = some (.int .i64 x) := ⟨Blk.cell h 0, Blk.cell h 1, Blk.cell h 2⟩
theorem R3.mod {w w' : World} {g : Nat} {s : List UInt8} {k x : Nat} {F : Nat → Prop} (h : R3 w g s k x) (hm : Mod F w w') (hg : ¬ F g) : R3 w' g s k x := Blk.mod h hm hg
theorem R3.step {w : World} {g : Nat} {s : List UInt8} {k x : Nat} (h : R3 w g s k x) (j : Nat) (u : Int) (hu : u = (j : Int)) : R3 (w.setCell ⟨g, 1, none⟩ (.int .i64 u)) g s j x := by subst hu; exact Blk.set_ h 1 _
theorem R3.err {w : World} {g : Nat} {s : List UInt8} {k x : Nat} (h : R3 w g s k x) (y : Nat) : R3 (w.setCell ⟨g, 2, none⟩ (.int .i64 (y : Int))) g s k y := Blk.set_ h 2 _
theorem R3.at_ {w : World} {g : Nat} {s : List UInt8} {k x : Nat} (h : R3 w g s k x) : rdAt w g = k := by
  unfold rdAt
  rw [h.c.2.1]
  simp [intOf]
theorem R3.lt {w : World} {g : Nat} {s : List UInt8} {k x : Nat} (h : R3 w g s k x) : g < w.heap.size := Blk.lt h
theorem get_at {s : List UInt8} {k : Nat} (h : k < s.length) : ∃ c, s.drop k = c :: s.drop (k + 1) ∧ ∀ h', (⟨s.toArray⟩ : ByteArray)[k]'h' = c :=
  ⟨s[k], List.drop_eq_getElem_cons h, fun h' => sv_get s k h h'⟩
theorem drop_end {s : List UInt8} {k : Nat} (h : ¬ k < s.length) : s.drop k = [] := List.drop_of_length_le (by omega)
theorem beq_lit (c x : UInt8) : ((c.toNat : Int) == (x.toNat : Int)) = decide (c = x) := by
  rw [Bool.eq_iff_iff, beq_iff_eq, decide_eq_true_eq, ← UInt8.toNat_inj]; omega
theorem bne_lit (c x : UInt8) : ((c.toNat : Int) != (x.toNat : Int)) = !decide (c = x) := by
  rw [bne, beq_lit]

def TkP (p : UInt8 → Bool) (s : List UInt8) (a j : Nat) : Prop := (s.drop a).takeWhile p = (s.drop a).take (j - a) ++ (s.drop j).takeWhile p ∧ (s.drop a).dropWhile p = (s.drop j).dropWhile p
theorem TkP.start (p : UInt8 → Bool) (s : List UInt8) (a : Nat) : TkP p s a a := ⟨by simp, rfl⟩
theorem TkP.next {p : UInt8 → Bool} {s : List UInt8} {a j : Nat} {c : UInt8} (h : TkP p s a j) (ha : a ≤ j) (hj : j < s.length) (hd : s.drop j = c :: s.drop (j + 1)) (hp : p c = true) : TkP p s a (j + 1) := by
  obtain ⟨h1, h2⟩ := h
  refine ⟨?_, ?_⟩
  · rw [h1, hd, List.takeWhile_cons, if_pos hp]
    have ht : (s.drop a).take (j + 1 - a) = (s.drop a).take (j - a) ++ [c] := by
      have hc : c = s[j] := by rw [List.drop_eq_getElem_cons hj] at hd; injection hd with h _; exact h.symm
      rw [show j + 1 - a = (j - a) + 1 by omega, List.take_succ_eq_append_getElem (by rw [List.length_drop]; omega), List.getElem_drop, hc]
      congr 2
      congr 1
      omega
    rw [ht, List.append_assoc]
    rfl
  · rw [h2, hd, List.dropWhile_cons, if_pos hp]
theorem TkP.stop {p : UInt8 → Bool} {s : List UInt8} {a j : Nat} {c : UInt8} (h : TkP p s a j) (hd : s.drop j = c :: s.drop (j + 1)) (hp : p c = false) : (s.drop a).takeWhile p = (s.drop a).take (j - a) ∧ s.drop j = (s.drop a).dropWhile p := by
  obtain ⟨h1, h2⟩ := h
  rw [h1, h2, hd, List.takeWhile_cons, List.dropWhile_cons, hp]
  exact ⟨by simp, by simp⟩
theorem TkP.end_ {p : UInt8 → Bool} {s : List UInt8} {a j : Nat} (h : TkP p s a j) (hd : s.drop j = []) : (s.drop a).takeWhile p = (s.drop a).take (j - a) ∧ s.drop j = (s.drop a).dropWhile p := by
  obtain ⟨h1, h2⟩ := h
  rw [h1, h2, hd]
  exact ⟨by simp, rfl⟩

def halfI (b : UInt8) : Int := match digB b with
  | some x => (x.toNat : Int)
  | none => -1
set_option maxHeartbeats 4000000 in
theorem half_any {w : World} (b : UInt8) :
    Calls Try.prog 57 #[bv b] w fun e w' => e = .returned (.int .i64 (halfI b)) ∧ w' = w := by
  have h8 := b.toNat_lt
  unfold halfI digB
  by_cases h1 : 48 ≤ b.toNat ∧ b.toNat ≤ 57
  · rw [if_pos h1]
    have a1 : (48 : Int) ≤ (b.toNat : Int) := by omega
    have a2 : (b.toNat : Int) ≤ 57 := by omega
    have hv : ((b - 48).toNat : Int) = (b.toNat : Int) - 48 := by rw [UInt8.toNat_sub, show (48 : UInt8).toNat = 48 from rfl]; omega
    dsimp only
    rw [hv]
    go_enter Try.func57, Try.ntmps57
    go_wp2_with fail
    go_ret
    exact ⟨rfl, rfl⟩
  rw [if_neg h1]
  by_cases h2 : 97 ≤ b.toNat ∧ b.toNat ≤ 102
  · rw [if_pos h2]
    have a1 : (97 : Int) ≤ (b.toNat : Int) := by omega
    have a2 : (b.toNat : Int) ≤ 102 := by omega
    have hv : ((b - 97 + 10).toNat : Int) = (b.toNat : Int) - 97 + 10 := by
      rw [UInt8.toNat_add, UInt8.toNat_sub, show (97 : UInt8).toNat = 97 from rfl, show (10 : UInt8).toNat = 10 from rfl]; omega
    dsimp only
    rw [hv]
    go_enter Try.func57, Try.ntmps57
    go_wp2_with fail
    go_ret
    exact ⟨rfl, rfl⟩
  rw [if_neg h2]
  by_cases h3 : 65 ≤ b.toNat ∧ b.toNat ≤ 70
  · rw [if_pos h3]
    have a1 : (65 : Int) ≤ (b.toNat : Int) := by omega
    have a2 : (b.toNat : Int) ≤ 70 := by omega
    have hv : ((b - 65 + 10).toNat : Int) = (b.toNat : Int) - 65 + 10 := by
      rw [UInt8.toNat_add, UInt8.toNat_sub, show (65 : UInt8).toNat = 65 from rfl, show (10 : UInt8).toNat = 10 from rfl]; omega
    dsimp only
    rw [hv]
    go_enter Try.func57, Try.ntmps57
    go_wp2_with fail
    go_ret
    exact ⟨rfl, rfl⟩
  rw [if_neg h3]
  dsimp only
  have b1 : ∃ q : Bool, decide ((48 : Int) ≤ (b.toNat : Int)) = q ∧ (q = true → decide ((b.toNat : Int) ≤ 57) = false) := ⟨_, rfl, fun h => dfalse (by have := of_decide_eq_true h; omega)⟩
  have b2 : ∃ q : Bool, decide ((97 : Int) ≤ (b.toNat : Int)) = q ∧ (q = true → decide ((b.toNat : Int) ≤ 102) = false) := ⟨_, rfl, fun h => dfalse (by have := of_decide_eq_true h; omega)⟩
  have b3 : ∃ q : Bool, decide ((65 : Int) ≤ (b.toNat : Int)) = q ∧ (q = true → decide ((b.toNat : Int) ≤ 70) = false) := ⟨_, rfl, fun h => dfalse (by have := of_decide_eq_true h; omega)⟩
  obtain ⟨q1, b1, b1'⟩ := b1
  obtain ⟨q2, b2, b2'⟩ := b2
  obtain ⟨q3, b3, b3'⟩ := b3
  go_enter Try.func57, Try.ntmps57
  cases q1 <;> cases q2 <;> cases q3
  all_goals (try replace b1' := b1' rfl)
  all_goals (try replace b2' := b2' rfl)
  all_goals (try replace b3' := b3' rfl)
  all_goals go_wp2_with fail
  all_goals go_ret
  all_goals exact ⟨rfl, rfl⟩

theorem while_same {p q : UInt8 → Bool} (hpq : ∀ b, p b = true → q b = true) (m : List UInt8) : (m.takeWhile p = m.takeWhile q ∧ m.dropWhile p = m.dropWhile q) ∨ ∃ c r, m.dropWhile p = c :: r ∧ q c = true ∧ p c = false := by
  induction m with
  | nil => exact .inl ⟨rfl, rfl⟩
  | cons b m ih =>
    by_cases hp : p b = true
    · have hq := hpq b hp
      rw [List.takeWhile_cons, if_pos hp, List.dropWhile_cons, if_pos hp, List.takeWhile_cons, if_pos hq, List.dropWhile_cons, if_pos hq]
      rcases ih with ⟨h1, h2⟩ | h
      · exact .inl ⟨by rw [h1], h2⟩
      · exact .inr h
    · by_cases hq : q b = true
      · exact .inr ⟨b, m, by rw [List.dropWhile_cons, if_neg hp], hq, by simpa using hp⟩
      · rw [List.takeWhile_cons, if_neg hp, List.dropWhile_cons, if_neg hp, List.takeWhile_cons, if_neg hq, List.dropWhile_cons, if_neg hq]
        exact .inl ⟨rfl, rfl⟩

set_option maxHeartbeats 8000000 in
theorem rsign_any {w : World} {g : Nat} {s : List UInt8} {k x : Nat} (h : R3 w g s k x) (hk : k ≤ s.length) (hl : s.length ≤ 140737488351232) (c : UInt8) :
    Calls Try.prog 33 #[.pointer (some ⟨g, 0, none⟩), .int .u8 (c.toNat : Int)] w fun e w' => ∃ b : Bool, e = .returned (.bool b) ∧ b = decide ((s.drop k).head? = some c) ∧ (if b = true then k + 1 else k) ≤ s.length ∧ R3 w' g s (if b = true then k + 1 else k) x ∧ Mod (fun b => b = g) w w' := by
  have hsz := sv_size s
  obtain ⟨c0, c1, c2⟩ := h.c
  have z1 : w.frozen? ⟨g, 1, none⟩ = false := Blk.frozen h 1
  by_cases hlt : k < s.length
  · have hb1 : decide ((k : Int) < (s.length : Int)) = true := dtrue (by omega)
    obtain ⟨d, hdr, hg⟩ := get_at hlt
    have hi0 : (0 : Int) ≤ (k : Int) := by omega
    have hi1 : (k : Int) < (s.length : Int) := by omega
    have hq := beq_lit d c
    have hh : (s.drop k).head? = some c ↔ d = c := by rw [hdr]; simp
    by_cases hc : d = c
    · rw [dtrue hc] at hq
      have hres := Lib.hid (show true = decide ((s.drop k).head? = some c) from (dtrue (hh.2 hc)).symm)
      replace hg := hg
      clear hdr hc hh
      go_enter Try.func33, Try.ntmps33
      go_wp2_with fail
      go_quiet (fail)
      obtain ⟨w3, hw3⟩ : ∃ y7 : World, y7 = w.drewN nq := ⟨_, rfl⟩
      rw [← hw3]
      have x3 : Ext w w3 := by rw [hw3]; exact (Mod.refl _ w).drewN nq
      clear hw3 c0 c1 c2 z1
      have hr3 := h.mod x3 (fun h => h)
      obtain ⟨c0, c1, c2⟩ := hr3.c
      have z1 : w3.frozen? ⟨g, 1, none⟩ = false := Blk.frozen hr3 1
      have m3 : Mod (fun b => b = g) w w3 := x3.mono (fun _ _ h => h.elim)
      have hr4 := hr3.step (k + 1) ((k : Int) + 1) (by omega)
      have m4 := m3.then_ (step_mod (w := w3) (g := g) (.int .i64 ((k : Int) + 1))) (fun _ _ h => h)
      go_wp2_with fail
      go_ret
      exact ⟨true, rfl, hres.out, by rw [if_pos rfl]; omega, hr4, m4⟩
    · rw [dfalse hc] at hq
      have hres := Lib.hid (show false = decide ((s.drop k).head? = some c) from (dfalse (fun h => hc (hh.1 h))).symm)
      clear hdr hc hh
      go_enter Try.func33, Try.ntmps33
      go_wp2_with fail
      go_quiet (fail)
      obtain ⟨w3, hw3⟩ : ∃ y7 : World, y7 = w.drewN nq := ⟨_, rfl⟩
      rw [← hw3]
      have x3 : Ext w w3 := by rw [hw3]; exact (Mod.refl _ w).drewN nq
      clear hw3 c0 c1 c2 z1
      have hr3 := h.mod x3 (fun h => h)
      have m3 : Mod (fun b => b = g) w w3 := x3.mono (fun _ _ h => h.elim)
      go_wp2_with fail
      go_ret
      exact ⟨false, rfl, hres.out, hk, hr3, m3⟩
  · have hb1 : decide ((k : Int) < (s.length : Int)) = false := dfalse (by omega)
    have hres := Lib.hid (show false = decide ((s.drop k).head? = some c) from (dfalse (by rw [drop_end hlt]; simp)).symm)
    go_enter Try.func33, Try.ntmps33
    go_wp2_with fail
    go_quiet (fail)
    obtain ⟨w3, hw3⟩ : ∃ y7 : World, y7 = w.drewN nq := ⟨_, rfl⟩
    rw [← hw3]
    have x3 : Ext w w3 := by rw [hw3]; exact (Mod.refl _ w).drewN nq
    clear hw3 c0 c1 c2 z1
    have hr3 := h.mod x3 (fun h => h)
    have m3 : Mod (fun b => b = g) w w3 := x3.mono (fun _ _ h => h.elim)
    go_wp2_with fail
    go_ret
    exact ⟨false, rfl, hres.out, hk, hr3, m3⟩
set_option maxHeartbeats 8000000 in
theorem rbad_any {w : World} {g : Nat} {s : List UInt8} {k : Nat} (h : R3 w g s k 0) (y : Nat) :
    Calls Try.prog 22 #[.pointer (some ⟨g, 0, none⟩), .int .i64 (y : Int)] w fun e w' => e = .returned (filV fz (.slice none 0 0) (.slice none 0 0)) ∧ R3 w' g s k y ∧ Mod (fun b => b = g) w w' := by
  obtain ⟨w1, hw1⟩ : ∃ y7 : World, y7 = w.alloc (.cells z5 25) := ⟨_, rfl⟩
  obtain ⟨p, hp⟩ : ∃ y8, y8 = w.heap.size := ⟨_, rfl⟩
  have x1 : Ext w w1 := by rw [hw1]; exact (Mod.refl _ w).alloc _
  have B1 : Blk w1 p 25 z5 := by rw [hw1, hp]; exact Blk.new w _ _
  have r1 := h.mod x1 (fun h => h)
  have m1 : Mod (fun b => b = g) w w1 := x1.mono (fun _ _ h => h.elim)
  have hpg : p ≠ g := by have := h.lt; omega
  have hgp : g ≠ p := fun h => hpg h.symm
  have hpn : ¬ p < w.heap.size := by omega
  obtain ⟨c0, c1, c2⟩ := r1.c
  have z2 : w1.frozen? ⟨g, 2, none⟩ = false := Blk.frozen r1 2
  have r2 := r1.err y
  have y2 : Mod (fun b => b = g) w1 (w1.setCell ⟨g, 2, none⟩ (.int .i64 (y : Int))) := (Mod.refl (fun b => b = g) w1).setCell (p := ⟨g, 2, none⟩) (fun _ => rfl) _
  have m2 := m1.then_ y2 (fun _ _ h => h)
  have B2 := B1.mod y2 hpg
  replace hw1 := Lib.hid hw1
  replace hp := Lib.hid hp
  clear h x1 B1 r1 m1 y2
  go_enter Try.func22, Try.ntmps22
  go_upto_region 1 with fail
  rw [← hw1.out, ← hp.out]
  go_upto_region 3 with fail
  obtain ⟨w2, hw2⟩ : ∃ y7 : World, y7 = w1.setCell ⟨g, 2, none⟩ (.int .i64 (y : Int)) := ⟨_, rfl⟩
  rw [← hw2] at r2 m2 B2 ⊢
  clear hw2 c0 c1 c2 z2
  obtain ⟨⟨f0, f1, f2, f3, f4⟩, e0, e1, e2, e3, e4⟩ := B2.five
  go_wp2_with fail
  refine bodyPost_ret (results_cell_row Try.results22 _ _ _ _ _ _ _ rfl (B2.set5 _ _ _ _ _) Try.underlying25 rfl (by kernel_rfl)) rfl ?_
  exact ⟨rfl, Blk.far5 r2 hgp _ _ _ _ _, mod5 m2 (fun h => absurd h hpn) _ _ _ _ _⟩
end Go.Proofs.Ytekocbphdckmkaa
