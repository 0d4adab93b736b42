/- dn: the document's reader: Half, stroke. -/
import Derived.Test.YtacmbomnjedbeaaDnQB
import Derived.Test.YtacmbomnjedbeaaDnPS
namespace Go.Proofs.Ytacmbomnjedbeaa
open Go.RowKit
set_option maxRecDepth 100000

def halfI (b : UInt8) : Int := match digB b with
  | some x => (x.toNat : Int)
  | none => -1
set_option maxHeartbeats 4000000 in
theorem half_any {w : World} (b : UInt8) :
    Calls Try.prog 101 #[bv b] w fun e w' => e = .returned (.int .i64 (halfI b)) ∧ w' = w := by
  have h8 := b.toNat_lt
  unfold halfI digB
  by_cases h1 : 48 ≤ b.toNat ∧ b.toNat ≤ 57
  · rw [if_pos h1]
    have a1 : (48 : Int) ≤ (b.toNat : Int) := by omega
    have a2 : (b.toNat : Int) ≤ 57 := by omega
    have hv : ((b - 48).toNat : Int) = (b.toNat : Int) - 48 := by rw [UInt8.toNat_sub, show (48 : UInt8).toNat = 48 from rfl]; omega
    dsimp only
    rw [hv]
    go_enter Try.func101, Try.ntmps101
    go_wp2_with fail
    go_ret
    exact ⟨rfl, rfl⟩
  rw [if_neg h1]
  by_cases h2 : 97 ≤ b.toNat ∧ b.toNat ≤ 102
  · rw [if_pos h2]
    have a1 : (97 : Int) ≤ (b.toNat : Int) := by omega
    have a2 : (b.toNat : Int) ≤ 102 := by omega
    have hv : ((b - 97 + 10).toNat : Int) = (b.toNat : Int) - 97 + 10 := by
      rw [UInt8.toNat_add, UInt8.toNat_sub, show (97 : UInt8).toNat = 97 from rfl, show (10 : UInt8).toNat = 10 from rfl]; omega
    dsimp only
    rw [hv]
    go_enter Try.func101, Try.ntmps101
    go_wp2_with fail
    go_ret
    exact ⟨rfl, rfl⟩
  rw [if_neg h2]
  by_cases h3 : 65 ≤ b.toNat ∧ b.toNat ≤ 70
  · rw [if_pos h3]
    have a1 : (65 : Int) ≤ (b.toNat : Int) := by omega
    have a2 : (b.toNat : Int) ≤ 70 := by omega
    have hv : ((b - 65 + 10).toNat : Int) = (b.toNat : Int) - 65 + 10 := by
      rw [UInt8.toNat_add, UInt8.toNat_sub, show (65 : UInt8).toNat = 65 from rfl, show (10 : UInt8).toNat = 10 from rfl]; omega
    dsimp only
    rw [hv]
    go_enter Try.func101, Try.ntmps101
    go_wp2_with fail
    go_ret
    exact ⟨rfl, rfl⟩
  rw [if_neg h3]
  dsimp only
  have b1 : ∃ q : Bool, decide ((48 : Int) ≤ (b.toNat : Int)) = q ∧ (q = true → decide ((b.toNat : Int) ≤ 57) = false) := ⟨_, rfl, fun h => dfalse (by have := of_decide_eq_true h; omega)⟩
  have b2 : ∃ q : Bool, decide ((97 : Int) ≤ (b.toNat : Int)) = q ∧ (q = true → decide ((b.toNat : Int) ≤ 102) = false) := ⟨_, rfl, fun h => dfalse (by have := of_decide_eq_true h; omega)⟩
  have b3 : ∃ q : Bool, decide ((65 : Int) ≤ (b.toNat : Int)) = q ∧ (q = true → decide ((b.toNat : Int) ≤ 70) = false) := ⟨_, rfl, fun h => dfalse (by have := of_decide_eq_true h; omega)⟩
  obtain ⟨q1, b1, b1'⟩ := b1
  obtain ⟨q2, b2, b2'⟩ := b2
  obtain ⟨q3, b3, b3'⟩ := b3
  go_enter Try.func101, Try.ntmps101
  cases q1 <;> cases q2 <;> cases q3
  all_goals (try replace b1' := b1' rfl)
  all_goals (try replace b2' := b2' rfl)
  all_goals (try replace b3' := b3' rfl)
  all_goals go_wp2_with fail
  all_goals go_ret
  all_goals exact ⟨rfl, rfl⟩

set_option maxHeartbeats 8000000 in
theorem qstroke_any {w : World} {g : Nat} {s : List UInt8} {k : Nat} (h : Rq w g s k) (hk : k < s.length) (hl : s.length ≤ 140737488351232) :
    Calls Try.prog 87 #[.pointer (some ⟨g, 0, none⟩)] w fun e w' => ∃ (b : UInt8) (ok : Bool) (j : Nat), e = .returned (.tuple #[bv b, .bool ok]) ∧ k ≤ j ∧ j ≤ s.length ∧ (ok = true → k < j) ∧ escR (s.drop (k + 1)) = (if ok then some (b, s.drop j) else none) ∧ Rq w' g s j ∧ Mod (fun b => b = g) w w' := by
  have hsz := sv_size s
  have hr := h
  have m0 : Mod (fun b => b = g) w w := Mod.refl _ _
  obtain ⟨c0, c1⟩ := hr.c
  have z1 : w.frozen? ⟨g, 1, none⟩ = false := Blk.frozen hr 1
  by_cases hlt : k + 1 < s.length
  case neg =>
    have hb1 : decide ((s.length : Int) ≤ (k : Int) + 1) = true := dtrue (by omega)
    have hE := Lib.hid (show escR (s.drop (k + 1)) = none by rw [drop_end (by omega)]; rfl)
    go_enter Try.func87, Try.ntmps87
    go_wp2_with fail
    go_quiet (fail)
    obtain ⟨w3, hw3⟩ : ∃ x, x = w.drewN nq := ⟨_, rfl⟩
    rw [← hw3]
    have x3 : Ext w w3 := by rw [hw3]; exact (Mod.refl _ w).drewN nq
    clear hw3 c0 c1 z1
    have hr3 := hr.mod x3 (fun h => h)
    have m3 : Mod (fun b => b = g) w w3 := m0.then_ x3 (fun _ _ h => h.elim)
    obtain ⟨c0, c1⟩ := hr3.c
    have z1 : w3.frozen? ⟨g, 1, none⟩ = false := Blk.frozen hr3 1
    go_wp2_with fail
    go_ret2
    exact ⟨0, false, k, rfl, Nat.le_refl _, by omega, by simp, by rw [hE.out]; rfl, hr3, m3⟩
  have hb1 : decide ((s.length : Int) ≤ (k : Int) + 1) = false := dfalse (by omega)
  obtain ⟨c, hdr, hg⟩ := get_at hlt
  rw [hdr]
  obtain ⟨E, hE0⟩ : ∃ E, E = escR (c :: s.drop (k + 1 + 1)) := ⟨_, rfl⟩
  rw [← hE0]
  replace hE0 := Lib.hid hE0
  have hi0 : (0 : Int) ≤ (k : Int) + 1 := by omega
  have hi1 : (k : Int) + 1 < (s.length : Int) := by omega
  go_enter Try.func87, Try.ntmps87
  go_wp2_with fail
  go_quiet (fail)
  obtain ⟨w3, hw3⟩ : ∃ x, x = w.drewN nq := ⟨_, rfl⟩
  rw [← hw3]
  have x3 : Ext w w3 := by rw [hw3]; exact (Mod.refl _ w).drewN nq
  clear hw3 c0 c1 z1
  have hr3 := hr.mod x3 (fun h => h)
  have m3 : Mod (fun b => b = g) w w3 := m0.then_ x3 (fun _ _ h => h.elim)
  obtain ⟨c0, c1⟩ := hr3.c
  have z1 : w3.frozen? ⟨g, 1, none⟩ = false := Blk.frozen hr3 1
  go_wp2_with fail
  go_quiet (fail)
  obtain ⟨w4, hw4⟩ : ∃ x, x = w3.drewN nq := ⟨_, rfl⟩
  rw [← hw4]
  have x4 : Ext w3 w4 := by rw [hw4]; exact (Mod.refl _ w3).drewN nq
  clear hw4 c0 c1 z1
  have hr4 := hr3.mod x4 (fun h => h)
  have m4 : Mod (fun b => b = g) w w4 := m3.then_ x4 (fun _ _ h => h.elim)
  obtain ⟨c0, c1⟩ := hr4.c
  have z1 : w4.frozen? ⟨g, 1, none⟩ = false := Blk.frozen hr4 1
  go_wp2_with fail
  clear hdr
  refine (in_any c mayB (by decide)).mono ?_
  rintro e w5 ⟨rfl, hw5⟩
  rw [hw5]
  clear hw5 w5
  by_cases hc : c ∈ mayB
  · rw [dtrue hc]
    have hE : Hid (E = some (c, s.drop (k + 2))) := Lib.hid (by rw [hE0.out, escR, if_pos hc])
    clear hc
    go_wp2_with fail
    go_ret2
    exact ⟨c, true, k + 2, rfl, by omega, by omega, by simp, by rw [hE.out]; rfl, hr4.step (k + 2) _ (by omega), m4.setCell (p := ⟨g, 1, none⟩) (fun _ => rfl) _⟩
  rw [dfalse hc]
  have hes : E = (digB c).bind fun x => (s.drop (k + 2)).head?.bind fun d => (digB d).map fun y => (x <<< 4 ||| y, (s.drop (k + 2)).tail) := by
    rw [hE0.out, escR, if_neg hc]
  replace hes := Lib.hid hes
  have hhc := fun wx => half_any (w := wx) c
  clear hc hg hi0 hi1 hb1
  by_cases hlt2 : k + 2 < s.length
  case neg =>
    have hb2 : decide ((k : Int) + 2 < (s.length : Int)) = false := dfalse (by omega)
    have hE := hes.out
    rw [drop_end (by omega)] at hE
    replace hE := Lib.hid (show E = none by rw [hE]; cases digB c <;> rfl)
    clear hes hhc
    go_wp2_with fail
    go_quiet (fail)
    obtain ⟨w6, hw6⟩ : ∃ x, x = w4.drewN nq := ⟨_, rfl⟩
    rw [← hw6]
    have x6 : Ext w4 w6 := by rw [hw6]; exact (Mod.refl _ w4).drewN nq
    clear hw6 c0 c1 z1
    have hr6 := hr4.mod x6 (fun h => h)
    have m6 : Mod (fun b => b = g) w w6 := m4.then_ x6 (fun _ _ h => h.elim)
    obtain ⟨c0, c1⟩ := hr6.c
    have z1 : w6.frozen? ⟨g, 1, none⟩ = false := Blk.frozen hr6 1
    go_wp2_with fail
    go_ret2
    exact ⟨0, false, k, rfl, Nat.le_refl _, by omega, by simp, by rw [hE.out]; rfl, hr6, m6⟩
  have hb2 : decide ((k : Int) + 2 < (s.length : Int)) = true := dtrue (by omega)
  obtain ⟨d, hdd, hg⟩ := get_at hlt2
  have hE := hes.out
  rw [hdd] at hE
  simp only [List.head?_cons, List.tail_cons, Option.bind_some] at hE
  clear hes hdd
  have hi0 : (0 : Int) ≤ (k : Int) + 2 := by omega
  have hi1 : (k : Int) + 2 < (s.length : Int) := by omega
  have hhd := fun wx => half_any (w := wx) d
  unfold halfI at hhc hhd
  have hx16 := fun x (h : digB c = some x) => digB_lt h
  have hy16 := fun x (h : digB d = some x) => digB_lt h
  cases hdc : digB c with
  | none =>
    rw [hdc] at hhc hE
    dsimp only at hhc
    replace hE := Lib.hid hE
    clear hdc hx16 hy16 hhd
    go_wp2_with fail
    go_quiet (first | (go_at_call 101; (with_reducible refine Calls.quiet_of_same (hhc _))) | (go_at_call 101; (with_reducible refine Calls.quiet_of_same (hhd _))))
    obtain ⟨w6, hw6⟩ : ∃ x, x = w4.drewN nq := ⟨_, rfl⟩
    rw [← hw6]
    have x6 : Ext w4 w6 := by rw [hw6]; exact (Mod.refl _ w4).drewN nq
    clear hw6 c0 c1 z1
    have hr6 := hr4.mod x6 (fun h => h)
    have m6 : Mod (fun b => b = g) w w6 := m4.then_ x6 (fun _ _ h => h.elim)
    obtain ⟨c0, c1⟩ := hr6.c
    have z1 : w6.frozen? ⟨g, 1, none⟩ = false := Blk.frozen hr6 1
    go_wp2_with fail
    go_ret2
    exact ⟨0, false, k, rfl, Nat.le_refl _, by omega, by simp, by rw [hE.out]; rfl, hr6, m6⟩
  | some x =>
  rw [hdc] at hhc hE
  dsimp only at hhc
  have hx := hx16 x hdc
  clear hdc hx16
  have hx0 : (0 : Int) ≤ (x.toNat : Int) := by omega
  cases hdc : digB d with
  | none =>
    rw [hdc] at hhd hE
    dsimp only at hhd
    replace hE := Lib.hid hE
    clear hdc hy16
    go_wp2_with fail
    go_quiet (first | (go_at_call 101; (with_reducible refine Calls.quiet_of_same (hhc _))) | (go_at_call 101; (with_reducible refine Calls.quiet_of_same (hhd _))))
    obtain ⟨w6, hw6⟩ : ∃ x, x = w4.drewN nq := ⟨_, rfl⟩
    rw [← hw6]
    have x6 : Ext w4 w6 := by rw [hw6]; exact (Mod.refl _ w4).drewN nq
    clear hw6 c0 c1 z1
    have hr6 := hr4.mod x6 (fun h => h)
    have m6 : Mod (fun b => b = g) w w6 := m4.then_ x6 (fun _ _ h => h.elim)
    obtain ⟨c0, c1⟩ := hr6.c
    have z1 : w6.frozen? ⟨g, 1, none⟩ = false := Blk.frozen hr6 1
    go_wp2_with fail
    go_ret2
    exact ⟨0, false, k, rfl, Nat.le_refl _, by omega, by simp, by rw [hE.out]; rfl, hr6, m6⟩
  | some y =>
  rw [hdc] at hhd hE
  dsimp only at hhd
  have hy := hy16 y hdc
  clear hdc hy16
  have hy0 : (0 : Int) ≤ (y.toNat : Int) := by omega
  have hbe := hilo_eq x y hx hy
  have hbl := (x <<< 4 ||| y).toNat_lt
  have hx1 : (x.toNat : Int) < 16 := by omega
  have hy1 : (y.toNat : Int) < 16 := by omega
  have hwr : Hid (((x <<< 4 ||| y).toNat : Int) = 16 * (x.toNat : Int) + (y.toNat : Int)) := Lib.hid (by omega)
  have hE2 : Hid (E = some (x <<< 4 ||| y, s.drop (k + 3))) := Lib.hid (by rw [hE]; rfl)
  clear hE hbe hbl hx hy
  generalize x <<< 4 ||| y = r at *
  go_wp2_with fail
  go_quiet (first | (go_at_call 101; (with_reducible refine Calls.quiet_of_same (hhc _))) | (go_at_call 101; (with_reducible refine Calls.quiet_of_same (hhd _))))
  obtain ⟨w6, hw6⟩ : ∃ x, x = w4.drewN nq := ⟨_, rfl⟩
  rw [← hw6]
  have x6 : Ext w4 w6 := by rw [hw6]; exact (Mod.refl _ w4).drewN nq
  clear hw6 c0 c1 z1
  have hr6 := hr4.mod x6 (fun h => h)
  have m6 : Mod (fun b => b = g) w w6 := m4.then_ x6 (fun _ _ h => h.elim)
  obtain ⟨c0, c1⟩ := hr6.c
  have z1 : w6.frozen? ⟨g, 1, none⟩ = false := Blk.frozen hr6 1
  go_wp2_with fail
  go_quiet (first | (go_at_call 101; (with_reducible refine Calls.quiet_of_same (hhc _))) | (go_at_call 101; (with_reducible refine Calls.quiet_of_same (hhd _))))
  obtain ⟨w7, hw7⟩ : ∃ x, x = w6.drewN nq := ⟨_, rfl⟩
  rw [← hw7]
  have x7 : Ext w6 w7 := by rw [hw7]; exact (Mod.refl _ w6).drewN nq
  clear hw7 c0 c1 z1
  have hr7 := hr6.mod x7 (fun h => h)
  have m7 : Mod (fun b => b = g) w w7 := m6.then_ x7 (fun _ _ h => h.elim)
  obtain ⟨c0, c1⟩ := hr7.c
  have z1 : w7.frozen? ⟨g, 1, none⟩ = false := Blk.frozen hr7 1
  go_wp2_with fail
  go_ret2
  exact ⟨r, true, k + 3, by show _ = Ending.returned (.tuple #[.int .u8 (r.toNat : Int), .bool true]); rw [hwr.out]; rfl, by omega, by omega, fun _ => by omega, by rw [hE2.out]; rfl, hr7.step (k + 3) _ (by omega), m7.setCell (p := ⟨g, 1, none⟩) (fun _ => rfl) _⟩
end Go.Proofs.Ytacmbomnjedbeaa
