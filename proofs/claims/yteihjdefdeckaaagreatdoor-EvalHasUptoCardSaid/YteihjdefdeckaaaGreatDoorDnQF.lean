/- dn: the document's reader: Half, stroke. -/
import Derived.Test.YteihjdefdeckaaaGreatDoorDnQB
import Derived.Test.YteihjdefdeckaaaGreatDoorDnPS
namespace Go.Proofs.YteihjdefdeckaaaGreatDoor
open Go.RowKit
set_option maxRecDepth 100000

def halfI (b : UInt8) : Int := match digB b with
  | some x => (x.toNat : Int)
  | none => -1
set_option maxHeartbeats 4000000 in
theorem half_any {w : World} (b : UInt8) :
    Calls Tryz.prog 126 #[bv b] w fun e w' => e = .returned (.int .i64 (halfI b)) ∧ w' = w := by
  have h8 := b.toNat_lt
  unfold halfI digB
  by_cases h1 : 48 ≤ b.toNat ∧ b.toNat ≤ 57
  · rw [if_pos h1]
    have a1 : (48 : Int) ≤ (b.toNat : Int) := by omega
    have a2 : (b.toNat : Int) ≤ 57 := by omega
    have hv : ((b - 48).toNat : Int) = (b.toNat : Int) - 48 := by rw [UInt8.toNat_sub, show (48 : UInt8).toNat = 48 from rfl]; omega
    dsimp only
    rw [hv]
    go_enter Tryz.func126, Tryz.ntmps126
    go_wp2_with fail
    go_ret
    exact ⟨rfl, rfl⟩
  rw [if_neg h1]
  by_cases h2 : 97 ≤ b.toNat ∧ b.toNat ≤ 102
  · rw [if_pos h2]
    have a1 : (97 : Int) ≤ (b.toNat : Int) := by omega
    have a2 : (b.toNat : Int) ≤ 102 := by omega
    have hv : ((b - 97 + 10).toNat : Int) = (b.toNat : Int) - 97 + 10 := by
      rw [UInt8.toNat_add, UInt8.toNat_sub, show (97 : UInt8).toNat = 97 from rfl, show (10 : UInt8).toNat = 10 from rfl]; omega
    dsimp only
    rw [hv]
    go_enter Tryz.func126, Tryz.ntmps126
    go_wp2_with fail
    go_ret
    exact ⟨rfl, rfl⟩
  rw [if_neg h2]
  by_cases h3 : 65 ≤ b.toNat ∧ b.toNat ≤ 70
  · rw [if_pos h3]
    have a1 : (65 : Int) ≤ (b.toNat : Int) := by omega
    have a2 : (b.toNat : Int) ≤ 70 := by omega
    have hv : ((b - 65 + 10).toNat : Int) = (b.toNat : Int) - 65 + 10 := by
      rw [UInt8.toNat_add, UInt8.toNat_sub, show (65 : UInt8).toNat = 65 from rfl, show (10 : UInt8).toNat = 10 from rfl]; omega
    dsimp only
    rw [hv]
    go_enter Tryz.func126, Tryz.ntmps126
    go_wp2_with fail
    go_ret
    exact ⟨rfl, rfl⟩
  rw [if_neg h3]
  dsimp only
  have b1 : ∃ q : Bool, decide ((48 : Int) ≤ (b.toNat : Int)) = q ∧ (q = true → decide ((b.toNat : Int) ≤ 57) = false) := ⟨_, rfl, fun h => dfalse (by have := of_decide_eq_true h; omega)⟩
  have b2 : ∃ q : Bool, decide ((97 : Int) ≤ (b.toNat : Int)) = q ∧ (q = true → decide ((b.toNat : Int) ≤ 102) = false) := ⟨_, rfl, fun h => dfalse (by have := of_decide_eq_true h; omega)⟩
  have b3 : ∃ q : Bool, decide ((65 : Int) ≤ (b.toNat : Int)) = q ∧ (q = true → decide ((b.toNat : Int) ≤ 70) = false) := ⟨_, rfl, fun h => dfalse (by have := of_decide_eq_true h; omega)⟩
  obtain ⟨q1, b1, b1'⟩ := b1
  obtain ⟨q2, b2, b2'⟩ := b2
  obtain ⟨q3, b3, b3'⟩ := b3
  go_enter Tryz.func126, Tryz.ntmps126
  cases q1 <;> cases q2 <;> cases q3
  all_goals (try replace b1' := b1' rfl)
  all_goals (try replace b2' := b2' rfl)
  all_goals (try replace b3' := b3' rfl)
  all_goals go_wp2_with fail
  all_goals go_ret
  all_goals exact ⟨rfl, rfl⟩

set_option maxHeartbeats 8000000 in
theorem qstroke_any {w : World} {g : Nat} {s : List UInt8} {k : Nat} (h : Rq w g s k) (hk : k < s.length) (hl : s.length ≤ 140737488351232) :
    Calls Tryz.prog 118 #[.pointer (some ⟨g, 0, none⟩)] w fun e w' => ∃ (b : UInt8) (ok : Bool) (j : Nat), e = .returned (.tuple #[bv b, .bool ok]) ∧ k ≤ j ∧ j ≤ s.length ∧ (ok = true → k < j) ∧ escR (s.drop (k + 1)) = (if ok then some (b, s.drop j) else none) ∧ Rq w' g s j ∧ Mod (fun b => b = g) w w' := by
  have hsz := sv_size s
  have hr := h
  have m0 : Mod (fun b => b = g) w w := Mod.refl _ _
  obtain ⟨c0, c1⟩ := hr.c
  have z1 : w.frozen? ⟨g, 1, none⟩ = false := Blk.frozen hr 1
  by_cases hlt : k + 1 < s.length
  case neg =>
    have hb1 : decide ((s.length : Int) ≤ (k : Int) + 1) = true := dtrue (by omega)
    have hE := Lib.hid (show escR (s.drop (k + 1)) = none by rw [drop_end (by omega)]; rfl)
    go_enter Tryz.func118, Tryz.ntmps118
    go_wp2_with fail
    go_quiet (fail)
    obtain ⟨w3, hw3⟩ : ∃ x, x = w.drewN nq := ⟨_, rfl⟩
    rw [← hw3]
    have x3 : Ext w w3 := by rw [hw3]; exact (Mod.refl _ w).drewN nq
    clear hw3 c0 c1 z1
    have hr3 := hr.mod x3 (fun h => h)
    have m3 : Mod (fun b => b = g) w w3 := m0.then_ x3 (fun _ _ h => h.elim)
    obtain ⟨c0, c1⟩ := hr3.c
    have z1 : w3.frozen? ⟨g, 1, none⟩ = false := Blk.frozen hr3 1
    go_wp2_with fail
    go_ret2
    exact ⟨0, false, k, rfl, Nat.le_refl _, by omega, by simp, by rw [hE.out]; rfl, hr3, m3⟩
  have hb1 : decide ((s.length : Int) ≤ (k : Int) + 1) = false := dfalse (by omega)
  obtain ⟨c, hdr, hg⟩ := get_at hlt
  rw [hdr]
  obtain ⟨E, hE0⟩ : ∃ E, E = escR (c :: s.drop (k + 1 + 1)) := ⟨_, rfl⟩
  rw [← hE0]
  replace hE0 := Lib.hid hE0
  have hi0 : (0 : Int) ≤ (k : Int) + 1 := by omega
  have hi1 : (k : Int) + 1 < (s.length : Int) := by omega
  go_enter Tryz.func118, Tryz.ntmps118
  go_wp2_with fail
  go_quiet (fail)
  obtain ⟨w3, hw3⟩ : ∃ x, x = w.drewN nq := ⟨_, rfl⟩
  rw [← hw3]
  have x3 : Ext w w3 := by rw [hw3]; exact (Mod.refl _ w).drewN nq
  clear hw3 c0 c1 z1
  have hr3 := hr.mod x3 (fun h => h)
  have m3 : Mod (fun b => b = g) w w3 := m0.then_ x3 (fun _ _ h => h.elim)
  obtain ⟨c0, c1⟩ := hr3.c
  have z1 : w3.frozen? ⟨g, 1, none⟩ = false := Blk.frozen hr3 1
  go_wp2_with fail
  go_quiet (fail)
  obtain ⟨w4, hw4⟩ : ∃ x, x = w3.drewN nq := ⟨_, rfl⟩
  rw [← hw4]
  have x4 : Ext w3 w4 := by rw [hw4]; exact (Mod.refl _ w3).drewN nq
  clear hw4 c0 c1 z1
  have hr4 := hr3.mod x4 (fun h => h)
  have m4 : Mod (fun b => b = g) w w4 := m3.then_ x4 (fun _ _ h => h.elim)
  obtain ⟨c0, c1⟩ := hr4.c
  have z1 : w4.frozen? ⟨g, 1, none⟩ = false := Blk.frozen hr4 1
  go_wp2_with fail
  clear hdr
  refine (in_any c mayB (by decide)).mono ?_
  rintro e w5 ⟨rfl, hw5⟩
  rw [hw5]
  clear hw5 w5
  by_cases hc : c ∈ mayB
  · rw [dtrue hc]
    have hE : Hid (E = some (c, s.drop (k + 2))) := Lib.hid (by rw [hE0.out, escR, if_pos hc])
    clear hc
    go_wp2_with fail
    go_ret2
    exact ⟨c, true, k + 2, rfl, by omega, by omega, by simp, by rw [hE.out]; rfl, hr4.step (k + 2) _ (by omega), m4.setCell (p := ⟨g, 1, none⟩) (fun _ => rfl) _⟩
  rw [dfalse hc]
  have hes : E = (digB c).bind fun x => (s.drop (k + 2)).head?.bind fun d => (digB d).map fun y => (x <<< 4 ||| y, (s.drop (k + 2)).tail) := by
    rw [hE0.out, escR, if_neg hc]
  replace hes := Lib.hid hes
  have hhc := fun wx => half_any (w := wx) c
  clear hc hg hi0 hi1 hb1
  by_cases hlt2 : k + 2 < s.length
  case neg =>
    have hb2 : decide ((k : Int) + 2 < (s.length : Int)) = false := dfalse (by omega)
    have hE := hes.out
    rw [drop_end (by omega)] at hE
    replace hE := Lib.hid (show E = none by rw [hE]; cases digB c <;> rfl)
    clear hes hhc
    go_wp2_with fail
    go_quiet (fail)
    obtain ⟨w6, hw6⟩ : ∃ x, x = w4.drewN nq := ⟨_, rfl⟩
    rw [← hw6]
    have x6 : Ext w4 w6 := by rw [hw6]; exact (Mod.refl _ w4).drewN nq
    clear hw6 c0 c1 z1
    have hr6 := hr4.mod x6 (fun h => h)
    have m6 : Mod (fun b => b = g) w w6 := m4.then_ x6 (fun _ _ h => h.elim)
    obtain ⟨c0, c1⟩ := hr6.c
    have z1 : w6.frozen? ⟨g, 1, none⟩ = false := Blk.frozen hr6 1
    go_wp2_with fail
    go_ret2
    exact ⟨0, false, k, rfl, Nat.le_refl _, by omega, by simp, by rw [hE.out]; rfl, hr6, m6⟩
  have hb2 : decide ((k : Int) + 2 < (s.length : Int)) = true := dtrue (by omega)
  obtain ⟨d, hdd, hg⟩ := get_at hlt2
  have hE := hes.out
  rw [hdd] at hE
  simp only [List.head?_cons, List.tail_cons, Option.bind_some] at hE
  clear hes hdd
  have hi0 : (0 : Int) ≤ (k : Int) + 2 := by omega
  have hi1 : (k : Int) + 2 < (s.length : Int) := by omega
  have hhd := fun wx => half_any (w := wx) d
  unfold halfI at hhc hhd
  have hx16 := fun x (h : digB c = some x) => digB_lt h
  have hy16 := fun x (h : digB d = some x) => digB_lt h
  cases hdc : digB c with
  | none =>
    rw [hdc] at hhc hE
    dsimp only at hhc
    replace hE := Lib.hid hE
    clear hdc hx16 hy16 hhd
    go_wp2_with fail
    go_quiet (first | (go_at_call 126; (with_reducible refine Calls.quiet_of_same (hhc _))) | (go_at_call 126; (with_reducible refine Calls.quiet_of_same (hhd _))))
    obtain ⟨w6, hw6⟩ : ∃ x, x = w4.drewN nq := ⟨_, rfl⟩
    rw [← hw6]
    have x6 : Ext w4 w6 := by rw [hw6]; exact (Mod.refl _ w4).drewN nq
    clear hw6 c0 c1 z1
    have hr6 := hr4.mod x6 (fun h => h)
    have m6 : Mod (fun b => b = g) w w6 := m4.then_ x6 (fun _ _ h => h.elim)
    obtain ⟨c0, c1⟩ := hr6.c
    have z1 : w6.frozen? ⟨g, 1, none⟩ = false := Blk.frozen hr6 1
    go_wp2_with fail
    go_ret2
    exact ⟨0, false, k, rfl, Nat.le_refl _, by omega, by simp, by rw [hE.out]; rfl, hr6, m6⟩
  | some x =>
  rw [hdc] at hhc hE
  dsimp only at hhc
  have hx := hx16 x hdc
  clear hdc hx16
  have hx0 : (0 : Int) ≤ (x.toNat : Int) := by omega
  cases hdc : digB d with
  | none =>
    rw [hdc] at hhd hE
    dsimp only at hhd
    replace hE := Lib.hid hE
    clear hdc hy16
    go_wp2_with fail
    go_quiet (first | (go_at_call 126; (with_reducible refine Calls.quiet_of_same (hhc _))) | (go_at_call 126; (with_reducible refine Calls.quiet_of_same (hhd _))))
    obtain ⟨w6, hw6⟩ : ∃ x, x = w4.drewN nq := ⟨_, rfl⟩
    rw [← hw6]
    have x6 : Ext w4 w6 := by rw [hw6]; exact (Mod.refl _ w4).drewN nq
    clear hw6 c0 c1 z1
    have hr6 := hr4.mod x6 (fun h => h)
    have m6 : Mod (fun b => b = g) w w6 := m4.then_ x6 (fun _ _ h => h.elim)
    obtain ⟨c0, c1⟩ := hr6.c
    have z1 : w6.frozen? ⟨g, 1, none⟩ = false := Blk.frozen hr6 1
    go_wp2_with fail
    go_ret2
    exact ⟨0, false, k, rfl, Nat.le_refl _, by omega, by simp, by rw [hE.out]; rfl, hr6, m6⟩
  | some y =>
  rw [hdc] at hhd hE
  dsimp only at hhd
  have hy := hy16 y hdc
  clear hdc hy16
  have hy0 : (0 : Int) ≤ (y.toNat : Int) := by omega
  have hbe := hilo_eq x y hx hy
  have hbl := (x <<< 4 ||| y).toNat_lt
  have hx1 : (x.toNat : Int) < 16 := by omega
  have hy1 : (y.toNat : Int) < 16 := by omega
  have hwr : Hid (((x <<< 4 ||| y).toNat : Int) = 16 * (x.toNat : Int) + (y.toNat : Int)) := Lib.hid (by omega)
  have hE2 : Hid (E = some (x <<< 4 ||| y, s.drop (k + 3))) := Lib.hid (by rw [hE]; rfl)
  clear hE hbe hbl hx hy
  generalize x <<< 4 ||| y = r at *
  go_wp2_with fail
  go_quiet (first | (go_at_call 126; (with_reducible refine Calls.quiet_of_same (hhc _))) | (go_at_call 126; (with_reducible refine Calls.quiet_of_same (hhd _))))
  obtain ⟨w6, hw6⟩ : ∃ x, x = w4.drewN nq := ⟨_, rfl⟩
  rw [← hw6]
  have x6 : Ext w4 w6 := by rw [hw6]; exact (Mod.refl _ w4).drewN nq
  clear hw6 c0 c1 z1
  have hr6 := hr4.mod x6 (fun h => h)
  have m6 : Mod (fun b => b = g) w w6 := m4.then_ x6 (fun _ _ h => h.elim)
  obtain ⟨c0, c1⟩ := hr6.c
  have z1 : w6.frozen? ⟨g, 1, none⟩ = false := Blk.frozen hr6 1
  go_wp2_with fail
  go_quiet (first | (go_at_call 126; (with_reducible refine Calls.quiet_of_same (hhc _))) | (go_at_call 126; (with_reducible refine Calls.quiet_of_same (hhd _))))
  obtain ⟨w7, hw7⟩ : ∃ x, x = w6.drewN nq := ⟨_, rfl⟩
  rw [← hw7]
  have x7 : Ext w6 w7 := by rw [hw7]; exact (Mod.refl _ w6).drewN nq
  clear hw7 c0 c1 z1
  have hr7 := hr6.mod x7 (fun h => h)
  have m7 : Mod (fun b => b = g) w w7 := m6.then_ x7 (fun _ _ h => h.elim)
  obtain ⟨c0, c1⟩ := hr7.c
  have z1 : w7.frozen? ⟨g, 1, none⟩ = false := Blk.frozen hr7 1
  go_wp2_with fail
  go_ret2
  exact ⟨r, true, k + 3, by show _ = Ending.returned (.tuple #[.int .u8 (r.toNat : Int), .bool true]); rw [hwr.out]; rfl, by omega, by omega, fun _ => by omega, by rw [hE2.out]; rfl, hr7.step (k + 3) _ (by omega), m7.setCell (p := ⟨g, 1, none⟩) (fun _ => rfl) _⟩
end Go.Proofs.YteihjdefdeckaaaGreatDoor
namespace Go.Proofs.YteihjdefdeckaaaGreatDoor
open Go.RowKit
set_option maxRecDepth 100000

theorem own_rq {w : World} {g : Nat} {s : List UInt8} {k : Nat} {v : Value} {B : Nat} (_h : Rq w g s k) (hg : g < B) (hv : Fresh B v) : ¬ own v g := fun hh => by have := hv g hh; omega
theorem sep5 (c : UInt8) (h1 : c ≠ 44) (h2 : c ≠ 92) : c ∈ sepB ↔ c ∈ ([43, 34, 60, 62, 59] : List UInt8) := by
  simp only [sepB, List.mem_cons, List.not_mem_nil, or_false]
  constructor
  · rintro (h | h | h | h | h | h | h)
    · exact absurd h h1
    · exact .inl h
    · exact .inr (.inl h)
    · exact absurd h h2
    · exact .inr (.inr (.inl h))
    · exact .inr (.inr (.inr (.inl h)))
    · exact .inr (.inr (.inr (.inr h)))
  · rintro (h | h | h | h | h)
    · exact .inr (.inl h)
    · exact .inr (.inr (.inl h))
    · exact .inr (.inr (.inr (.inr (.inl h))))
    · exact .inr (.inr (.inr (.inr (.inr (.inl h)))))
    · exact .inr (.inr (.inr (.inr (.inr (.inr h)))))

theorem ext_mod_own {w a b : World} {g : Nat} {v : Value} (hm : Mod (fun b => b = g) w a) (hf : Fresh w.heap.size v) (h : Mod (own v) a b) : Mod (fun b => b = g) w b := hm.trans h (fun _ _ h => h) (fun k hk h => by have := hf k h; omega)

set_option maxHeartbeats 16000000 in
theorem qval_any {w : World} {g : Nat} {s : List UInt8} {k : Nat} (h : Rq w g s k) (hk : k ≤ s.length) (hl : s.length ≤ 140737488351232) :
    Calls Tryz.prog 105 #[.pointer (some ⟨g, 0, none⟩)] w fun e w' => ∃ (v : List UInt8) (ok : Bool) (j : Nat), e = .returned (.tuple #[sv v, .bool ok]) ∧ k ≤ j ∧ j ≤ s.length ∧ v.length ≤ s.length ∧ (ok = true → valF ((s.drop k).length + 1) (s.drop k) [] 0 = some (v, s.drop j) ∧ v ≠ []) ∧ (ok = false → ∀ p, valF ((s.drop k).length + 1) (s.drop k) [] 0 = some p → p.1 = []) ∧ Rq w' g s j ∧ Mod (fun b => b = g) w w' := by
  have hsz := sv_size s
  have hgw : g < w.heap.size := Blk.lt h
  obtain ⟨V, hV⟩ : ∃ V, V = valF ((s.drop k).length + 1) (s.drop k) [] 0 := ⟨_, rfl⟩
  rw [← hV]
  replace hV := Lib.hid hV
  have hdl : (s.drop k).length = s.length - k := List.length_drop
  replace hdl := Lib.hid hdl
  go_enter Tryz.func105, Tryz.ntmps105
  go_wp2_with fail
  go_loopw [4, 5] (fun vo vn wr => ∃ (j f : Nat) (out : List UInt8) (n : Nat), k ≤ j ∧ j ≤ s.length ∧ vn = .int .i64 n ∧ n ≤ out.length ∧ out.length ≤ j ∧ Hid (s.length < f + j ∧ valF f (s.drop j) out n = V) ∧ Own wr 5 vo (out.map bv) ∧ Fresh w.heap.size vo ∧ Rq wr g s j ∧ Mod (fun b => b = g) w wr) (fun _ _ wr => s.length - rdAt wr g)
  case atStart => exact ⟨k, (s.drop k).length + 1, [], 0, Nat.le_refl _, hk, rfl, Nat.le_refl _, Nat.zero_le _, Lib.hid ⟨by have := hdl.out; omega, hV.out.symm⟩, Own.nil _ _, fresh_nil _ _ _, h, Mod.refl _ _⟩
  case round =>
    obtain ⟨j, f, out, n, hj, hjl, rfl, hn, hoj, hv, p1, p2, rr, mr⟩ := hrel
    clear hV hdl h
    obtain ⟨c0, c1⟩ := rr.c
    have z1 : wr.frozen? ⟨g, 1, none⟩ = false := Blk.frozen rr 1
    have hat := rr.at_
    obtain ⟨f, rfl⟩ : ∃ f', f = f' + 1 := by
      have := hv.out.1
      cases f with
      | zero => omega
      | succ f => exact ⟨f, rfl⟩
    by_cases hlt : j < s.length
    case neg =>
      have hb1 : decide ((j : Int) < (s.length : Int)) = false := dfalse (by omega)
      have hVe : V = some (out.take n, s.drop j) := by rw [← hv.out.2, drop_end hlt, valF]
      replace hVe := Lib.hid hVe
      clear hv
      go_wp2_with fail
      go_quiet (fail)
      obtain ⟨w3, hw3⟩ : ∃ x, x = wr.drewN nq := ⟨_, rfl⟩
      rw [← hw3]
      have x3 : Ext wr w3 := by rw [hw3]; exact (Mod.refl _ wr).drewN nq
      clear hw3 nq c0 c1 z1
      have r3 := rr.mod x3 (fun h => h)
      have m3 : Mod (fun b => b = g) w w3 := mr.then_ x3 (fun _ _ h => h.elim)
      replace p1 := p1.mod x3 (fun _ _ h => h)
      obtain ⟨c0, c1⟩ := r3.c
      have z1 : w3.frozen? ⟨g, 1, none⟩ = false := Blk.frozen r3 1
      clear rr mr x3
      rcases p1.form with ⟨rfl, ho⟩ | ⟨g2, cap, rfl, q1, q2, q3⟩
      · simp only [List.map_eq_nil_iff] at ho
        subst ho
        obtain rfl : n = 0 := by simpa using hn
        have hcv := run_conv (P := Tryz.prog) (l := []) Tryz.underlying70 Tryz.underlying5 Tryz.underlying9 p1.sl
        clear hoj
        go_wp2_with fail
        go_ret2
        exact ⟨[], false, j, rfl, by omega, hjl, Nat.zero_le _, fun h => by simp at h, fun _ p hp => (by rw [hVe.out] at hp; cases hp; rfl), r3, m3⟩
      · rw [List.length_map] at q1
        have hpb := Own.begin p1 (m := n) (by simpa using hn)
        rw [← List.map_take] at hpb
        have hcv := run_conv (P := Tryz.prog) Tryz.underlying70 Tryz.underlying5 Tryz.underlying9 hpb.sl
        have hnl : (out.take n).length ≤ s.length := by rw [List.length_take]; omega
        have hlen : (out.take n).length = n := by rw [List.length_take]; omega
        have hn1 : (n : Int) ≤ (out.length : Int) := by omega
        replace hnl := Lib.hid hnl
        replace hlen := Lib.hid hlen
        clear p1 hpb
        by_cases hn0 : 0 < n
        · have hb0 : decide (0 < n) = true := dtrue hn0
          have hne : out.take n ≠ [] := fun h => by have := hlen.out; rw [h] at this; simp at this; omega
          go_wp2_with fail
          go_ret2
          exact ⟨out.take n, true, j, rfl, by omega, hjl, hnl.out, fun _ => ⟨by rw [hVe.out], hne⟩, fun h => by simp at h, r3, m3⟩
        · have hb0 : decide (0 < n) = false := dfalse hn0
          have hne : out.take n = [] := List.eq_nil_of_length_eq_zero (by have := hlen.out; omega)
          replace hne := Lib.hid hne
          go_wp2_with fail
          go_ret2
          exact ⟨out.take n, false, j, rfl, by omega, hjl, hnl.out, fun h => by simp at h, fun _ p hp => (by rw [hVe.out] at hp; cases hp; exact hne.out), r3, m3⟩
    have hb1 : decide ((j : Int) < (s.length : Int)) = true := dtrue (by omega)
    obtain ⟨c, hdr, hg⟩ := get_at hlt
    have hi0 : (0 : Int) ≤ (j : Int) := by omega
    have hi1 : (j : Int) < (s.length : Int) := by omega
    have hq : ((c.toNat : Int) != 44) = !decide (c = 44) := bne_lit c 44
    by_cases h44 : c = 44
    · rw [dtrue h44, Bool.not_true] at hq
      have hVe : V = some (out.take n, s.drop j) := by rw [← hv.out.2, hdr, valF, if_pos h44]
      replace hVe := Lib.hid hVe
      clear hv hdr h44
      go_wp2_with fail
      go_quiet (fail)
      obtain ⟨w3, hw3⟩ : ∃ x, x = wr.drewN nq := ⟨_, rfl⟩
      rw [← hw3]
      have x3 : Ext wr w3 := by rw [hw3]; exact (Mod.refl _ wr).drewN nq
      clear hw3 nq c0 c1 z1
      have r3 := rr.mod x3 (fun h => h)
      have m3 : Mod (fun b => b = g) w w3 := mr.then_ x3 (fun _ _ h => h.elim)
      replace p1 := p1.mod x3 (fun _ _ h => h)
      obtain ⟨c0, c1⟩ := r3.c
      have z1 : w3.frozen? ⟨g, 1, none⟩ = false := Blk.frozen r3 1
      clear rr mr x3
      rcases p1.form with ⟨rfl, ho⟩ | ⟨g2, cap, rfl, q1, q2, q3⟩
      · simp only [List.map_eq_nil_iff] at ho
        subst ho
        obtain rfl : n = 0 := by simpa using hn
        have hcv := run_conv (P := Tryz.prog) (l := []) Tryz.underlying70 Tryz.underlying5 Tryz.underlying9 p1.sl
        clear hoj
        go_wp2_with fail
        go_ret2
        exact ⟨[], false, j, rfl, by omega, hjl, Nat.zero_le _, fun h => by simp at h, fun _ p hp => (by rw [hVe.out] at hp; cases hp; rfl), r3, m3⟩
      · rw [List.length_map] at q1
        have hpb := Own.begin p1 (m := n) (by simpa using hn)
        rw [← List.map_take] at hpb
        have hcv := run_conv (P := Tryz.prog) Tryz.underlying70 Tryz.underlying5 Tryz.underlying9 hpb.sl
        have hnl : (out.take n).length ≤ s.length := by rw [List.length_take]; omega
        have hlen : (out.take n).length = n := by rw [List.length_take]; omega
        have hn1 : (n : Int) ≤ (out.length : Int) := by omega
        replace hnl := Lib.hid hnl
        replace hlen := Lib.hid hlen
        clear p1 hpb
        by_cases hn0 : 0 < n
        · have hb0 : decide (0 < n) = true := dtrue hn0
          have hne : out.take n ≠ [] := fun h => by have := hlen.out; rw [h] at this; simp at this; omega
          go_wp2_with fail
          go_ret2
          exact ⟨out.take n, true, j, rfl, by omega, hjl, hnl.out, fun _ => ⟨by rw [hVe.out], hne⟩, fun h => by simp at h, r3, m3⟩
        · have hb0 : decide (0 < n) = false := dfalse hn0
          have hne : out.take n = [] := List.eq_nil_of_length_eq_zero (by have := hlen.out; omega)
          replace hne := Lib.hid hne
          go_wp2_with fail
          go_ret2
          exact ⟨out.take n, false, j, rfl, by omega, hjl, hnl.out, fun h => by simp at h, fun _ p hp => (by rw [hVe.out] at hp; cases hp; exact hne.out), r3, m3⟩
    rw [dfalse h44, Bool.not_false] at hq
    go_wp2_with fail
    go_quiet (fail)
    obtain ⟨w4, hw4⟩ : ∃ x, x = wr.drewN nq := ⟨_, rfl⟩
    rw [← hw4]
    have x4 : Ext wr w4 := by rw [hw4]; exact (Mod.refl _ wr).drewN nq
    clear hw4 nq c0 c1 z1
    have r4 := rr.mod x4 (fun h => h)
    have m4 : Mod (fun b => b = g) w w4 := mr.then_ x4 (fun _ _ h => h.elim)
    replace p1 := p1.mod x4 (fun _ _ h => h)
    obtain ⟨c0, c1⟩ := r4.c
    have z1 : w4.frozen? ⟨g, 1, none⟩ = false := Blk.frozen r4 1
    clear rr mr x4
    go_wp2_with fail
    go_quiet (fail)
    obtain ⟨w5, hw5⟩ : ∃ x, x = w4.drewN nq := ⟨_, rfl⟩
    rw [← hw5]
    have x5 : Ext w4 w5 := by rw [hw5]; exact (Mod.refl _ w4).drewN nq
    clear hw5 nq c0 c1 z1
    have r5 := r4.mod x5 (fun h => h)
    have m5 : Mod (fun b => b = g) w w5 := m4.then_ x5 (fun _ _ h => h.elim)
    replace p1 := p1.mod x5 (fun _ _ h => h)
    obtain ⟨c0, c1⟩ := r5.c
    have z1 : w5.frozen? ⟨g, 1, none⟩ = false := Blk.frozen r5 1
    clear r4 m4 x5
    clear hq hb1 hg
    have hn1 := Lib.hid (show out.length + 1 ≤ 140737488355328 by omega)
    have hq2 : ((c.toNat : Int) == 92) = decide (c = 92) := beq_lit c 92
    have hfl := Lib.hid (show s.length < f + (j + 1) by have := hv.out.1; omega)
    by_cases h92 : c = 92
    · rw [dtrue h92] at hq2
      have hve : V = (escR (s.drop (j + 1))).bind fun p => valF f p.2 (out ++ [p.1]) (out.length + 1) := by
        rw [← hv.out.2, hdr, valF, if_neg h44, if_pos h92]
      replace hve := Lib.hid hve
      clear hv hdr h44 h92 hi0 hi1
      go_wp2_with fail
      clear c0 c1 z1
      refine (qstroke_any r5 hlt hl).mono ?_
      rintro e w6 ⟨b, ok, j2, rfl, hj2, hj2l, hj2s, hes, r6, m6⟩
      have hve2 := hve.out
      rw [hes] at hve2
      have p6 := p1.mod m6 (fun b hb hbg => own_rq r5 hgw p2 (hbg ▸ hb))
      have m7 := m5.then_ m6 (fun _ _ h => h)
      clear hve hes r5 m5 m6 p1
      cases ok
      · have hV0 : Hid (V = none) := Lib.hid hve2
        clear hve2
        go_wp2_with fail
        go_ret2
        exact ⟨[], false, j2, rfl, by omega, hj2l, Nat.zero_le _, fun h => by simp at h, fun _ p hp => (by rw [hV0.out] at hp; cases hp), r6, m7⟩
      have hj3 := hj2s rfl
      replace hve2 := Lib.hid (show V = valF f (s.drop j2) (out ++ [b]) (out.length + 1) from hve2)
      obtain ⟨A, cc, rfl⟩ := p6.shape
      rw [List.length_map] at p6 p2
      go_wp2_with ((with_reducible show wpList _ _ _ (⟨some 68, _, _, _, _, _⟩ :: _) _ _); refine wp_app1 tyB p6 rfl hn1.out rfl (.tmp 65) (.tmp 67) rfl rfl rfl ?_; intro v2 w7 k1 k2 k3; obtain ⟨A7, c7, hsh⟩ := own_shape1 k1; subst hsh)
      have r7 := r6.mod k2 (own_rq r6 hgw p2)
      refine ⟨⟨j2, f, out ++ [b], out.length + 1, by omega, hj2l, by go_num, by simp, by rw [List.length_append, List.length_singleton]; omega, Lib.hid ⟨by have := hfl.out; omega, hve2.out.symm⟩, k1, k3.fresh p2 m7.size, r7, ext_mod_own m7 p2 k2⟩, ?_⟩
      rw [r7.at_, hat]; omega
    rw [dfalse h92] at hq2
    go_wp2_with fail
    refine (in_any c [43, 34, 60, 62, 59] (by simp)).mono ?_
    rintro e w6 ⟨rfl, hw6⟩
    rw [hw6]
    clear hw6 w6
    by_cases hm : c ∈ ([43, 34, 60, 62, 59] : List UInt8)
    · rw [dtrue hm]
      have hV0 : Hid (V = none) := Lib.hid (by rw [← hv.out.2, hdr, valF, if_neg h44, if_neg h92, if_pos ((sep5 c h44 h92).2 hm)])
      clear hv hdr hm h44 h92
      go_wp2_with fail
      go_ret2
      exact ⟨[], false, j, rfl, by omega, hjl, Nat.zero_le _, fun h => by simp at h, fun _ p hp => (by rw [hV0.out] at hp; cases hp), r5, m5⟩
    rw [dfalse hm]
    have hve : V = valF f (s.drop (j + 1)) (out ++ [c]) (if c = 32 then n else out.length + 1) := by
      rw [← hv.out.2, hdr, valF, if_neg h44, if_neg h92, if_neg (fun h => hm ((sep5 c h44 h92).1 h))]
    have hq3 : ((c.toNat : Int) != 32) = !decide (c = 32) := bne_lit c 32
    clear hv hdr hm h44 h92 hq2
    obtain ⟨A, cc, rfl⟩ := p1.shape
    rw [List.length_map] at p1 p2
    by_cases h32 : c = 32
    · rw [dtrue h32, Bool.not_true] at hq3
      rw [if_pos h32] at hve
      replace hve := Lib.hid hve
      clear h32
      go_wp2_with ((with_reducible show wpList _ _ _ (⟨some 43, _, _, _, _, _⟩ :: _) _ _); refine wp_app1 tyB p1 rfl hn1.out rfl (.tmp 40) (.tmp 42) rfl rfl rfl ?_; intro v2 w7 k1 k2 k3; have r7 := r5.mod k2 (own_rq r5 hgw p2); obtain ⟨d0, d1⟩ := r7.c; have z7 : w7.frozen? ⟨g, 1, none⟩ = false := Blk.frozen r7 1)
      have r8 := r7.step (j + 1) ((j : Int) + 1) (by omega)
      refine ⟨⟨j + 1, f, out ++ [c], n, by omega, by omega, by go_num, by rw [List.length_append, List.length_singleton]; omega, by rw [List.length_append, List.length_singleton]; omega, Lib.hid ⟨hfl.out, hve.out.symm⟩, k1.mod (Mod.setCell (Mod.refl (fun b => b = g) _) (p := ⟨g, 1, none⟩) (fun _ => rfl) _) (fun b hb hbg => own_rq r7 (B := w.heap.size) hgw (k3.fresh p2 m5.size) (hbg ▸ hb)), k3.fresh p2 m5.size, r8, (ext_mod_own m5 p2 k2).setCell (p := ⟨g, 1, none⟩) (fun _ => rfl) _⟩, ?_⟩
      rw [r8.at_, hat]; omega
    · rw [dfalse h32, Bool.not_false] at hq3
      rw [if_neg h32] at hve
      replace hve := Lib.hid hve
      clear h32
      go_wp2_with ((with_reducible show wpList _ _ _ (⟨some 43, _, _, _, _, _⟩ :: _) _ _); refine wp_app1 tyB p1 rfl hn1.out rfl (.tmp 40) (.tmp 42) rfl rfl rfl ?_; intro v2 w7 k1 k2 k3; have r7 := r5.mod k2 (own_rq r5 hgw p2); obtain ⟨d0, d1⟩ := r7.c; have z7 : w7.frozen? ⟨g, 1, none⟩ = false := Blk.frozen r7 1; obtain ⟨A7, c7, hsh⟩ := own_shape1 k1; subst hsh)
      have r8 := r7.step (j + 1) ((j : Int) + 1) (by omega)
      refine ⟨⟨j + 1, f, out ++ [c], out.length + 1, by omega, by omega, by go_num, by rw [List.length_append, List.length_singleton]; omega, by rw [List.length_append, List.length_singleton]; omega, Lib.hid ⟨hfl.out, hve.out.symm⟩, k1.mod (Mod.setCell (Mod.refl (fun b => b = g) _) (p := ⟨g, 1, none⟩) (fun _ => rfl) _) (fun b hb hbg => own_rq r7 (B := w.heap.size) hgw (k3.fresh p2 m5.size) (hbg ▸ hb)), k3.fresh p2 m5.size, r8, (ext_mod_own m5 p2 k2).setCell (p := ⟨g, 1, none⟩) (fun _ => rfl) _⟩, ?_⟩
      rw [r8.at_, hat]; omega
end Go.Proofs.YteihjdefdeckaaaGreatDoor
namespace Go.Proofs.YteihjdefdeckaaaGreatDoor
open Go.RowKit
set_option maxRecDepth 100000

theorem while_same {p q : UInt8 → Bool} (hpq : ∀ b, p b = true → q b = true) (m : List UInt8) : (m.takeWhile p = m.takeWhile q ∧ m.dropWhile p = m.dropWhile q) ∨ ∃ c r, m.dropWhile p = c :: r ∧ q c = true ∧ p c = false := by
  induction m with
  | nil => exact .inl ⟨rfl, rfl⟩
  | cons b m ih =>
    by_cases hp : p b = true
    · have hq := hpq b hp
      rw [List.takeWhile_cons, if_pos hp, List.dropWhile_cons, if_pos hp, List.takeWhile_cons, if_pos hq, List.dropWhile_cons, if_pos hq]
      rcases ih with ⟨h1, h2⟩ | h
      · exact .inl ⟨by rw [h1], h2⟩
      · exact .inr h
    · by_cases hq : q b = true
      · exact .inr ⟨b, m, by rw [List.dropWhile_cons, if_neg hp], hq, by simpa using hp⟩
      · rw [List.takeWhile_cons, if_neg hp, List.dropWhile_cons, if_neg hp, List.takeWhile_cons, if_neg hq, List.dropWhile_cons, if_neg hq]
        exact .inl ⟨rfl, rfl⟩
theorem typ_q (b : UInt8) (h : typP b = true) : typQ b = true := by
  have h1 : typN b.toNat := of_decide_eq_true h
  unfold typQ
  by_cases h32 : b = 32
  · rw [h32] at h1; exact absurd (show typN 32 from h1) (by decide)
  · by_cases h61 : b = 61
    · rw [h61] at h1; exact absurd (show typN 61 from h1) (by decide)
    · rw [decide_eq_false h32, decide_eq_false h61]; rfl
def partQ (l : List UInt8) : Option ((List UInt8 × List UInt8) × List UInt8) :=
  if isTyp ((skipB l).takeWhile typQ) then
    match skipB ((skipB l).dropWhile typQ) with
    | 61 :: l3 => (valueB l3).bind fun p => if p.1 = [] then none else some (((skipB l).takeWhile typQ, p.1), p.2)
    | _ => none
  else none
theorem in_q {m : List UInt8} {c : UInt8} {r : List UInt8} (hd : m.dropWhile typP = c :: r) (hc : typQ c = true) : c ∈ m.takeWhile typQ := by
  induction m with
  | nil => simp at hd
  | cons b m ih =>
    by_cases hp : typP b = true
    · rw [List.dropWhile_cons, if_pos hp] at hd
      rw [List.takeWhile_cons, if_pos (typ_q b hp)]
      exact List.mem_cons_of_mem _ (ih hd)
    · rw [List.dropWhile_cons, if_neg hp] at hd
      injection hd with h1 _
      rw [h1, List.takeWhile_cons, if_pos hc]
      exact List.mem_cons_self ..
theorem typ_none {m : List UInt8} {c : UInt8} {r : List UInt8} (hd : m.dropWhile typP = c :: r) (hc : typQ c = true) (hc2 : typP c = false) : ¬ isTyp (m.takeWhile typQ) := by
  intro ⟨_, _, _, h⟩
  have := h c (in_q hd hc)
  rw [typP, decide_eq_true this] at hc2
  cases hc2
theorem part_eq (l : List UInt8) : partR l = partQ l := by
  unfold partR partQ
  rcases while_same typ_q (skipB l) with ⟨h1, h2⟩ | ⟨c, r, hd, hc, hc2⟩
  · rw [h1, h2]; rfl
  · rw [if_neg (typ_none hd hc hc2)]
    have h32 : c ≠ 32 := by rintro rfl; revert hc; decide
    have h61 : c ≠ 61 := by rintro rfl; revert hc; decide
    rw [hd, skip_no h32]
    split
    · split
      · rename_i l3 heq; injection heq with h _; exact absurd h h61
      · rfl
    · rfl

set_option maxHeartbeats 16000000 in
theorem qpart_any {w : World} {g : Nat} {s : List UInt8} {k : Nat} (h : Rq w g s k) (hk : k ≤ s.length) (hl : s.length ≤ 140737488351232) :
    Calls Tryz.prog 89 #[.pointer (some ⟨g, 0, none⟩)] w fun e w' => ∃ (t v : List UInt8) (ok : Bool) (j : Nat), e = .returned (.tuple #[.agg #[sv t, sv v], .bool ok]) ∧ k ≤ j ∧ j ≤ s.length ∧ t.length ≤ s.length ∧ v.length ≤ s.length ∧ partR (s.drop k) = (if ok then some ((t, v), s.drop j) else none) ∧ Rq w' g s j ∧ Mod (fun b => b = g) w w' := by
  have hsz := sv_size s
  have hgw : g < w.heap.size := Blk.lt h
  obtain ⟨P, hP⟩ : ∃ P, P = partR (s.drop k) := ⟨_, rfl⟩
  rw [← hP]
  have hPQ := Lib.hid (hP.trans (part_eq _))
  clear hP
  go_enter Tryz.func89, Tryz.ntmps89
  go_wp2_with fail
  have B0 : Blk (w.alloc (.cells #[.string ⟨#[]⟩, .string ⟨#[]⟩] 92)) w.heap.size 92 #[.string ⟨#[]⟩, .string ⟨#[]⟩] := Blk.new w _ _
  have h0 := h.mod ((Mod.refl (fun _ => False) w).alloc (.cells #[.string ⟨#[]⟩, .string ⟨#[]⟩] 92)) (fun h => h)
  have m0 := (Mod.refl (fun b => b = g) w).alloc (.cells #[.string ⟨#[]⟩, .string ⟨#[]⟩] 92)
  refine (qblanks_any h0 hk hl).mono ?_
  rintro e w1 ⟨rfl, a, ha, hal, hsa, r1, x1⟩
  have m1 := m0.then_ x1 (fun _ _ h => h)
  have B1 := B0.mod x1 (fun h => by omega)
  clear h0 m0 B0 x1
  replace hsa := Lib.hid hsa
  go_wp2_with fail
  refine (qtyp_any r1 hal hl).mono ?_
  rintro e w2 ⟨rfl, j, hj, hjl, hsj, r2, x2⟩
  have m2 := m1.then_ x2 (fun _ _ h => h)
  have B2 := B1.mod x2 (fun h => by omega)
  clear r1 m1 B1 x2
  have hTl : ((s.drop a).takeWhile typQ).length ≤ s.length := by
    have h1 := List.IsPrefix.length_le (List.takeWhile_prefix (l := s.drop a) typQ)
    rw [List.length_drop] at h1; omega
  have hPT := hPQ.out
  unfold partQ at hPT
  rw [← hsa.out, ← hsj] at hPT
  clear hPQ hsa hsj
  replace hPT := Lib.hid hPT
  generalize (s.drop a).takeWhile typQ = T at *
  go_wp2_with fail
  refine (qblanks_any r2 hjl hl).mono ?_
  rintro e wr ⟨rfl, b, hb, hbl, hsb, rr, x3⟩
  have mr := m2.then_ x3 (fun _ _ h => h)
  have Br := B2.mod x3 (fun h => by omega)
  clear r2 m2 B2 x3
  have hPT2 := hPT.out
  rw [← hsb] at hPT2
  clear hPT hsb
  replace hPT := Lib.hid hPT2
  clear hPT2
  obtain ⟨c0, c1⟩ := rr.c
  have z1 : wr.frozen? ⟨g, 1, none⟩ = false := Blk.frozen rr 1
  have hty := fun wx => rtype_any (w := wx) T (by omega)
  by_cases hT : isTyp T
  case neg =>
    rw [dfalse hT] at hty
    have hE : Hid (P = none) := Lib.hid (by rw [hPT.out, if_neg hT])
    clear hPT hT
    go_wp2_with fail
    go_quiet ((go_at_call 50; (with_reducible refine Calls.quiet_of_same (hty _))))
    obtain ⟨w3, hw3⟩ : ∃ x, x = wr.drewN nq := ⟨_, rfl⟩
    rw [← hw3]
    have x3 : Ext wr w3 := by rw [hw3]; exact (Mod.refl _ wr).drewN nq
    clear hw3 nq c0 c1 z1
    have r3 := rr.mod x3 (fun h => h)
    have m3 : Mod (fun b => b = g) w w3 := mr.then_ x3 (fun _ _ h => h.elim)
    have B3 := Br.mod x3 (fun h => h)
    clear rr mr Br x3
    obtain ⟨c0, c1⟩ := r3.c
    have z1 : w3.frozen? ⟨g, 1, none⟩ = false := Blk.frozen r3 1
    have d0 : _ = some _ := Blk.cell B3 0
    have d1 : _ = some _ := Blk.cell B3 1
    have f0 := Blk.frozen B3 0
    have f1 := Blk.frozen B3 1
    go_wp2_with fail
    have R5 := fun u v => ((B3).set_ 0 u).set_ 1 v
    have m9 := fun u v => ((m3).setCell (p := ⟨w.heap.size, 0, none⟩) (fun h => absurd h (Nat.lt_irrefl _)) u).setCell (p := ⟨w.heap.size, 1, none⟩) (fun h => absurd h (Nat.lt_irrefl _)) v
    have r9 := fun u v => ((r3).far (p := ⟨w.heap.size, 0, none⟩) (Nat.ne_of_lt hgw) u).far (p := ⟨w.heap.size, 1, none⟩) (Nat.ne_of_lt hgw) v
    refine bodyPost_ret (results_cell_row2 Tryz.results89 _ _ _ _ _ _ _ rfl (R5 _ _) Tryz.underlying92 rfl (by kernel_rfl)) rfl ?_
    exact ⟨[], [], false, b, rfl, by omega, hbl, Nat.zero_le _, Nat.zero_le _, hE.out, r9 _ _, m9 _ _⟩
  rw [dtrue hT] at hty
  have hPT2 := hPT.out
  rw [if_pos hT] at hPT2
  clear hPT hT
  replace hPT := Lib.hid hPT2
  clear hPT2
  by_cases hlt : b < s.length
  case neg =>
    have hb1 : decide ((s.length : Int) ≤ (b : Int)) = true := dtrue (by omega)
    have hE : Hid (P = none) := Lib.hid (by rw [hPT.out, drop_end hlt])
    clear hPT
    go_wp2_with fail
    go_quiet ((go_at_call 50; (with_reducible refine Calls.quiet_of_same (hty _))))
    obtain ⟨w3, hw3⟩ : ∃ x, x = wr.drewN nq := ⟨_, rfl⟩
    rw [← hw3]
    have x3 : Ext wr w3 := by rw [hw3]; exact (Mod.refl _ wr).drewN nq
    clear hw3 nq c0 c1 z1
    have r3 := rr.mod x3 (fun h => h)
    have m3 : Mod (fun b => b = g) w w3 := mr.then_ x3 (fun _ _ h => h.elim)
    have B3 := Br.mod x3 (fun h => h)
    clear rr mr Br x3
    obtain ⟨c0, c1⟩ := r3.c
    have z1 : w3.frozen? ⟨g, 1, none⟩ = false := Blk.frozen r3 1
    have d0 : _ = some _ := Blk.cell B3 0
    have d1 : _ = some _ := Blk.cell B3 1
    have f0 := Blk.frozen B3 0
    have f1 := Blk.frozen B3 1
    go_wp2_with fail
    have R5 := fun u v => ((B3).set_ 0 u).set_ 1 v
    have m9 := fun u v => ((m3).setCell (p := ⟨w.heap.size, 0, none⟩) (fun h => absurd h (Nat.lt_irrefl _)) u).setCell (p := ⟨w.heap.size, 1, none⟩) (fun h => absurd h (Nat.lt_irrefl _)) v
    have r9 := fun u v => ((r3).far (p := ⟨w.heap.size, 0, none⟩) (Nat.ne_of_lt hgw) u).far (p := ⟨w.heap.size, 1, none⟩) (Nat.ne_of_lt hgw) v
    refine bodyPost_ret (results_cell_row2 Tryz.results89 _ _ _ _ _ _ _ rfl (R5 _ _) Tryz.underlying92 rfl (by kernel_rfl)) rfl ?_
    exact ⟨[], [], false, b, rfl, by omega, hbl, Nat.zero_le _, Nat.zero_le _, hE.out, r9 _ _, m9 _ _⟩
  have hb1 : decide ((s.length : Int) ≤ (b : Int)) = false := dfalse (by omega)
  obtain ⟨c, hdr, hg⟩ := get_at hlt
  have hi0 : (0 : Int) ≤ (b : Int) := by omega
  have hi1 : (b : Int) < (s.length : Int) := by omega
  have hq : ((c.toNat : Int) != 61) = !decide (c = 61) := bne_lit c 61
  by_cases h61 : c = 61
  case neg =>
    rw [dfalse h61, Bool.not_false] at hq
    have hE : Hid (P = none) := Lib.hid (by
      rw [hPT.out, hdr]
      split
      · rename_i l3 heq; injection heq with h _; exact absurd h h61
      · rfl)
    clear hPT hdr h61
    go_wp2_with fail
    go_quiet ((go_at_call 50; (with_reducible refine Calls.quiet_of_same (hty _))))
    obtain ⟨w3, hw3⟩ : ∃ x, x = wr.drewN nq := ⟨_, rfl⟩
    rw [← hw3]
    have x3 : Ext wr w3 := by rw [hw3]; exact (Mod.refl _ wr).drewN nq
    clear hw3 nq c0 c1 z1
    have r3 := rr.mod x3 (fun h => h)
    have m3 : Mod (fun b => b = g) w w3 := mr.then_ x3 (fun _ _ h => h.elim)
    have B3 := Br.mod x3 (fun h => h)
    clear rr mr Br x3
    obtain ⟨c0, c1⟩ := r3.c
    have z1 : w3.frozen? ⟨g, 1, none⟩ = false := Blk.frozen r3 1
    have d0 : _ = some _ := Blk.cell B3 0
    have d1 : _ = some _ := Blk.cell B3 1
    have f0 := Blk.frozen B3 0
    have f1 := Blk.frozen B3 1
    go_wp2_with fail
    have R5 := fun u v => ((B3).set_ 0 u).set_ 1 v
    have m9 := fun u v => ((m3).setCell (p := ⟨w.heap.size, 0, none⟩) (fun h => absurd h (Nat.lt_irrefl _)) u).setCell (p := ⟨w.heap.size, 1, none⟩) (fun h => absurd h (Nat.lt_irrefl _)) v
    have r9 := fun u v => ((r3).far (p := ⟨w.heap.size, 0, none⟩) (Nat.ne_of_lt hgw) u).far (p := ⟨w.heap.size, 1, none⟩) (Nat.ne_of_lt hgw) v
    refine bodyPost_ret (results_cell_row2 Tryz.results89 _ _ _ _ _ _ _ rfl (R5 _ _) Tryz.underlying92 rfl (by kernel_rfl)) rfl ?_
    exact ⟨[], [], false, b, rfl, by omega, hbl, Nat.zero_le _, Nat.zero_le _, hE.out, r9 _ _, m9 _ _⟩
  rw [dtrue h61, Bool.not_true] at hq
  have hPV : Hid (P = (valueB (s.drop (b + 1))).bind fun p => if p.1 = [] then none else some ((T, p.1), p.2)) := Lib.hid (by rw [hPT.out, hdr, h61]; rfl)
  clear hPT hdr h61
  go_wp2_with fail
  go_quiet ((go_at_call 50; (with_reducible refine Calls.quiet_of_same (hty _))))
  obtain ⟨w3, hw3⟩ : ∃ x, x = wr.drewN nq := ⟨_, rfl⟩
  rw [← hw3]
  have x3 : Ext wr w3 := by rw [hw3]; exact (Mod.refl _ wr).drewN nq
  clear hw3 nq c0 c1 z1
  have r3 := rr.mod x3 (fun h => h)
  have m3 : Mod (fun b => b = g) w w3 := mr.then_ x3 (fun _ _ h => h.elim)
  have B3 := Br.mod x3 (fun h => h)
  clear rr mr Br x3
  obtain ⟨c0, c1⟩ := r3.c
  have z1 : w3.frozen? ⟨g, 1, none⟩ = false := Blk.frozen r3 1
  have d0 : _ = some _ := Blk.cell B3 0
  have d1 : _ = some _ := Blk.cell B3 1
  have f0 := Blk.frozen B3 0
  have f1 := Blk.frozen B3 1
  clear hq hb1 hg hty
  go_wp2_with fail
  clear d0 d1 f0 f1 c0 c1 z1
  have r4 := r3.step (b + 1) ((b : Int) + 1) (by omega)
  have m4 := m3.setCell (p := ⟨g, 1, none⟩) (fun _ => rfl) (.int .i64 ((b : Int) + 1))
  have B4 := B3.far (p := ⟨g, 1, none⟩) (fun h => Nat.ne_of_lt hgw h.symm) (.int .i64 ((b : Int) + 1))
  clear r3 m3 B3
  refine (qblanks_any r4 (by omega) hl).mono ?_
  rintro e w5 ⟨rfl, d, hd, hdl, hsd, r5, x5⟩
  have m5 := m4.then_ x5 (fun _ _ h => h)
  have B5 := B4.mod x5 (fun h => by omega)
  clear r4 m4 B4 x5
  have hPV2 := hPV.out
  unfold valueB at hPV2
  rw [← hsd] at hPV2
  clear hPV hsd
  replace hPV := Lib.hid hPV2
  clear hPV2
  go_wp2_with fail
  refine (qval_any r5 hdl hl).mono ?_
  rintro e w6 ⟨v, ok, n, rfl, hn, hnl, hvl, ht, hf, r6, x6⟩
  have m6 := m5.then_ x6 (fun _ _ h => h)
  have B6 := B5.mod x6 (fun h => by omega)
  clear r5 m5 B5 x6
  have hE : Hid (P = if ok = true then some ((T, v), s.drop n) else none) := Lib.hid (by
    rw [hPV.out]
    cases ok with
    | true =>
      obtain ⟨h1, h2⟩ := ht rfl
      rw [h1]
      show (if v = [] then none else _) = _
      rw [if_neg h2]; rfl
    | false =>
      have := hf rfl
      generalize valF ((s.drop d).length + 1) (s.drop d) [] 0 = V at *
      cases V with
      | none => rfl
      | some p =>
        show (if p.1 = [] then none else _) = _
        rw [if_pos (this p rfl)]; rfl)
  clear hPV ht hf
  have d0 : _ = some _ := Blk.cell B6 0
  have d1 : _ = some _ := Blk.cell B6 1
  have f0 := Blk.frozen B6 0
  have f1 := Blk.frozen B6 1
  go_wp2_with fail
  have R5 := fun u v => ((B6).set_ 0 u).set_ 1 v
  have m9 := fun u v => ((m6).setCell (p := ⟨w.heap.size, 0, none⟩) (fun h => absurd h (Nat.lt_irrefl _)) u).setCell (p := ⟨w.heap.size, 1, none⟩) (fun h => absurd h (Nat.lt_irrefl _)) v
  have r9 := fun u v => ((r6).far (p := ⟨w.heap.size, 0, none⟩) (Nat.ne_of_lt hgw) u).far (p := ⟨w.heap.size, 1, none⟩) (Nat.ne_of_lt hgw) v
  refine bodyPost_ret (results_cell_row2 Tryz.results89 _ _ _ _ _ _ _ rfl (R5 _ _) Tryz.underlying92 rfl (by kernel_rfl)) rfl ?_
  exact ⟨T, v, ok, n, rfl, by omega, hnl, hTl, hvl, hE.out, r9 _ _, m9 _ _⟩
end Go.Proofs.YteihjdefdeckaaaGreatDoor
namespace Go.Proofs.YteihjdefdeckaaaGreatDoor
open Go.RowKit
set_option maxRecDepth 100000

set_option maxHeartbeats 8000000 in
theorem qparse_any {w : World} (s : List UInt8) (hl : s.length ≤ 1000000) :
    Calls Tryz.prog 68 #[sv s] w fun e w' => ∃ v, e = .returned (.tuple #[v, .int .i64 (parseB s).2]) ∧ OwnA w' v (parseB s).1 ∧ Fresh w.heap.size v ∧ Ext w w' := by
  by_cases hs0 : s = []
  · subst hs0
    go_enter Tryz.func68, Tryz.ntmps68
    go_wp2_with fail
    go_ret2
    exact ⟨_, rfl, OwnR.nil _ _ _ _, fresh_nil _ _ _, Mod.refl _ _⟩
  have hsz := sv_size s
  obtain ⟨V, hV⟩ : ∃ V, V = parseF (s.length + 1) s [] := ⟨_, rfl⟩
  obtain ⟨R, hR⟩ : ∃ R, R = parseB s := ⟨_, rfl⟩
  have hRV : R = outP V := by rw [hR, parseB, if_neg hs0, hV]
  rw [← hR]
  have hne : s.isEmpty = false := List.isEmpty_eq_false_iff.2 hs0
  replace hRV := Lib.hid hRV
  replace hV := Lib.hid hV
  clear hR hs0
  go_enter Tryz.func68, Tryz.ntmps68
  go_wp2_with fail
  have r0 : Rq (w.alloc (.cells #[sv s, .int .i64 0] 104)) w.heap.size s 0 := Blk.new w _ _
  have m0 := (Mod.refl (fun _ => False) w).alloc (.cells #[sv s, .int .i64 0] 104)
  go_loopw [5] (fun v wr => ∃ (j f : Nat) (L : List Av), j ≤ s.length ∧ L.length ≤ j ∧ Hid (s.length < f + j ∧ parseF f (s.drop j) L = V ∧ ∀ a ∈ L, a.1.length ≤ s.length ∧ a.2.length ≤ s.length) ∧ OwnA wr v L ∧ Fresh (w.heap.size + 1) v ∧ Rq wr w.heap.size s j ∧ Ext w wr) (fun _ wr => s.length - rdAt wr w.heap.size)
  case atStart =>
    exact ⟨0, s.length + 1, [], Nat.zero_le _, Nat.le_refl _, Lib.hid ⟨by omega, hV.out.symm, fun a h => absurd h List.not_mem_nil⟩, OwnR.nil _ _ _ _, fresh_nil _ _ _, r0, m0⟩
  case round =>
    obtain ⟨j, f, L, hj, hLj, hv, p1, p2, r1, m1⟩ := hrel
    clear hV r0 m0
    have hat := r1.at_
    obtain ⟨f, rfl⟩ : ∃ f', f = f' + 1 := ⟨f - 1, by have := hv.out.1; omega⟩
    go_wp2_with fail
    refine (qpart_any r1 hj (by omega)).mono ?_
    rintro e w2 ⟨t, x, ok, j2, rfl, hj2, hj2l, htl, hxl, hpe, r2, x2⟩
    have m2 : Ext w w2 := m1.trans x2 (fun _ _ h => h) (fun b hb h => by have : b = w.heap.size := h; omega)
    have p3 : OwnA w2 u5 L := p1.mod x2 (fun b hb hbg => by have := p2 b hb; have : b = w.heap.size := hbg; omega)
    have hve : V = (partR (s.drop j)).bind fun p => match p.2 with | [] => some (L ++ [p.1]) | _ :: l' => parseF f l' (L ++ [p.1]) := hv.out.2.1.symm
    rw [hpe] at hve
    obtain ⟨hf1, _, hf3⟩ := hv.out
    clear hpe hv m1 p1 r1 x2
    cases ok
    · replace hRV := Lib.hid (show R = ([], 3) by rw [hRV.out, hve]; rfl)
      clear hve
      go_wp2_with fail
      go_ret2
      exact ⟨_, by rw [hRV.out]; rfl, by rw [hRV.out]; exact OwnR.nil _ _ _ _, fresh_nil _ _ _, m2.alloc _⟩
    have hLf : ∀ a ∈ L ++ [(t, x)], a.1.length ≤ s.length ∧ a.2.length ≤ s.length := by
      intro a ha
      rcases List.mem_append.1 ha with ha | ha
      · exact hf3 a ha
      · rw [List.mem_singleton.1 ha]; exact ⟨htl, hxl⟩
    replace hLf := Lib.hid hLf
    replace hve := Lib.hid hve
    have hn1 := Lib.hid (show (L.length + 1) * 32 ≤ 140737488355328 by omega)
    clear hf3
    obtain ⟨A, c, rfl⟩ := p3.shape
    have hj2m0 : j2 ≤ 1000000 := by omega
    have hln := Lib.hid (show (L ++ [(t, x)]).length = L.length + 1 by simp)
    by_cases hlt : j2 < s.length
    · have hd : ((j2 : Int) == (s.length : Int)) = false := by rw [beq_eq_false_iff_ne]; omega
      have hve2 : V = parseF f (s.drop (j2 + 1)) (L ++ [(t, x)]) := by
        rw [hve.out, List.drop_eq_getElem_cons hlt]
        rfl
      replace hve2 := Lib.hid hve2
      clear hve
      go_wp2_with ((with_reducible show wpList _ _ _ (⟨some 23, _, _, _, _, _⟩ :: _) _ _); refine wp_appR tyA avc_len (p3.alloc _) rfl (avc_ok (t, x)) hn1.out rfl (.tmp 20) (.tmp 22) rfl rfl (by show Value.slice (some ⟨w2.heap.size + 1, 0, none⟩) 1 1 = _; simp) ?_; intro v3 w3 g1 g2 g3; have r3 := r2.mod (mod_app g2) (fun h => by have := p2 _ h; omega); obtain ⟨c0, c1⟩ := r3.c; have z1 := Blk.frozen r3 1)
      have x3 : Mod (own (.slice A L.length c)) w2 w3 := mod_app g2
      have m3 : Ext w w3 := m2.trans x3 (fun _ _ h => h) (fun b hb h => by have := p2 b h; omega)
      have p4 : Fresh (w.heap.size + 1) v3 := g3.fresh p2 (by have := r2.lt; simp; omega)
      have r5 := r3.step (j2 + 1) ((j2 : Int) + 1) (by omega)
      refine ⟨⟨j2 + 1, f, L ++ [(t, x)], by omega, by have := hln.out; omega, Lib.hid ⟨by omega, hve2.out.symm, hLf.out⟩, g1.mod (step_mod (w := w3) (g := w.heap.size) _) (fun b hb hbg => by have := p4 b hb; have : b = w.heap.size := hbg; omega), p4, r5, m3.setCell (p := ⟨w.heap.size, 1, none⟩) (fun h => absurd h (Nat.lt_irrefl _)) _⟩, ?_⟩
      rw [r5.at_, hat]; omega
    · have hd : ((j2 : Int) == (s.length : Int)) = true := by rw [beq_iff_eq]; omega
      have hve2 : V = some (L ++ [(t, x)]) := by
        rw [hve.out, List.drop_of_length_le (by omega)]
        rfl
      have hfit : Fits (L ++ [(t, x)]) := ⟨fun a ha => by have := hLf.out a ha; omega, by have := hln.out; omega⟩
      replace hRV := hRV.out
      rw [hve2] at hRV
      replace hRV := Lib.hid hRV
      clear hve hve2 hLf
      go_wp2_with ((with_reducible show wpList _ _ _ (⟨some 23, _, _, _, _, _⟩ :: _) _ _); refine wp_appR tyA avc_len (p3.alloc _) rfl (avc_ok (t, x)) hn1.out rfl (.tmp 20) (.tmp 22) rfl rfl (by show Value.slice (some ⟨w2.heap.size + 1, 0, none⟩) 1 1 = _; simp) ?_; intro v3 w3 g1 g2 g3; have r3 := r2.mod (mod_app g2) (fun h => by have := p2 _ h; omega); obtain ⟨c0, c1⟩ := r3.c; have z1 := Blk.frozen r3 1)
      have x3 : Mod (own (.slice A L.length c)) w2 w3 := mod_app g2
      have m3 : Ext w w3 := m2.trans x3 (fun _ _ h => h) (fun b hb h => by have := p2 b h; omega)
      have p4 : Fresh (w.heap.size + 1) v3 := g3.fresh p2 (by have := r2.lt; simp; omega)
      refine (ris_any g1.rc hfit).mono ?_
      rintro e w5 ⟨rfl, hw5⟩
      rw [hw5]
      clear hw5 w5
      by_cases hin : isName (L ++ [(t, x)])
      · rw [dtrue hin]
        replace hRV := Lib.hid (show R = (L ++ [(t, x)], 0) by rw [hRV.out, outP, if_pos hin])
        go_wp2_with fail
        go_ret2
        exact ⟨_, by rw [hRV.out]; rfl, by rw [hRV.out]; exact g1, p4.mono (by omega), m3⟩
      · rw [dfalse hin]
        replace hRV := Lib.hid (show R = ([], 5) by rw [hRV.out, outP, if_neg hin])
        go_wp2_with fail
        go_ret2
        exact ⟨_, by rw [hRV.out]; rfl, by rw [hRV.out]; exact OwnR.nil _ _ _ _, fresh_nil _ _ _, m3⟩
end Go.Proofs.YteihjdefdeckaaaGreatDoor
