/- match: the law Norms; the document's find. -/
import Derived.Test.YtopdkeaekgiejaaMtH
namespace Go.Proofs.Ytopdkeaekgiejaa
open Go.RowKit
set_option maxRecDepth 100000

section
variable {w : World}
set_option maxHeartbeats 4000000 in
theorem norms_any (k : Int) (s : List UInt8) (hs : s.length ≤ 140737488351232) (hm : Mxl w) :
    Calls Try.prog 6 #[.int .i64 k, sv s] w fun e w' => e = .returned (.bool true) ∧ Ext w w' := by
  have hx : Ext w (w.alloc (.cells #[sv s] 9)) := (Mod.refl _ w).alloc _
  have hc := heavy15_any (ss_one w s) (by simpa using hs)
  have hc1 := fun wx : World => mnorm_any (w := wx) k s hs
  have hc2 := fun wx : World => rmnorm_any (w := wx) k s hs
  have hc3 := fun wx : World => number_any (w := wx) s hs
  have hc4 := fun wx : World => rnumber_any (w := wx) s hs
  have hkn := fun (wx : World) (q : Ext w wx) => known15_any (w := wx) (hm.ext q)
  clear hm
  generalize normM k s = p at *
  generalize numB s = r at *
  obtain ⟨a, ok⟩ := p
  obtain ⟨b, is⟩ := r
  simp only at hc1 hc2 hc3 hc4
  have ba := beq_self_eq_true a
  have bb := beq_self_eq_true b
  go_enter Try.func6, Try.ntmps6
  go_wp2_with fail
  refine hc.mono ?_
  rintro e w1 ⟨q, rfl, -, rfl⟩
  clear hc
  cases q with
  | true =>
    go_wp2_with fail
    go_ret
    exact ⟨rfl, hx⟩
  | false =>
  go_wp2_with fail
  refine (hc1 _).mono ?_
  rintro e w2 ⟨rfl, x2⟩
  have y2 := ext_trans hx x2
  clear hc1
  go_wp2_with fail
  refine (hc2 _).mono ?_
  rintro e w3 ⟨rfl, x3⟩
  have y3 := ext_trans y2 x3
  clear hc2
  go_wp2_with fail
  refine (hc3 _).mono ?_
  rintro e w4 ⟨rfl, rfl⟩
  clear hc3
  go_wp2_with fail
  refine (hc4 _).mono ?_
  rintro e w4 ⟨rfl, rfl⟩
  clear hc4
  have hk := hkn w4 y3
  clear hkn
  cases ok <;> cases is
  all_goals
    go_wp2_with fail
    refine hk.mono ?_
    rintro e w5 ⟨rfl, x5⟩
    go_wp2_with fail
    go_ret
    exact ⟨rfl, ext_trans y3 x5⟩
/-- Where a text is in another one, from a place on. -/
def findI (s p : List UInt8) (at_ : Nat) : Int := if 0 ≤ Lib.index (s.drop at_) p then (at_ : Int) + Lib.index (s.drop at_) p else -1
theorem find_some {s p r : List UInt8} {at_ : Nat} (ha : at_ ≤ s.length) (h : cutO (s.drop at_) p = some r) : ∃ k : Nat, findI s p at_ = k ∧ k + p.length ≤ s.length ∧ s.drop (k + p.length) = r := by
  unfold cutO at h
  by_cases h0 : 0 ≤ Lib.index (s.drop at_) p
  · rw [if_pos h0] at h
    have hr := Lib.index_room _ _ h0
    rw [List.length_drop] at hr
    injection h with h
    rw [List.drop_drop] at h
    refine ⟨at_ + (Lib.index (s.drop at_) p).toNat, ?_, by omega, by rw [← h]; congr 1; omega⟩
    unfold findI
    rw [if_pos h0]
    omega
  · rw [if_neg h0] at h; cases h
theorem find_none {s p : List UInt8} {at_ : Nat} (h : cutO (s.drop at_) p = none) : findI s p at_ = -1 := by
  unfold cutO at h
  unfold findI
  by_cases h0 : 0 ≤ Lib.index (s.drop at_) p
  · rw [if_pos h0] at h; cases h
  · rw [if_neg h0]
theorem find_hit {s p : List UInt8} {at_ i : Nat} (hi : at_ + i + p.length ≤ s.length) (hn : Lib.NoOcc (s.drop at_) p i) (he : (s.drop (at_ + i)).take p.length = p) : findI s p at_ = ((at_ + i : Nat) : Int) := by
  have h1 : Lib.occAt (s.drop at_) p i = true := by
    rw [Lib.occAt_iff_take _ _ _ (by rw [List.length_drop]; omega), List.drop_drop, beq_iff_eq]
    exact he
  have h2 := Lib.index_hit hn (by rw [List.length_drop]; omega) h1
  unfold findI
  rw [h2, if_pos (by omega)]
  omega
theorem find_next {s p : List UInt8} {at_ i : Nat} (hi : at_ + i + p.length ≤ s.length) (hn : Lib.NoOcc (s.drop at_) p i) (he : (s.drop (at_ + i)).take p.length ≠ p) : Lib.NoOcc (s.drop at_) p (i + 1) := by
  refine hn.succ ?_
  rw [Lib.occAt_iff_take _ _ _ (by rw [List.length_drop]; omega), List.drop_drop]
  exact beq_eq_false_iff_ne.2 he
theorem find_past {s p : List UInt8} {at_ i : Nat} (ha : at_ ≤ s.length) (hi : ¬ at_ + i + p.length ≤ s.length) (hn : Lib.NoOcc (s.drop at_) p i) : findI s p at_ = -1 := by
  have h1 : Lib.index (s.drop at_) p = -1 := by
    by_cases hp : p = []
    · subst hp
      simp only [List.length_nil, Nat.add_zero] at hi
      have := hn 0 (by omega)
      simp [Lib.occAt] at this
    · exact Lib.index_past hp hn (by rw [List.length_drop]; omega)
  unfold findI
  rw [h1, if_neg (by omega)]
set_option maxHeartbeats 4000000 in
theorem rfind_any (s p : List UInt8) (at_ : Nat) (ha : at_ ≤ s.length) (hs : s.length ≤ 1000000) (hp : p.length ≤ 1000000) :
    Calls Try.prog 80 #[sv s, sv p, .int .i64 (at_ : Int)] w fun e w' => e = .returned (.int .i64 (findI s p at_)) ∧ w' = w := by
  have hsz := sv_size s
  have hpz := sv_size p
  obtain ⟨R, hR⟩ : ∃ R, R = findI s p at_ := ⟨_, rfl⟩
  rw [← hR]
  replace hR := Lib.hid hR
  go_enter Try.func80, Try.ntmps80
  go_wp2_with fail
  go_loop [7] (fun i => ∃ k : Nat, at_ + k ≤ s.length + 1 ∧ i = .int .i64 ((at_ + k : Nat) : Int) ∧ Hid (Lib.NoOcc (s.drop at_) p k)) (fun i => s.length + 1 - (intOf i).toNat)
  case atStart => exact ⟨0, by omega, by simp, Lib.hid (Lib.NoOcc.zero _ _)⟩
  case round =>
    obtain ⟨k, hk, rfl, hn⟩ := hrel
    obtain ⟨m, hm⟩ : ∃ m, m = at_ + k := ⟨_, rfl⟩
    have hnx := fun hi he => find_next (p := p) hi hn.out he
    have hht := fun hi he => hR.out.trans (find_hit (p := p) hi hn.out he)
    have hps := fun hi => hR.out.trans (find_past ha hi hn.out)
    rw [← hm] at hk hnx hht hps ⊢
    replace hnx := Lib.hid hnx
    replace hht := Lib.hid hht
    replace hps := Lib.hid hps
    replace hm := Lib.hid hm
    clear hn
    by_cases hle : m + p.length ≤ s.length
    · have hb : decide ((m : Int) + (p.length : Int) ≤ (s.length : Int)) = true := dtrue (by omega)
      have hex := ext_sv s m (m + p.length)
      rw [show m + p.length - m = p.length by omega] at hex
      have hi0 : (0 : Int) ≤ (m : Int) := by omega
      have hi1 : (m : Int) ≤ (m : Int) + (p.length : Int) := by omega
      have hi2 : (m : Int) + (p.length : Int) ≤ (s.length : Int) := by omega
      have hnt : ((m : Int) + (p.length : Int)).toNat = m + p.length := by omega
      by_cases heq : (s.drop m).take p.length = p
      · have hx := hht.out hle heq
        subst hx
        rw [heq] at hex
        have bp := beq_self_eq_true p
        clear heq hnx hht hps hR
        go_wp2_with fail
        go_ret
        exact ⟨rfl, rfl⟩
      · have hx := hnx.out hle heq
        have hbn : ((s.drop m).take p.length == p) = false := beq_eq_false_iff_ne.2 heq
        replace hx := Lib.hid hx
        clear heq hnx hht hps
        generalize (s.drop m).take p.length = z at *
        go_wp2_with fail
        go_round
        case rel => exact ⟨k + 1, by have := hm.out; omega, by rw [show at_ + (k + 1) = m + 1 by have := hm.out; omega]; go_num, hx⟩
        case measure => simp [intOf]; omega
    · have hb : decide ((m : Int) + (p.length : Int) ≤ (s.length : Int)) = false := dfalse (by omega)
      have hx := hps.out (by have := hm.out; omega)
      subst hx
      clear hnx hht hps hR
      go_wp2_with fail
      go_ret
      exact ⟨rfl, rfl⟩
end
end Go.Proofs.Ytopdkeaekgiejaa
