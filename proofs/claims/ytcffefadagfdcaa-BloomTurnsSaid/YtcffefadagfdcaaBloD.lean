/- bloom: the document's May; heavy; Make. -/
import Derived.Test.YtcffefadagfdcaaBloC
namespace Go.Proofs.Ytcffefadagfdcaa
open Go.RowKit
set_option maxRecDepth 100000

theorem agg_index {w : World} (f : Nat → Nat) {k : Nat} (hlt : k < 6) : (Instr.index 65 (.agg #[.int .u64 (f 0 : Nat), .int .u64 (f 1 : Nat), .int .u64 (f 2 : Nat), .int .u64 (f 3 : Nat), .int .u64 (f 4 : Nat), .int .u64 (f 5 : Nat)]) (.int .i64 (k : Int))).run Try.prog w = .ok (.int .u64 (f k : Nat)) w := by
  obtain rfl | rfl | rfl | rfl | rfl | rfl : k = 0 ∨ k = 1 ∨ k = 2 ∨ k = 3 ∨ k = 4 ∨ k = 5 := by omega
  all_goals
    simp only [Instr.index, asIntOf, run_underlying Try.underlying65, Sem.run_bind, Result.andThen]
    exact run_part_plain w (by kernel_rfl) rfl

/-- What May says. -/
def mayB (b : List UInt8) (h : Nat) : Bool := decide (b.length = 0) || (List.range 6).all (fun i => hasBit b (place h b.length i))
theorem mayB_iff (b : List UInt8) (h : Nat) : mayB b h = true ↔ mayH b h := by
  unfold mayB mayH
  rw [Bool.or_eq_true, decide_eq_true_eq, List.all_eq_true]
  constructor
  · rintro (h | h)
    · exact .inl h
    · exact .inr fun i hi => h i (List.mem_range.2 hi)
  · rintro (h | h)
    · exact .inl h
    · exact .inr fun i hi => h i (List.mem_range.1 hi)
theorem mayb_any {w : World} {S : Nat → Prop} {v : Value} {b : List UInt8} (l : List UInt8) (hb : Bs w S v b) (hl : l.length ≤ 9223372036854775807) (hn : b.length ≤ 1000000) :
    Calls Try.prog 20 #[v, sv l] w fun e w' => e = .returned (.bool (mayB b (fnv l))) ∧ Ext w w' :=
  (may_any l hb hl hn).mono fun e w' ⟨q, he, hq, hx⟩ => ⟨by
    have : q = mayB b (fnv l) := by rw [Bool.eq_iff_iff, hq, mayB_iff]
    rw [he, this], hx⟩

set_option maxHeartbeats 1000000 in
theorem rmay_any {w : World} {S : Nat → Prop} {v : Value} {b : List UInt8} (l : List UInt8) (hb : Bs w S v b) (hl : l.length ≤ 9223372036854775807) (hn : b.length ≤ 1000000) :
    Calls Try.prog 21 #[v, sv l] w fun e w' => e = .returned (.bool (mayB b (fnv l))) ∧ w' = w := by
  obtain ⟨A, c, rfl, h1, h2, h3, h4⟩ := hb.open_
  have hiff := mayB_iff b (fnv l)
  obtain ⟨q, hqq⟩ : ∃ q, q = mayB b (fnv l) := ⟨_, rfl⟩
  rw [← hqq] at hiff ⊢
  clear hqq
  have hiff := Lib.hid hiff
  go_enter Try.func21, Try.ntmps21
  go_wp2_with fail
  go_loop [5] (fun i => ∃ k : Nat, k ≤ 6 ∧ i = .int .i64 k ∧ Hid (b.length = 0 ∨ ∀ m, m < k → hasBit b (place (fnv l) b.length m) = true)) (fun i => 6 - (intOf i).toNat)
  case atStart => exact ⟨0, by omega, rfl, Lib.hid (.inr fun m hm => by omega)⟩
  case round =>
    obtain ⟨k, hk, rfl, hall⟩ := hrel
    by_cases e0 : b.length = 0
    · have hb0 : decide ((0 : Int) < (b.length : Int)) = false := by rw [e0]; rfl
      have hqt : q = true := hiff.out.2 (.inl e0)
      subst hqt
      go_wp2_with fail
      all_goals
        go_ret
        exact ⟨rfl, rfl⟩
    have hb0 : decide ((0 : Int) < (b.length : Int)) = true := by rw [decide_eq_true_eq]; omega
    by_cases hlt : k < 6
    · have hpl : place (fnv l) b.length k < b.length * 8 := Nat.mod_lt _ (by omega)
      have hhb : hasBit b (place (fnv l) b.length k) = decide ((b.getD (place (fnv l) b.length k / 8) 0).toNat / 2 ^ (place (fnv l) b.length k % 8) % 2 = 1) := rfl
      have hba := @bit_any w l k b.length hl hlt hn (by omega)
      obtain ⟨p, hp⟩ : ∃ p, p = place (fnv l) b.length k := ⟨_, rfl⟩
      rw [← hp] at hpl hhb hba
      obtain ⟨j, hj⟩ : ∃ j, j = p / 8 := ⟨_, rfl⟩
      have hjl : j < b.length := by omega
      have hji : (p : Int) / 8 = (j : Int) := by omega
      obtain ⟨ad, hA, hS, hc9⟩ := h4.byte hjl
      subst hA
      have hcl : b[j].toNat < 256 := b[j].toNat_lt
      rw [← hj, List.getD_eq_getElem?_getD, List.getElem?_eq_getElem hjl, Option.getD_some] at hhb
      generalize b[j].toNat = cb at *
      obtain ⟨t, ht⟩ : ∃ t, t = p % 8 := ⟨_, rfl⟩
      have ht8 : t < 8 := by omega
      have hta : (p : Int) % 8 = (t : Int) := by omega
      rw [← ht] at hhb
      replace hp := Lib.hid hp
      replace hhb := Lib.hid hhb
      clear hj ht
      have hq := and1_eq cb t hcl
      rw [← hhb.out] at hq
      cases hB : hasBit b p
      · rw [hB] at hq
        replace hB := Lib.hid hB
        have hqf : q = false := by
          cases q
          · rfl
          · rcases hiff.out.1 rfl with h | h
            · exact absurd h e0
            · have h9 := h k hlt
              rw [← hp.out, hB.out] at h9
              cases h9
        subst hqf
        go_wp2_with fail
        refine hba.mono ?_
        rintro e w9 ⟨rfl, rfl⟩
        go_wp2_with fail
        go_ret
        exact ⟨rfl, rfl⟩
      · rw [hB] at hq
        replace hB := Lib.hid hB
        go_wp2_with fail
        refine hba.mono ?_
        rintro e w9 ⟨rfl, rfl⟩
        go_wp2_with fail
        refine ⟨⟨k + 1, by omega, by go_num, Lib.hid (.inr fun m hm => ?_)⟩, by simp [intOf] <;> omega⟩
        by_cases hmk : m = k
        · subst hmk; rw [← hp.out]; exact hB.out
        · exact (hall.out.resolve_left e0) m (by omega)
    · obtain rfl : k = 6 := by omega
      have hqt : q = true := hiff.out.2 (.inr (hall.out.resolve_left e0))
      subst hqt
      go_wp2_with fail
      go_ret
      exact ⟨rfl, rfl⟩
end Go.Proofs.Ytcffefadagfdcaa
