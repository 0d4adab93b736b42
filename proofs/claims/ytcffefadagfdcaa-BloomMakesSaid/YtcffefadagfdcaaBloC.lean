/- bloom: the document's bit; May. -/
import Derived.Test.YtcffefadagfdcaaBloB
import Derived.ChangeKeysEq
namespace Go.Proofs.Ytcffefadagfdcaa
open Go.RowKit
set_option maxRecDepth 100000

set_option maxHeartbeats 1000000 in
theorem bit_any {w : World} (l : List UInt8) (i n : Nat) (hl : l.length ≤ 9223372036854775807) (hi : i < 6) (hn : n ≤ 1000000) (hn0 : 0 < n) :
    Calls Try.prog 37 #[sv l, .int .i64 i, .int .i64 (8 * (n : Int))] w fun e w' => e = .returned (.int .i64 (place (fnv l) n i : Nat)) ∧ w' = w := by
  go_enter Try.func37, Try.ntmps37
  go_wp2_with fail
  refine (rhash_any l hl).mono ?_
  rintro e w1 ⟨rfl, rfl⟩
  have hf := fnv_lt l
  obtain ⟨r, hr⟩ : ∃ r, r = rot (fnv l) := ⟨_, rfl⟩
  have hrl : r < 4294967296 := by rw [hr]; exact rot_lt hf
  have hor : bits .or .u32 ((fnv l : Int) / 131072) ((fnv l : Int) * 32768 % 4294967296) = (r : Int) := by
    have := u32_or_nat (fnv l / 131072) (fnv l * 32768 % 4294967296) (by omega) (by omega)
    rw [show ((fnv l / 131072 : Nat) : Int) = (fnv l : Int) / 131072 by omega, show ((fnv l * 32768 % 4294967296 : Nat) : Int) = (fnv l : Int) * 32768 % 4294967296 by omega] at this
    rw [this, hr]
    rfl
  have hpl : place (fnv l) n i = (fnv l + i * r) % 4294967296 % (n * 8) := by rw [hr]; rfl
  have hwr : wrap64 (((fnv l : Int) + (i : Int) * (r : Int)) % 4294967296 % (8 * (n : Int))) = (place (fnv l) n i : Nat) := by
    have h1 : ((place (fnv l) n i : Nat) : Int) = ((fnv l : Int) + (i : Int) * (r : Int)) % 4294967296 % (8 * (n : Int)) := by
      rw [hpl, Int.natCast_emod, Int.natCast_emod, Int.natCast_add, Int.natCast_mul, Int.natCast_mul, Int.mul_comm (n : Int) _]
      rfl
    rw [← h1]
    have h2 : place (fnv l) n i < n * 8 := by rw [hpl]; exact Nat.mod_lt _ (by omega)
    unfold wrap64
    omega
  clear hpl
  replace hr := Lib.hid hr
  go_wp2_with fail
  go_ret
  rw [hwr]
  generalize place (fnv l) n i = p at *
  exact ⟨rfl, rfl⟩

theorem and1_eq (c t : Nat) (hc : c < 256) : (bits .and .u8 ((c : Int) / 2 ^ t) 1 == 0) = !decide (c / 2 ^ t % 2 = 1) := by
  have h1 : c / 2 ^ t < 256 := Nat.lt_of_le_of_lt (Nat.div_le_self _ _) hc
  have h2 := u8_and_nat (c / 2 ^ t) 1 h1 (by omega)
  have h3 : ((c / 2 ^ t : Nat) : Int) = (c : Int) / 2 ^ t := by simp
  rw [h3, show ((1 : Nat) : Int) = 1 from rfl] at h2
  rw [h2, Nat.and_one_is_mod]
  have h4 : c / 2 ^ t % 2 = 0 ∨ c / 2 ^ t % 2 = 1 := by omega
  rcases h4 with h4 | h4 <;> rw [h4] <;> rfl
/-- A bit of bytes. -/
def hasBit (b : List UInt8) (p : Nat) : Bool := (b.getD (p / 8) 0).toNat / 2 ^ (p % 8) % 2 = 1
/-- What May says of a key's number. -/
def mayH (b : List UInt8) (h : Nat) : Prop := b.length = 0 ∨ ∀ i, i < 6 → hasBit b (place h b.length i) = true

set_option maxHeartbeats 1000000 in
theorem may_any {w : World} {S : Nat → Prop} {v : Value} {b : List UInt8} (l : List UInt8) (hb : Bs w S v b) (hl : l.length ≤ 9223372036854775807) (hn : b.length ≤ 1000000) :
    Calls Try.prog 20 #[v, sv l] w fun e w' => ∃ q, e = .returned (.bool q) ∧ (q = true ↔ mayH b (fnv l)) ∧ Ext w w' := by
  obtain ⟨A, c, rfl, h1, h2, h3, h4⟩ := hb.open_
  by_cases e0 : b.length = 0
  · have hb0 : ((b.length : Int) == 0) = true := by rw [e0]; rfl
    go_enter Try.func20, Try.ntmps20
    go_wp2_with fail
    go_ret
    exact ⟨true, rfl, ⟨fun _ => .inl e0, fun _ => rfl⟩, Mod.refl _ _⟩
  have hb0 : ((b.length : Int) == 0) = false := by rw [beq_eq_false_iff_ne]; omega
  go_enter Try.func20, Try.ntmps20
  go_wp2_with fail
  refine (bits_any l b.length hl hn (by omega)).mono ?_
  rintro e w1 ⟨rfl, hx1⟩
  go_wp2_with fail
  go_loopw [14] (fun i wr => wr = w1 ∧ ∃ k : Nat, k ≤ 6 ∧ i = .int .i64 k ∧ Hid (∀ m, m < k → hasBit b (place (fnv l) b.length m) = true)) (fun i _ => 6 - (intOf i).toNat)
  case atStart => exact ⟨rfl, 0, by omega, rfl, Lib.hid (fun m hm => by omega)⟩
  case round =>
    obtain ⟨rfl, k, hk, rfl, hall⟩ := hrel
    by_cases hlt : k < 6
    · have hix : ∀ wx, (Instr.index 65 (.agg #[.int .u64 (place (fnv l) b.length 0 : Nat), .int .u64 (place (fnv l) b.length 1 : Nat), .int .u64 (place (fnv l) b.length 2 : Nat), .int .u64 (place (fnv l) b.length 3 : Nat), .int .u64 (place (fnv l) b.length 4 : Nat), .int .u64 (place (fnv l) b.length 5 : Nat)]) (.int .i64 (k : Int))).run Try.prog wx = .ok (.int .u64 (place (fnv l) b.length k : Nat)) wx := by
        intro wx
        obtain rfl | rfl | rfl | rfl | rfl | rfl : k = 0 ∨ k = 1 ∨ k = 2 ∨ k = 3 ∨ k = 4 ∨ k = 5 := by omega
        all_goals
          simp only [Instr.index, asIntOf, run_underlying Try.underlying65, Sem.run_bind, Result.andThen]
          exact run_part_plain wx (by kernel_rfl) rfl
      have hpl : place (fnv l) b.length k < b.length * 8 := Nat.mod_lt _ (by omega)
      have hhb : hasBit b (place (fnv l) b.length k) = decide ((b.getD (place (fnv l) b.length k / 8) 0).toNat / 2 ^ (place (fnv l) b.length k % 8) % 2 = 1) := rfl
      obtain ⟨p, hp⟩ : ∃ p, p = place (fnv l) b.length k := ⟨_, rfl⟩
      rw [← hp] at hix hpl hhb
      obtain ⟨j, hj⟩ : ∃ j, j = p / 8 := ⟨_, rfl⟩
      have hjl : j < b.length := by omega
      have hji : (p : Int) / 8 = (j : Int) := by omega
      obtain ⟨ad, hA, hS, hc9⟩ := h4.byte hjl
      subst hA
      replace hc9 := (hx1.cell (lt_of_cell hc9) (fun h => h)).trans hc9
      have hcl : b[j].toNat < 256 := b[j].toNat_lt
      rw [← hj, List.getD_eq_getElem?_getD, List.getElem?_eq_getElem hjl, Option.getD_some] at hhb
      generalize b[j].toNat = cb at *
      obtain ⟨t, ht⟩ : ∃ t, t = p % 8 := ⟨_, rfl⟩
      have ht8 : t < 8 := by omega
      have hta : bits .and .u64 (p : Int) 7 = (t : Int) := by
        have := u64_and_nat p 7 (by omega) (by omega)
        rw [show ((7 : Nat) : Int) = 7 from rfl, show p &&& 7 = p % 8 from Nat.and_two_pow_sub_one_eq_mod p 3] at this
        rw [this, ht]
      rw [← ht] at hhb
      replace hp := Lib.hid hp
      replace hhb := Lib.hid hhb
      clear hj ht
      have hq := and1_eq cb t hcl
      rw [← hhb.out] at hq
      cases hB : hasBit b p
      · rw [hB] at hq
        replace hB := Lib.hid hB
        go_wp2_with fail
        go_ret
        refine ⟨false, rfl, ⟨(fun h => by cases h), fun h => ?_⟩, hx1⟩
        exfalso
        rcases h with h | h
        · exact e0 h
        · have h9 := h k hlt
          rw [← hp.out, hB.out] at h9
          cases h9
      · rw [hB] at hq
        replace hB := Lib.hid hB
        go_wp2_with fail
        refine ⟨⟨trivial, k + 1, by omega, by go_num, Lib.hid (fun m hm => ?_)⟩, by simp [intOf] <;> omega⟩
        by_cases hmk : m = k
        · subst hmk; rw [← hp.out]; exact hB.out
        · exact hall.out m (by omega)
    · obtain rfl : k = 6 := by omega
      go_wp2_with fail
      go_ret
      exact ⟨true, rfl, ⟨fun _ => .inr (fun m hm => hall.out m hm), fun _ => rfl⟩, hx1⟩
end Go.Proofs.Ytcffefadagfdcaa
