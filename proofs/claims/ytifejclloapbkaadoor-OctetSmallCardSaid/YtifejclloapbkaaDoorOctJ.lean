/- octet: a number has as few bytes as it can: the statement's own walk. -/
import Derived.Test.YtifejclloapbkaaDoorOctH
namespace Go.Proofs.YtifejclloapbkaaDoor
open Go.RowKit
set_option maxRecDepth 100000

theorem enc7_step (V : Nat) : (enc7 V).length = 1 + (if V / 128 = 0 then 0 else (enc7 (V / 128)).length) := by
  by_cases h : V < 128
  · rw [enc7_lo h, if_pos (by omega)]; rfl
  · rw [enc7_hi h, if_neg (by omega)]; simp; omega
theorem enc7_head (V : Nat) (h : 0 < (enc7 V).length) : (enc7 V)[0].toNat < 128 ↔ V < 128 := by
  by_cases hv : V < 128
  · simp only [enc7_lo hv, List.getElem_cons_zero]
    have := u8_ofNat V (by omega)
    constructor <;> intro <;> omega
  · simp only [enc7_hi hv, List.getElem_cons_zero]
    have := u8_ofNat (V % 128 + 128) (by omega)
    constructor <;> intro <;> omega
theorem enc7_last (k : Nat) : ∀ V, V < 2 ^ (7 * (k + 1)) → 128 ≤ V → ∀ h : (enc7 V).length - 1 < (enc7 V).length, (enc7 V)[(enc7 V).length - 1].toNat ≠ 0 := by
  induction k with
  | zero => intro V hV h1; omega
  | succ k ih =>
    intro V hV h1 h
    have e := enc7_hi (u := V) (by omega)
    have e2 : (enc7 V)[(enc7 V).length - 1]? = (enc7 (V / 128))[(enc7 (V / 128)).length - 1]? := by
      have hp := enc7_pos (V / 128)
      rw [e, List.length_cons, show (enc7 (V / 128)).length + 1 - 1 = ((enc7 (V / 128)).length - 1) + 1 by omega, List.getElem?_cons_succ]
    have hp := enc7_pos (V / 128)
    rw [List.getElem?_eq_getElem h, List.getElem?_eq_getElem (by omega)] at e2
    injection e2 with e2
    rw [e2]
    by_cases h2 : V / 128 < 128
    · have hl : (enc7 (V / 128)).length - 1 = 0 := by rw [enc7_lo h2]; rfl
      have h3 := u8_ofNat (V / 128) (by omega)
      have : (enc7 (V / 128))[(enc7 (V / 128)).length - 1]? = some (UInt8.ofNat (V / 128)) := by rw [hl, enc7_lo h2]; rfl
      rw [List.getElem?_eq_getElem (by omega)] at this
      injection this with this
      rw [this]
      omega
    · exact ih (V / 128) (by
        have e : 2 ^ (7 * (k + 1 + 1)) = 2 ^ (7 * (k + 1)) * 128 := by rw [show 7 * (k + 1 + 1) = 7 * (k + 1) + 7 by omega, Nat.pow_add]
        rw [e] at hV
        exact Nat.div_lt_of_lt_mul (by omega)) (by omega) _

/-- The block that a Writer's variable begins as, and one number handed to it. -/
theorem one_start (w : World) (n : Int) : Wr ((w.alloc (.cells #[.slice none 0 0] 25)).alloc (.cells #[.int .i64 n] 3)) w.heap.size (.slice none 0 0) [] ∧
    Is ((w.alloc (.cells #[.slice none 0 0] 25)).alloc (.cells #[.int .i64 n] 3)) (fun k => k = w.heap.size + 1) (.slice (some ⟨w.heap.size + 1, 0, none⟩) 1 1) [n] := by
  refine ⟨⟨(Blk.new _ _ _).alloc _, Own.nil _ _⟩, ?_⟩
  have := Sl.one (w.alloc (.cells #[.slice none 0 0] 25)) 3 (iv n)
  rw [show (w.alloc (.cells #[.slice none 0 0] 25)).heap.size = w.heap.size + 1 by simp] at this
  exact this

set_option maxHeartbeats 1000000 in
theorem law_small {w : World} (n : Int) (hN : Nib w) :
    Calls Tryd.prog 9 #[.int .i64 n] w fun e w' => e = .returned (.bool true) ∧ Ext w w' := by
  by_cases hn0 : n < 0
  · go_enter Tryd.func9, Tryd.ntmps9
    go_wp2_with fail
    refine (known_any hN).mono ?_; rintro e w6 ⟨rfl, hx6⟩
    go_wp2_with fail
    go_ret
    exact ⟨rfl, hx6⟩
  · by_cases hn1 : 4611686018427387904 < n
    · go_enter Tryd.func9, Tryd.ntmps9
      go_wp2_with fail
      refine (known_any hN).mono ?_; rintro e w6 ⟨rfl, hx6⟩
      go_wp2_with fail
      go_ret
      exact ⟨rfl, hx6⟩
    · obtain ⟨V, rfl⟩ := Int.eq_ofNat_of_zero_le (show 0 ≤ n by omega)
      have hcl := clamp_nat V (by omega)
      go_enter Tryd.func9, Tryd.ntmps9
      go_wp2_with fail
      obtain ⟨hwr, his⟩ := one_start w V
      refine (wnums_any hwr his (fun k hk hs hf => ?_) (by simp)).mono ?_
      · rcases hf with hf | hf
        · omega
        · cases hf
      rintro e w1 ⟨rfl, v1, g1, g2, g3⟩
      have hx1 : Ext w w1 := (((Mod.refl _ w).alloc _).alloc _).trans g2 (fun _ _ h => h) (fun k hk h => by
        rcases h with h | h
        · omega
        · cases h)
      have e1 : ([] : List UInt8) ++ encs [(V : Int)] = enc7 V := by simp [encs, hcl]
      rw [e1] at g1
      clear g2 g3 his hwr e1
      have hlen := enc7_length 9 V (by omega)
      go_wp2_with fail
      refine (wout_any g1 (by omega)).mono ?_
      rintro e w2 ⟨v2, rfl, k1, k2, k3, k4⟩
      have hx2 := ext_trans hx1 k3
      clear g1 hx1 k3 k4
      have hpos := enc7_pos V
      obtain ⟨g, cap, rfl, hcell⟩ : ∃ g cap, v2 = .slice (some ⟨g, 0, none⟩) (enc7 V).length cap ∧ ∀ j (h : j < (enc7 V).length), w2.cell? ⟨g, j, none⟩ = some (.int .u8 ((enc7 V)[j].toNat : Int)) := by
        rcases k1.form with ⟨_, h⟩ | ⟨g, cap, rfl, h1, h2, h3⟩
        · have h9 : ((enc7 V).map bv).length = 0 := by rw [h]; rfl
          rw [List.length_map] at h9; omega
        · refine ⟨g, cap, by simp, fun j h => ?_⟩
          have := k1.cellAt (j := j) (by simpa using h)
          simpa using this
      clear k1 k2
      have hst := enc7_step V
      have hhd := enc7_head V hpos
      have hla := enc7_last 9 V (by omega)
      generalize hE : enc7 V = E at *
      clear hE
      obtain ⟨m, hm⟩ : ∃ m, E.length = m + 1 := ⟨E.length - 1, by omega⟩
      obtain ⟨b0, hc0, hh, hb0⟩ : ∃ b0 : Nat, w2.cell? ⟨g, 0, none⟩ = some (.int .u8 b0) ∧ (b0 < 128 ↔ V < 128) ∧ b0 < 256 := ⟨_, hcell 0 hpos, hhd, E[0].toNat_lt⟩
      obtain ⟨bm, hcm, hh2⟩ : ∃ bm : Nat, w2.cell? ⟨g, m, none⟩ = some (.int .u8 bm) ∧ (128 ≤ V → bm ≠ 0) := by
        refine ⟨_, hcell m (by omega), fun h => ?_⟩
        have := hla h (by omega)
        simpa [hm] using this
      rw [hm] at hst hlen hpos ⊢
      have HST := Lib.hid hst
      clear hst hhd hla hcell hm
      go_wp2_with fail
      go_loop [5, 6] (fun n x => ∃ N X : Nat, N ≤ m + 1 ∧ n = .int .i64 N ∧ x = .int .i64 X ∧ Hid (m + 1 = N + (if X = 0 then 0 else (enc7 X).length)) ∧ X ≤ V) (fun _ x => (intOf x).toNat)
      case atStart => exact ⟨1, V / 128, by omega, rfl, by go_num, HST, by omega⟩
      case round =>
        obtain ⟨N, X, hNl, rfl, rfl, hr, hXV⟩ := hrel
        by_cases hX : X = 0
        · have hN1 : N = m + 1 := by have := hr.out; rw [if_pos hX] at this; omega
          subst hX
          subst hN1
          by_cases hV : V < 128
          · have hb : b0 < 128 := hh.2 hV
            have hm0 : m = 0 := by have := HST.out; rw [if_pos (by omega)] at this; omega
            subst hm0
            go_wp2_with fail
            refine (known_any (hN.mod hx2 (fun h => h))).mono ?_; rintro e w6 ⟨rfl, hx6⟩
            go_wp2_with fail
            go_ret
            exact ⟨rfl, ext_trans hx2 hx6⟩
          · have hb : ¬ b0 < 128 := fun h => hV (hh.1 h)
            have hm0 : ¬ m = 0 := by have := HST.out; rw [if_neg (by omega)] at this; have := enc7_pos (V / 128); omega
            have hbm : bm ≠ 0 := hh2 (by omega)
            have hb1 : (((m : Int) + 1) == 1) = false := by simp; omega
            have hb2 : ((bm : Int) != 0) = true := by simp; omega
            go_wp2_with fail
            refine (known_any (hN.mod hx2 (fun h => h))).mono ?_; rintro e w6 ⟨rfl, hx6⟩
            go_wp2_with fail
            go_ret
            exact ⟨rfl, ext_trans hx2 hx6⟩
        · have hX0 : 0 < X := by omega
          have hr2 := hr.out
          rw [if_neg hX] at hr2
          have hs2 := enc7_step X
          have hp2 := enc7_pos X
          have HR := Lib.hid (show m + 1 = (N + 1) + (if X / 128 = 0 then 0 else (enc7 (X / 128)).length) by rw [hr2, hs2]; omega)
          have hle : N + 1 ≤ m + 1 := by omega
          clear hs2 hr2
          go_wp2_with fail
          exact ⟨⟨N + 1, X / 128, hle, by go_num, by go_num, HR, by omega⟩, by simp [intOf]; omega⟩
end Go.Proofs.YtifejclloapbkaaDoor
