/- dn: Type. -/
import Derived.Test.YtbdkdbfcbakgmaaDnA
namespace Go.Proofs.Ytbdkdbfcbakgmaa
open Go.RowKit
set_option maxRecDepth 100000

theorem ret_no {p : Prop} [Decidable p] {w w' : World} (h : ¬ p) (hw : w' = w) : Ending.returned (.bool false) = .returned (.bool (decide p)) ∧ w' = w := ⟨by rw [decide_eq_false h], hw⟩
theorem ret_yes {p : Prop} [Decidable p] {w w' : World} (h : p) (hw : w' = w) : Ending.returned (.bool true) = .returned (.bool (decide p)) ∧ w' = w := ⟨by rw [decide_eq_true h], hw⟩
theorem dtrue {p : Prop} [Decidable p] (h : p) : decide p = true := decide_eq_true h
theorem dfalse {p : Prop} [Decidable p] (h : ¬ p) : decide p = false := decide_eq_false h
theorem getD_at (s : List UInt8) {k : Nat} (h : k < s.length) : s.getD k 0 = s[k] := by rw [List.getD_eq_getElem?_getD, List.getElem?_eq_getElem h]; rfl

set_option maxHeartbeats 2000000 in
theorem type_any {w : World} (s : List UInt8) (hl : s.length ≤ 9223372036854775807) :
    Calls Try.prog 19 #[sv s] w fun e w' => e = .returned (.bool (decide (isTyp s))) ∧ w' = w := by
  have hsz := sv_size s
  by_cases h1 : s.length < 1
  · have hb : decide ((s.length : Int) < 1) = true := dtrue (by omega)
    go_enter Try.func19, Try.ntmps19
    go_wp2_with fail
    go_ret
    exact ret_no (fun h => by have := h.1; omega) rfl
  have hb1 : decide ((s.length : Int) < 1) = false := dfalse (by omega)
  by_cases h2 : 32 < s.length
  · have hb : decide ((32 : Int) < (s.length : Int)) = true := dtrue (by omega)
    go_enter Try.func19, Try.ntmps19
    go_wp2_with fail
    go_ret
    exact ret_no (fun h => by have := h.2.1; omega) rfl
  have hb2 : decide ((32 : Int) < (s.length : Int)) = false := dfalse (by omega)
  have h0 : 0 < s.length := by omega
  obtain ⟨b, hbk⟩ : ∃ b, b = s[0] := ⟨_, rfl⟩
  have hg : ∀ h', (⟨s.toArray⟩ : ByteArray)[0]'h' = b := fun h' => (sv_get s 0 h0 h').trans hbk.symm
  have hgd : s.getD 0 0 = b := by rw [getD_at s h0, hbk]
  replace hbk := Lib.hid hbk
  by_cases h3 : letN b.toNat
  · go_enter Try.func19, Try.ntmps19
    go_wp2_with fail
    refine (letter_any b.toNat).mono ?_
    rintro e w1 ⟨rfl, rfl⟩
    rw [decide_eq_true h3]
    go_wp2_with fail
    go_loop [20] (fun i => ∃ k : Nat, k ≤ s.length ∧ i = .int .i64 k ∧ ∀ (j : Nat) (hj : j < s.length), j < k → typN s[j].toNat) (fun i => s.length - (intOf i).toNat)
    case atStart => exact ⟨0, Nat.zero_le _, rfl, fun j _ h => by omega⟩
    case round =>
      obtain ⟨k, hk, rfl, hall⟩ := hrel
      replace hall := Lib.hid hall
      by_cases hlt : k < s.length
      · have hbl : decide ((k : Int) < (s.length : Int)) = true := dtrue (by omega)
        obtain ⟨c, hck⟩ : ∃ c, c = s[k] := ⟨_, rfl⟩
        have hg : ∀ h', (⟨s.toArray⟩ : ByteArray)[k]'h' = c := fun h' => (sv_get s k hlt h').trans hck.symm
        replace hck := Lib.hid hck
        go_wp2_with fail
        refine (inType_any c.toNat).mono ?_
        rintro e w1 ⟨rfl, rfl⟩
        by_cases h4 : typN c.toNat
        · rw [decide_eq_true h4]
          go_wp2_with fail
          refine ⟨⟨k + 1, by omega, by go_num, fun j hj hjk => ?_⟩, by simp [intOf] <;> omega⟩
          by_cases hj2 : j < k
          · exact hall.out j hj hj2
          · obtain rfl : j = k := by omega
            rw [← hck.out]; exact h4
        · rw [decide_eq_false h4]
          go_wp2_with fail
          go_ret
          exact ret_no (fun h => h4 (by rw [hck.out]; exact h.2.2.2 _ (List.getElem_mem _))) rfl
      · have hbl : decide ((k : Int) < (s.length : Int)) = false := dfalse (by omega)
        go_wp2_with fail
        go_ret
        exact ret_yes ⟨by omega, by omega, by rw [hgd]; exact h3, fun x hx => by
          obtain ⟨j, hj, rfl⟩ := List.mem_iff_getElem.1 hx
          exact hall.out j hj (by omega)⟩ rfl
  · go_enter Try.func19, Try.ntmps19
    go_wp2_with fail
    refine (letter_any b.toNat).mono ?_
    rintro e w1 ⟨rfl, rfl⟩
    rw [decide_eq_false h3]
    go_wp2_with fail
    go_ret
    exact ret_no (fun h => h3 (by rw [← hgd]; exact h.2.2.1)) rfl
end Go.Proofs.Ytbdkdbfcbakgmaa
