/- eval: which of the three stand in a row; all, one, the other one; the program's and the document's. -/
import Derived.Test.YteihjdefdeckaaaGreatDoorDnE
namespace Go.Proofs.YteihjdefdeckaaaGreatDoor
open Go.RowKit
set_option maxRecDepth 100000

theorem tyI : SliceTy Tryz.prog 49 3 (.int .i64 0) 8 := ⟨Tryz.underlying49, by kernel_rfl, rfl, by omega⟩
def b2 (b : Bool) (n : Int) : Int := if b then n else 0
def no3 (l : List Int) : Bool := l.any (· == 0)
def yes3 (l : List Int) : Bool := l.any (· == 1)
def un3 (l : List Int) : Bool := l.any fun v => v != 0 && v != 1
def mask3 (l : List Int) : Int := b2 (no3 l) 1 + b2 (yes3 l) 2 + b2 (un3 l) 4
def and3 (l : List Int) : Int := if no3 l then 0 else if un3 l then 2 else 1
def or3 (l : List Int) : Int := if yes3 l then 1 else if un3 l then 2 else 0
def not3 (v : Int) : Int := if v = 1 then 0 else if v = 0 then 1 else 2
theorem no3_snoc {l : List Int} {k : Nat} (h : k < l.length) : no3 (l.take (k + 1)) = (no3 (l.take k) || l[k] == 0) := by
  unfold no3; rw [List.take_succ_eq_append_getElem h, List.any_append]; simp only [List.any_cons, List.any_nil, Bool.or_false]
theorem yes3_snoc {l : List Int} {k : Nat} (h : k < l.length) : yes3 (l.take (k + 1)) = (yes3 (l.take k) || l[k] == 1) := by
  unfold yes3; rw [List.take_succ_eq_append_getElem h, List.any_append]; simp only [List.any_cons, List.any_nil, Bool.or_false]
theorem un3_snoc {l : List Int} {k : Nat} (h : k < l.length) : un3 (l.take (k + 1)) = (un3 (l.take k) || (l[k] != 0 && l[k] != 1)) := by
  unfold un3; rw [List.take_succ_eq_append_getElem h, List.any_append]; simp only [List.any_cons, List.any_nil, Bool.or_false]
theorem no3_all {l : List Int} (k : Nat) (h : no3 (l.take k) = true) : no3 l = true := by
  unfold no3 at *; rw [← List.take_append_drop k l, List.any_append, h]; rfl
theorem yes3_all {l : List Int} (k : Nat) (h : yes3 (l.take k) = true) : yes3 l = true := by
  unfold yes3 at *; rw [← List.take_append_drop k l, List.any_append, h]; rfl
section
variable {w : World} {S : Nat → Prop} {v : Value} {l : List Int}
theorem not_any (x : Int) : Calls Tryz.prog 31 #[.int .i64 x] w fun e w' => e = .returned (.int .i64 (not3 x)) ∧ w' = w := by
  unfold not3
  by_cases h1 : x = 1
  · subst h1
    go_enter Tryz.func31, Tryz.ntmps31
    go_wp2_with fail
    go_ret
    exact ⟨rfl, rfl⟩
  have k1 : (x == 1) = false := by simpa using h1
  rw [if_neg h1]
  by_cases h0 : x = 0
  · subst h0
    go_enter Tryz.func31, Tryz.ntmps31
    go_wp2_with fail
    go_ret
    exact ⟨rfl, rfl⟩
  have k0 : (x == 0) = false := by simpa using h0
  rw [if_neg h0]
  go_enter Tryz.func31, Tryz.ntmps31
  go_wp2_with fail
  go_ret
  exact ⟨rfl, rfl⟩
set_option maxHeartbeats 2000000 in
theorem bits_any (hv : Is w S v l) : Calls Tryz.prog 55 #[v] w fun e w' => e = .returned (.int .i64 (mask3 l)) ∧ w' = w := by
  obtain ⟨A, c, rfl, q1, q2, q3, q4⟩ := hv.open_
  clear hv
  go_enter Tryz.func55, Tryz.ntmps55
  go_wp2_with fail
  go_loop [3, 8] (fun m i => ∃ k : Nat, k ≤ l.length ∧ i = .int .i64 k ∧ m = .int .i64 (mask3 (l.take k))) (fun _ i => l.length - (intOf i).toNat)
  case atStart => exact ⟨0, Nat.zero_le _, rfl, rfl⟩
  case round =>
    obtain ⟨k, hk, rfl, rfl⟩ := hrel
    by_cases hlt : k < l.length
    · obtain ⟨ad, rfl, hs, hc⟩ := q4.at_ hlt
      have hbl : decide ((k : Int) < (l.length : Int)) = true := dtrue (by omega)
      have e1 := no3_snoc hlt
      have e2 := yes3_snoc hlt
      have e3 := un3_snoc hlt
      obtain ⟨x, hx⟩ : ∃ x, x = l[k] := ⟨_, rfl⟩
      rw [← hx] at e1 e2 e3 hc
      clear hx
      have hm : mask3 (l.take (k + 1)) = b2 (no3 (l.take k) || x == 0) 1 + b2 (yes3 (l.take k) || x == 1) 2 + b2 (un3 (l.take k) || (x != 0 && x != 1)) 4 := by unfold mask3; rw [e1, e2, e3]
      have hm0 : mask3 (l.take k) = b2 (no3 (l.take k)) 1 + b2 (yes3 (l.take k)) 2 + b2 (un3 (l.take k)) 4 := rfl
      rw [hm0]
      clear e1 e2 e3 hm0
      generalize no3 (l.take k) = p at *
      generalize yes3 (l.take k) = q at *
      generalize un3 (l.take k) = r at *
      replace hm := Lib.hid hm
      by_cases h0 : x = 0
      · subst h0
        cases p <;> cases q <;> cases r <;> simp only [b2] <;> go_wp2_with fail
        all_goals exact ⟨⟨k + 1, by omega, by go_num, by rw [hm.out]; rfl⟩, by simp [intOf] <;> omega⟩
      · have z0 : (x == 0) = false := by simpa using h0
        have n0 : (x != 0) = true := by simpa using h0
        by_cases h1 : x = 1
        · subst h1
          cases p <;> cases q <;> cases r <;> simp only [b2] <;> go_wp2_with fail
          all_goals exact ⟨⟨k + 1, by omega, by go_num, by rw [hm.out]; rfl⟩, by simp [intOf] <;> omega⟩
        · have z1 : (x == 1) = false := by simpa using h1
          have n1 : (x != 1) = true := by simpa using h1
          cases p <;> cases q <;> cases r <;> simp only [b2] <;> go_wp2_with fail
          all_goals exact ⟨⟨k + 1, by omega, by go_num, by rw [hm.out, z0, z1, n0, n1]; rfl⟩, by simp [intOf] <;> omega⟩
    · have hbl : decide ((k : Int) < (l.length : Int)) = false := dfalse (by omega)
      rw [List.take_of_length_le (by omega)]
      go_wp2_with fail
      go_ret
      exact ⟨rfl, rfl⟩
theorem rnot_any (x : Int) : Calls Tryz.prog 36 #[.int .i64 x] w fun e w' => e = .returned (.int .i64 (not3 x)) ∧ w' = w := by
  unfold not3
  by_cases h1 : x = 1
  · subst h1
    go_enter Tryz.func36, Tryz.ntmps36
    go_wp2_with fail
    go_ret
    exact ⟨rfl, rfl⟩
  have k1 : (x == 1) = false := by simpa using h1
  rw [if_neg h1]
  by_cases h0 : x = 0
  · subst h0
    go_enter Tryz.func36, Tryz.ntmps36
    go_wp2_with fail
    go_ret
    exact ⟨rfl, rfl⟩
  have k0 : (x == 0) = false := by simpa using h0
  rw [if_neg h0]
  go_enter Tryz.func36, Tryz.ntmps36
  go_wp2_with fail
  go_ret
  exact ⟨rfl, rfl⟩
theorem and_any (hv : Is w S v l) : Calls Tryz.prog 29 #[v] w fun e w' => e = .returned (.int .i64 (and3 l)) ∧ w' = w := by
  have hb := bits_any hv
  obtain ⟨A, c, rfl, q1, q2, q3, q4⟩ := hv.open_
  clear hv q1 q2 q3 q4
  unfold mask3 at hb
  unfold and3
  generalize no3 l = p at *
  generalize yes3 l = q at *
  generalize un3 l = r at *
  cases p <;> cases q <;> cases r
  all_goals
    go_enter Tryz.func29, Tryz.ntmps29
    go_wp2_with fail
    refine hb.mono ?_
    rintro e w1 ⟨rfl, rfl⟩
    clear hb
    simp only [b2]
    go_wp2_with fail
    go_ret
    exact ⟨rfl, rfl⟩
theorem or_any (hv : Is w S v l) : Calls Tryz.prog 30 #[v] w fun e w' => e = .returned (.int .i64 (or3 l)) ∧ w' = w := by
  have hb := bits_any hv
  obtain ⟨A, c, rfl, q1, q2, q3, q4⟩ := hv.open_
  clear hv q1 q2 q3 q4
  unfold mask3 at hb
  unfold or3
  generalize no3 l = p at *
  generalize yes3 l = q at *
  generalize un3 l = r at *
  cases p <;> cases q <;> cases r
  all_goals
    go_enter Tryz.func30, Tryz.ntmps30
    go_wp2_with fail
    refine hb.mono ?_
    rintro e w1 ⟨rfl, rfl⟩
    clear hb
    simp only [b2]
    go_wp2_with fail
    go_ret
    exact ⟨rfl, rfl⟩
set_option maxHeartbeats 2000000 in
theorem rand_any (hv : Is w S v l) : Calls Tryz.prog 34 #[v] w fun e w' => e = .returned (.int .i64 (and3 l)) ∧ w' = w := by
  obtain ⟨A, c, rfl, q1, q2, q3, q4⟩ := hv.open_
  clear hv
  go_enter Tryz.func34, Tryz.ntmps34
  go_wp2_with fail
  go_loop [3, 4] (fun m i => ∃ (k : Nat) (r : Bool), k ≤ l.length ∧ i = .int .i64 k ∧ m = .int .i64 (if r then 2 else 1) ∧ Hid (un3 (l.take k) = r) ∧ Hid (no3 (l.take k) = false)) (fun _ i => l.length - (intOf i).toNat)
  case atStart => exact ⟨0, false, Nat.zero_le _, rfl, rfl, Lib.hid rfl, Lib.hid rfl⟩
  case round =>
    obtain ⟨k, r, hk, rfl, rfl, hu, hn⟩ := hrel
    by_cases hlt : k < l.length
    · obtain ⟨ad, rfl, hs, hc⟩ := q4.at_ hlt
      have hbl : decide ((k : Int) < (l.length : Int)) = true := dtrue (by omega)
      have e1 := no3_snoc hlt
      have e3 := un3_snoc hlt
      rw [hn.out] at e1
      rw [hu.out] at e3
      have hall : no3 (l.take (k + 1)) = true → no3 l = true := no3_all _
      obtain ⟨x, hx⟩ : ∃ x, x = l[k] := ⟨_, rfl⟩
      rw [← hx] at e1 e3 hc
      clear hx hu hn
      by_cases h0 : x = 0
      · subst h0
        have e1' := hall (by rw [e1]; rfl)
        clear e1 e3 hall
        replace e1' := Lib.hid e1'
        cases r <;> go_wp2_with fail
        all_goals
          go_ret
          unfold and3
          rw [e1'.out]
          exact ⟨rfl, rfl⟩
      · have z0 : (x == 0) = false := by simpa using h0
        rw [z0] at e1
        have n0 : (x != 0) = true := by simpa using h0
        replace e1 := Lib.hid e1
        clear hall
        by_cases h1 : x = 1
        · subst h1
          replace e3 := Lib.hid e3
          cases r <;> go_wp2_with fail
          · exact ⟨⟨k + 1, false, by omega, by go_num, rfl, Lib.hid (by rw [e3.out]; rfl), Lib.hid (by rw [e1.out]; rfl)⟩, by simp [intOf] <;> omega⟩
          · exact ⟨⟨k + 1, true, by omega, by go_num, rfl, Lib.hid (by rw [e3.out]; rfl), Lib.hid (by rw [e1.out]; rfl)⟩, by simp [intOf] <;> omega⟩
        · have z1 : (x == 1) = false := by simpa using h1
          have n1 : (x != 1) = true := by simpa using h1
          replace e3 := Lib.hid e3
          cases r <;> go_wp2_with fail
          all_goals exact ⟨⟨k + 1, true, by omega, by go_num, rfl, Lib.hid (by rw [e3.out, n0, n1]; rfl), Lib.hid (by rw [e1.out]; rfl)⟩, by simp [intOf] <;> omega⟩
    · have hbl : decide ((k : Int) < (l.length : Int)) = false := dfalse (by omega)
      rw [List.take_of_length_le (by omega)] at hu hn
      cases r <;> go_wp2_with fail
      all_goals
        go_ret
        unfold and3
        rw [hu.out, hn.out]
        exact ⟨rfl, rfl⟩
set_option maxHeartbeats 2000000 in
theorem ror_any (hv : Is w S v l) : Calls Tryz.prog 35 #[v] w fun e w' => e = .returned (.int .i64 (or3 l)) ∧ w' = w := by
  obtain ⟨A, c, rfl, q1, q2, q3, q4⟩ := hv.open_
  clear hv
  go_enter Tryz.func35, Tryz.ntmps35
  go_wp2_with fail
  go_loop [3, 4] (fun m i => ∃ (k : Nat) (r : Bool), k ≤ l.length ∧ i = .int .i64 k ∧ m = .int .i64 (if r then 2 else 0) ∧ Hid (un3 (l.take k) = r) ∧ Hid (yes3 (l.take k) = false)) (fun _ i => l.length - (intOf i).toNat)
  case atStart => exact ⟨0, false, Nat.zero_le _, rfl, rfl, Lib.hid rfl, Lib.hid rfl⟩
  case round =>
    obtain ⟨k, r, hk, rfl, rfl, hu, hn⟩ := hrel
    by_cases hlt : k < l.length
    · obtain ⟨ad, rfl, hs, hc⟩ := q4.at_ hlt
      have hbl : decide ((k : Int) < (l.length : Int)) = true := dtrue (by omega)
      have e1 := yes3_snoc hlt
      have e3 := un3_snoc hlt
      rw [hn.out] at e1
      rw [hu.out] at e3
      have hall : yes3 (l.take (k + 1)) = true → yes3 l = true := yes3_all _
      obtain ⟨x, hx⟩ : ∃ x, x = l[k] := ⟨_, rfl⟩
      rw [← hx] at e1 e3 hc
      clear hx hu hn
      by_cases h0 : x = 1
      · subst h0
        have e1' := hall (by rw [e1]; rfl)
        clear e1 e3 hall
        replace e1' := Lib.hid e1'
        cases r <;> go_wp2_with fail
        all_goals
          go_ret
          unfold or3
          rw [e1'.out]
          exact ⟨rfl, rfl⟩
      · have z0 : (x == 1) = false := by simpa using h0
        rw [z0] at e1
        have n0 : (x != 1) = true := by simpa using h0
        replace e1 := Lib.hid e1
        clear hall
        by_cases h1 : x = 0
        · subst h1
          replace e3 := Lib.hid e3
          cases r <;> go_wp2_with fail
          · exact ⟨⟨k + 1, false, by omega, by go_num, rfl, Lib.hid (by rw [e3.out]; rfl), Lib.hid (by rw [e1.out]; rfl)⟩, by simp [intOf] <;> omega⟩
          · exact ⟨⟨k + 1, true, by omega, by go_num, rfl, Lib.hid (by rw [e3.out]; rfl), Lib.hid (by rw [e1.out]; rfl)⟩, by simp [intOf] <;> omega⟩
        · have z1 : (x == 0) = false := by simpa using h1
          have n1 : (x != 0) = true := by simpa using h1
          replace e3 := Lib.hid e3
          cases r <;> go_wp2_with fail
          all_goals exact ⟨⟨k + 1, true, by omega, by go_num, rfl, Lib.hid (by rw [e3.out, n0, n1]; rfl), Lib.hid (by rw [e1.out]; rfl)⟩, by simp [intOf] <;> omega⟩
    · have hbl : decide ((k : Int) < (l.length : Int)) = false := dfalse (by omega)
      rw [List.take_of_length_le (by omega)] at hu hn
      cases r <;> go_wp2_with fail
      all_goals
        go_ret
        unfold or3
        rw [hu.out, hn.out]
        exact ⟨rfl, rfl⟩
end
end Go.Proofs.YteihjdefdeckaaaGreatDoor
