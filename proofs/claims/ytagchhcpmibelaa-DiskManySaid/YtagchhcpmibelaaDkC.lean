/- disk: what its methods ask first, and how they end. -/
import Derived.Test.YtagchhcpmibelaaDkB
import Derived.RegionTactic
import Derived.Deep.Cut
namespace Go.Proofs.Ytagchhcpmibelaa
open Go.RowKit Go.Maps Go.WideMaps
set_option maxRecDepth 100000

def badN (x : List UInt8) : Bool := decide (x.length < 1 ∨ 64 < x.length)
/-- What each of the five asks first. -/
def begD (d : Ds) (L : Tx) : Nat := if d.fu = true ∧ d.left = 0 then 9 else if L.any badN then 1 else 0
def doneD (d : Ds) : Ds := { d with left := if d.fu then d.left - 1 else d.left }
abbrev ev (n : Nat) : Value := .int .i64 (n : Int)

theorem b_eq0 {n : Nat} (h : n = 0) : ((n : Int) == 0) = true := by rw [h]; rfl
theorem b_ne0 {n : Nat} (h : ¬ n = 0) : ((n : Int) == 0) = false := by rw [beq_eq_false_iff_ne]; omega

set_option maxHeartbeats 4000000 in
theorem begin_any {S T : Nat → Prop} {w : World} {bd bm : Nat} {D : DataW Unit} {G : Lay} {d : Ds} {v : Value} {L : Tx} (h : DkAt S w bd bm D G d) (hv : Ts w T v L) (hl : L.length ≤ 1000000) :
    Calls Try.prog 48 #[pv bd, v] w fun e w' => e = .returned (ev (begD d L)) ∧ Ext w w' := by
  have c3 : w.cell? ⟨bd, 3, none⟩ = some (.bool d.fu) := h.blk.cell 3
  have c4 : w.cell? ⟨bd, 4, none⟩ = some (.int .i64 (d.left : Int)) := h.blk.cell 4
  clear h
  have hgo : (d.fu = true ∧ d.left = 0) ∨ (d.fu = false ∨ (d.fu = true ∧ ¬ d.left = 0)) := by
    by_cases h1 : d.fu = true
    · by_cases h2 : d.left = 0
      · exact .inl ⟨h1, h2⟩
      · exact .inr (.inr ⟨h1, h2⟩)
    · exact .inr (.inl (by simpa using h1))
  rcases hgo with ⟨h1, h2⟩ | hgo
  · have hr : begD d L = 9 := by unfold begD; rw [if_pos ⟨h1, h2⟩]
    rw [hr]
    rw [h1] at c3
    have hb := b_eq0 h2
    clear h1 h2 hr
    go_enter Try.func48, Try.ntmps48
    go_wp2_with fail
    go_ret
    exact ⟨rfl, Mod.refl _ _⟩
  have hr : begD d L = if L.any badN then 1 else 0 := by
    unfold begD
    rw [if_neg]
    rintro ⟨h1, h2⟩
    rcases hgo with h | h
    · rw [h1] at h; cases h
    · exact h.2 h2
  rw [hr]
  clear hr
  obtain ⟨A, c, rfl, h1, h2, h3, h4⟩ := hv.open_
  clear hv
  obtain ⟨r, hr⟩ : ∃ r : Nat, r = if L.any badN then 1 else 0 := ⟨_, rfl⟩
  rw [← hr]
  replace hr := Lib.hid hr
  rcases hgo with hfu | ⟨hfu, hle⟩
  case' inr => have hb := b_ne0 hle; clear hle
  all_goals
    rw [hfu] at c3
    clear hfu
    go_enter Try.func48, Try.ntmps48
    go_wp2_with fail
    go_loopw [22] (fun i wr => ∃ k : Nat, k ≤ L.length ∧ i = .int .i64 k ∧ Hid ((L.take k).any badN = false) ∧ Ext w wr) (fun i _ => L.length - (intOf i).toNat)
    case atStart => exact ⟨0, Nat.zero_le _, rfl, Lib.hid rfl, Mod.refl _ _⟩
    case round =>
      obtain ⟨k, hk, rfl, hs, hx⟩ := hrel
      by_cases hlt : k < L.length
      case neg =>
        have hbl : decide ((k : Int) < (L.length : Int)) = false := dfalse (by omega)
        have he : r = 0 := by
          have := hs.out
          rw [List.take_of_length_le (by omega)] at this
          rw [hr.out, this]; rfl
        clear hs hr
        subst he
        go_wp2_with fail
        go_ret
        exact ⟨rfl, hx⟩
      have hbl : decide ((k : Int) < (L.length : Int)) = true := dtrue (by omega)
      obtain ⟨ad, hA, hS, c0⟩ := (Cells.mod h4 hx (fun _ _ _ h => h)).at_ hlt
      subst hA
      have hi0 : (0 : Int) ≤ (k : Int) := by omega
      have hi1 : (k : Int) < (L.length : Int) := by omega
      have hst : badN L[k] = false → (L.take (k + 1)).any badN = false := fun hq => by
        rw [List.take_succ_eq_append_getElem hlt, List.any_append, hs.out]
        simp [hq]
      have hst2 : badN L[k] = true → r = 1 := fun hq => by
        rw [hr.out, if_pos]
        rw [List.any_eq_true]
        exact ⟨_, List.getElem_mem _, hq⟩
      clear hs
      generalize L[k] = x at *
      have hsz := sv_size x
      by_cases h5 : x.length < 1
      · have hb1 : decide ((x.length : Int) < 1) = true := dtrue (by omega)
        have he := hst2 (by unfold badN; exact decide_eq_true (.inl h5))
        clear hst hst2 hr
        subst he
        go_wp2_with fail
        go_ret
        exact ⟨rfl, hx⟩
      have hb1 : decide ((x.length : Int) < 1) = false := dfalse (by omega)
      by_cases h6 : 64 < x.length
      · have hb2 : decide ((64 : Int) < (x.length : Int)) = true := dtrue (by omega)
        have he := hst2 (by unfold badN; exact decide_eq_true (.inr h6))
        clear hst hst2 hr
        subst he
        go_wp2_with fail
        go_ret
        exact ⟨rfl, hx⟩
      have hb2 : decide ((64 : Int) < (x.length : Int)) = false := dfalse (by omega)
      have hs := Lib.hid (hst (by unfold badN; exact decide_eq_false (by omega)))
      clear hst hst2
      go_wp2_with fail
      exact ⟨⟨k + 1, by omega, by go_num, hs, hx⟩, by simp [intOf] <;> omega⟩
end Go.Proofs.Ytagchhcpmibelaa
