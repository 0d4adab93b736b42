/- acl: what the document says: Is, whose. -/
import Derived.Test.YtbdkdbfcbakgmaaAclC
import Derived.Test.YtbdkdbfcbakgmaaAclBits
namespace Go.Proofs.Ytbdkdbfcbakgmaa
open Go.RowKit
set_option maxRecDepth 100000

def RInt (r : Rul) : Prop := -9223372036854775808 ≤ r.rights ∧ r.rights ≤ 9223372036854775807
theorem isRule_iff {r : Rul} (h : RInt r) : isRule r ↔ (0 ≤ r.who ∧ r.who ≤ 3) ∧ isName r.name ∧ (r.who = 3 ∨ r.name.length = 0) ∧ isName r.base ∧ (r.typ = [] ∨ isTyp r.typ) ∧ 1 ≤ r.rights ∧ r.rights ≤ 15 := by
  unfold isRule
  rw [andNot15 _ h.1 h.2]
  constructor
  · rintro ⟨h1, h2, h3, h4, h5⟩
    refine ⟨?_, ?_, ?_, h3, h2, by omega, h5.2⟩
    · rcases h1 with ⟨h, _⟩ | ⟨h, _⟩ <;> omega
    · rcases h1 with ⟨_, h⟩ | ⟨_, h⟩
      · have : r.name = [] := List.eq_nil_of_length_eq_zero h
        rw [this]; exact ⟨by simp, fun a ha => by cases ha⟩
      · exact h
    · rcases h1 with ⟨_, h⟩ | ⟨h, _⟩
      · exact .inr h
      · exact .inl h
  · rintro ⟨h1, h2, h3, h4, h5, h6, h7⟩
    refine ⟨?_, h5, h4, by omega, by omega, h7⟩
    rcases h3 with h3 | h3
    · exact .inr ⟨h3, h2⟩
    · by_cases h : r.who = 3
      · exact .inr ⟨h, h2⟩
      · exact .inl ⟨by omega, h3⟩

set_option maxHeartbeats 8000000 in
theorem risR_any {w : World} {S : Nat → Prop} {c : LRul} (h : Laid w S c) (hf : RFits c.1) (hi : RInt c.1) :
    Calls Try.prog 40 #[.agg (rarr c)] w fun e w' => e = .returned (.bool (decide (isRule c.1))) ∧ Ext w w' := by
  have hiff := isRule_iff hi
  obtain ⟨hn, hb⟩ := h
  obtain ⟨fn, fb, ft⟩ := hf
  obtain ⟨⟨who, nm, bs, sub, typ, rights, grant⟩, x, y⟩ := c
  simp only at hn hb fn fb ft hiff
  obtain ⟨Ax, cx, rfl⟩ := hn.shape
  have hsz := sv_size typ
  have hlen : nm.length < 9223372036854775807 := by have := fn.2; omega
  have B0 := Blk.new w 46 #[.int .i64 who, .slice Ax nm.length cx, y, .bool sub, sv typ, .int .i64 rights, .bool grant]
  have x0 : Ext w (w.alloc (.cells #[.int .i64 who, .slice Ax nm.length cx, y, .bool sub, sv typ, .int .i64 rights, .bool grant] 46)) := (Mod.refl _ w).alloc _
  suffices core : ∀ (R : Prop) [Decidable R], (R ↔ (0 ≤ who ∧ who ≤ 3) ∧ isName nm ∧ (who = 3 ∨ nm.length = 0) ∧ isName bs ∧ (typ = [] ∨ isTyp typ) ∧ 1 ≤ rights ∧ rights ≤ 15) →
      Calls Try.prog 40 #[.agg #[.int .i64 who, .slice Ax nm.length cx, y, .bool sub, sv typ, .int .i64 rights, .bool grant]] w fun e w' => e = .returned (.bool (decide R)) ∧ Ext w w' from core _ hiff
  intro R _ hR
  clear hiff hi
  by_cases g1 : 0 ≤ who
  case neg =>
    have k1 : decide (0 ≤ who) = false := dfalse g1
    have no : ¬ R := fun h => g1 (hR.1 h).1.1
    go_enter Try.func40, Try.ntmps40
    go_wp2_with fail
    go_ret
    exact ⟨by first | (rw [decide_eq_false no]; rfl) | rfl, x0⟩
  have k1 : decide (0 ≤ who) = true := dtrue g1
  by_cases g2 : who ≤ 3
  case neg =>
    have k2 : decide (who ≤ 3) = false := dfalse g2
    have no : ¬ R := fun h => g2 (hR.1 h).1.2
    go_enter Try.func40, Try.ntmps40
    go_wp2_with fail
    go_ret
    exact ⟨by first | (rw [decide_eq_false no]; rfl) | rfl, x0⟩
  have k2 : decide (who ≤ 3) = true := dtrue g2
  go_enter Try.func40, Try.ntmps40
  go_wp2_with fail
  refine (ris_any (hn.ext x0) fn).mono ?_
  rintro e wx ⟨rfl, hwx⟩
  rw [hwx]
  clear hwx
  by_cases g3 : isName nm
  case neg =>
    have no : ¬ R := fun h => g3 (hR.1 h).2.1
    rw [decide_eq_false g3]
    go_wp2_with fail
    go_ret
    exact ⟨by first | (rw [decide_eq_false no]; rfl) | rfl, x0⟩
  rw [decide_eq_true g3]
  have c7 := blk7 B0
  obtain ⟨c70, c71, c72, c73, c74, c75, c76⟩ := c7
  by_cases g4 : who = 3 ∨ nm.length = 0
  case neg =>
    have no : ¬ R := fun h => g4 (hR.1 h).2.2.1
    have k3 : (who == 3) = false := by rw [beq_eq_false_iff_ne]; omega
    have k4 : ((nm.length : Int) == 0) = false := by rw [beq_eq_false_iff_ne]; omega
    clear g1 g2 g4
    go_wp2_with fail
    go_ret
    exact ⟨by first | (rw [decide_eq_false no]; rfl) | rfl, x0⟩
  have hmid : ∃ q4 q5 : Bool, (who == 3) = q4 ∧ ((nm.length : Int) == 0) = q5 ∧ (q4 = true ∨ (q4 = false ∧ q5 = true)) := by
    refine ⟨_, _, rfl, rfl, ?_⟩
    rcases g4 with h | h
    · exact .inl (by rw [h]; rfl)
    · by_cases h3 : who = 3
      · exact .inl (by rw [h3]; rfl)
      · exact .inr ⟨by rw [beq_eq_false_iff_ne]; exact h3, by rw [h]; rfl⟩
  obtain ⟨q4, q5, k3, k4, hq⟩ := hmid
  replace hR : R ↔ isName bs ∧ (typ = [] ∨ isTyp typ) ∧ 1 ≤ rights ∧ rights ≤ 15 := ⟨fun h => (hR.1 h).2.2.2, fun h => hR.2 ⟨⟨g1, g2⟩, g3, g4, h⟩⟩
  clear g1 g2 g4 k1 k2
  replace hR := Lib.hid hR
  rcases hq with rfl | ⟨rfl, rfl⟩
  · clear k4
    go_wp2_with fail
    refine (ris_any (hb.ext x0) fb).mono ?_
    rintro e wx ⟨rfl, hwx⟩
    rw [hwx]
    clear hwx
    by_cases g5 : isName bs
    case neg =>
      have no : ¬ R := fun h => g5 (hR.out.1 h).1
      rw [decide_eq_false g5]
      go_wp2_with fail
      go_ret
      exact ⟨by first | (rw [decide_eq_false no]; rfl) | rfl, x0⟩
    rw [decide_eq_true g5]
    have fin : (typ = [] ∨ isTyp typ) → decide R = (decide (1 ≤ rights) && decide (rights ≤ 15)) := fun h => by
      rw [Bool.eq_iff_iff, decide_eq_true_eq, Bool.and_eq_true, decide_eq_true_eq, decide_eq_true_eq]
      exact ⟨fun hr => (hR.out.1 hr).2.2, fun hr => hR.out.2 ⟨g5, h, hr⟩⟩
    by_cases ht : typ = []
    · have kt : typ.isEmpty = true := by rw [ht]; rfl
      replace fin := Lib.hid (fin (.inl ht))
      clear ht
      by_cases hr1 : 1 ≤ rights
      · have kr : decide (1 ≤ rights) = true := dtrue hr1
        have fin2 : decide R = decide (rights ≤ 15) := by rw [fin.out, kr, Bool.true_and]
        replace fin2 := Lib.hid fin2
        go_wp2_with fail
        go_ret
        exact ⟨by rw [fin2.out]; rfl, x0⟩
      · have kr : decide (1 ≤ rights) = false := dfalse hr1
        have fin2 : decide R = false := by rw [fin.out, kr, Bool.false_and]
        replace fin2 := Lib.hid fin2
        go_wp2_with fail
        go_ret
        exact ⟨by rw [fin2.out]; rfl, x0⟩
    · have kt : typ.isEmpty = false := by cases typ <;> simp_all
      go_wp2_with fail
      refine (rtype_any typ (by omega)).mono ?_
      rintro e wt ⟨rfl, hwt⟩
      rw [hwt]
      clear hwt
      by_cases hty : isTyp typ
      · rw [decide_eq_true hty]
        replace fin := Lib.hid (fin (.inr hty))
        by_cases hr1 : 1 ≤ rights
        · have kr : decide (1 ≤ rights) = true := dtrue hr1
          have fin2 : decide R = decide (rights ≤ 15) := by rw [fin.out, kr, Bool.true_and]
          replace fin2 := Lib.hid fin2
          go_wp2_with fail
          go_ret
          exact ⟨by rw [fin2.out]; rfl, x0⟩
        · have kr : decide (1 ≤ rights) = false := dfalse hr1
          have fin2 : decide R = false := by rw [fin.out, kr, Bool.false_and]
          replace fin2 := Lib.hid fin2
          go_wp2_with fail
          go_ret
          exact ⟨by rw [fin2.out]; rfl, x0⟩
      · rw [decide_eq_false hty]
        have no : ¬ R := fun h => (hR.out.1 h).2.1.elim ht hty
        go_wp2_with fail
        go_ret
        exact ⟨by first | (rw [decide_eq_false no]; rfl) | rfl, x0⟩
  · skip
    go_wp2_with fail
    refine (ris_any (hb.ext x0) fb).mono ?_
    rintro e wx ⟨rfl, hwx⟩
    rw [hwx]
    clear hwx
    by_cases g5 : isName bs
    case neg =>
      have no : ¬ R := fun h => g5 (hR.out.1 h).1
      rw [decide_eq_false g5]
      go_wp2_with fail
      go_ret
      exact ⟨by first | (rw [decide_eq_false no]; rfl) | rfl, x0⟩
    rw [decide_eq_true g5]
    have fin : (typ = [] ∨ isTyp typ) → decide R = (decide (1 ≤ rights) && decide (rights ≤ 15)) := fun h => by
      rw [Bool.eq_iff_iff, decide_eq_true_eq, Bool.and_eq_true, decide_eq_true_eq, decide_eq_true_eq]
      exact ⟨fun hr => (hR.out.1 hr).2.2, fun hr => hR.out.2 ⟨g5, h, hr⟩⟩
    by_cases ht : typ = []
    · have kt : typ.isEmpty = true := by rw [ht]; rfl
      replace fin := Lib.hid (fin (.inl ht))
      clear ht
      by_cases hr1 : 1 ≤ rights
      · have kr : decide (1 ≤ rights) = true := dtrue hr1
        have fin2 : decide R = decide (rights ≤ 15) := by rw [fin.out, kr, Bool.true_and]
        replace fin2 := Lib.hid fin2
        go_wp2_with fail
        go_ret
        exact ⟨by rw [fin2.out]; rfl, x0⟩
      · have kr : decide (1 ≤ rights) = false := dfalse hr1
        have fin2 : decide R = false := by rw [fin.out, kr, Bool.false_and]
        replace fin2 := Lib.hid fin2
        go_wp2_with fail
        go_ret
        exact ⟨by rw [fin2.out]; rfl, x0⟩
    · have kt : typ.isEmpty = false := by cases typ <;> simp_all
      go_wp2_with fail
      refine (rtype_any typ (by omega)).mono ?_
      rintro e wt ⟨rfl, hwt⟩
      rw [hwt]
      clear hwt
      by_cases hty : isTyp typ
      · rw [decide_eq_true hty]
        replace fin := Lib.hid (fin (.inr hty))
        by_cases hr1 : 1 ≤ rights
        · have kr : decide (1 ≤ rights) = true := dtrue hr1
          have fin2 : decide R = decide (rights ≤ 15) := by rw [fin.out, kr, Bool.true_and]
          replace fin2 := Lib.hid fin2
          go_wp2_with fail
          go_ret
          exact ⟨by rw [fin2.out]; rfl, x0⟩
        · have kr : decide (1 ≤ rights) = false := dfalse hr1
          have fin2 : decide R = false := by rw [fin.out, kr, Bool.false_and]
          replace fin2 := Lib.hid fin2
          go_wp2_with fail
          go_ret
          exact ⟨by rw [fin2.out]; rfl, x0⟩
      · rw [decide_eq_false hty]
        have no : ¬ R := fun h => (hR.out.1 h).2.1.elim ht hty
        go_wp2_with fail
        go_ret
        exact ⟨by first | (rw [decide_eq_false no]; rfl) | rfl, x0⟩
end Go.Proofs.Ytbdkdbfcbakgmaa
