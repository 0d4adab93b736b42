/- acl: rules; Is. -/
import Derived.Test.YtbdkdbfcbakgmaaDnM
namespace Go.Proofs.Ytbdkdbfcbakgmaa
open Go.RowKit
set_option maxRecDepth 100000

/-- A rule. -/
structure Rul where
  who : Int
  name : List Av
  base : List Av
  sub : Bool
  typ : List UInt8
  rights : Int
  grant : Bool
/-- A rule with the values of its names. -/
abbrev LRul : Type := Rul × Value × Value
abbrev rcell (c : LRul) : List Value := [.int .i64 c.1.who, c.2.1, c.2.2, .bool c.1.sub, sv c.1.typ, .int .i64 c.1.rights, .bool c.1.grant]
abbrev rarr (c : LRul) : Array Value := #[.int .i64 c.1.who, c.2.1, c.2.2, .bool c.1.sub, sv c.1.typ, .int .i64 c.1.rights, .bool c.1.grant]
theorem rcell_len (c : LRul) : (rcell c).length = 7 := rfl
/-- The names of a laid rule lie there. -/
def Laid (w : World) (S : Nat → Prop) (c : LRul) : Prop := As w S c.2.1 c.1.name ∧ As w S c.2.2 c.1.base
def RFits (r : Rul) : Prop := Fits r.name ∧ Fits r.base ∧ r.typ.length ≤ 140737488351232
theorem Laid.ext {w w' : World} {S : Nat → Prop} {c : LRul} (h : Laid w S c) (hx : Ext w w') : Laid w' S c := ⟨h.1.ext hx, h.2.ext hx⟩
def isRule (r : Rul) : Prop := (((r.who = 0 ∨ r.who = 1 ∨ r.who = 2) ∧ r.name.length = 0) ∨ (r.who = 3 ∧ isName r.name)) ∧ (r.typ = [] ∨ isTyp r.typ) ∧ isName r.base ∧ r.rights ≠ 0 ∧ bits .andNot .i64 r.rights 15 = 0
instance (r : Rul) : Decidable (isRule r) := inferInstanceAs (Decidable (_ ∧ _))

theorem blk7 {w : World} {g : Nat} {t : TypeId} {a b c d e f h : Value} (B : Blk w g t #[a, b, c, d, e, f, h]) :
    w.cell? ⟨g, 0, none⟩ = some a ∧ w.cell? ⟨g, 1, none⟩ = some b ∧ w.cell? ⟨g, 2, none⟩ = some c ∧ w.cell? ⟨g, 3, none⟩ = some d ∧ w.cell? ⟨g, 4, none⟩ = some e ∧ w.cell? ⟨g, 5, none⟩ = some f ∧ w.cell? ⟨g, 6, none⟩ = some h :=
  ⟨B.cell 0, B.cell 1, B.cell 2, B.cell 3, B.cell 4, B.cell 5, B.cell 6⟩

set_option maxHeartbeats 8000000 in
theorem ruleIs_any {w : World} {S : Nat → Prop} {c : LRul} (h : Laid w S c) (hf : RFits c.1) :
    Calls Try.prog 39 #[.agg (rarr c)] w fun e w' => e = .returned (.bool (decide (isRule c.1))) ∧ Ext w w' := by
  obtain ⟨hn, hb⟩ := h
  obtain ⟨fn, fb, ft⟩ := hf
  obtain ⟨⟨who, nm, bs, sub, typ, rights, grant⟩, x, y⟩ := c
  simp only at hn hb fn fb ft
  obtain ⟨Ax, cx, rfl⟩ := hn.shape
  have hsz := sv_size typ
  have hlen : nm.length < 9223372036854775807 := by have := fn.2; omega
  have B0 := Blk.new w 46 #[.int .i64 who, .slice Ax nm.length cx, y, .bool sub, sv typ, .int .i64 rights, .bool grant]
  have x0 : Ext w (w.alloc (.cells #[.int .i64 who, .slice Ax nm.length cx, y, .bool sub, sv typ, .int .i64 rights, .bool grant] 46)) := (Mod.refl _ w).alloc _
  obtain ⟨p, hp⟩ : ∃ p : Prop, p = (((who = 0 ∨ who = 1 ∨ who = 2) ∧ nm.length = 0) ∨ (who = 3 ∧ isName nm)) := ⟨_, rfl⟩
  suffices core : ∀ (R : Prop) [Decidable R], (R ↔ p ∧ (typ = [] ∨ isTyp typ) ∧ isName bs ∧ rights ≠ 0 ∧ bits .andNot .i64 rights 15 = 0) →
      Calls Try.prog 39 #[.agg #[.int .i64 who, .slice Ax nm.length cx, y, .bool sub, sv typ, .int .i64 rights, .bool grant]] w fun e w' => e = .returned (.bool (decide R)) ∧ Ext w w' from core (isRule ⟨who, nm, bs, sub, typ, rights, grant⟩) (by unfold isRule; rw [hp])
  intro R _ hR
  by_cases w0 : who = 0
  · have k0 : (who == 0) = true := by rw [w0]; rfl
    by_cases hn0 : nm.length = 0
    · have kn : decide (0 < nm.length) = false := dfalse (by omega)
      have hp1 : p := by rw [hp]; exact .inl ⟨by omega, hn0⟩
      replace hp := Lib.hid hp
      replace w0 := Lib.hid w0
      replace hn0 := Lib.hid hn0
      go_enter Try.func39, Try.ntmps39
      have c7 := blk7 B0
      obtain ⟨c70, c71, c72, c73, c74, c75, c76⟩ := c7
      by_cases ht : typ = []
      · have kt : typ.isEmpty = true := by rw [ht]; rfl
        have ht' := ht
        replace ht := Lib.hid ht
        clear ht'
        go_wp2_with fail
        refine (is_any (hb.ext (ext_trans x0 (Mod.refl _ _))) fb).mono ?_
        rintro e wb ⟨rfl, xb⟩
        have c9 := blk7 (Blk.mod B0 xb (fun h => h))
        obtain ⟨_, _, _, _, _, c95, _⟩ := c9
        replace xb := ext_trans x0 xb
        by_cases hbs : isName bs
        · rw [decide_eq_true hbs]
          by_cases hr0 : rights = 0
          · have kr : (rights != 0) = false := by rw [hr0]; rfl
            have no : ¬ R := fun h => (hR.1 h).2.2.2.1 hr0
            clear hr0
            go_wp2_with fail
            go_ret
            exact ⟨by rw [decide_eq_false no]; rfl, xb⟩
          · have kr : (rights != 0) = true := by rw [bne_iff_ne]; exact hr0
            have yes : decide R = (bits .andNot .i64 rights 15 == 0) := by
              rw [Bool.eq_iff_iff, decide_eq_true_eq, beq_iff_eq]
              exact ⟨fun h => (hR.1 h).2.2.2.2, fun h => hR.2 ⟨hp1, .inl ht.out, hbs, hr0, h⟩⟩
            go_wp2_with fail
            go_ret
            exact ⟨by rw [yes]; rfl, xb⟩
        · rw [decide_eq_false hbs]
          have no : ¬ R := fun h => hbs (hR.1 h).2.2.1
          go_wp2_with fail
          go_ret
          exact ⟨by rw [decide_eq_false no]; rfl, xb⟩
      · have kt : typ.isEmpty = false := by cases typ <;> simp_all
        go_wp2_with fail
        refine (type_any typ (by omega)).mono ?_
        rintro e wt ⟨rfl, hwt⟩
        subst hwt
        by_cases hty : isTyp typ
        · rw [decide_eq_true hty]
          go_wp2_with fail
          refine (is_any (hb.ext (ext_trans x0 (Mod.refl _ _))) fb).mono ?_
          rintro e wb ⟨rfl, xb⟩
          have c9 := blk7 (Blk.mod B0 xb (fun h => h))
          obtain ⟨_, _, _, _, _, c95, _⟩ := c9
          replace xb := ext_trans x0 xb
          by_cases hbs : isName bs
          · rw [decide_eq_true hbs]
            by_cases hr0 : rights = 0
            · have kr : (rights != 0) = false := by rw [hr0]; rfl
              have no : ¬ R := fun h => (hR.1 h).2.2.2.1 hr0
              clear hr0
              go_wp2_with fail
              go_ret
              exact ⟨by rw [decide_eq_false no]; rfl, xb⟩
            · have kr : (rights != 0) = true := by rw [bne_iff_ne]; exact hr0
              have yes : decide R = (bits .andNot .i64 rights 15 == 0) := by
                rw [Bool.eq_iff_iff, decide_eq_true_eq, beq_iff_eq]
                exact ⟨fun h => (hR.1 h).2.2.2.2, fun h => hR.2 ⟨hp1, .inr hty, hbs, hr0, h⟩⟩
              go_wp2_with fail
              go_ret
              exact ⟨by rw [yes]; rfl, xb⟩
          · rw [decide_eq_false hbs]
            have no : ¬ R := fun h => hbs (hR.1 h).2.2.1
            go_wp2_with fail
            go_ret
            exact ⟨by rw [decide_eq_false no]; rfl, xb⟩
        · rw [decide_eq_false hty]
          have no : ¬ R := fun h => (hR.1 h).2.1.elim ht hty
          go_wp2_with fail
          go_ret
          exact ⟨by rw [decide_eq_false no]; rfl, x0⟩
    · have kn : decide (0 < nm.length) = true := dtrue (by omega)
      have no : ¬ R := fun h => by
        have h1 := (hR.1 h).1
        rw [hp] at h1
        rcases h1 with h1 | h1
        · exact hn0 h1.2
        · omega
      replace hp := Lib.hid hp
      replace w0 := Lib.hid w0
      go_enter Try.func39, Try.ntmps39
      go_wp2_with fail
      go_ret
      exact ⟨by rw [decide_eq_false no]; rfl, x0⟩
  by_cases w1 : who = 1
  · have k0 : (who == 0) = false := by rw [beq_eq_false_iff_ne]; omega
    have k1 : (who == 1) = true := by rw [w1]; rfl
    by_cases hn0 : nm.length = 0
    · have kn : decide (0 < nm.length) = false := dfalse (by omega)
      have hp1 : p := by rw [hp]; exact .inl ⟨by omega, hn0⟩
      replace hp := Lib.hid hp
      replace w1 := Lib.hid w1
      replace hn0 := Lib.hid hn0
      go_enter Try.func39, Try.ntmps39
      have c7 := blk7 B0
      obtain ⟨c70, c71, c72, c73, c74, c75, c76⟩ := c7
      by_cases ht : typ = []
      · have kt : typ.isEmpty = true := by rw [ht]; rfl
        have ht' := ht
        replace ht := Lib.hid ht
        clear ht'
        go_wp2_with fail
        refine (is_any (hb.ext (ext_trans x0 (Mod.refl _ _))) fb).mono ?_
        rintro e wb ⟨rfl, xb⟩
        have c9 := blk7 (Blk.mod B0 xb (fun h => h))
        obtain ⟨_, _, _, _, _, c95, _⟩ := c9
        replace xb := ext_trans x0 xb
        by_cases hbs : isName bs
        · rw [decide_eq_true hbs]
          by_cases hr0 : rights = 0
          · have kr : (rights != 0) = false := by rw [hr0]; rfl
            have no : ¬ R := fun h => (hR.1 h).2.2.2.1 hr0
            clear hr0
            go_wp2_with fail
            go_ret
            exact ⟨by rw [decide_eq_false no]; rfl, xb⟩
          · have kr : (rights != 0) = true := by rw [bne_iff_ne]; exact hr0
            have yes : decide R = (bits .andNot .i64 rights 15 == 0) := by
              rw [Bool.eq_iff_iff, decide_eq_true_eq, beq_iff_eq]
              exact ⟨fun h => (hR.1 h).2.2.2.2, fun h => hR.2 ⟨hp1, .inl ht.out, hbs, hr0, h⟩⟩
            go_wp2_with fail
            go_ret
            exact ⟨by rw [yes]; rfl, xb⟩
        · rw [decide_eq_false hbs]
          have no : ¬ R := fun h => hbs (hR.1 h).2.2.1
          go_wp2_with fail
          go_ret
          exact ⟨by rw [decide_eq_false no]; rfl, xb⟩
      · have kt : typ.isEmpty = false := by cases typ <;> simp_all
        go_wp2_with fail
        refine (type_any typ (by omega)).mono ?_
        rintro e wt ⟨rfl, hwt⟩
        subst hwt
        by_cases hty : isTyp typ
        · rw [decide_eq_true hty]
          go_wp2_with fail
          refine (is_any (hb.ext (ext_trans x0 (Mod.refl _ _))) fb).mono ?_
          rintro e wb ⟨rfl, xb⟩
          have c9 := blk7 (Blk.mod B0 xb (fun h => h))
          obtain ⟨_, _, _, _, _, c95, _⟩ := c9
          replace xb := ext_trans x0 xb
          by_cases hbs : isName bs
          · rw [decide_eq_true hbs]
            by_cases hr0 : rights = 0
            · have kr : (rights != 0) = false := by rw [hr0]; rfl
              have no : ¬ R := fun h => (hR.1 h).2.2.2.1 hr0
              clear hr0
              go_wp2_with fail
              go_ret
              exact ⟨by rw [decide_eq_false no]; rfl, xb⟩
            · have kr : (rights != 0) = true := by rw [bne_iff_ne]; exact hr0
              have yes : decide R = (bits .andNot .i64 rights 15 == 0) := by
                rw [Bool.eq_iff_iff, decide_eq_true_eq, beq_iff_eq]
                exact ⟨fun h => (hR.1 h).2.2.2.2, fun h => hR.2 ⟨hp1, .inr hty, hbs, hr0, h⟩⟩
              go_wp2_with fail
              go_ret
              exact ⟨by rw [yes]; rfl, xb⟩
          · rw [decide_eq_false hbs]
            have no : ¬ R := fun h => hbs (hR.1 h).2.2.1
            go_wp2_with fail
            go_ret
            exact ⟨by rw [decide_eq_false no]; rfl, xb⟩
        · rw [decide_eq_false hty]
          have no : ¬ R := fun h => (hR.1 h).2.1.elim ht hty
          go_wp2_with fail
          go_ret
          exact ⟨by rw [decide_eq_false no]; rfl, x0⟩
    · have kn : decide (0 < nm.length) = true := dtrue (by omega)
      have no : ¬ R := fun h => by
        have h1 := (hR.1 h).1
        rw [hp] at h1
        rcases h1 with h1 | h1
        · exact hn0 h1.2
        · omega
      replace hp := Lib.hid hp
      replace w1 := Lib.hid w1
      go_enter Try.func39, Try.ntmps39
      go_wp2_with fail
      go_ret
      exact ⟨by rw [decide_eq_false no]; rfl, x0⟩
  by_cases w2 : who = 2
  · have k0 : (who == 0) = false := by rw [beq_eq_false_iff_ne]; omega
    have k1 : (who == 1) = false := by rw [beq_eq_false_iff_ne]; omega
    have k2 : (who == 2) = true := by rw [w2]; rfl
    by_cases hn0 : nm.length = 0
    · have kn : decide (0 < nm.length) = false := dfalse (by omega)
      have hp1 : p := by rw [hp]; exact .inl ⟨by omega, hn0⟩
      replace hp := Lib.hid hp
      replace w2 := Lib.hid w2
      replace hn0 := Lib.hid hn0
      go_enter Try.func39, Try.ntmps39
      have c7 := blk7 B0
      obtain ⟨c70, c71, c72, c73, c74, c75, c76⟩ := c7
      by_cases ht : typ = []
      · have kt : typ.isEmpty = true := by rw [ht]; rfl
        have ht' := ht
        replace ht := Lib.hid ht
        clear ht'
        go_wp2_with fail
        refine (is_any (hb.ext (ext_trans x0 (Mod.refl _ _))) fb).mono ?_
        rintro e wb ⟨rfl, xb⟩
        have c9 := blk7 (Blk.mod B0 xb (fun h => h))
        obtain ⟨_, _, _, _, _, c95, _⟩ := c9
        replace xb := ext_trans x0 xb
        by_cases hbs : isName bs
        · rw [decide_eq_true hbs]
          by_cases hr0 : rights = 0
          · have kr : (rights != 0) = false := by rw [hr0]; rfl
            have no : ¬ R := fun h => (hR.1 h).2.2.2.1 hr0
            clear hr0
            go_wp2_with fail
            go_ret
            exact ⟨by rw [decide_eq_false no]; rfl, xb⟩
          · have kr : (rights != 0) = true := by rw [bne_iff_ne]; exact hr0
            have yes : decide R = (bits .andNot .i64 rights 15 == 0) := by
              rw [Bool.eq_iff_iff, decide_eq_true_eq, beq_iff_eq]
              exact ⟨fun h => (hR.1 h).2.2.2.2, fun h => hR.2 ⟨hp1, .inl ht.out, hbs, hr0, h⟩⟩
            go_wp2_with fail
            go_ret
            exact ⟨by rw [yes]; rfl, xb⟩
        · rw [decide_eq_false hbs]
          have no : ¬ R := fun h => hbs (hR.1 h).2.2.1
          go_wp2_with fail
          go_ret
          exact ⟨by rw [decide_eq_false no]; rfl, xb⟩
      · have kt : typ.isEmpty = false := by cases typ <;> simp_all
        go_wp2_with fail
        refine (type_any typ (by omega)).mono ?_
        rintro e wt ⟨rfl, hwt⟩
        subst hwt
        by_cases hty : isTyp typ
        · rw [decide_eq_true hty]
          go_wp2_with fail
          refine (is_any (hb.ext (ext_trans x0 (Mod.refl _ _))) fb).mono ?_
          rintro e wb ⟨rfl, xb⟩
          have c9 := blk7 (Blk.mod B0 xb (fun h => h))
          obtain ⟨_, _, _, _, _, c95, _⟩ := c9
          replace xb := ext_trans x0 xb
          by_cases hbs : isName bs
          · rw [decide_eq_true hbs]
            by_cases hr0 : rights = 0
            · have kr : (rights != 0) = false := by rw [hr0]; rfl
              have no : ¬ R := fun h => (hR.1 h).2.2.2.1 hr0
              clear hr0
              go_wp2_with fail
              go_ret
              exact ⟨by rw [decide_eq_false no]; rfl, xb⟩
            · have kr : (rights != 0) = true := by rw [bne_iff_ne]; exact hr0
              have yes : decide R = (bits .andNot .i64 rights 15 == 0) := by
                rw [Bool.eq_iff_iff, decide_eq_true_eq, beq_iff_eq]
                exact ⟨fun h => (hR.1 h).2.2.2.2, fun h => hR.2 ⟨hp1, .inr hty, hbs, hr0, h⟩⟩
              go_wp2_with fail
              go_ret
              exact ⟨by rw [yes]; rfl, xb⟩
          · rw [decide_eq_false hbs]
            have no : ¬ R := fun h => hbs (hR.1 h).2.2.1
            go_wp2_with fail
            go_ret
            exact ⟨by rw [decide_eq_false no]; rfl, xb⟩
        · rw [decide_eq_false hty]
          have no : ¬ R := fun h => (hR.1 h).2.1.elim ht hty
          go_wp2_with fail
          go_ret
          exact ⟨by rw [decide_eq_false no]; rfl, x0⟩
    · have kn : decide (0 < nm.length) = true := dtrue (by omega)
      have no : ¬ R := fun h => by
        have h1 := (hR.1 h).1
        rw [hp] at h1
        rcases h1 with h1 | h1
        · exact hn0 h1.2
        · omega
      replace hp := Lib.hid hp
      replace w2 := Lib.hid w2
      go_enter Try.func39, Try.ntmps39
      go_wp2_with fail
      go_ret
      exact ⟨by rw [decide_eq_false no]; rfl, x0⟩
  have k0 : (who == 0) = false := by rw [beq_eq_false_iff_ne]; omega
  have k1 : (who == 1) = false := by rw [beq_eq_false_iff_ne]; omega
  have k2 : (who == 2) = false := by rw [beq_eq_false_iff_ne]; omega
  by_cases w3 : who = 3
  · have k3 : (who == 3) = true := by rw [w3]; rfl
    have hpn : p ↔ isName nm := by
      rw [hp]
      exact ⟨fun h => h.elim (fun h => by omega) (fun h => h.2), fun h => .inr ⟨w3, h⟩⟩
    replace hp := Lib.hid hp
    replace w3 := Lib.hid w3
    go_enter Try.func39, Try.ntmps39
    go_wp2_with fail
    refine (is_any (hn.ext x0) fn).mono ?_
    rintro e w9 ⟨rfl, x9⟩
    have B9 := Blk.mod B0 x9 (fun h => h)
    replace x9 := ext_trans x0 x9
    by_cases hnm : isName nm
    · rw [decide_eq_true hnm]
      have hp1 : p := hpn.2 hnm
      clear hpn
      have c7 := blk7 B9
      obtain ⟨c70, c71, c72, c73, c74, c75, c76⟩ := c7
      by_cases ht : typ = []
      · have kt : typ.isEmpty = true := by rw [ht]; rfl
        have ht' := ht
        replace ht := Lib.hid ht
        clear ht'
        go_wp2_with fail
        refine (is_any (hb.ext (ext_trans x9 (Mod.refl _ _))) fb).mono ?_
        rintro e wb ⟨rfl, xb⟩
        have c9 := blk7 (Blk.mod B9 xb (fun h => h))
        obtain ⟨_, _, _, _, _, c95, _⟩ := c9
        replace xb := ext_trans x9 xb
        by_cases hbs : isName bs
        · rw [decide_eq_true hbs]
          by_cases hr0 : rights = 0
          · have kr : (rights != 0) = false := by rw [hr0]; rfl
            have no : ¬ R := fun h => (hR.1 h).2.2.2.1 hr0
            clear hr0
            go_wp2_with fail
            go_ret
            exact ⟨by rw [decide_eq_false no]; rfl, xb⟩
          · have kr : (rights != 0) = true := by rw [bne_iff_ne]; exact hr0
            have yes : decide R = (bits .andNot .i64 rights 15 == 0) := by
              rw [Bool.eq_iff_iff, decide_eq_true_eq, beq_iff_eq]
              exact ⟨fun h => (hR.1 h).2.2.2.2, fun h => hR.2 ⟨hp1, .inl ht.out, hbs, hr0, h⟩⟩
            go_wp2_with fail
            go_ret
            exact ⟨by rw [yes]; rfl, xb⟩
        · rw [decide_eq_false hbs]
          have no : ¬ R := fun h => hbs (hR.1 h).2.2.1
          go_wp2_with fail
          go_ret
          exact ⟨by rw [decide_eq_false no]; rfl, xb⟩
      · have kt : typ.isEmpty = false := by cases typ <;> simp_all
        go_wp2_with fail
        refine (type_any typ (by omega)).mono ?_
        rintro e wt ⟨rfl, hwt⟩
        subst hwt
        by_cases hty : isTyp typ
        · rw [decide_eq_true hty]
          go_wp2_with fail
          refine (is_any (hb.ext (ext_trans x9 (Mod.refl _ _))) fb).mono ?_
          rintro e wb ⟨rfl, xb⟩
          have c9 := blk7 (Blk.mod B9 xb (fun h => h))
          obtain ⟨_, _, _, _, _, c95, _⟩ := c9
          replace xb := ext_trans x9 xb
          by_cases hbs : isName bs
          · rw [decide_eq_true hbs]
            by_cases hr0 : rights = 0
            · have kr : (rights != 0) = false := by rw [hr0]; rfl
              have no : ¬ R := fun h => (hR.1 h).2.2.2.1 hr0
              clear hr0
              go_wp2_with fail
              go_ret
              exact ⟨by rw [decide_eq_false no]; rfl, xb⟩
            · have kr : (rights != 0) = true := by rw [bne_iff_ne]; exact hr0
              have yes : decide R = (bits .andNot .i64 rights 15 == 0) := by
                rw [Bool.eq_iff_iff, decide_eq_true_eq, beq_iff_eq]
                exact ⟨fun h => (hR.1 h).2.2.2.2, fun h => hR.2 ⟨hp1, .inr hty, hbs, hr0, h⟩⟩
              go_wp2_with fail
              go_ret
              exact ⟨by rw [yes]; rfl, xb⟩
          · rw [decide_eq_false hbs]
            have no : ¬ R := fun h => hbs (hR.1 h).2.2.1
            go_wp2_with fail
            go_ret
            exact ⟨by rw [decide_eq_false no]; rfl, xb⟩
        · rw [decide_eq_false hty]
          have no : ¬ R := fun h => (hR.1 h).2.1.elim ht hty
          go_wp2_with fail
          go_ret
          exact ⟨by rw [decide_eq_false no]; rfl, x9⟩
    · rw [decide_eq_false hnm]
      have no : ¬ R := fun h => hnm (hpn.1 (hR.1 h).1)
      go_wp2_with fail
      go_ret
      exact ⟨by rw [decide_eq_false no]; rfl, x9⟩
  · have k3 : (who == 3) = false := by rw [beq_eq_false_iff_ne]; omega
    have no : ¬ R := fun h => by
      have h1 := (hR.1 h).1
      rw [hp] at h1
      rcases h1 with h1 | h1 <;> omega
    replace hp := Lib.hid hp
    go_enter Try.func39, Try.ntmps39
    go_wp2_with fail
    go_ret
    exact ⟨by rw [decide_eq_false no]; rfl, x0⟩
end Go.Proofs.Ytbdkdbfcbakgmaa
