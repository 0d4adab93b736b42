/- acl: covers, isFor, reaches. -/
import Derived.Test.YtbdkdbfcbakgmaaAclA
namespace Go.Proofs.Ytbdkdbfcbakgmaa
open Go.RowKit
set_option maxRecDepth 100000

def coversR (rights right : Int) : Prop := 0 < right ∧ bits .and .i64 right (right - 1) = 0 ∧ bits .and .i64 rights right ≠ 0
instance (a b : Int) : Decidable (coversR a b) := inferInstanceAs (Decidable (_ ∧ _))
def isForR (who : Int) (nm W T : List Av) : Prop := who = 0 ∨ (who = 1 ∧ 0 < W.length) ∨ (who = 2 ∧ 0 < W.length ∧ sameN W T) ∨ (who = 3 ∧ sameN W nm)
instance (who : Int) (nm W T : List Av) : Decidable (isForR who nm W T) := inferInstanceAs (Decidable (_ ∨ _))
def reachesR (r : Rul) (T : List Av) (typ : List UInt8) : Prop := (r.typ = [] ∨ foldB r.typ = foldB typ) ∧ (if r.sub = true then underN T r.base else sameN T r.base)
instance (r : Rul) (T : List Av) (typ : List UInt8) : Decidable (reachesR r T typ) := inferInstanceAs (Decidable (_ ∧ _))

set_option maxHeartbeats 4000000 in
theorem covers_any {w : World} {c : LRul} (right : Int) (h1 : -9223372036854775808 ≤ right) (h2 : right ≤ 9223372036854775807) :
    Calls Try.prog 62 #[.agg (rarr c), .int .i64 right] w fun e w' => e = .returned (.bool (decide (coversR c.1.rights right))) ∧ Ext w w' := by
  obtain ⟨⟨who, nm, bs, sub, typ, rights, grant⟩, x, y⟩ := c
  have B0 := Blk.new w 46 #[.int .i64 who, x, y, .bool sub, sv typ, .int .i64 rights, .bool grant]
  have x0 : Ext w (w.alloc (.cells #[.int .i64 who, x, y, .bool sub, sv typ, .int .i64 rights, .bool grant] 46)) := (Mod.refl _ w).alloc _
  have c7 := blk7 B0
  obtain ⟨c70, c71, c72, c73, c74, c75, c76⟩ := c7
  suffices core : ∀ (R : Prop) [Decidable R], (R ↔ 0 < right ∧ bits .and .i64 right (right - 1) = 0 ∧ bits .and .i64 rights right ≠ 0) →
      Calls Try.prog 62 #[.agg #[.int .i64 who, x, y, .bool sub, sv typ, .int .i64 rights, .bool grant], .int .i64 right] w fun e w' => e = .returned (.bool (decide R)) ∧ Ext w w' from core (coversR rights right) Iff.rfl
  intro R _ hR
  by_cases hp : 0 < right
  · have kp : decide (0 < right) = true := dtrue hp
    by_cases h3 : bits .and .i64 right (right - 1) = 0
    · have k3 : (bits .and .i64 right (right - 1) == 0) = true := by rw [beq_iff_eq]; exact h3
      have yes : decide R = (bits .and .i64 rights right != 0) := by
        rw [Bool.eq_iff_iff, decide_eq_true_eq, bne_iff_ne]
        exact ⟨fun h => (hR.1 h).2.2, fun h => hR.2 ⟨hp, h3, h⟩⟩
      clear h3
      go_enter Try.func62, Try.ntmps62
      go_wp2_with fail
      go_ret
      exact ⟨by rw [yes]; rfl, x0⟩
    · have k3 : (bits .and .i64 right (right - 1) == 0) = false := by rw [beq_eq_false_iff_ne]; exact h3
      have no : ¬ R := fun h => h3 (hR.1 h).2.1
      clear h3
      go_enter Try.func62, Try.ntmps62
      go_wp2_with fail
      go_ret
      exact ⟨by first | (rw [decide_eq_false no]; rfl) | rfl, x0⟩
  · have kp : decide (0 < right) = false := dfalse hp
    have no : ¬ R := fun h => hp (hR.1 h).1
    go_enter Try.func62, Try.ntmps62
    go_wp2_with fail
    go_ret
    exact ⟨by first | (rw [decide_eq_false no]; rfl) | rfl, x0⟩

set_option maxHeartbeats 4000000 in
theorem isFor_any {w : World} {S : Nat → Prop} {c : LRul} {vw vt : Value} {W T : List Av} (h : Laid w S c) (hf : RFits c.1) (hW : As w S vw W) (hT : As w S vt T) (fW : Fits W) (fT : Fits T) :
    Calls Try.prog 63 #[.agg (rarr c), vw, vt] w fun e w' => e = .returned (.bool (decide (isForR c.1.who c.1.name W T))) ∧ Ext w w' := by
  obtain ⟨hn, hb⟩ := h
  obtain ⟨fn, fb, ft⟩ := hf
  obtain ⟨⟨who, nm, bs, sub, typ, rights, grant⟩, x, y⟩ := c
  simp only at hn hb fn fb ft
  obtain ⟨Aw, cw, rfl⟩ := hW.shape
  have B0 := Blk.new w 46 #[.int .i64 who, x, y, .bool sub, sv typ, .int .i64 rights, .bool grant]
  have x0 : Ext w (w.alloc (.cells #[.int .i64 who, x, y, .bool sub, sv typ, .int .i64 rights, .bool grant] 46)) := (Mod.refl _ w).alloc _
  have c7 := blk7 B0
  obtain ⟨c70, c71, c72, c73, c74, c75, c76⟩ := c7
  suffices core : ∀ (R : Prop) [Decidable R], (R ↔ who = 0 ∨ (who = 1 ∧ 0 < W.length) ∨ (who = 2 ∧ 0 < W.length ∧ sameN W T) ∨ (who = 3 ∧ sameN W nm)) →
      Calls Try.prog 63 #[.agg #[.int .i64 who, x, y, .bool sub, sv typ, .int .i64 rights, .bool grant], .slice Aw W.length cw, vt] w fun e w' => e = .returned (.bool (decide R)) ∧ Ext w w' from core (isForR who nm W T) Iff.rfl
  intro R _ hR
  by_cases w0 : who = 0
  · have k0 : (who == 0) = true := by rw [w0]; rfl
    have yes : R := hR.2 (.inl w0)
    clear w0
    go_enter Try.func63, Try.ntmps63
    go_wp2_with fail
    go_ret
    exact ⟨by first | (rw [decide_eq_true yes]; rfl) | rfl, x0⟩
  have k0 : (who == 0) = false := by rw [beq_eq_false_iff_ne]; exact w0
  by_cases w1 : who = 1
  · have k1 : (who == 1) = true := by rw [w1]; rfl
    have yes : decide R = decide (0 < W.length) := by
      apply decide_eq_decide.2
      exact ⟨fun h => by rcases hR.1 h with h | h | h | h <;> omega, fun h => hR.2 (.inr (.inl ⟨w1, h⟩))⟩
    clear w1
    go_enter Try.func63, Try.ntmps63
    go_wp2_with fail
    go_ret
    exact ⟨by rw [yes]; rfl, x0⟩
  have k1 : (who == 1) = false := by rw [beq_eq_false_iff_ne]; exact w1
  by_cases w2 : who = 2
  · have k2 : (who == 2) = true := by rw [w2]; rfl
    by_cases hl : 0 < W.length
    · have kl : decide (0 < W.length) = true := dtrue hl
      have yes : decide R = decide (sameN W T) := by
        apply decide_eq_decide.2
        refine ⟨fun h => ?_, fun h => hR.2 (.inr (.inr (.inl ⟨w2, hl, h⟩)))⟩
        rcases hR.1 h with h | h | h | h
        · omega
        · omega
        · exact h.2.2
        · omega
      clear w2
      go_enter Try.func63, Try.ntmps63
      go_wp2_with fail
      refine (same_any (hW.ext x0) (hT.ext x0) fW fT).mono ?_
      rintro e w9 ⟨rfl, x9⟩
      go_wp2_with fail
      go_ret
      exact ⟨by rw [yes]; rfl, ext_trans x0 x9⟩
    · have kl : decide (0 < W.length) = false := dfalse hl
      have no : ¬ R := fun h => by
        rcases hR.1 h with h | h | h | h
        · omega
        · omega
        · exact hl h.2.1
        · omega
      clear w2
      go_enter Try.func63, Try.ntmps63
      go_wp2_with fail
      go_ret
      exact ⟨by first | (rw [decide_eq_false no]; rfl) | rfl, x0⟩
  have k2 : (who == 2) = false := by rw [beq_eq_false_iff_ne]; exact w2
  by_cases w3 : who = 3
  · have k3 : (who == 3) = true := by rw [w3]; rfl
    have yes : decide R = decide (sameN W nm) := by
      apply decide_eq_decide.2
      refine ⟨fun h => ?_, fun h => hR.2 (.inr (.inr (.inr ⟨w3, h⟩)))⟩
      rcases hR.1 h with h | h | h | h
      · omega
      · omega
      · omega
      · exact h.2
    clear w3
    go_enter Try.func63, Try.ntmps63
    go_wp2_with fail
    refine (same_any (hW.ext x0) (hn.ext x0) fW fn).mono ?_
    rintro e w9 ⟨rfl, x9⟩
    go_wp2_with fail
    go_ret
    exact ⟨by rw [yes]; rfl, ext_trans x0 x9⟩
  · have k3 : (who == 3) = false := by rw [beq_eq_false_iff_ne]; exact w3
    have no : ¬ R := fun h => by rcases hR.1 h with h | h | h | h <;> omega
    go_enter Try.func63, Try.ntmps63
    go_wp2_with fail
    go_ret
    exact ⟨by first | (rw [decide_eq_false no]; rfl) | rfl, x0⟩

set_option maxHeartbeats 4000000 in
theorem reaches_any {w : World} {S : Nat → Prop} {c : LRul} {vt : Value} {T : List Av} {ty : List UInt8} (h : Laid w S c) (hf : RFits c.1) (hT : As w S vt T) (fT : Fits T) (hty : ty.length ≤ 140737488351232) :
    Calls Try.prog 64 #[.agg (rarr c), vt, sv ty] w fun e w' => e = .returned (.bool (decide (reachesR c.1 T ty))) ∧ Ext w w' := by
  obtain ⟨hn, hb⟩ := h
  obtain ⟨fn, fb, ft⟩ := hf
  obtain ⟨⟨who, nm, bs, sub, typ, rights, grant⟩, x, y⟩ := c
  simp only at hn hb fn fb ft
  have B0 := Blk.new w 46 #[.int .i64 who, x, y, .bool sub, sv typ, .int .i64 rights, .bool grant]
  have x0 : Ext w (w.alloc (.cells #[.int .i64 who, x, y, .bool sub, sv typ, .int .i64 rights, .bool grant] 46)) := (Mod.refl _ w).alloc _
  have c7 := blk7 B0
  obtain ⟨c70, c71, c72, c73, c74, c75, c76⟩ := c7
  suffices core : ∀ (R : Prop) [Decidable R], (R ↔ (typ = [] ∨ foldB typ = foldB ty) ∧ (if sub = true then underN T bs else sameN T bs)) →
      Calls Try.prog 64 #[.agg #[.int .i64 who, x, y, .bool sub, sv typ, .int .i64 rights, .bool grant], vt, sv ty] w fun e w' => e = .returned (.bool (decide R)) ∧ Ext w w' from core (reachesR ⟨who, nm, bs, sub, typ, rights, grant⟩ T ty) Iff.rfl
  intro R _ hR
  by_cases ht : typ = []
  · have kt : typ.isEmpty = true := by rw [ht]; rfl
    have ht' : typ = [] ∨ foldB typ = foldB ty := .inl ht
    clear ht
    cases sub
    · have yes : decide R = decide (sameN T bs) := decide_eq_decide.2 ⟨fun h => (hR.1 h).2, fun h => hR.2 ⟨ht', h⟩⟩
      replace ht' := Lib.hid ht'
      go_enter Try.func64, Try.ntmps64
      go_wp2_with fail
      refine (same_any (hT.ext x0) (hb.ext x0) fT fb).mono ?_
      rintro e w9 ⟨rfl, x9⟩
      go_wp2_with fail
      go_ret
      exact ⟨by rw [yes]; rfl, ext_trans x0 x9⟩
    · have yes : decide R = decide (underN T bs) := decide_eq_decide.2 ⟨fun h => (hR.1 h).2, fun h => hR.2 ⟨ht', h⟩⟩
      replace ht' := Lib.hid ht'
      go_enter Try.func64, Try.ntmps64
      go_wp2_with fail
      refine (under_any (hT.ext x0) (hb.ext x0) fT fb).mono ?_
      rintro e w9 ⟨rfl, x9⟩
      go_wp2_with fail
      go_ret
      exact ⟨by rw [yes]; rfl, ext_trans x0 x9⟩
  · have kt : typ.isEmpty = false := by cases typ <;> simp_all
    go_enter Try.func64, Try.ntmps64
    go_wp2_with fail
    refine (fold_any typ ft).mono ?_
    rintro e w2 ⟨rfl, x2⟩
    have B2 := Blk.mod B0 x2 (fun h => h)
    replace x2 := ext_trans x0 x2
    go_wp2_with fail
    refine (fold_any ty hty).mono ?_
    rintro e w3 ⟨rfl, x3⟩
    have c7 := blk7 (Blk.mod B2 x3 (fun h => h))
    obtain ⟨c70, c71, c72, c73, c74, c75, c76⟩ := c7
    replace x3 := ext_trans x2 x3
    by_cases hfe : foldB typ = foldB ty
    · have hfb : (foldB typ == foldB ty) = true := by rw [hfe]; simp
      have ht' : typ = [] ∨ foldB typ = foldB ty := .inr hfe
      clear ht hfe
      generalize foldB typ = t1 at *
      generalize foldB ty = t2 at *
      cases sub
      · have yes : decide R = decide (sameN T bs) := decide_eq_decide.2 ⟨fun h => (hR.1 h).2, fun h => hR.2 ⟨ht', h⟩⟩
        replace ht' := Lib.hid ht'
        go_wp2_with fail
        refine (same_any (hT.ext x3) (hb.ext x3) fT fb).mono ?_
        rintro e w9 ⟨rfl, x9⟩
        go_wp2_with fail
        go_ret
        exact ⟨by rw [yes]; rfl, ext_trans x3 x9⟩
      · have yes : decide R = decide (underN T bs) := decide_eq_decide.2 ⟨fun h => (hR.1 h).2, fun h => hR.2 ⟨ht', h⟩⟩
        replace ht' := Lib.hid ht'
        go_wp2_with fail
        refine (under_any (hT.ext x3) (hb.ext x3) fT fb).mono ?_
        rintro e w9 ⟨rfl, x9⟩
        go_wp2_with fail
        go_ret
        exact ⟨by rw [yes]; rfl, ext_trans x3 x9⟩
    · have hfb : (foldB typ == foldB ty) = false := by rw [beq_eq_false_iff_ne]; exact hfe
      have no : ¬ R := fun h => (hR.1 h).1.elim ht hfe
      clear hfe
      generalize foldB typ = t1 at *
      generalize foldB ty = t2 at *
      go_wp2_with fail
      go_ret
      exact ⟨by first | (rw [decide_eq_false no]; rfl) | rfl, x3⟩
end Go.Proofs.Ytbdkdbfcbakgmaa
