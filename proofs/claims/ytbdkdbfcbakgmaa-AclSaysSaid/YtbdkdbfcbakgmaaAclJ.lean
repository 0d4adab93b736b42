/- acl: what the document says: whose, fits. -/
import Derived.Test.YtbdkdbfcbakgmaaAclI
import Derived.Test.YtbdkdbfcbakgmaaAclG
namespace Go.Proofs.Ytbdkdbfcbakgmaa
open Go.RowKit
set_option maxRecDepth 100000

theorem same_under {L M : List Av} (h : sameN L M) : underN L M := by
  have hl : L.length = M.length := (same_step.1 h).1
  refine ⟨by omega, ?_⟩
  rw [show L.length - M.length = 0 by omega, List.drop_zero]; exact h
theorem reach_doc {who : Int} {nm bs : List Av} {sub : Bool} {typ : List UInt8} {rights : Int} {grant : Bool} {T : List Av} {ty : List UInt8} : reachesR ⟨who, nm, bs, sub, typ, rights, grant⟩ T ty ↔ (typ = [] ∨ foldB typ = foldB ty) ∧ (sameN T bs ∨ (sub = true ∧ underN T bs)) := by
  unfold reachesR
  simp only
  cases sub
  · simp
  · simp only [if_true, true_and]
    exact ⟨fun h => ⟨h.1, .inr h.2⟩, fun h => ⟨h.1, h.2.elim same_under (fun h => h)⟩⟩

set_option maxHeartbeats 4000000 in
theorem whose_any {w : World} {c : LRul} {vw vt : Value} {W T : List Av} (h : Laid w (fun b => b < w.heap.size) c) (hf : RFits c.1) (hW : As w (fun b => b < w.heap.size) vw W) (hT : As w (fun b => b < w.heap.size) vt T) (fW : Fits W) (fT : Fits T) (hwho : 0 ≤ c.1.who ∧ c.1.who ≤ 3) :
    Calls Try.prog 76 #[.agg (rarr c), vw, vt] w fun e w' => e = .returned (.bool (decide (isForR c.1.who c.1.name W T))) ∧ Ext w w' := by
  obtain ⟨hn, hb⟩ := h
  obtain ⟨fn, fb, ft⟩ := hf
  obtain ⟨⟨who, nm, bs, sub, typ, rights, grant⟩, x, y⟩ := c
  simp only at hn hb fn fb ft hwho
  obtain ⟨Aw, cw, rfl⟩ := hW.shape
  have B0 := Blk.new w 46 #[.int .i64 who, x, y, .bool sub, sv typ, .int .i64 rights, .bool grant]
  have x0 : Ext w (w.alloc (.cells #[.int .i64 who, x, y, .bool sub, sv typ, .int .i64 rights, .bool grant] 46)) := (Mod.refl _ w).alloc _
  have c7 := blk7 B0
  obtain ⟨c70, c71, c72, c73, c74, c75, c76⟩ := c7
  suffices core : ∀ (R : Prop) [Decidable R], (R ↔ who = 0 ∨ (who = 1 ∧ 0 < W.length) ∨ (who = 2 ∧ 0 < W.length ∧ sameN W T) ∨ (who = 3 ∧ sameN W nm)) →
      Calls Try.prog 76 #[.agg #[.int .i64 who, x, y, .bool sub, sv typ, .int .i64 rights, .bool grant], .slice Aw W.length cw, vt] w fun e w' => e = .returned (.bool (decide R)) ∧ Ext w w' from core (isForR who nm W T) Iff.rfl
  intro R _ hR
  by_cases w0 : who = 0
  · have k0 : (who == 0) = true := by rw [w0]; rfl
    have yes : R := hR.2 (.inl w0)
    clear w0
    go_enter Try.func76, Try.ntmps76
    go_wp2_with fail
    go_ret
    exact ⟨by first | (rw [decide_eq_true yes]; rfl) | rfl, x0⟩
  have k0 : (who == 0) = false := by rw [beq_eq_false_iff_ne]; exact w0
  by_cases w1 : who = 1
  · have k1 : (who == 1) = true := by rw [w1]; rfl
    have yes : decide R = decide (0 < W.length) := by
      apply decide_eq_decide.2
      exact ⟨fun h => by rcases hR.1 h with h | h | h | h <;> omega, fun h => hR.2 (.inr (.inl ⟨w1, h⟩))⟩
    clear w1
    go_enter Try.func76, Try.ntmps76
    go_wp2_with fail
    go_ret
    exact ⟨by rw [yes]; rfl, x0⟩
  have k1 : (who == 1) = false := by rw [beq_eq_false_iff_ne]; exact w1
  by_cases w2 : who = 2
  · have k2 : (who == 2) = true := by rw [w2]; rfl
    by_cases hl : 0 < W.length
    · have kl : decide (0 < W.length) = true := dtrue hl
      have yes : decide R = decide (sameN W T) := by
        apply decide_eq_decide.2
        refine ⟨fun h => ?_, fun h => hR.2 (.inr (.inr (.inl ⟨w2, hl, h⟩)))⟩
        rcases hR.1 h with h | h | h | h
        · omega
        · omega
        · exact h.2.2
        · omega
      clear w2
      go_enter Try.func76, Try.ntmps76
      go_wp2_with fail
      refine (rsame_any (Rc.there hW x0) (Rc.there hT x0) fW fT).mono ?_
      rintro e w9 ⟨rfl, x9⟩
      go_wp2_with fail
      go_ret
      exact ⟨by rw [yes]; rfl, ext_trans x0 x9⟩
    · have kl : decide (0 < W.length) = false := dfalse hl
      have no : ¬ R := fun h => by
        rcases hR.1 h with h | h | h | h
        · omega
        · omega
        · exact hl h.2.1
        · omega
      clear w2
      go_enter Try.func76, Try.ntmps76
      go_wp2_with fail
      go_ret
      exact ⟨by first | (rw [decide_eq_false no]; rfl) | rfl, x0⟩
  have k2 : (who == 2) = false := by rw [beq_eq_false_iff_ne]; exact w2
  have w3 : who = 3 := by omega
  have yes : decide R = decide (sameN W nm) := by
    apply decide_eq_decide.2
    refine ⟨fun h => ?_, fun h => hR.2 (.inr (.inr (.inr ⟨w3, h⟩)))⟩
    rcases hR.1 h with h | h | h | h
    · omega
    · omega
    · omega
    · exact h.2
  clear w3 hwho
  go_enter Try.func76, Try.ntmps76
  go_wp2_with fail
  refine (rsame_any (Rc.there hW x0) (Rc.there hn x0) fW fn).mono ?_
  rintro e w9 ⟨rfl, x9⟩
  go_wp2_with fail
  go_ret
  exact ⟨by rw [yes]; rfl, ext_trans x0 x9⟩


set_option maxHeartbeats 16000000 in
theorem fits_any {w : World} {c : LRul} {vw vt : Value} {W T : List Av} {ty : List UInt8} {right : Int} (h : Laid w (fun b => b < w.heap.size) c) (hf : RFits c.1) (hi : RInt c.1) (hW : As w (fun b => b < w.heap.size) vw W) (hT : As w (fun b => b < w.heap.size) vt T) (fW : Fits W) (fT : Fits T) (hty : ty.length ≤ 140737488351232) (h2 : right ≤ 9223372036854775807) :
    Calls Try.prog 65 #[.agg (rarr c), vw, vt, sv ty, .int .i64 right] w fun e w' => e = .returned (.bool (decide (fitsR c.1 W T ty right))) ∧ Ext w w' := by
  have h00 := h
  have hf0 := hf
  obtain ⟨hn, hb⟩ := h
  obtain ⟨fn, fb, ft⟩ := hf
  obtain ⟨⟨who, nm, bs, sub, typ, rights, grant⟩, x, y⟩ := c
  simp only at hn hb fn fb ft
  obtain ⟨An, cn, rfl⟩ := hn.shape
  obtain ⟨Ab, cb, rfl⟩ := hb.shape
  have B0 := Blk.new w 46 #[.int .i64 who, .slice An nm.length cn, .slice Ab bs.length cb, .bool sub, sv typ, .int .i64 rights, .bool grant]
  have x0 : Ext w (w.alloc (.cells #[.int .i64 who, .slice An nm.length cn, .slice Ab bs.length cb, .bool sub, sv typ, .int .i64 rights, .bool grant] 46)) := (Mod.refl _ w).alloc _
  suffices core : ∀ (R : Prop) [Decidable R], (R ↔ isRule ⟨who, nm, bs, sub, typ, rights, grant⟩ ∧ coversR rights right ∧ isForR who nm W T ∧ reachesR ⟨who, nm, bs, sub, typ, rights, grant⟩ T ty) →
      Calls Try.prog 65 #[.agg #[.int .i64 who, .slice An nm.length cn, .slice Ab bs.length cb, .bool sub, sv typ, .int .i64 rights, .bool grant], vw, vt, sv ty, .int .i64 right] w fun e w' => e = .returned (.bool (decide R)) ∧ Ext w w' from core (fitsR ⟨who, nm, bs, sub, typ, rights, grant⟩ W T ty right) Iff.rfl
  intro R _ hR
  replace hR := Lib.hid hR
  go_enter Try.func65, Try.ntmps65
  go_wp2_with fail
  refine (risR_any (c := (⟨who, nm, bs, sub, typ, rights, grant⟩, .slice An nm.length cn, .slice Ab bs.length cb)) (h00.ext x0) hf0 hi).mono ?_
  rintro e w3 ⟨rfl, x3⟩
  have B3 := B0.mod x3 (fun h => h)
  replace x3 := ext_trans x0 x3
  clear B0 x0
  by_cases g1 : isRule ⟨who, nm, bs, sub, typ, rights, grant⟩
  case neg =>
    rw [decide_eq_false g1]
    have no : ¬ R := fun h => g1 (hR.out.1 h).1
    go_wp2_with fail
    go_ret
    exact ⟨by first | (rw [decide_eq_false no]; rfl) | rfl, x3⟩
  rw [decide_eq_true g1]
  have hwho := ((isRule_iff hi).1 g1).1
  have hrr := ((isRule_iff hi).1 g1).2.2.2.2.2
  simp only at hwho hrr
  have hcv := covers_iff hrr.1 hrr.2 h2
  have y3 := x3
  have c7 := blk7 B3
  obtain ⟨c70, c71, c72, c73, c74, c75, c76⟩ := c7
  by_cases hr : right = 1 ∨ right = 2 ∨ right = 4 ∨ right = 8
  case neg =>
    have no : ¬ R := fun h => hr (hcv.1 (hR.out.1 h).2.1).1
    have b1 : (right != 1) = true := by rw [bne_iff_ne]; omega
    have b2 : (right != 2) = true := by rw [bne_iff_ne]; omega
    have b3 : (right != 4) = true := by rw [bne_iff_ne]; omega
    have b4 : (right != 8) = true := by rw [bne_iff_ne]; omega
    go_wp2_with fail
    go_ret
    exact ⟨by first | (rw [decide_eq_false no]; rfl) | rfl, x3⟩
  have split : ∃ b1 b2 b3 b4 : Bool, (right != 1) = b1 ∧ (right != 2) = b2 ∧ (right != 4) = b3 ∧ (right != 8) = b4 ∧ ((b1 = false) ∨ (b1 = true ∧ b2 = false) ∨ (b1 = true ∧ b2 = true ∧ b3 = false) ∨ (b1 = true ∧ b2 = true ∧ b3 = true ∧ b4 = false)) := by
    rcases hr with rfl | rfl | rfl | rfl
    · exact ⟨_, _, _, _, rfl, rfl, rfl, rfl, .inl rfl⟩
    · exact ⟨_, _, _, _, rfl, rfl, rfl, rfl, .inr (.inl ⟨rfl, rfl⟩)⟩
    · exact ⟨_, _, _, _, rfl, rfl, rfl, rfl, .inr (.inr (.inl ⟨rfl, rfl, rfl⟩))⟩
    · exact ⟨_, _, _, _, rfl, rfl, rfl, rfl, .inr (.inr (.inr ⟨rfl, rfl, rfl, rfl⟩))⟩
  obtain ⟨b1, b2, b3, b4, k1, k2, k3, k4, hsp⟩ := split
  rcases hsp with rfl | ⟨rfl, rfl⟩ | ⟨rfl, rfl, rfl⟩ | ⟨rfl, rfl, rfl, rfl⟩
  · skip
    by_cases gb : bits .and .i64 rights right = 0
    case pos =>
      have kb : (bits .and .i64 rights right == 0) = true := by rw [beq_iff_eq]; exact gb
      have no : ¬ R := fun h => (hcv.1 ((hR.out.1 h).2.1)).2 gb
      clear gb
      go_wp2_with fail
      go_ret
      exact ⟨by first | (rw [decide_eq_false no]; rfl) | rfl, x3⟩
    have kb : (bits .and .i64 rights right == 0) = false := by rw [beq_eq_false_iff_ne]; exact gb
    have hcov : coversR rights right := hcv.2 ⟨hr, gb⟩
    clear gb hcv
    go_wp2_with fail
    refine (whose_any (c := (⟨who, nm, bs, sub, typ, rights, grant⟩, .slice An nm.length cn, .slice Ab bs.length cb)) ⟨Rc.there hn y3, Rc.there hb y3⟩ ⟨fn, fb, ft⟩ (Rc.there hW y3) (Rc.there hT y3) fW fT hwho).mono ?_
    rintro e w4 ⟨rfl, x4⟩
    have B4 := B3.mod x4 (fun h => h)
    have y4 := ext_trans y3 x4
    clear B3 x4 y3 c70 c71 c72 c73 c74 c75 c76
    by_cases g2 : isForR who nm W T
    case neg =>
      rw [decide_eq_false g2]
      have no : ¬ R := fun h => g2 (hR.out.1 h).2.2.1
      go_wp2_with fail
      go_ret
      exact ⟨by first | (rw [decide_eq_false no]; rfl) | rfl, y4⟩
    rw [decide_eq_true g2]
    have c7 := blk7 B4
    obtain ⟨c70, c71, c72, c73, c74, c75, c76⟩ := c7
    go_wp2_with fail
    refine (rsame_any (Rc.there hT y4) (Rc.there hb y4) fT fb).mono ?_
    rintro e w5 ⟨rfl, x5⟩
    have B5 := B4.mod x5 (fun h => h)
    have y5 := ext_trans y4 x5
    clear B4 x5 y4 c70 c71 c72 c73 c74 c75 c76
    have c7 := blk7 B5
    obtain ⟨c70, c71, c72, c73, c74, c75, c76⟩ := c7
    have hRr : R ↔ (typ = [] ∨ foldB typ = foldB ty) ∧ (sameN T bs ∨ (sub = true ∧ underN T bs)) := ⟨fun h => reach_doc.1 (hR.out.1 h).2.2.2, fun h => hR.out.2 ⟨g1, hcov, g2, reach_doc.2 h⟩⟩
    clear hR
    replace hRr := Lib.hid hRr
    by_cases g3 : sameN T bs
    · rw [decide_eq_true g3]
      have hpos : sameN T bs ∨ (sub = true ∧ underN T bs) := .inl g3
      clear g3
      replace hpos := Lib.hid hpos
      by_cases ht : typ = []
      · have kt : typ.isEmpty = true := by rw [ht]; rfl
        have yes : R := hRr.out.2 ⟨.inl ht, by first | exact hpos.out | simpa using hpos.out⟩
        clear ht
        go_wp2_with fail
        go_ret
        exact ⟨by first | (rw [decide_eq_true yes]; rfl) | rfl, y5⟩
      · have kt : typ.isEmpty = false := by cases typ <;> simp_all
        go_wp2_with fail
        refine (rfold_any typ ft).mono ?_
        rintro e w7 ⟨rfl, x7⟩
        have B7 := B5.mod x7 (fun h => h)
        have y7 := ext_trans y5 x7
        clear c70 c71 c72 c73 c74 c75 c76
        have c7 := blk7 B7
        obtain ⟨c70, c71, c72, c73, c74, c75, c76⟩ := c7
        go_wp2_with fail
        refine (rfold_any ty hty).mono ?_
        rintro e w8 ⟨rfl, x8⟩
        have y8 := ext_trans y7 x8
        have hfd : decide R = (foldB typ == foldB ty) := by
          rw [Bool.eq_iff_iff, decide_eq_true_eq, beq_iff_eq]
          exact ⟨fun h => (hRr.out.1 h).1.elim (fun h => absurd h ht) (fun h => h), fun h => hRr.out.2 ⟨.inr h, by first | exact hpos.out | simpa using hpos.out⟩⟩
        replace hfd := Lib.hid hfd
        go_wp2_with fail
        go_ret
        exact ⟨by rw [hfd.out]; rfl, y8⟩
    · rw [decide_eq_false g3]
      cases sub
      · have no : ¬ R := fun h => by
          rcases (hRr.out.1 h).2 with h | h
          · exact g3 h
          · exact absurd h.1 (by simp)
        clear hRr
        go_wp2_with fail
        go_ret
        exact ⟨by first | (rw [decide_eq_false no]; rfl) | rfl, y5⟩
      · go_wp2_with fail
        refine (runder_any (Rc.there hT y5) (Rc.there hb y5) fT fb).mono ?_
        rintro e w6 ⟨rfl, x6⟩
        have B6 := B5.mod x6 (fun h => h)
        have y6 := ext_trans y5 x6
        clear B5 x6 y5 c70 c71 c72 c73 c74 c75 c76
        have c7 := blk7 B6
        obtain ⟨c70, c71, c72, c73, c74, c75, c76⟩ := c7
        by_cases g4 : underN T bs
        · rw [decide_eq_true g4]
          have hpos : sameN T bs ∨ (true = true ∧ underN T bs) := .inr ⟨rfl, g4⟩
          clear g4
          replace hpos := Lib.hid hpos
          by_cases ht : typ = []
          · have kt : typ.isEmpty = true := by rw [ht]; rfl
            have yes : R := hRr.out.2 ⟨.inl ht, by first | exact hpos.out | simpa using hpos.out⟩
            clear ht
            go_wp2_with fail
            go_ret
            exact ⟨by first | (rw [decide_eq_true yes]; rfl) | rfl, y6⟩
          · have kt : typ.isEmpty = false := by cases typ <;> simp_all
            go_wp2_with fail
            refine (rfold_any typ ft).mono ?_
            rintro e w7 ⟨rfl, x7⟩
            have B7 := B6.mod x7 (fun h => h)
            have y7 := ext_trans y6 x7
            clear c70 c71 c72 c73 c74 c75 c76
            have c7 := blk7 B7
            obtain ⟨c70, c71, c72, c73, c74, c75, c76⟩ := c7
            go_wp2_with fail
            refine (rfold_any ty hty).mono ?_
            rintro e w8 ⟨rfl, x8⟩
            have y8 := ext_trans y7 x8
            have hfd : decide R = (foldB typ == foldB ty) := by
              rw [Bool.eq_iff_iff, decide_eq_true_eq, beq_iff_eq]
              exact ⟨fun h => (hRr.out.1 h).1.elim (fun h => absurd h ht) (fun h => h), fun h => hRr.out.2 ⟨.inr h, by first | exact hpos.out | simpa using hpos.out⟩⟩
            replace hfd := Lib.hid hfd
            go_wp2_with fail
            go_ret
            exact ⟨by rw [hfd.out]; rfl, y8⟩
        · rw [decide_eq_false g4]
          have no : ¬ R := fun h => by
            rcases (hRr.out.1 h).2 with h | h
            · exact g3 h
            · exact g4 h.2
          clear hRr
          go_wp2_with fail
          go_ret
          exact ⟨by first | (rw [decide_eq_false no]; rfl) | rfl, y6⟩
  · skip
    by_cases gb : bits .and .i64 rights right = 0
    case pos =>
      have kb : (bits .and .i64 rights right == 0) = true := by rw [beq_iff_eq]; exact gb
      have no : ¬ R := fun h => (hcv.1 ((hR.out.1 h).2.1)).2 gb
      clear gb
      go_wp2_with fail
      go_ret
      exact ⟨by first | (rw [decide_eq_false no]; rfl) | rfl, x3⟩
    have kb : (bits .and .i64 rights right == 0) = false := by rw [beq_eq_false_iff_ne]; exact gb
    have hcov : coversR rights right := hcv.2 ⟨hr, gb⟩
    clear gb hcv
    go_wp2_with fail
    refine (whose_any (c := (⟨who, nm, bs, sub, typ, rights, grant⟩, .slice An nm.length cn, .slice Ab bs.length cb)) ⟨Rc.there hn y3, Rc.there hb y3⟩ ⟨fn, fb, ft⟩ (Rc.there hW y3) (Rc.there hT y3) fW fT hwho).mono ?_
    rintro e w4 ⟨rfl, x4⟩
    have B4 := B3.mod x4 (fun h => h)
    have y4 := ext_trans y3 x4
    clear B3 x4 y3 c70 c71 c72 c73 c74 c75 c76
    by_cases g2 : isForR who nm W T
    case neg =>
      rw [decide_eq_false g2]
      have no : ¬ R := fun h => g2 (hR.out.1 h).2.2.1
      go_wp2_with fail
      go_ret
      exact ⟨by first | (rw [decide_eq_false no]; rfl) | rfl, y4⟩
    rw [decide_eq_true g2]
    have c7 := blk7 B4
    obtain ⟨c70, c71, c72, c73, c74, c75, c76⟩ := c7
    go_wp2_with fail
    refine (rsame_any (Rc.there hT y4) (Rc.there hb y4) fT fb).mono ?_
    rintro e w5 ⟨rfl, x5⟩
    have B5 := B4.mod x5 (fun h => h)
    have y5 := ext_trans y4 x5
    clear B4 x5 y4 c70 c71 c72 c73 c74 c75 c76
    have c7 := blk7 B5
    obtain ⟨c70, c71, c72, c73, c74, c75, c76⟩ := c7
    have hRr : R ↔ (typ = [] ∨ foldB typ = foldB ty) ∧ (sameN T bs ∨ (sub = true ∧ underN T bs)) := ⟨fun h => reach_doc.1 (hR.out.1 h).2.2.2, fun h => hR.out.2 ⟨g1, hcov, g2, reach_doc.2 h⟩⟩
    clear hR
    replace hRr := Lib.hid hRr
    by_cases g3 : sameN T bs
    · rw [decide_eq_true g3]
      have hpos : sameN T bs ∨ (sub = true ∧ underN T bs) := .inl g3
      clear g3
      replace hpos := Lib.hid hpos
      by_cases ht : typ = []
      · have kt : typ.isEmpty = true := by rw [ht]; rfl
        have yes : R := hRr.out.2 ⟨.inl ht, by first | exact hpos.out | simpa using hpos.out⟩
        clear ht
        go_wp2_with fail
        go_ret
        exact ⟨by first | (rw [decide_eq_true yes]; rfl) | rfl, y5⟩
      · have kt : typ.isEmpty = false := by cases typ <;> simp_all
        go_wp2_with fail
        refine (rfold_any typ ft).mono ?_
        rintro e w7 ⟨rfl, x7⟩
        have B7 := B5.mod x7 (fun h => h)
        have y7 := ext_trans y5 x7
        clear c70 c71 c72 c73 c74 c75 c76
        have c7 := blk7 B7
        obtain ⟨c70, c71, c72, c73, c74, c75, c76⟩ := c7
        go_wp2_with fail
        refine (rfold_any ty hty).mono ?_
        rintro e w8 ⟨rfl, x8⟩
        have y8 := ext_trans y7 x8
        have hfd : decide R = (foldB typ == foldB ty) := by
          rw [Bool.eq_iff_iff, decide_eq_true_eq, beq_iff_eq]
          exact ⟨fun h => (hRr.out.1 h).1.elim (fun h => absurd h ht) (fun h => h), fun h => hRr.out.2 ⟨.inr h, by first | exact hpos.out | simpa using hpos.out⟩⟩
        replace hfd := Lib.hid hfd
        go_wp2_with fail
        go_ret
        exact ⟨by rw [hfd.out]; rfl, y8⟩
    · rw [decide_eq_false g3]
      cases sub
      · have no : ¬ R := fun h => by
          rcases (hRr.out.1 h).2 with h | h
          · exact g3 h
          · exact absurd h.1 (by simp)
        clear hRr
        go_wp2_with fail
        go_ret
        exact ⟨by first | (rw [decide_eq_false no]; rfl) | rfl, y5⟩
      · go_wp2_with fail
        refine (runder_any (Rc.there hT y5) (Rc.there hb y5) fT fb).mono ?_
        rintro e w6 ⟨rfl, x6⟩
        have B6 := B5.mod x6 (fun h => h)
        have y6 := ext_trans y5 x6
        clear B5 x6 y5 c70 c71 c72 c73 c74 c75 c76
        have c7 := blk7 B6
        obtain ⟨c70, c71, c72, c73, c74, c75, c76⟩ := c7
        by_cases g4 : underN T bs
        · rw [decide_eq_true g4]
          have hpos : sameN T bs ∨ (true = true ∧ underN T bs) := .inr ⟨rfl, g4⟩
          clear g4
          replace hpos := Lib.hid hpos
          by_cases ht : typ = []
          · have kt : typ.isEmpty = true := by rw [ht]; rfl
            have yes : R := hRr.out.2 ⟨.inl ht, by first | exact hpos.out | simpa using hpos.out⟩
            clear ht
            go_wp2_with fail
            go_ret
            exact ⟨by first | (rw [decide_eq_true yes]; rfl) | rfl, y6⟩
          · have kt : typ.isEmpty = false := by cases typ <;> simp_all
            go_wp2_with fail
            refine (rfold_any typ ft).mono ?_
            rintro e w7 ⟨rfl, x7⟩
            have B7 := B6.mod x7 (fun h => h)
            have y7 := ext_trans y6 x7
            clear c70 c71 c72 c73 c74 c75 c76
            have c7 := blk7 B7
            obtain ⟨c70, c71, c72, c73, c74, c75, c76⟩ := c7
            go_wp2_with fail
            refine (rfold_any ty hty).mono ?_
            rintro e w8 ⟨rfl, x8⟩
            have y8 := ext_trans y7 x8
            have hfd : decide R = (foldB typ == foldB ty) := by
              rw [Bool.eq_iff_iff, decide_eq_true_eq, beq_iff_eq]
              exact ⟨fun h => (hRr.out.1 h).1.elim (fun h => absurd h ht) (fun h => h), fun h => hRr.out.2 ⟨.inr h, by first | exact hpos.out | simpa using hpos.out⟩⟩
            replace hfd := Lib.hid hfd
            go_wp2_with fail
            go_ret
            exact ⟨by rw [hfd.out]; rfl, y8⟩
        · rw [decide_eq_false g4]
          have no : ¬ R := fun h => by
            rcases (hRr.out.1 h).2 with h | h
            · exact g3 h
            · exact g4 h.2
          clear hRr
          go_wp2_with fail
          go_ret
          exact ⟨by first | (rw [decide_eq_false no]; rfl) | rfl, y6⟩
  · skip
    by_cases gb : bits .and .i64 rights right = 0
    case pos =>
      have kb : (bits .and .i64 rights right == 0) = true := by rw [beq_iff_eq]; exact gb
      have no : ¬ R := fun h => (hcv.1 ((hR.out.1 h).2.1)).2 gb
      clear gb
      go_wp2_with fail
      go_ret
      exact ⟨by first | (rw [decide_eq_false no]; rfl) | rfl, x3⟩
    have kb : (bits .and .i64 rights right == 0) = false := by rw [beq_eq_false_iff_ne]; exact gb
    have hcov : coversR rights right := hcv.2 ⟨hr, gb⟩
    clear gb hcv
    go_wp2_with fail
    refine (whose_any (c := (⟨who, nm, bs, sub, typ, rights, grant⟩, .slice An nm.length cn, .slice Ab bs.length cb)) ⟨Rc.there hn y3, Rc.there hb y3⟩ ⟨fn, fb, ft⟩ (Rc.there hW y3) (Rc.there hT y3) fW fT hwho).mono ?_
    rintro e w4 ⟨rfl, x4⟩
    have B4 := B3.mod x4 (fun h => h)
    have y4 := ext_trans y3 x4
    clear B3 x4 y3 c70 c71 c72 c73 c74 c75 c76
    by_cases g2 : isForR who nm W T
    case neg =>
      rw [decide_eq_false g2]
      have no : ¬ R := fun h => g2 (hR.out.1 h).2.2.1
      go_wp2_with fail
      go_ret
      exact ⟨by first | (rw [decide_eq_false no]; rfl) | rfl, y4⟩
    rw [decide_eq_true g2]
    have c7 := blk7 B4
    obtain ⟨c70, c71, c72, c73, c74, c75, c76⟩ := c7
    go_wp2_with fail
    refine (rsame_any (Rc.there hT y4) (Rc.there hb y4) fT fb).mono ?_
    rintro e w5 ⟨rfl, x5⟩
    have B5 := B4.mod x5 (fun h => h)
    have y5 := ext_trans y4 x5
    clear B4 x5 y4 c70 c71 c72 c73 c74 c75 c76
    have c7 := blk7 B5
    obtain ⟨c70, c71, c72, c73, c74, c75, c76⟩ := c7
    have hRr : R ↔ (typ = [] ∨ foldB typ = foldB ty) ∧ (sameN T bs ∨ (sub = true ∧ underN T bs)) := ⟨fun h => reach_doc.1 (hR.out.1 h).2.2.2, fun h => hR.out.2 ⟨g1, hcov, g2, reach_doc.2 h⟩⟩
    clear hR
    replace hRr := Lib.hid hRr
    by_cases g3 : sameN T bs
    · rw [decide_eq_true g3]
      have hpos : sameN T bs ∨ (sub = true ∧ underN T bs) := .inl g3
      clear g3
      replace hpos := Lib.hid hpos
      by_cases ht : typ = []
      · have kt : typ.isEmpty = true := by rw [ht]; rfl
        have yes : R := hRr.out.2 ⟨.inl ht, by first | exact hpos.out | simpa using hpos.out⟩
        clear ht
        go_wp2_with fail
        go_ret
        exact ⟨by first | (rw [decide_eq_true yes]; rfl) | rfl, y5⟩
      · have kt : typ.isEmpty = false := by cases typ <;> simp_all
        go_wp2_with fail
        refine (rfold_any typ ft).mono ?_
        rintro e w7 ⟨rfl, x7⟩
        have B7 := B5.mod x7 (fun h => h)
        have y7 := ext_trans y5 x7
        clear c70 c71 c72 c73 c74 c75 c76
        have c7 := blk7 B7
        obtain ⟨c70, c71, c72, c73, c74, c75, c76⟩ := c7
        go_wp2_with fail
        refine (rfold_any ty hty).mono ?_
        rintro e w8 ⟨rfl, x8⟩
        have y8 := ext_trans y7 x8
        have hfd : decide R = (foldB typ == foldB ty) := by
          rw [Bool.eq_iff_iff, decide_eq_true_eq, beq_iff_eq]
          exact ⟨fun h => (hRr.out.1 h).1.elim (fun h => absurd h ht) (fun h => h), fun h => hRr.out.2 ⟨.inr h, by first | exact hpos.out | simpa using hpos.out⟩⟩
        replace hfd := Lib.hid hfd
        go_wp2_with fail
        go_ret
        exact ⟨by rw [hfd.out]; rfl, y8⟩
    · rw [decide_eq_false g3]
      cases sub
      · have no : ¬ R := fun h => by
          rcases (hRr.out.1 h).2 with h | h
          · exact g3 h
          · exact absurd h.1 (by simp)
        clear hRr
        go_wp2_with fail
        go_ret
        exact ⟨by first | (rw [decide_eq_false no]; rfl) | rfl, y5⟩
      · go_wp2_with fail
        refine (runder_any (Rc.there hT y5) (Rc.there hb y5) fT fb).mono ?_
        rintro e w6 ⟨rfl, x6⟩
        have B6 := B5.mod x6 (fun h => h)
        have y6 := ext_trans y5 x6
        clear B5 x6 y5 c70 c71 c72 c73 c74 c75 c76
        have c7 := blk7 B6
        obtain ⟨c70, c71, c72, c73, c74, c75, c76⟩ := c7
        by_cases g4 : underN T bs
        · rw [decide_eq_true g4]
          have hpos : sameN T bs ∨ (true = true ∧ underN T bs) := .inr ⟨rfl, g4⟩
          clear g4
          replace hpos := Lib.hid hpos
          by_cases ht : typ = []
          · have kt : typ.isEmpty = true := by rw [ht]; rfl
            have yes : R := hRr.out.2 ⟨.inl ht, by first | exact hpos.out | simpa using hpos.out⟩
            clear ht
            go_wp2_with fail
            go_ret
            exact ⟨by first | (rw [decide_eq_true yes]; rfl) | rfl, y6⟩
          · have kt : typ.isEmpty = false := by cases typ <;> simp_all
            go_wp2_with fail
            refine (rfold_any typ ft).mono ?_
            rintro e w7 ⟨rfl, x7⟩
            have B7 := B6.mod x7 (fun h => h)
            have y7 := ext_trans y6 x7
            clear c70 c71 c72 c73 c74 c75 c76
            have c7 := blk7 B7
            obtain ⟨c70, c71, c72, c73, c74, c75, c76⟩ := c7
            go_wp2_with fail
            refine (rfold_any ty hty).mono ?_
            rintro e w8 ⟨rfl, x8⟩
            have y8 := ext_trans y7 x8
            have hfd : decide R = (foldB typ == foldB ty) := by
              rw [Bool.eq_iff_iff, decide_eq_true_eq, beq_iff_eq]
              exact ⟨fun h => (hRr.out.1 h).1.elim (fun h => absurd h ht) (fun h => h), fun h => hRr.out.2 ⟨.inr h, by first | exact hpos.out | simpa using hpos.out⟩⟩
            replace hfd := Lib.hid hfd
            go_wp2_with fail
            go_ret
            exact ⟨by rw [hfd.out]; rfl, y8⟩
        · rw [decide_eq_false g4]
          have no : ¬ R := fun h => by
            rcases (hRr.out.1 h).2 with h | h
            · exact g3 h
            · exact g4 h.2
          clear hRr
          go_wp2_with fail
          go_ret
          exact ⟨by first | (rw [decide_eq_false no]; rfl) | rfl, y6⟩
  · skip
    by_cases gb : bits .and .i64 rights right = 0
    case pos =>
      have kb : (bits .and .i64 rights right == 0) = true := by rw [beq_iff_eq]; exact gb
      have no : ¬ R := fun h => (hcv.1 ((hR.out.1 h).2.1)).2 gb
      clear gb
      go_wp2_with fail
      go_ret
      exact ⟨by first | (rw [decide_eq_false no]; rfl) | rfl, x3⟩
    have kb : (bits .and .i64 rights right == 0) = false := by rw [beq_eq_false_iff_ne]; exact gb
    have hcov : coversR rights right := hcv.2 ⟨hr, gb⟩
    clear gb hcv
    go_wp2_with fail
    refine (whose_any (c := (⟨who, nm, bs, sub, typ, rights, grant⟩, .slice An nm.length cn, .slice Ab bs.length cb)) ⟨Rc.there hn y3, Rc.there hb y3⟩ ⟨fn, fb, ft⟩ (Rc.there hW y3) (Rc.there hT y3) fW fT hwho).mono ?_
    rintro e w4 ⟨rfl, x4⟩
    have B4 := B3.mod x4 (fun h => h)
    have y4 := ext_trans y3 x4
    clear B3 x4 y3 c70 c71 c72 c73 c74 c75 c76
    by_cases g2 : isForR who nm W T
    case neg =>
      rw [decide_eq_false g2]
      have no : ¬ R := fun h => g2 (hR.out.1 h).2.2.1
      go_wp2_with fail
      go_ret
      exact ⟨by first | (rw [decide_eq_false no]; rfl) | rfl, y4⟩
    rw [decide_eq_true g2]
    have c7 := blk7 B4
    obtain ⟨c70, c71, c72, c73, c74, c75, c76⟩ := c7
    go_wp2_with fail
    refine (rsame_any (Rc.there hT y4) (Rc.there hb y4) fT fb).mono ?_
    rintro e w5 ⟨rfl, x5⟩
    have B5 := B4.mod x5 (fun h => h)
    have y5 := ext_trans y4 x5
    clear B4 x5 y4 c70 c71 c72 c73 c74 c75 c76
    have c7 := blk7 B5
    obtain ⟨c70, c71, c72, c73, c74, c75, c76⟩ := c7
    have hRr : R ↔ (typ = [] ∨ foldB typ = foldB ty) ∧ (sameN T bs ∨ (sub = true ∧ underN T bs)) := ⟨fun h => reach_doc.1 (hR.out.1 h).2.2.2, fun h => hR.out.2 ⟨g1, hcov, g2, reach_doc.2 h⟩⟩
    clear hR
    replace hRr := Lib.hid hRr
    by_cases g3 : sameN T bs
    · rw [decide_eq_true g3]
      have hpos : sameN T bs ∨ (sub = true ∧ underN T bs) := .inl g3
      clear g3
      replace hpos := Lib.hid hpos
      by_cases ht : typ = []
      · have kt : typ.isEmpty = true := by rw [ht]; rfl
        have yes : R := hRr.out.2 ⟨.inl ht, by first | exact hpos.out | simpa using hpos.out⟩
        clear ht
        go_wp2_with fail
        go_ret
        exact ⟨by first | (rw [decide_eq_true yes]; rfl) | rfl, y5⟩
      · have kt : typ.isEmpty = false := by cases typ <;> simp_all
        go_wp2_with fail
        refine (rfold_any typ ft).mono ?_
        rintro e w7 ⟨rfl, x7⟩
        have B7 := B5.mod x7 (fun h => h)
        have y7 := ext_trans y5 x7
        clear c70 c71 c72 c73 c74 c75 c76
        have c7 := blk7 B7
        obtain ⟨c70, c71, c72, c73, c74, c75, c76⟩ := c7
        go_wp2_with fail
        refine (rfold_any ty hty).mono ?_
        rintro e w8 ⟨rfl, x8⟩
        have y8 := ext_trans y7 x8
        have hfd : decide R = (foldB typ == foldB ty) := by
          rw [Bool.eq_iff_iff, decide_eq_true_eq, beq_iff_eq]
          exact ⟨fun h => (hRr.out.1 h).1.elim (fun h => absurd h ht) (fun h => h), fun h => hRr.out.2 ⟨.inr h, by first | exact hpos.out | simpa using hpos.out⟩⟩
        replace hfd := Lib.hid hfd
        go_wp2_with fail
        go_ret
        exact ⟨by rw [hfd.out]; rfl, y8⟩
    · rw [decide_eq_false g3]
      cases sub
      · have no : ¬ R := fun h => by
          rcases (hRr.out.1 h).2 with h | h
          · exact g3 h
          · exact absurd h.1 (by simp)
        clear hRr
        go_wp2_with fail
        go_ret
        exact ⟨by first | (rw [decide_eq_false no]; rfl) | rfl, y5⟩
      · go_wp2_with fail
        refine (runder_any (Rc.there hT y5) (Rc.there hb y5) fT fb).mono ?_
        rintro e w6 ⟨rfl, x6⟩
        have B6 := B5.mod x6 (fun h => h)
        have y6 := ext_trans y5 x6
        clear B5 x6 y5 c70 c71 c72 c73 c74 c75 c76
        have c7 := blk7 B6
        obtain ⟨c70, c71, c72, c73, c74, c75, c76⟩ := c7
        by_cases g4 : underN T bs
        · rw [decide_eq_true g4]
          have hpos : sameN T bs ∨ (true = true ∧ underN T bs) := .inr ⟨rfl, g4⟩
          clear g4
          replace hpos := Lib.hid hpos
          by_cases ht : typ = []
          · have kt : typ.isEmpty = true := by rw [ht]; rfl
            have yes : R := hRr.out.2 ⟨.inl ht, by first | exact hpos.out | simpa using hpos.out⟩
            clear ht
            go_wp2_with fail
            go_ret
            exact ⟨by first | (rw [decide_eq_true yes]; rfl) | rfl, y6⟩
          · have kt : typ.isEmpty = false := by cases typ <;> simp_all
            go_wp2_with fail
            refine (rfold_any typ ft).mono ?_
            rintro e w7 ⟨rfl, x7⟩
            have B7 := B6.mod x7 (fun h => h)
            have y7 := ext_trans y6 x7
            clear c70 c71 c72 c73 c74 c75 c76
            have c7 := blk7 B7
            obtain ⟨c70, c71, c72, c73, c74, c75, c76⟩ := c7
            go_wp2_with fail
            refine (rfold_any ty hty).mono ?_
            rintro e w8 ⟨rfl, x8⟩
            have y8 := ext_trans y7 x8
            have hfd : decide R = (foldB typ == foldB ty) := by
              rw [Bool.eq_iff_iff, decide_eq_true_eq, beq_iff_eq]
              exact ⟨fun h => (hRr.out.1 h).1.elim (fun h => absurd h ht) (fun h => h), fun h => hRr.out.2 ⟨.inr h, by first | exact hpos.out | simpa using hpos.out⟩⟩
            replace hfd := Lib.hid hfd
            go_wp2_with fail
            go_ret
            exact ⟨by rw [hfd.out]; rfl, y8⟩
        · rw [decide_eq_false g4]
          have no : ¬ R := fun h => by
            rcases (hRr.out.1 h).2 with h | h
            · exact g3 h
            · exact g4 h.2
          clear hRr
          go_wp2_with fail
          go_ret
          exact ⟨by first | (rw [decide_eq_false no]; rfl) | rfl, y6⟩
end Go.Proofs.Ytbdkdbfcbakgmaa
