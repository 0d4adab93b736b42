/- block: the law Seeks. -/
import Derived.Test.YtlfooppmdgddkaaCelL
namespace Go.Proofs.Ytlfooppmdgddkaa
open Go.RowKit
set_option maxRecDepth 100000

theorem seeks_of {L : List Ce} (h : rises L) (key : List UInt8) {a b : Int} (hab : a ≤ b) :
    (outS (firstC L key a) = (cz, false) ∧ outS (firstC L key b) = (cz, false)) ∨ (outS (firstC L key a) = (cz, false) ∧ ∃ y, outS (firstC L key b) = (y, true) ∧ y.seq ≤ b) ∨
    (∃ x y, outS (firstC L key a) = (x, true) ∧ outS (firstC L key b) = (y, true) ∧ x.seq ≤ y.seq ∧ x.seq ≤ a ∧ x.key = key ∧ y.seq ≤ b) := by
  cases hx : firstC L key a with
  | none =>
    cases hy : firstC L key b with
    | none => exact .inl ⟨rfl, rfl⟩
    | some y => exact .inr (.inl ⟨rfl, y, rfl, (firstC_key hy).2⟩)
  | some x =>
    obtain ⟨y, hy, hs⟩ := firstC_up h hab hx
    rw [hy]
    exact .inr (.inr ⟨x, y, rfl, rfl, hs, (firstC_key hx).2, (firstC_key hx).1, (firstC_key hy).2⟩)

set_option maxHeartbeats 16000000 in
theorem blockSeeks_walk {w : World} {S : Nat → Prop} {v : Value} {L : List Ce} {key : List UInt8} {a b : Int} (h : Cs w S v L) (hf : LFits L) :
    Calls Try.prog 8 #[v, sv key, .int .i64 a, .int .i64 b] w fun e w' => e = .returned (.bool true) ∧ Ext w w' := by
  have hzk := sv_size key
  obtain ⟨A, c, rfl, h1, h2, h3, h4⟩ := h.open_ cel_len
  go_enter Try.func8, Try.ntmps8
  go_wp2_with fail
  refine (heavy7_any h hf).mono ?_
  rintro e w1 ⟨q, rfl, hq, x1⟩
  cases q
  case true =>
    clear hq
    go_wp2_with fail
    go_ret
    exact ⟨rfl, x1⟩
  case false =>
    obtain ⟨hw, hl⟩ := hq rfl
    clear hq
    go_wp2_with fail
    refine (rise_any (h.ext x1) (by omega)).mono ?_
    rintro e w2 ⟨rfl, x2⟩
    replace x2 := ext_trans x1 x2
    by_cases h0 : riseN L = 0
    case neg =>
      have hb1 : ((riseN L : Int) != 0) = true := by rw [bne_iff_ne]; omega
      clear h0
      go_wp2_with fail
      go_ret
      exact ⟨rfl, x2⟩
    by_cases h200 : 200 < key.length
    case pos =>
      have hb2 : decide ((200 : Int) < (key.length : Int)) = true := dtrue (by omega)
      rw [h0]
      clear h0
      go_wp2_with fail
      go_ret
      exact ⟨rfl, x2⟩
    have hb2 : decide ((200 : Int) < (key.length : Int)) = false := dfalse (by omega)
    by_cases hab : b < a
    case pos =>
      have hb3 : decide (b < a) = true := dtrue hab
      rw [h0]
      clear h0
      go_wp2_with fail
      go_ret
      exact ⟨rfl, x2⟩
    have hb3 : decide (b < a) = false := dfalse hab
    have hen := fun (wx : World) (hx : Ext w wx) => encode_any (h.ext hx) (by omega)
    have hsk := fun (wx : World) (y : Value) (T : Nat → Prop) (s : Int) (hy : Bs wx T y (encB L)) => (seekB_enc h0 key s) ▸ seek_any (key := key) (seq := s) hy (by have := encB_len h0 hw hl; omega)
    have hcs := seeks_of (riseN_zero h0).2 key (Int.not_lt.1 hab)
    rw [h0, encR_zero h0] at hen
    rw [h0]
    clear h0 hab
    go_wp2_with fail
    refine (hen _ x2).mono ?_
    rintro e w3 ⟨v3, rfl, o3, -, x3⟩
    replace x3 := ext_trans x2 x3
    have hkn := fun wx => known7_any (w := wx)
    clear hen x1 x2 h h4 h3
    have ha := fun (wx : World) (y : Value) (T : Nat → Prop) (hy : Bs wx T y (encB L)) => hsk wx y T a hy
    have hb := fun (wx : World) (y : Value) (T : Nat → Prop) (hy : Bs wx T y (encB L)) => hsk wx y T b hy
    rcases hcs with ⟨ea, eb⟩ | ⟨ea, y, eb, hyb⟩ | ⟨x, y, ea, eb, hxy, hxa, hxk, hyb⟩
    · rw [ea] at ha
      rw [eb] at hb
      clear ea eb
      clear hsk
      go_wp2_with fail
      refine (ha _ _ _ o3.sl).mono ?_
      rintro e w4 ⟨rfl, x4⟩
      have x4' := x4
      replace x4 := ext_trans x3 x4
      have y4 := o3.sl.ext x4'
      clear x4'
      have z4 : Ext w (w4.alloc (.cells (car cz) 23)) := x4.alloc _
      have B4 : Blk (w4.alloc (.cells (car cz) 23)) w4.heap.size 23 (car cz) := Blk.new w4 _ _
      go_wp2_with fail
      refine (hb _ _ _ (y4.ext ((Mod.refl _ w4).alloc _))).mono ?_
      rintro e w5 ⟨rfl, x5⟩
      have B5 := (B4.mod x5 (fun h => h)).alloc (.cells (car cz) 23)
      have C5 : Blk (w5.alloc (.cells (car cz) 23)) w5.heap.size 23 (car cz) := Blk.new w5 _ _
      have z5 : Ext w (w5.alloc (.cells (car cz) 23)) := (ext_trans z4 x5).alloc _
      obtain ⟨w6, hw6⟩ : ∃ w6, w6 = w5.alloc (.cells (car cz) 23) := ⟨_, rfl⟩
      rw [← hw6] at B5 C5 z5
      replace hw6 := Lib.hid hw6
      have e0 : _ = some (sv cz.key) := Blk.cell B5 0
      have e3 : _ = some (Value.int .i64 cz.seq) := Blk.cell B5 3
      have d0 : _ = some (sv cz.key) := Blk.cell C5 0
      have d3 : _ = some (Value.int .i64 cz.seq) := Blk.cell C5 3
      clear B4 B5 C5 x5 y4 x4 z4
      go_upto_region 6 with fail
      rw [← hw6.out]
      go_wp2_with fail
      refine (hkn _).mono ?_
      rintro e w7 ⟨rfl, x7⟩
      go_wp2_with fail
      go_ret
      exact ⟨rfl, ext_trans z5 x7⟩
    · rw [ea] at ha
      rw [eb] at hb
      have g1 : decide (y.seq ≤ b) = true := dtrue hyb
      clear ea eb hyb
      clear hsk
      go_wp2_with fail
      refine (ha _ _ _ o3.sl).mono ?_
      rintro e w4 ⟨rfl, x4⟩
      have x4' := x4
      replace x4 := ext_trans x3 x4
      have y4 := o3.sl.ext x4'
      clear x4'
      have z4 : Ext w (w4.alloc (.cells (car cz) 23)) := x4.alloc _
      have B4 : Blk (w4.alloc (.cells (car cz) 23)) w4.heap.size 23 (car cz) := Blk.new w4 _ _
      go_wp2_with fail
      refine (hb _ _ _ (y4.ext ((Mod.refl _ w4).alloc _))).mono ?_
      rintro e w5 ⟨rfl, x5⟩
      have B5 := (B4.mod x5 (fun h => h)).alloc (.cells (car y) 23)
      have C5 : Blk (w5.alloc (.cells (car y) 23)) w5.heap.size 23 (car y) := Blk.new w5 _ _
      have z5 : Ext w (w5.alloc (.cells (car y) 23)) := (ext_trans z4 x5).alloc _
      obtain ⟨w6, hw6⟩ : ∃ w6, w6 = w5.alloc (.cells (car y) 23) := ⟨_, rfl⟩
      rw [← hw6] at B5 C5 z5
      replace hw6 := Lib.hid hw6
      have e0 : _ = some (sv cz.key) := Blk.cell B5 0
      have e3 : _ = some (Value.int .i64 cz.seq) := Blk.cell B5 3
      have d0 : _ = some (sv y.key) := Blk.cell C5 0
      have d3 : _ = some (Value.int .i64 y.seq) := Blk.cell C5 3
      clear B4 B5 C5 x5 y4 x4 z4
      go_upto_region 6 with fail
      rw [← hw6.out]
      go_wp2_with fail
      refine (hkn _).mono ?_
      rintro e w7 ⟨rfl, x7⟩
      go_wp2_with fail
      go_ret
      exact ⟨rfl, ext_trans z5 x7⟩
    · rw [ea] at ha
      rw [eb] at hb
      have g1 : decide (y.seq ≤ b) = true := dtrue hyb
      have g2 : decide (x.seq ≤ a) = true := dtrue hxa
      have g3 : decide (x.seq ≤ y.seq) = true := dtrue hxy
      have g4 : (x.key == key) = true := by rw [hxk]; simp
      clear ea eb hyb hxy hxa hxk
      clear hsk
      go_wp2_with fail
      refine (ha _ _ _ o3.sl).mono ?_
      rintro e w4 ⟨rfl, x4⟩
      have x4' := x4
      replace x4 := ext_trans x3 x4
      have y4 := o3.sl.ext x4'
      clear x4'
      have z4 : Ext w (w4.alloc (.cells (car x) 23)) := x4.alloc _
      have B4 : Blk (w4.alloc (.cells (car x) 23)) w4.heap.size 23 (car x) := Blk.new w4 _ _
      go_wp2_with fail
      refine (hb _ _ _ (y4.ext ((Mod.refl _ w4).alloc _))).mono ?_
      rintro e w5 ⟨rfl, x5⟩
      have B5 := (B4.mod x5 (fun h => h)).alloc (.cells (car y) 23)
      have C5 : Blk (w5.alloc (.cells (car y) 23)) w5.heap.size 23 (car y) := Blk.new w5 _ _
      have z5 : Ext w (w5.alloc (.cells (car y) 23)) := (ext_trans z4 x5).alloc _
      obtain ⟨w6, hw6⟩ : ∃ w6, w6 = w5.alloc (.cells (car y) 23) := ⟨_, rfl⟩
      rw [← hw6] at B5 C5 z5
      replace hw6 := Lib.hid hw6
      have e0 : _ = some (sv x.key) := Blk.cell B5 0
      have e3 : _ = some (Value.int .i64 x.seq) := Blk.cell B5 3
      have d0 : _ = some (sv y.key) := Blk.cell C5 0
      have d3 : _ = some (Value.int .i64 y.seq) := Blk.cell C5 3
      clear B4 B5 C5 x5 y4 x4 z4
      go_upto_region 6 with fail
      rw [← hw6.out]
      go_wp2_with fail
      refine (hkn _).mono ?_
      rintro e w7 ⟨rfl, x7⟩
      go_wp2_with fail
      go_ret
      exact ⟨rfl, ext_trans z5 x7⟩
end Go.Proofs.Ytlfooppmdgddkaa
