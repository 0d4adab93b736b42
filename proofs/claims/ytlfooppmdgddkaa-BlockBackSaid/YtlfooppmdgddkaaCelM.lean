/- block: the law Back. -/
import Derived.Test.YtlfooppmdgddkaaCelL
import Derived.Deep.DeepCutAuto
namespace Go.Proofs.Ytlfooppmdgddkaa
open Go.RowKit
set_option maxRecDepth 100000

set_option maxHeartbeats 16000000 in
theorem blockBack_walk {w : World} {S : Nat → Prop} {v : Value} {L : List Ce} (h : Cs w S v L) (hf : LFits L) :
    Calls Try.prog 6 #[v] w fun e w' => e = .returned (.bool true) ∧ Ext w w' := by
  obtain ⟨A, c, rfl, h1, h2, h3, h4⟩ := h.open_ cel_len
  go_enter Try.func6, Try.ntmps6
  go_wp2_with fail
  refine (heavy7_any h hf).mono ?_
  rintro e w1 ⟨q, rfl, hq, x1⟩
  cases q
  case true =>
    clear hq
    go_wp2_with fail
    go_ret
    exact ⟨rfl, x1⟩
  case false =>
    obtain ⟨hw, hl⟩ := hq rfl
    clear hq
    go_wp2_with fail
    refine (rise_any (h.ext x1) (by omega)).mono ?_
    rintro e w2 ⟨rfl, x2⟩
    replace x2 := ext_trans x1 x2
    by_cases h0 : riseN L = 0
    case neg =>
      have hb1 : ((riseN L : Int) != 0) = true := by rw [bne_iff_ne]; omega
      clear h0
      go_wp2_with fail
      go_ret
      exact ⟨rfl, x2⟩
    have hen := fun (wx : World) (hx : Ext w wx) => encode_any (h.ext hx) (by omega)
    have hde := fun (wx : World) (y : Value) (T : Nat → Prop) (hy : Bs wx T y (encB L)) => decode_any hy (by have := encB_len h0 hw hl; omega)
    have hsk := fun (wx : World) (y : Value) (T : Nat → Prop) (hy : Bs wx T y (encB L)) (k : Nat) (hk : k < L.length) => seek_any (key := L[k].key) (seq := L[k].seq) hy (by have := encB_len h0 hw hl; omega)
    have hce := fun (wx : World) (y : Value) (T : Nat → Prop) (hx : Ext w wx) (hy : Cs wx T y L) => cells7_any (h.ext hx) hy (by omega)
    rw [dtrue rfl] at hce
    rw [h0, encR_zero h0] at hen
    rw [decB_enc h0] at hde
    have hsk2 := fun (wx : World) (y : Value) (T : Nat → Prop) (hy : Bs wx T y (encB L)) (k : Nat) (hk : k < L.length) => (seekB_at h0 hk) ▸ hsk wx y T hy k hk
    rw [h0]
    clear hsk h0
    go_wp2_with fail
    refine (hen _ x2).mono ?_
    rintro e w3 ⟨v3, rfl, o3, -, x3⟩
    replace x3 := ext_trans x2 x3
    go_wp2_with fail
    refine (hde _ _ _ o3.sl).mono ?_
    rintro e w4 ⟨v4, rfl, o4, -, x4⟩
    have y3 := o3.sl.ext x4
    replace x4 := ext_trans x3 x4
    go_wp2_with fail
    refine (hce _ _ _ x4 o4.rc).mono ?_
    rintro e w5 ⟨rfl, x5⟩
    replace y3 := y3.ext x5
    have x0 := ext_trans x4 x5
    replace h4 := h4.ext x0
    have hkn := fun wx => known7_any (w := wx)
    clear o3 o4 hen hde hce x1 x2 x3 x4 x5 h
    go_wp2_with fail
    go_loopw [7] (fun i wr => ∃ k : Nat, k ≤ L.length ∧ i = .int .i64 k ∧ Ext w5 wr) (fun i _ => L.length - (intOf i).toNat)
    case atStart => exact ⟨0, Nat.zero_le _, rfl, Mod.refl _ _⟩
    case round =>
      obtain ⟨k, hk, rfl, q3⟩ := hrel
      by_cases hlt : k < L.length
      case neg =>
        have hbl : decide ((k : Int) < (L.length : Int)) = false := dfalse (by omega)
        clear hsk2 h4 y3
        go_wp2_with fail
        refine (hkn _).mono ?_
        rintro e w7 ⟨rfl, x7⟩
        go_wp2_with fail
        go_ret
        exact ⟨rfl, ext_trans (ext_trans x0 q3) x7⟩
      have hbl : decide ((k : Int) < (L.length : Int)) = true := dtrue (by omega)
      by_cases h30 : k < 30
      case neg =>
        have hbk : decide ((k : Int) < 30) = false := dfalse (by omega)
        clear hsk2 h4 y3
        go_wp2_with fail
        refine (hkn _).mono ?_
        rintro e w7 ⟨rfl, x7⟩
        go_wp2_with fail
        go_ret
        exact ⟨rfl, ext_trans (ext_trans x0 q3) x7⟩
      have hbk : decide ((k : Int) < 30) = true := dtrue (by omega)
      obtain ⟨ad, hA, hS, _⟩ := Cs.at_ (h4.ext q3) hlt
      subst hA
      have hc := fun {wx : World} (hx : Ext w5 wx) => Cs.at_ (h4.ext hx) hlt
      have hs := fun (wx : World) (hx : Ext w5 wx) => hsk2 wx _ _ (y3.ext hx) k hlt
      have hi0 : (0 : Int) ≤ (k : Int) := by omega
      have hi1 : (k : Int) < (L.length : Int) := by omega
      generalize L[k] = x at *
      have hcx : ∀ {wx : World}, Ext w5 wx → wx.cell? (ad.add (k * 4)) = some (sv x.key) ∧ wx.cell? ⟨(ad.add (k * 4)).block, (ad.add (k * 4)).off + 1, none⟩ = some (sv x.val) ∧ wx.cell? ⟨(ad.add (k * 4)).block, (ad.add (k * 4)).off + 2, none⟩ = some (.bool x.del) ∧ wx.cell? ⟨(ad.add (k * 4)).block, (ad.add (k * 4)).off + 3, none⟩ = some (.int .i64 x.seq) := fun hx => by
        obtain ⟨ad', hA, _, d⟩ := hc hx
        cases hA
        exact d
      have q0 : Ext w5 wr.drew := q3.drew
      clear hc hsk2
      have hgu := fun wx a b => guardC wx .neq a b (car x) (car x)
      have hne : ∀ wx, (binOp .neq 23 (.agg (car x)) (.agg (car x))).run Try.prog wx = .ok (.bool false) wx := fun wx => by rw [neqC, dtrue rfl]; rfl
      go_upto_region 10 with fail
      have q5 : Ext w5 (wr.alloc (.cells #[sv [], sv [], .bool false, .int .i64 0] 23)).drew := (q3.alloc _).drew
      have B5 : Blk (wr.alloc (.cells #[sv [], sv [], .bool false, .int .i64 0] 23)).drew wr.heap.size 23 #[sv [], sv [], .bool false, .int .i64 0] := Blk.new wr _ _
      go_region_held3 (fun w' => w'.cell? (ad.add (k * 4)) = some (sv x.key) ∧ w'.cell? ⟨(ad.add (k * 4)).block, (ad.add (k * 4)).off + 1, none⟩ = some (sv x.val) ∧ w'.cell? ⟨(ad.add (k * 4)).block, (ad.add (k * 4)).off + 2, none⟩ = some (.bool x.del) ∧ w'.cell? ⟨(ad.add (k * 4)).block, (ad.add (k * 4)).off + 3, none⟩ = some (.int .i64 x.seq)) (first | exact hcx q0 | exact hcx q5 | exact hcx q1 | exact hcx (q1.alloc _) | exact hcx (q1.trans (set4_mod _ _ _ _ _ _) (fun _ _ h => h) (fun k hk h => by have := q3.size; omega))) (first
        | (go_at_call 32; (with_reducible refine (hs _ q0).mono ?_); rintro e wa ⟨rfl, xa⟩; have q1 := ext_trans q0 xa)
        | (go_at_call 32; (with_reducible refine (hs _ q5).mono ?_); rintro e wa ⟨rfl, xa⟩; have q1 := ext_trans q5 xa; have B6 := B5.mod xa (fun h => h); have f0 := Blk.frozen B6 0; have f1 := Blk.frozen B6 1; have f2 := Blk.frozen B6 2; have f3 := Blk.frozen B6 3; have e0 : _ = some _ := Blk.cell B6 0; have e1 : _ = some _ := Blk.cell B6 1; have e2 : _ = some _ := Blk.cell B6 2; have e3 : _ = some _ := Blk.cell B6 3))
      · have x7 : Ext w5 (wa.alloc (.cells (car x) 23)) := q1.alloc _
        have B7 : Blk (wa.alloc (.cells (car x) 23)) wa.heap.size 23 (car x) := Blk.new wa _ _
        clear B5 q5
        obtain ⟨c0, c1, c2, c3⟩ := hcx x7
        have e0 : _ = some (sv x.key) := Blk.cell B7 0
        have e1 : _ = some (sv x.val) := Blk.cell B7 1
        have e2 : _ = some (Value.bool x.del) := Blk.cell B7 2
        have e3 : _ = some (Value.int .i64 x.seq) := Blk.cell B7 3
        have hdw : ∀ m, Ext w5 (World.drewN _ m) := fun m => x7.drewN m
        go_wp2_with fail
        go_quiet (fail)
        go_wp2_with fail
        exact ⟨⟨k + 1, by omega, by go_num, hdw _⟩, by simp [intOf] <;> omega⟩
      all_goals
        have x7 := q1.trans (set4_mod wa wr.heap.size (sv x.key) (sv x.val) (Value.bool x.del) (Value.int .i64 x.seq)) (fun _ _ h => h) (fun k hk h => by have := q3.size; omega)
        have B7 : Blk ((((wa.setCell ⟨wr.heap.size, 0, none⟩ (sv x.key)).setCell ⟨wr.heap.size, 1, none⟩ (sv x.val)).setCell ⟨wr.heap.size, 2, none⟩ (.bool x.del)).setCell ⟨wr.heap.size, 3, none⟩ (.int .i64 x.seq)) wr.heap.size 23 (car x) := (((B6.set_ 0 (sv x.key)).set_ 1 (sv x.val)).set_ 2 (.bool x.del)).set_ 3 (.int .i64 x.seq)
        clear B5 q5 B6 f0 f1 f2 f3 e0 e1 e2 e3
        obtain ⟨c0, c1, c2, c3⟩ := hcx x7
        have e0 : _ = some (sv x.key) := Blk.cell B7 0
        have e1 : _ = some (sv x.val) := Blk.cell B7 1
        have e2 : _ = some (Value.bool x.del) := Blk.cell B7 2
        have e3 : _ = some (Value.int .i64 x.seq) := Blk.cell B7 3
        have hdw : ∀ m, Ext w5 (World.drewN _ m) := fun m => x7.drewN m
        go_wp2_with fail
        go_quiet (fail)
        go_wp2_with fail
        exact ⟨⟨k + 1, by omega, by go_num, hdw _⟩, by simp [intOf] <;> omega⟩
end Go.Proofs.Ytlfooppmdgddkaa
