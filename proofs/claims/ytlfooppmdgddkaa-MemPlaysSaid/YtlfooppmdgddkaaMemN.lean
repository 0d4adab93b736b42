/- mem: the law Plays. -/
import Derived.Test.YtlfooppmdgddkaaMemM
namespace Go.Proofs.Ytlfooppmdgddkaa
open Go.RowKit
set_option maxRecDepth 100000

set_option maxHeartbeats 16000000 in
theorem rfirst_any {w : World} {S : Nat → Prop} {y : Value} {L : List Ce} {key : List UInt8} {seq : Int} (h : Cs w S y L) :
    Calls Try.prog 41 #[y, sv key, .int .i64 seq] w fun e w' => e = .returned (.tuple #[.agg (car (outS (firstC L key seq)).1), .bool (outS (firstC L key seq)).2]) ∧ Ext w w' := by
  obtain ⟨A, c, rfl, h1, h2, h3, h4⟩ := h.open_ cel_len
  clear h
  obtain ⟨R, hR1⟩ : ∃ R, R = outS (firstC L key seq) := ⟨_, rfl⟩
  rw [← hR1]
  replace hR1 := Lib.hid hR1
  have B1 : Blk (w.alloc (.cells #[sv [], sv [], .bool false, .int .i64 0] 23)) w.heap.size 23 #[sv [], sv [], .bool false, .int .i64 0] := Blk.new w _ _
  have x1 : Ext w (w.alloc (.cells #[sv [], sv [], .bool false, .int .i64 0] 23)) := (Mod.refl _ w).alloc _
  go_enter Try.func41, Try.ntmps41
  go_wp2_with fail
  generalize w.alloc (.cells #[sv [], sv [], .bool false, .int .i64 0] 23) = w1 at *
  replace h4 := h4.ext x1
  go_loopw [8] (fun i wr => ∃ k : Nat, k ≤ L.length ∧ i = .int .i64 k ∧ Hid (firstC (L.take k) key seq = none) ∧ Blk wr w.heap.size 23 #[sv [], sv [], .bool false, .int .i64 0] ∧ Ext w1 wr) (fun i _ => L.length - (intOf i).toNat)
  case atStart => exact ⟨0, Nat.zero_le _, rfl, Lib.hid rfl, B1, Mod.refl _ _⟩
  case round =>
    clear B1
    obtain ⟨k, hk, rfl, hs, B2, x2⟩ := hrel
    by_cases hlt : k < L.length
    case neg =>
      have hbl : decide ((k : Int) < (L.length : Int)) = false := dfalse (by omega)
      have hno : firstC L key seq = none := by have := hs.out; rwa [List.take_of_length_le (by omega)] at this
      have hR2 := Lib.hid (show R = (cz, false) by rw [hR1.out, hno]; rfl)
      clear hR1 hno hs
      have f0 := Blk.frozen B2 0
      have f1 := Blk.frozen B2 1
      have f2 := Blk.frozen B2 2
      have f3 := Blk.frozen B2 3
      have e0 : _ = some _ := Blk.cell B2 0
      have e1 : _ = some _ := Blk.cell B2 1
      have e2 : _ = some _ := Blk.cell B2 2
      have e3 : _ = some _ := Blk.cell B2 3
      go_wp2_with fail
      have R5 := fun p q r s => (((B2.set_ 0 p).set_ 1 q).set_ 2 r).set_ 3 s
      have m9 := fun p q r s => (set4_mod wr w.heap.size p q r s)
      refine bodyPost_ret (results_cell_row2 Try.results41 _ _ _ _ _ _ _ rfl (R5 _ _ _ _) Try.underlying23 rfl (by kernel_rfl)) rfl ?_
      exact ⟨by rw [hR2.out]; rfl, (ext_trans x1 x2).trans (m9 _ _ _ _) (fun _ _ h => h) (fun k hk h => by omega)⟩
    have hbl : decide ((k : Int) < (L.length : Int)) = true := dtrue (by omega)
    obtain ⟨ad, hA, hS, c0, c1, c2, c3⟩ := Cs.at_ (h4.ext x2) hlt
    subst hA
    have hsn : firstC (L.take (k + 1)) key seq = (if (L[k].key == key && decide (L[k].seq ≤ seq)) = true then some L[k] else none) := by
      unfold firstC at hs ⊢
      rw [List.take_succ_eq_append_getElem hlt, List.find?_append, hs.out, Option.none_or, List.find?_cons, List.find?_nil]
      cases (L[k].key == key && decide (L[k].seq ≤ seq)) <;> rfl
    have hfound : (L[k].key == key && decide (L[k].seq ≤ seq)) = true → firstC L key seq = some L[k] := fun h => by
      have h1 := hsn
      rw [if_pos h] at h1
      exact firstC_take h1
    have hi0 : (0 : Int) ≤ (k : Int) := by omega
    have hi1 : (k : Int) < (L.length : Int) := by omega
    generalize L[k] = x at *
    clear hs
    cases hq1 : (x.key == key)
    case false =>
      rw [hq1, Bool.false_and, if_neg (by decide)] at hsn
      replace hsn := Lib.hid hsn
      clear hfound
      go_wp2_with fail
      exact ⟨⟨k + 1, by omega, by go_num, hsn, B2, x2⟩, by simp [intOf] <;> omega⟩
    rw [hq1, Bool.true_and] at hsn hfound
    cases hq2 : decide (x.seq ≤ seq)
    case false =>
      rw [hq2, if_neg (by decide)] at hsn
      replace hsn := Lib.hid hsn
      clear hfound
      go_wp2_with fail
      exact ⟨⟨k + 1, by omega, by go_num, hsn, B2, x2⟩, by simp [intOf] <;> omega⟩
    have hR2 := Lib.hid (show R = (x, true) by rw [hR1.out, hfound hq2]; rfl)
    clear hfound hsn hR1
    have f0 := Blk.frozen B2 0
    have f1 := Blk.frozen B2 1
    have f2 := Blk.frozen B2 2
    have f3 := Blk.frozen B2 3
    have e0 : _ = some _ := Blk.cell B2 0
    have e1 : _ = some _ := Blk.cell B2 1
    have e2 : _ = some _ := Blk.cell B2 2
    have e3 : _ = some _ := Blk.cell B2 3
    go_wp2_with fail
    have R5 := fun p q r s => (((B2.set_ 0 p).set_ 1 q).set_ 2 r).set_ 3 s
    have m9 := fun p q r s => (set4_mod wr w.heap.size p q r s)
    refine bodyPost_ret (results_cell_row2 Try.results41 _ _ _ _ _ _ _ rfl (R5 _ _ _ _) Try.underlying23 rfl (by kernel_rfl)) rfl ?_
    exact ⟨by rw [hR2.out]; rfl, (ext_trans x1 x2).trans (m9 _ _ _ _) (fun _ _ h => h) (fun k hk h => by omega)⟩

theorem putL_isC {L : List Ce} {c : Ce} (h : ∀ d ∈ L, isC d) : ∀ d ∈ (putL L c).2, isC d := by
  unfold putL
  split
  · rename_i hh
    intro d hd
    rcases mem_ins.1 hd with rfl | hd
    · exact hh.1
    · exact h d hd
  · exact h
theorem putL_sorted {L : List Ce} {c : Ce} (h : sortedC L) : sortedC (putL L c).2 := by
  unfold putL
  split
  · rename_i hh
    exact ins_sorted h hh.2
  · exact h
theorem putL_len (L : List Ce) (c : Ce) : (putL L c).2.length ≤ L.length + 1 := by
  unfold putL
  split
  · rw [ins_length]; exact Nat.le_refl _
  · exact Nat.le_succ _

set_option maxHeartbeats 32000000 in
theorem memPlays_walk {w : World} {S S2 : Nat → Prop} {v u : Value} {D : List Int} {L : List Ce} {key tt : List UInt8} {seq : Int} (hd : Sl w S v (D.map dv)) (h : Cs w S2 u L) (hf : LFits L) (hz1 : key.length ≤ 140737488351232) (hz2 : tt.length ≤ 140737488351232) :
    Calls Try.prog 10 #[v, u, sv key, .int .i64 seq, sv tt] w fun e w' => e = .returned (.bool true) ∧ Ext w w' := by
  obtain ⟨A0, c0, hv, a1, a2, a3, -⟩ := hd.open_
  subst hv
  obtain ⟨A, c, rfl, h1, h2, h3, h4⟩ := h.open_ cel_len
  have hkn := fun wx => known9_any (w := wx)
  have hzk := sv_size key
  have hzt := sv_size tt
  go_enter Try.func10, Try.ntmps10
  go_wp2_with fail
  refine (heavy9_any h hf).mono ?_
  rintro e w1 ⟨q, rfl, hq, x1⟩
  cases q
  case true =>
    clear hq
    go_wp2_with fail
    go_ret
    exact ⟨rfl, x1⟩
  obtain ⟨hw, hl⟩ := hq rfl
  clear hq
  by_cases h300 : 300 < D.length
  · have hb : decide ((300 : Int) < (D.length : Int)) = true := dtrue (by omega)
    go_wp2_with fail
    go_ret
    exact ⟨rfl, x1⟩
  have hb : decide ((300 : Int) < (D.length : Int)) = false := dfalse (by omega)
  by_cases h200 : 200 < key.length + tt.length
  · have hb2 : decide ((200 : Int) < (key.length : Int) + (tt.length : Int)) = true := dtrue (by omega)
    go_wp2_with fail
    go_ret
    exact ⟨rfl, x1⟩
  have hb2 : decide ((200 : Int) < (key.length : Int) + (tt.length : Int)) = false := dfalse (by omega)
  have hn1 := new_any (hd.ext x1) (by omega)
  go_wp2_with fail
  refine hn1.mono ?_
  rintro e w2 ⟨g1, rfl, M1, x2⟩
  replace x2 := ext_trans x1 x2
  have hDa : D.length ≤ 1000000 := by omega
  clear hn1 hb hb2
  have R2 : Rm (w2.alloc (.cells #[.slice none 0 0] 55)) (fun k => k = w2.heap.size) w2.heap.size [] (.slice none 0 0) := ⟨Blk.new w2 _ _, OwnR.nil _ _ _ _, rfl, fun k hk => by cases hk⟩
  have M2 : Mt (w2.alloc (.cells #[.slice none 0 0] 55)) (fun k => w.heap.size ≤ k ∧ k < w2.heap.size) g1 D [] := (M1.mono (T := fun k => w.heap.size ≤ k ∧ k < w2.heap.size) (fun k hk hs => ⟨by have := x1.size; omega, hk⟩)).ext ((Mod.refl _ w2).alloc _)
  have x3 : Ext w (w2.alloc (.cells #[.slice none 0 0] 55)) := x2.alloc _
  have hsz2 := x2.size
  have hg2 : Hid (w.heap.size ≤ w2.heap.size) := Lib.hid hsz2
  go_wp2_with fail
  obtain ⟨g2, hg2e⟩ : ∃ g2, g2 = w2.heap.size := ⟨_, rfl⟩
  rw [← hg2e] at R2 hg2 ⊢
  replace hg2e := Lib.hid hg2e
  go_loopw [13] (fun i wr => ∃ (k : Nat) (Z : List Ce) (S1 S2 : Nat → Prop) (vz : Value), i = .int .i64 (k : Nat) ∧ k ≤ L.length ∧ Hid (sortedC Z ∧ (∀ c ∈ Z, isC c) ∧ Z.length ≤ k) ∧ Hid ((∀ k, S1 k → ¬ S2 k) ∧ (∀ k, S1 k → w.heap.size ≤ k) ∧ (∀ k, S2 k → w.heap.size ≤ k)) ∧ Mt wr S1 g1 D Z ∧ Rm wr S2 g2 Z vz ∧ Ext w wr) (fun i _ => L.length - (intOf i).toNat)
  case atStart => exact ⟨0, [], _, _, _, rfl, Nat.zero_le _, Lib.hid ⟨List.Pairwise.nil, (fun c hc => by cases hc), Nat.le_refl _⟩, Lib.hid ⟨fun k h1 h2 => by have := hg2e.out; omega, fun k h => h.1, fun k h => by have := hg2e.out; omega⟩, M2, R2, x3⟩
  case round =>
    clear M1 M2 R2 x3 x2 x1
    obtain ⟨k, Z, S1, S2, vz, rfl, hk, hZ, hS, M1, R1, x1⟩ := hrel
    obtain ⟨hz1, hz2, hz3⟩ := hZ.out
    obtain ⟨hs1, hs2, hs3⟩ := hS.out
    by_cases hlt : k < L.length
    case neg =>
      have hbl : decide ((k : Int) < (L.length : Int)) = false := dfalse (by omega)
      have hZl : Z.length ≤ 201 := by omega
      have hg9 := fun (wx : World) (hx : Ext wr wx) => getM_any (M1.ext hx) key seq
      have hf9 := fun (wx : World) (hx : Ext wr wx) => rfirst_any (key := key) (seq := seq) (R1.ext hx).o.rc
      have hsc := fun (wx : World) (hx : Ext wr wx) => scanM_any (M1.ext hx) (by omega) key tt
      have hrs := fun (wx : World) (hx : Ext wr wx) => rscan_any (R1.ext hx).o.rc (by omega) key tt
      have hal := fun (wx : World) (hx : Ext wr wx) => allM_any (M1.ext hx) (by omega)
      have hle := fun (wx : World) (hx : Ext wr wx) => lenM_any (M1.ext hx) (by omega)
      have hsi := fun (wx : World) (hx : Ext wr wx) => sizeM_any (M1.ext hx)
      have hrz := fun (wx : World) (hx : Ext wr wx) => rsize9_any (R1.ext hx) hz2 (by omega)
      have hZc := fun {wx : World} (hx : Ext wr wx) => (R1.ext hx).o.rc
      obtain ⟨⟨y, ok⟩, hq⟩ : ∃ q, q = outS (firstC Z key seq) := ⟨_, rfl⟩
      rw [← hq] at hg9 hf9
      obtain ⟨Az, cz2, hvz⟩ := R1.o.shape
      subst hvz
      have b0 : wr.cell? ⟨g2, 0, none⟩ = some (.slice Az Z.length cz2) := R1.blk.cell 0
      have hbz : ∀ {wx : World}, Ext wr wx → wx.cell? ⟨g2, 0, none⟩ = some (.slice Az Z.length cz2) := fun hx => (hx.cell (lt_of_cell b0) (fun h => h)).trans b0
      have hoo : (ok == ok) = true := by simp
      have hll : (((Z.length : Nat) : Int) == ((Z.length : Nat) : Int)) = true := by simp
      have hss : (((sizeL Z : Nat) : Int) == ((sizeL Z : Nat) : Int)) = true := by simp
      have hgu := fun wx a b => guardC wx .eql a b (car y) (car y)
      have heq : ∀ wx, (binOp .eql 23 (.agg (car y)) (.agg (car y))).run Try.prog wx = .ok (.bool true) wx := fun wx => by rw [eqC, dtrue rfl]
      clear hq hz1 hz2 hZ hS M1 R1 hg2e hs1 hs2 hs3 h4 h
      go_wp2_with fail
      refine (hg9 _ (Mod.refl _ _)).mono ?_
      rintro e w4 ⟨rfl, x4⟩
      have B4 : Blk (w4.alloc (.cells (car y) 23)) w4.heap.size 23 (car y) := Blk.new w4 _ _
      have x5 : Ext wr (w4.alloc (.cells (car y) 23)) := x4.alloc _
      obtain ⟨ga, hga⟩ : ∃ ga, ga = w4.heap.size := ⟨_, rfl⟩
      rw [← hga] at B4
      obtain ⟨w5, hw5⟩ : ∃ w5, w5 = w4.alloc (.cells (car y) 23) := ⟨_, rfl⟩
      rw [← hw5] at B4 x5
      have b5 := hbz x5
      go_upto_region 12 with fail
      rw [← hw5, ← hga]
      clear hw5 hga b0
      go_wp2_with fail
      refine (hf9 _ x5).mono ?_
      rintro e w6 ⟨rfl, x6⟩
      have B6 := (B4.mod x6 (fun h => h)).alloc (.cells (car y) 23)
      have C6 : Blk (w6.alloc (.cells (car y) 23)) w6.heap.size 23 (car y) := Blk.new w6 _ _
      have x7 : Ext wr (w6.alloc (.cells (car y) 23)) := (ext_trans x5 x6).alloc _
      obtain ⟨gb, hgb⟩ : ∃ gb, gb = w6.heap.size := ⟨_, rfl⟩
      rw [← hgb] at C6
      obtain ⟨w7, hw7⟩ : ∃ w7, w7 = w6.alloc (.cells (car y) 23) := ⟨_, rfl⟩
      rw [← hw7] at B6 C6 x7
      go_upto_region 13 with fail
      rw [← hw7, ← hgb]
      clear hw7 hgb B4 x5 x6 b5 hg9 hf9 x4
      have q0 : Ext wr w7.drew := x7.drew
      have hcc : ∀ {wx : World}, Ext w7 wx → wx.cell? ⟨g2, 0, none⟩ = some (.slice Az Z.length cz2) ∧ wx.cell? ⟨ga, 0, none⟩ = some (sv y.key) ∧ wx.cell? ⟨ga, 1, none⟩ = some (sv y.val) ∧ wx.cell? ⟨ga, 2, none⟩ = some (.bool y.del) ∧ wx.cell? ⟨ga, 3, none⟩ = some (.int .i64 y.seq) ∧ wx.cell? ⟨gb, 0, none⟩ = some (sv y.key) ∧ wx.cell? ⟨gb, 1, none⟩ = some (sv y.val) ∧ wx.cell? ⟨gb, 2, none⟩ = some (.bool y.del) ∧ wx.cell? ⟨gb, 3, none⟩ = some (.int .i64 y.seq) := fun hx => ⟨hbz (ext_trans x7 hx), (B6.mod hx (fun h => h)).cell 0, (B6.mod hx (fun h => h)).cell 1, (B6.mod hx (fun h => h)).cell 2, (B6.mod hx (fun h => h)).cell 3, (C6.mod hx (fun h => h)).cell 0, (C6.mod hx (fun h => h)).cell 1, (C6.mod hx (fun h => h)).cell 2, (C6.mod hx (fun h => h)).cell 3⟩
      have p0 : Ext w7 w7.drew := (Mod.refl _ w7).drew
      go_region_held3 (fun wx => wx.cell? ⟨g2, 0, none⟩ = some (.slice Az Z.length cz2) ∧ wx.cell? ⟨ga, 0, none⟩ = some (sv y.key) ∧ wx.cell? ⟨ga, 1, none⟩ = some (sv y.val) ∧ wx.cell? ⟨ga, 2, none⟩ = some (.bool y.del) ∧ wx.cell? ⟨ga, 3, none⟩ = some (.int .i64 y.seq) ∧ wx.cell? ⟨gb, 0, none⟩ = some (sv y.key) ∧ wx.cell? ⟨gb, 1, none⟩ = some (sv y.val) ∧ wx.cell? ⟨gb, 2, none⟩ = some (.bool y.del) ∧ wx.cell? ⟨gb, 3, none⟩ = some (.int .i64 y.seq)) (first | exact hcc p0 | exact hcc p1 | exact hcc p2 | exact hcc p3 | exact hcc p4 | exact hcc p5 | exact hcc p6 | exact hcc p7 | exact hcc p8 | exact hcc p9) (first
        | (go_at_call 43; (with_reducible refine (hsc _ q0).mono ?_); rintro e wa ⟨va, rfl, oa, -, xa⟩; have p1 := ext_trans p0 xa)
        | (go_at_call 44; (with_reducible refine (hrs _ (ext_trans x7 p1)).mono ?_); rintro e wb ⟨vb, rfl, ob, -, xb⟩; have p2 := ext_trans p1 xb; have hce1 := cells9_any (oa.rc.ext xb) ob.rc; rw [dtrue rfl] at hce1)
        | (go_at_call 42; (with_reducible refine hce1.mono ?_); rintro e wd ⟨rfl, xd⟩; have p3 := ext_trans p2 xd)
        | (go_at_call 45; (with_reducible refine (hal _ (ext_trans x7 p3)).mono ?_); rintro e we ⟨ve, rfl, oe, -, xe⟩; have p4 := ext_trans p3 xe; have hce2 := cells9_any oe.rc (hZc (ext_trans x7 p4)); rw [dtrue rfl] at hce2)
        | (go_at_call 42; (with_reducible refine hce2.mono ?_); rintro e wf ⟨rfl, xf⟩; have p5 := ext_trans p4 xf)
        | (go_at_call 46; (with_reducible refine (hle _ (ext_trans x7 p5)).mono ?_); rintro e wg ⟨rfl, xg⟩; have p6 := ext_trans p5 xg)
        | (go_at_call 47; (with_reducible refine (hsi _ (ext_trans x7 p6)).mono ?_); rintro e wh ⟨rfl, xh⟩; have p7 := ext_trans p6 xh)
        | (go_at_call 48; (with_reducible refine (hrz _ (ext_trans x7 p7)).mono ?_); rintro e wi ⟨rfl, xi⟩; have p8 := ext_trans p7 xi)
        | (go_at_call 49; (with_reducible refine (hkn _).mono ?_); rintro e wj ⟨rfl, xj⟩; have p9 := ext_trans p8 xj))
      all_goals go_wp2_with fail
      all_goals go_ret
      all_goals exact ⟨rfl, ext_trans x1 (ext_trans x7 p9)⟩
    have hbl : decide ((k : Int) < (L.length : Int)) = true := dtrue (by omega)
    obtain ⟨ad, hAd, -, -⟩ := Cs.at_ h4 hlt
    subst hAd
    have hc1 := fun {wx : World} (hx : Ext w wx) => Cs.at_ (h4.ext hx) hlt
    have hi0 : (0 : Int) ≤ (k : Int) := by omega
    have hi1 : (k : Int) < (L.length : Int) := by omega
    have hsw := x1.size
    have q0 : Ext wr wr.drew := (Mod.refl _ wr).drew
    have hZn : Hid (sortedC (putL Z L[k]).2 ∧ (∀ c ∈ (putL Z L[k]).2, isC c) ∧ (putL Z L[k]).2.length ≤ k + 1) := Lib.hid ⟨putL_sorted hz1, putL_isC hz2, by have := putL_len Z L[k]; omega⟩
    have hpa := put_any (M1.ext q0) L[k] (by omega) hDa
    have hpr := fun (wx : World) (T : Nat → Prop) (r : Rm wx T g2 Z vz) => rput_any r hz1 (by omega) L[k]
    obtain ⟨pa, hpae⟩ : ∃ pa, pa = putL Z L[k] := ⟨_, rfl⟩
    rw [← hpae] at hZn hpa
    simp only [← hpae] at hpr
    clear hpae hZ hz1 hz2 h
    generalize L[k] = x at *
    have hcx : ∀ {wx : World}, Ext w wx → wx.cell? (ad.add (k * 4)) = some (sv x.key) ∧ wx.cell? ⟨(ad.add (k * 4)).block, (ad.add (k * 4)).off + 1, none⟩ = some (sv x.val) ∧ wx.cell? ⟨(ad.add (k * 4)).block, (ad.add (k * 4)).off + 2, none⟩ = some (.bool x.del) ∧ wx.cell? ⟨(ad.add (k * 4)).block, (ad.add (k * 4)).off + 3, none⟩ = some (.int .i64 x.seq) := fun hx => by
      obtain ⟨ad', hA, _, d⟩ := hc1 hx
      cases hA
      exact d
    clear hc1
    have r0 : Ext w wr.drew := x1.drew
    have hne : (pa.1 != pa.1) = false := by simp
    have R0 : Rm wr.drew (fun k => S2 k ∧ k < wr.heap.size) g2 Z vz := (R1.mono (T := fun k => S2 k ∧ k < wr.heap.size) (fun k hk hs => ⟨hs, hk⟩)).ext q0
    clear M1 R1
    go_wp2_with fail
    go_region_held3 (fun wx => wx.cell? (ad.add (k * 4)) = some (sv x.key) ∧ wx.cell? ⟨(ad.add (k * 4)).block, (ad.add (k * 4)).off + 1, none⟩ = some (sv x.val) ∧ wx.cell? ⟨(ad.add (k * 4)).block, (ad.add (k * 4)).off + 2, none⟩ = some (.bool x.del) ∧ wx.cell? ⟨(ad.add (k * 4)).block, (ad.add (k * 4)).off + 3, none⟩ = some (.int .i64 x.seq)) (first | exact hcx r0 | exact hcx r1 | exact hcx r2) (first
      | (go_at_call 38; (with_reducible refine hpa.mono ?_); rintro e wa ⟨rfl, Ma, ya⟩; have r1 : Ext w wa := r0.trans ya (fun _ _ h => h) (fun k hk h => by have := hs2 k h; omega); have Ra := R0.mod ya (fun k hk h1 h2 => hs1 k h2 h1.1))
      | (go_at_call 39; (with_reducible refine (hpr _ _ Ra).mono ?_); rintro e wb ⟨rfl, ⟨vb, Rb⟩, yb⟩; have r2 : Ext w wb := r1.trans yb (fun _ _ h => h) (fun k hk h => by have := hg2.out; omega)))
    all_goals (
      have hsa : wr.heap.size ≤ wa.heap.size := ya.size
      have Mb : Mt wb (fun k => (S1 k ∨ wr.heap.size ≤ k) ∧ k < wa.heap.size) g1 D pa.2 := (Ma.mono (T := fun k => (S1 k ∨ wr.heap.size ≤ k) ∧ k < wa.heap.size) (fun k hk hs => ⟨hs, hk⟩)).mod yb (fun k hk h1 h2 => by
        have h3 : S2 g2 ∧ g2 < wr.heap.size := R0.sg
        rcases h1.1 with h | h
        · exact hs1 k h (h2 ▸ h3.1)
        · omega)
      have hSS : Hid ((∀ k, ((S1 k ∨ wr.heap.size ≤ k) ∧ k < wa.heap.size) → ¬ ((S2 k ∧ k < wr.heap.size) ∨ wa.heap.size ≤ k)) ∧ (∀ k, ((S1 k ∨ wr.heap.size ≤ k) ∧ k < wa.heap.size) → w.heap.size ≤ k) ∧ (∀ k, ((S2 k ∧ k < wr.heap.size) ∨ wa.heap.size ≤ k) → w.heap.size ≤ k)) := Lib.hid ⟨fun k h1 h2 => by
          rcases h2 with h2 | h2
          · rcases h1.1 with h | h
            · exact hs1 k h h2.1
            · omega
          · omega, fun k h1 => by
          rcases h1.1 with h | h
          · exact hs2 k h
          · omega, fun k h1 => by
          rcases h1 with h | h
          · exact hs3 k h.1
          · omega⟩)
    all_goals go_wp2_with fail
    all_goals exact ⟨⟨k + 1, pa.2, _, _, vb, by go_num, by omega, hZn, hSS, Mb, Rb, r2⟩, by simp [intOf] <;> omega⟩
end Go.Proofs.Ytlfooppmdgddkaa
