/- table: Get, walked. -/
import Derived.Test.YthohghnfiicndaaDoorTabO
namespace Go.Proofs.YthohghnfiicndaaDoor
open Go.RowKit Go.Maps Go.WideMaps Go.Shelf
set_option maxRecDepth 100000

theorem sorted_mono {p : List Ce} (h : sortedC p) (c : Ce) (a b : Nat) (hab : a ≤ b) (hb : b < p.length) (ha : (!lessC (p.getD a default) c) = true) : (!lessC (p.getD b default) c) = true := by
  rw [getD_at _ _ (by omega)] at ha
  rw [getD_at _ _ hb]
  by_cases e : a = b
  · subst e; exact ha
  · have := List.pairwise_iff_getElem.1 h a b (by omega) hb (by omega)
    cases hl : lessC p[b] c
    · rfl
    · rw [lessC_trans this hl] at ha; cases ha

set_option maxHeartbeats 16000000 in
theorem get_any {S : Nat → Prop} {w : World} {u : Value} {L : List Ce} {key : List UInt8} {seq : Int} (h : TL S w u L) (hb : buildN L = 0) (hk : key.length ≤ 9223372036854775807) :
    Calls Tryd.prog 16 #[u, sv key, .int .i64 seq] w fun e w' => e = .returned (.tuple #[.agg (car (outS (firstC L key seq)).1), .bool (outS (firstC L key seq)).2]) ∧ Ext w w' := by
  obtain ⟨hne, h4096, hri⟩ := build_rise hb
  have hP := pcs_of hri
  have hso := sorted_of (riseN_zero hri).2
  have hsl := split_len L
  have hfl := @filB_len L
  have hpl0 : ∀ p ∈ splitB L, p.length ≤ L.length := fun p hp => by
    obtain ⟨X, Y, e⟩ := split_mem hp
    have := congrArg List.length e
    rw [List.length_append, List.length_append] at this
    omega
  have hmn := fun (a : mayB (filB L) (fnv key) = false) => may_no (seq := seq) hne a
  have hgn := fun a => get_none (key := key) (seq := seq) hP hso a
  have hgs := fun m n hm a b c d e => get_some (key := key) (seq := seq) (m := m) (n := n) hP hso hm a b c d e
  have hpm := fun p (hp : p ∈ splitB L) => sorted_mono (hP.each p hp) ⟨key, [], false, seq⟩
  have hmo := Lib.hid (fun a b => @Pcs.mono L (splitB L) ⟨key, [], false, seq⟩ hP a b)
  obtain ⟨g, bm, A, c, vf, G, rfl, H⟩ := h.open_ hne
  obtain ⟨R, hR⟩ : ∃ R, R = outS (firstC L key seq) := ⟨_, rfl⟩
  rw [← hR]
  rw [← hR] at hmn hgn hgs
  generalize splitB L = PS at *
  obtain ⟨w0, hw0⟩ : ∃ w0, w0 = (w.alloc (.cells #[.pointer (some ⟨g, 0, none⟩)] 31)).alloc (.cells #[sv [], sv [], .bool false, .int .i64 0] 37) := ⟨_, rfl⟩
  obtain ⟨bt, hbt⟩ : ∃ bt, bt = w.heap.size := ⟨_, rfl⟩
  have BT : Blk w0 bt 31 #[.pointer (some ⟨g, 0, none⟩)] := by rw [hw0, hbt]; exact (Blk.new w _ _).alloc _
  have BR : Blk w0 (bt + 1) 37 #[sv [], sv [], .bool false, .int .i64 0] := by
    rw [hw0, hbt]
    have := Blk.new (w.alloc (.cells #[.pointer (some ⟨g, 0, none⟩)] 31)) 37 #[sv [], sv [], .bool false, .int .i64 0]
    rw [show (w.alloc (.cells #[.pointer (some ⟨g, 0, none⟩)] 31)).heap.size = w.heap.size + 1 by simp] at this
    exact this
  have x0 : Ext w w0 := by rw [hw0]; exact ((Mod.refl _ w).alloc _).alloc _
  have hbw : w.heap.size ≤ bt := by omega
  have hmay := mayb_any key (H w0 x0).fil hk (by omega)
  have c00 : w0.cell? ⟨bt, 0, none⟩ = some (.pointer (some ⟨g, 0, none⟩)) := BT.cell 0
  have c02 : w0.cell? ⟨g, 2, none⟩ = some vf := (H w0 x0).blk.cell 2
  obtain ⟨Avf, nvf, cvf, rfl⟩ : ∃ A n c, vf = Value.slice A n c := by obtain ⟨A, c, e, _⟩ := (H w0 x0).fil.open_; exact ⟨A, _, c, e⟩
  generalize mayB (filB L) (fnv key) = may at *
  clear hR hP hso h hri hb
  replace hw0 := Lib.hid hw0
  replace hbt := Lib.hid hbt
  replace hmn := Lib.hid hmn
  replace hgn := Lib.hid hgn
  replace hgs := Lib.hid hgs
  go_enter Tryd.func16, Tryd.ntmps16
  go_upto_region 1 with fail
  rw [← hw0.out, ← hbt.out]
  go_wp2_with fail
  refine hmay.mono ?_
  rintro e w1 ⟨rfl, x1⟩
  have y1 := ext_trans x0 x1
  have BT1 := BT.mod x1 (fun h => h)
  have BR1 := BR.mod x1 (fun h => h)
  clear hmay c00 c02 BT BR x0 x1
  cases may with
  | false =>
    have hR2 := hmn.out rfl
    clear hmn hgn hgs
    have f0 := Blk.frozen BR1 0
    have f1 := Blk.frozen BR1 1
    have f2 := Blk.frozen BR1 2
    have f3 := Blk.frozen BR1 3
    have e0 : _ = some _ := Blk.cell BR1 0
    have e1 : _ = some _ := Blk.cell BR1 1
    have e2 : _ = some _ := Blk.cell BR1 2
    have e3 : _ = some _ := Blk.cell BR1 3
    replace hR2 := Lib.hid hR2
    go_wp2_with fail
    have R5 := fun p q r s => (((BR1.set_ 0 p).set_ 1 q).set_ 2 r).set_ 3 s
    have m9 := fun p q r s => (set4_mod w1 (bt + 1) p q r s)
    refine bodyPost_ret (results_cell_row2 Tryd.results16 _ _ _ _ _ _ _ rfl (R5 _ _ _ _) Tryd.underlying37 rfl (by kernel_rfl)) rfl ?_
    exact ⟨by rw [hR2.out]; rfl, y1.trans (m9 _ _ _ _) (fun _ _ h => h) (fun k hk h => by omega)⟩
  | true =>
  clear hmn
  have d0 : w1.cell? ⟨bt, 0, none⟩ = some (.pointer (some ⟨g, 0, none⟩)) := BT1.cell 0
  obtain ⟨w2, hw2⟩ : ∃ w2, w2 = w1.alloc (.cells #[sv key, sv [], .bool false, .int .i64 seq] 37) := ⟨_, rfl⟩
  obtain ⟨bw, hbw2⟩ : ∃ bw, bw = w1.heap.size := ⟨_, rfl⟩
  have BW : Blk w2 bw 37 (car ⟨key, [], false, seq⟩) := by rw [hw2, hbw2]; exact Blk.new w1 _ _
  have x2 : Ext w1 w2 := by rw [hw2]; exact (Mod.refl _ w1).alloc _
  have y2 := ext_trans y1 x2
  have BT2 := BT1.mod x2 (fun h => h)
  have BR2 := BR1.mod x2 (fun h => h)
  have hs1 := search_any (w := w2) 52 #[.pointer (some ⟨bt, 0, none⟩), .pointer (some ⟨bw, 0, none⟩)] PS.length (fun t => !lessC (lastC (PS.getD t [])) ⟨key, [], false, seq⟩) (by omega) (enters_of Tryd.func52 (by kernel_rfl) rfl)
    (fun wx hx i hi => gclo1_any (fun wy hy => H wy (ext_trans y2 (ext_trans hx hy))) (BT2.mod hx (fun h => h)) (BW.mod hx (fun h => h)) hi (by omega)) hmo.out
  replace hw2 := Lib.hid hw2
  replace hbw2 := Lib.hid hbw2
  go_upto_region 4 with fail
  rw [← hw2.out, ← hbw2.out]
  have e0 : w2.cell? ⟨bt, 0, none⟩ = some (.pointer (some ⟨g, 0, none⟩)) := BT2.cell 0
  have e1 : w2.cell? ⟨g, 0, none⟩ = some (.slice (some A) PS.length c) := (H w2 y2).blk.cell 0
  clear d0 BT1 BR1 y1 x2 hmo
  go_wp2_with fail
  refine hs1.mono ?_
  rintro e w3 ⟨m, rfl, hm1, hm2, hm3, x3⟩
  have y3 := ext_trans y2 x3
  have BT3 := BT2.mod x3 (fun h => h)
  have BR3 := BR2.mod x3 (fun h => h)
  have BW3 := BW.mod x3 (fun h => h)
  have H3 := H w3 y3
  clear hs1 e0 e1 BT2 BR2 BW x3
  have c30 : w3.cell? ⟨bt, 0, none⟩ = some (.pointer (some ⟨g, 0, none⟩)) := BT3.cell 0
  have g30 : w3.cell? ⟨g, 0, none⟩ = some (.slice (some A) PS.length c) := H3.blk.cell 0
  have hlo : ∀ t, t < m → lessC (lastC (PS.getD t [])) ⟨key, [], false, seq⟩ = true := fun t ht => by
    have := hm2 t ht
    cases hq : lessC (lastC (PS.getD t [])) ⟨key, [], false, seq⟩
    · rw [hq] at this; cases this
    · rfl
  by_cases hmP : m = PS.length
  · have hb1 : ((m : Int) == (PS.length : Int)) = true := by rw [beq_iff_eq]; omega
    have hR2 := Lib.hid (hgn.out (fun t ht => hlo t (by omega)))
    clear hgn hgs hm2 hm3 hlo H3 hmP
    have f0 := Blk.frozen BR3 0
    have f1 := Blk.frozen BR3 1
    have f2 := Blk.frozen BR3 2
    have f3 := Blk.frozen BR3 3
    have e0 : _ = some _ := Blk.cell BR3 0
    have e1 : _ = some _ := Blk.cell BR3 1
    have e2 : _ = some _ := Blk.cell BR3 2
    have e3 : _ = some _ := Blk.cell BR3 3
    go_wp2_with fail
    have R5 := fun p q r s => (((BR3.set_ 0 p).set_ 1 q).set_ 2 r).set_ 3 s
    have m9 := fun p q r s => (set4_mod w3 (bt + 1) p q r s)
    refine bodyPost_ret (results_cell_row2 Tryd.results16 _ _ _ _ _ _ _ rfl (R5 _ _ _ _) Tryd.underlying37 rfl (by kernel_rfl)) rfl ?_
    exact ⟨by rw [hR2.out]; rfl, y3.trans (m9 _ _ _ _) (fun _ _ h => h) (fun k hk h => by omega)⟩
  have hb1 : ((m : Int) == (PS.length : Int)) = false := by rw [beq_eq_false_iff_ne]; omega
  have hmlt : m < PS.length := by omega
  have hhi : lessC (lastC (PS.getD m [])) ⟨key, [], false, seq⟩ = false := by
    have := hm3 m (Nat.le_refl _) hmlt
    cases hq : lessC (lastC (PS.getD m [])) ⟨key, [], false, seq⟩
    · rfl
    · rw [hq] at this; cases this
  have hgs2 := fun n => hgs.out m n hmlt hlo hhi
  clear hgn hgs hm2 hm3 hlo hhi hmP
  have hqq : ∀ {wx : World}, Ext w3 wx → wx.cell? ⟨bt, 0, none⟩ = some (.pointer (some ⟨g, 0, none⟩)) ∧ wx.cell? ⟨g, 1, none⟩ = some (.map (some bm)) ∧ wx.cell? ⟨g, 0, none⟩ = some (.slice (some A) PS.length c) ∧ wx.cell? (A.add (m * 2)) = some (sv (endE PS[m]).key) ∧ wx.cell? ⟨(A.add (m * 2)).block, (A.add (m * 2)).off + 1, none⟩ = some (.int .i64 (endE PS[m]).seq) ∧
    (Instr.lookup 69 (.map (some bm)) (.agg #[sv (endE PS[m]).key, .int .i64 (endE PS[m]).seq]) false).run Tryd.prog wx = .ok (G PS[m]) wx := fun {wx} hx => by
    have H5 := H wx (ext_trans y3 hx)
    exact ⟨(BT3.mod hx (fun h => h)).cell 0, H5.blk.cell 1, H5.blk.cell 0, (H5.at_ hmlt).1, (H5.at_ hmlt).2, (H5.look _ (List.getElem_mem hmlt)).1⟩
  have hcsx : ∀ {wx : World}, Ext w3 wx → Cs wx (fun _ => True) (G PS[m]) PS[m] := fun {wx} hx => ((H wx (ext_trans y3 hx)).look _ (List.getElem_mem hmlt)).2
  have hpl : PS[m].length ≤ 4096 := Nat.le_trans (hpl0 _ (List.getElem_mem hmlt)) h4096
  have hmo2 : Hid (∀ a b, a ≤ b → b < PS[m].length → (!lessC (PS[m].getD a default) ⟨key, [], false, seq⟩) = true → (!lessC (PS[m].getD b default) ⟨key, [], false, seq⟩) = true) := Lib.hid (hpm _ (List.getElem_mem hmlt))
  generalize G PS[m] = xv at *
  generalize PS[m] = p at *
  generalize endE p = en at *
  obtain ⟨ek, es⟩ := en
  simp only at hqq
  have q0 := hqq ((Mod.refl (fun _ => False) w3).drew)
  have hi0 : (0 : Int) ≤ (m : Int) := by omega
  have hi1 : (m : Int) < (PS.length : Int) := by omega
  obtain ⟨Ax, cx, rfl⟩ := (hcsx (Mod.refl (fun _ => False) w3)).shape
  replace hgs2 := Lib.hid hgs2
  obtain ⟨bc, hbc⟩ : ∃ bc, bc = w3.heap.size := ⟨_, rfl⟩
  replace hbc := Lib.hid hbc
  clear H3
  go_upto_region 7 with fail
  go_cut [1, 3, 6, 8, 10] (fun s1 s3 s6 s8 s10 wx => s1 = sv key ∧ s3 = .pointer (some ⟨bt, 0, none⟩) ∧ s6 = .pointer (some ⟨bt + 1, 0, none⟩) ∧ s8 = .pointer (some ⟨bw, 0, none⟩) ∧ s10 = .pointer (some ⟨bc, 0, none⟩) ∧ wx = (w3.alloc (.cells #[.slice Ax p.length cx] 22)).drew)
  case first =>
    go_region_held3 (fun wx => wx.cell? ⟨bt, 0, none⟩ = some (.pointer (some ⟨g, 0, none⟩)) ∧ wx.cell? ⟨g, 1, none⟩ = some (.map (some bm)) ∧ wx.cell? ⟨g, 0, none⟩ = some (.slice (some A) PS.length c) ∧ wx.cell? (A.add (m * 2)) = some (sv ek) ∧ wx.cell? ⟨(A.add (m * 2)).block, (A.add (m * 2)).off + 1, none⟩ = some (.int .i64 es) ∧
      (Instr.lookup 69 (.map (some bm)) (.agg #[sv ek, .int .i64 es]) false).run Tryd.prog wx = .ok (.slice Ax p.length cx) wx) (first | exact q0 | exact hqq (((Mod.refl (fun _ => False) w3).alloc _).drew)) (fail)
    all_goals go_wp2_with fail
    all_goals go_meet
    all_goals exact ⟨rfl, rfl, rfl, rfl, by rw [hbc.out], rfl⟩
  case rest =>
    obtain ⟨rfl, rfl, rfl, rfl, rfl, hwc⟩ := hcut
    have xc : Ext w3 wc := by rw [hwc]; exact ((Mod.refl _ w3).alloc _).drew
    have BC : Blk wc bc 22 #[.slice Ax p.length cx] := by rw [hwc, hbc.out]; exact Blk.new w3 _ _
    have y4 := ext_trans y3 xc
    have BR4 := BR3.mod xc (fun h => h)
    have BW4 := BW3.mod xc (fun h => h)
    have hs2 := search_any (w := wc) 54 #[.pointer (some ⟨bc, 0, none⟩), .pointer (some ⟨bw, 0, none⟩)] p.length (fun t => !lessC (p.getD t default) ⟨key, [], false, seq⟩) (by omega) (enters_of Tryd.func54 (by kernel_rfl) rfl)
      (fun wx hx i hi => gclo2_any (fun wy hy => hcsx (ext_trans xc (ext_trans hx hy))) (BC.mod hx (fun h => h)) (BW4.mod hx (fun h => h)) hi (by omega)) hmo2.out
    have k0 : wc.cell? ⟨bc, 0, none⟩ = some (.slice Ax p.length cx) := BC.cell 0
    clear hwc q0 hqq BT3 BR3 BW3 c30 g30 hmo2 hb1 hi0 hi1
    go_wp2_with fail
    refine hs2.mono ?_
    rintro e w5 ⟨n, rfl, hn1, hn2, hn3, x5⟩
    have y5 := ext_trans y4 x5
    have BR5 := BR4.mod x5 (fun h => h)
    have k5 : w5.cell? ⟨bc, 0, none⟩ = some (.slice Ax p.length cx) := (BC.mod x5 (fun h => h)).cell 0
    obtain ⟨hnlt, hR⟩ := hgs2.out n hn1 (fun t ht => by
      have := hn2 t ht
      cases hq : lessC (p.getD t default) ⟨key, [], false, seq⟩
      · rw [hq] at this; cases this
      · rfl) (fun t h1 h2 => by
      have := hn3 t h1 h2
      cases hq : lessC (p.getD t default) ⟨key, [], false, seq⟩
      · rfl
      · rw [hq] at this; cases this)
    have hc5 := hcsx (ext_trans xc x5)
    obtain ⟨A', c', hv, _, _, _, h4⟩ := hc5.open_ cel_len
    injection hv with e1 e2 e3
    subst e1; subst e3
    obtain ⟨ad, hA, -, d0, d1, d2, d3⟩ := Cs.at_ h4 hnlt
    subst hA
    have hb2 : ((n : Int) == (p.length : Int)) = false := by rw [beq_eq_false_iff_ne]; omega
    have hj0 : (0 : Int) ≤ (n : Int) := by omega
    have hj1 : (n : Int) < (p.length : Int) := by omega
    clear hs2 hn2 hn3 hgs2 hcsx hc5 h4 BC BR4 BW4 xc x5 e2 k0
    generalize p[n] = x at *
    by_cases hke : x.key = key
    · have hq : (x.key == key) = true := by rw [hke]; exact beq_self_eq_true _
      rw [if_pos hke] at hR
      have hR2 := Lib.hid hR
      clear hR hke
      have f0 := Blk.frozen BR5 0
      have f1 := Blk.frozen BR5 1
      have f2 := Blk.frozen BR5 2
      have f3 := Blk.frozen BR5 3
      have e0 : _ = some _ := Blk.cell BR5 0
      have e1 : _ = some _ := Blk.cell BR5 1
      have e2 : _ = some _ := Blk.cell BR5 2
      have e3 : _ = some _ := Blk.cell BR5 3
      go_wp2_with fail
      have R5 := fun p q r s => (((BR5.set_ 0 p).set_ 1 q).set_ 2 r).set_ 3 s
      have m9 := fun p q r s => (set4_mod w5 (bt + 1) p q r s)
      refine bodyPost_ret (results_cell_row2 Tryd.results16 _ _ _ _ _ _ _ rfl (R5 _ _ _ _) Tryd.underlying37 rfl (by kernel_rfl)) rfl ?_
      exact ⟨by rw [hR2.out]; rfl, y5.trans (m9 _ _ _ _) (fun _ _ h => h) (fun k hk h => by omega)⟩
    · have hq : (x.key == key) = false := beq_eq_false_iff_ne.2 hke
      rw [if_neg hke] at hR
      have hR2 := Lib.hid hR
      clear hR hke
      have f0 := Blk.frozen BR5 0
      have f1 := Blk.frozen BR5 1
      have f2 := Blk.frozen BR5 2
      have f3 := Blk.frozen BR5 3
      have e0 : _ = some _ := Blk.cell BR5 0
      have e1 : _ = some _ := Blk.cell BR5 1
      have e2 : _ = some _ := Blk.cell BR5 2
      have e3 : _ = some _ := Blk.cell BR5 3
      go_wp2_with fail
      have R5 := fun p q r s => (((BR5.set_ 0 p).set_ 1 q).set_ 2 r).set_ 3 s
      have m9 := fun p q r s => (set4_mod w5 (bt + 1) p q r s)
      refine bodyPost_ret (results_cell_row2 Tryd.results16 _ _ _ _ _ _ _ rfl (R5 _ _ _ _) Tryd.underlying37 rfl (by kernel_rfl)) rfl ?_
      exact ⟨by rw [hR2.out]; rfl, y5.trans (m9 _ _ _ _) (fun _ _ h => h) (fun k hk h => by omega)⟩
end Go.Proofs.YthohghnfiicndaaDoor
