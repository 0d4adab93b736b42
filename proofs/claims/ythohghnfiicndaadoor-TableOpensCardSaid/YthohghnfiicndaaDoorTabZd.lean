/- table: the law of Open. -/
import Derived.Test.YthohghnfiicndaaDoorTabX
import Derived.Test.YthohghnfiicndaaDoorTabZc
namespace Go.Proofs.YthohghnfiicndaaDoor
open Go.RowKit Go.Maps Go.WideMaps
set_option maxRecDepth 100000

theorem openL_weight {b : List UInt8} {L : List Ce} (h : openL b = some L) : wC L ≤ 4 * b.length := by
  unfold openL at h
  split at h
  · cases h
  · unfold outO at h
    split at h
    · cases h
    · rename_i x hx
      split at h
      · injection h with h
        have h1 := (open_weight hx).1
        have h2 := oneR_len b
        rw [h] at h1
        omega
      · cases h

set_option maxHeartbeats 32000000 in
theorem opens8_any {w : World} {S : Nat → Prop} {v : Value} {bs key : List UInt8} {seq : Int} (h : Bs w S v bs) (hl : bs.length ≤ 140737488351232) (hk : key.length ≤ 140737488351232) (hN : Nib w) :
    Calls Tryd.prog 4 #[v, sv key, .int .i64 seq] w fun e w' => e = .returned (.bool true) ∧ Ext w w' := by
  have hza := sv_size key
  have h0 := h
  obtain ⟨A, cp, rfl, -, -, -, -⟩ := h.open_
  by_cases h3 : 3000 < bs.length
  · have hb1 : decide ((3000 : Int) < (bs.length : Int)) = true := dtrue (by omega)
    go_enter Tryd.func4, Tryd.ntmps4
    go_wp2_with fail
    go_ret
    exact ⟨rfl, Mod.refl _ _⟩
  have hb1 : decide ((3000 : Int) < (bs.length : Int)) = false := dfalse (by omega)
  by_cases h2 : 200 < key.length
  · have hb2 : decide ((200 : Int) < (key.length : Int)) = true := dtrue (by omega)
    go_enter Tryd.func4, Tryd.ntmps4
    go_wp2_with fail
    go_ret
    exact ⟨rfl, Mod.refl _ _⟩
  have hb2 : decide ((200 : Int) < (key.length : Int)) = false := dfalse (by omega)
  have hni := fun {wx : World} (x : Ext w wx) => hN.mod x (fun h => h)
  have hop := fun {wx : World} {y : Value} {T : Nat → Prop} (hy : Bs wx T y bs) (n : Nib wx) => open_any hy n (by omega)
  have hre := fun {wx : World} (x : Ext w wx) => ropen_any (h0.ext x) (by omega)
  have hOs := fun L (e : openL bs = some L) => open_some e
  have hNn : openL bs = none → openN bs ≠ 0 := fun e h => by
    unfold openN at h
    rw [e] at h
    split at h
    · rename_i h1; exact h1 h
    · cases h
  go_enter Tryd.func4, Tryd.ntmps4
  have z1 : Ext w (w.alloc (.cells #[] 5)) := (Mod.refl _ w).alloc _
  have hfr0 : Fresh w.heap.size (.slice (some ⟨w.heap.size, 0, none⟩) 0 0) := fun k hk => by have : w.heap.size = k := Option.some.inj hk; omega
  go_wp2_with ((with_reducible show wpList _ _ _ (⟨some 26, _, _, _, _, _⟩ :: _) _ _); refine wp_app tyB (Own.empty w 5) (h0.ext z1) (bv_one _) rfl (.tmp 24) (.tmp 25) rfl rfl rfl (by simp only [List.length_map, List.length_nil]; omega) ?_; intro v2 w2 k1 k2 k3)
  rw [List.nil_append] at k1
  have x2 : Ext w w2 := ext_app (Mod.refl _ w) hfr0 k2
  have hc3 := hop k1.sl (hni x2)
  clear hfr0 z1 k2 k3
  refine hc3.mono ?_
  rintro e w3 ⟨u, rfl, hO, x3⟩
  have y3 := ext_trans x2 x3
  have hc4 := hre y3
  clear hc3 hop k1
  cases hL : openL bs with
  | none =>
    have hn := hNn hL
    rw [hL] at hO hc4
    have hu : u = .pointer none := hO
    subst hu
    generalize openN bs = N at *
    have hb3 : ((N : Int) != 0) = true := by rw [bne_iff_ne]; omega
    have hb4 : ((N : Int) != (N : Int)) = false := by simp
    clear hO hOs hNn hn
    go_wp2_with fail
    refine hc4.mono ?_
    rintro e w4 ⟨v4, rfl, -, -, x4⟩
    have y4 := ext_trans y3 x4
    have hkn := known8_any (hni y4)
    clear hc4
    go_wp2_with fail
    refine hkn.mono ?_
    rintro e w5 ⟨rfl, x5⟩
    go_wp2_with fail
    go_ret
    exact ⟨rfl, ext_trans y4 x5⟩
  | some L =>
  obtain ⟨-, hN0, hB, -⟩ := hOs L hL
  have hwl := openL_weight hL
  rw [hL] at hO hc4
  rw [hN0] at hc4 ⊢
  obtain ⟨g, acc, rfl, h5, h6⟩ := hO
  have T3 : TL (fun k => w2.heap.size ≤ k) w3 (.pointer (some ⟨g, 0, none⟩)) L := ⟨g, acc, rfl, h5, h6⟩
  obtain ⟨hne, hl4, hrL⟩ := build_rise hB
  clear hOs hNn h5 h6 hL hre hN0
  go_wp2_with fail
  refine hc4.mono ?_
  rintro e w4 ⟨v4, rfl, o4, -, x4⟩
  replace o4 : OwnC w4 v4 L := o4
  have y4 := ext_trans y3 x4
  have T := T3.ext x4
  obtain ⟨A4, c4, rfl⟩ := o4.shape
  have hcs := fun {wx : World} (x : Ext w4 wx) => (o4.ext x).rc
  have hsc := fun {S : Nat → Prop} {wx : World} {u : Value} (h : TL S wx u L) => scan_any (a := []) (b := []) h hB
  have hge := get_any (key := key) (seq := seq) T hB (by omega)
  have hrf := fun {wx : World} (x : Ext w4 wx) => rfirst_any (key := key) (seq := seq) (hcs x)
  have hln := fun {S : Nat → Prop} {wx : World} {u : Value} (h : TL S wx u L) => len_any h
  have hbk := fun {S : Nat → Prop} {wx : World} {u : Value} (h : TL S wx u L) => blocks_any h hne
  have hrb := fun {wx : World} (x : Ext w4 wx) => rblocks_any (hcs x) (by omega)
  rw [scanC_all] at hsc
  clear hc4 T3 x3 x4 y3 o4 hrL
  generalize outS (firstC L key seq) = R at *
  go_wp2_with fail
  refine hge.mono ?_
  rintro e w5 ⟨rfl, x5⟩
  have T5 := T.ext x5
  obtain ⟨w6, hw6⟩ : ∃ w6, w6 = w5.alloc (.cells (car R.1) 37) := ⟨_, rfl⟩
  obtain ⟨g1, hg1⟩ : ∃ g1, g1 = w5.heap.size := ⟨_, rfl⟩
  have x6 : Ext w5 w6 := by rw [hw6]; exact (Mod.refl _ w5).alloc _
  have B6 : Blk w6 g1 37 (car R.1) := by rw [hw6, hg1]; exact Blk.new w5 _ _
  have y6 := ext_trans x5 x6
  have T6 := T5.ext x6
  have hc6 := hrf y6
  replace hw6 := Lib.hid hw6
  replace hg1 := Lib.hid hg1
  clear hge hrf T T5 x5 x6
  go_upto_region 10 with fail
  rw [← hw6.out, ← hg1.out]
  go_wp2_with fail
  refine hc6.mono ?_
  rintro e w7 ⟨rfl, x7⟩
  have y7 := ext_trans y6 x7
  obtain ⟨w8, hw8⟩ : ∃ w8, w8 = w7.alloc (.cells (car R.1) 37) := ⟨_, rfl⟩
  obtain ⟨g2, hg2⟩ : ∃ g2, g2 = w7.heap.size := ⟨_, rfl⟩
  have x8 : Ext w7 w8 := by rw [hw8]; exact (Mod.refl _ w7).alloc _
  have B8 : Blk w8 g2 37 (car R.1) := by rw [hw8, hg2]; exact Blk.new w7 _ _
  have C8 := (B6.mod x7 (fun h => h)).mod x8 (fun h => h)
  have y8 := ext_trans y7 x8
  have T8 := (T6.ext x7).ext x8
  replace hw8 := Lib.hid hw8
  replace hg2 := Lib.hid hg2
  clear hc6 B6 T6 x7 x8 y6 y7
  go_upto_region 11 with fail
  rw [← hw8.out, ← hg2.out]
  have z8 := ext_trans y4 y8
  have heq := fun (wx : World) => eqC wx R.1 R.1
  have hcx : ∀ {wx : World}, Ext w8 wx → wx.cell? ⟨g1, 0, none⟩ = some (sv R.1.key) ∧ wx.cell? ⟨g1, 1, none⟩ = some (sv R.1.val) ∧ wx.cell? ⟨g1, 2, none⟩ = some (.bool R.1.del) ∧ wx.cell? ⟨g1, 3, none⟩ = some (.int .i64 R.1.seq) ∧ wx.cell? ⟨g2, 0, none⟩ = some (sv R.1.key) ∧ wx.cell? ⟨g2, 1, none⟩ = some (sv R.1.val) ∧ wx.cell? ⟨g2, 2, none⟩ = some (.bool R.1.del) ∧ wx.cell? ⟨g2, 3, none⟩ = some (.int .i64 R.1.seq) := fun x => by
    have b1 := C8.mod x (fun h => h)
    have b2 := B8.mod x (fun h => h)
    exact ⟨b1.cell 0, b1.cell 1, b1.cell 2, b1.cell 3, b2.cell 0, b2.cell 1, b2.cell 2, b2.cell 3⟩
  obtain ⟨q0, q1, q2, q3, q4, q5, q6, q7⟩ := hcx (Mod.refl _ w8)
  have hs1 : Calls Tryd.prog 19 #[.pointer (some ⟨g, 0, none⟩), .string ⟨#[]⟩, .string ⟨#[]⟩] w8 fun e w' => ∃ v', e = .returned v' ∧ OwnC w' v' L ∧ Fresh w8.heap.size v' ∧ Ext w8 w' := hsc T8
  have hL48 : L.length * 48 ≤ 140737488351232 := by omega
  clear C8 B8 hsc hw8 hg2 hw6 hg1 hcx
  rw [decide_eq_true rfl] at heq
  obtain ⟨R1, R2⟩ := R
  simp only at q0 q1 q2 q3 q4 q5 q6 q7 heq ⊢
  go_wp2_with fail
  refine hs1.mono ?_
  rintro e wa ⟨va, rfl, oa, fa, xa⟩
  have hce := cells8_any oa.rc (hcs (ext_trans y8 xa)) hL48
  rw [decide_eq_true rfl] at hce
  clear q0 q1 q2 q3 q4 q5 q6 q7 hs1 heq
  go_wp2_with fail
  refine hce.mono ?_
  rintro e wb ⟨rfl, zb⟩
  have xb := ext_trans xa zb
  have hlc := hln (T8.ext xb)
  clear hce oa fa
  go_wp2_with fail
  refine hlc.mono ?_
  rintro e wc ⟨rfl, rfl⟩
  have hbc := hbk (T8.ext xb)
  clear hlc
  go_wp2_with fail
  refine hbc.mono ?_
  rintro e wd ⟨rfl, rfl⟩
  have hrc := hrb (ext_trans y8 xb)
  clear hbc
  go_wp2_with fail
  refine hrc.mono ?_
  rintro e we ⟨ve, vs, rfl, Be, fe, ze⟩
  have xe := ext_trans xb ze
  have hel := Be.len
  have oe := Be.own
  obtain ⟨Ae, ce, rfl⟩ := oe.shape
  rw [hel]
  have hkn := known8_any (hni (ext_trans z8 xe))
  clear hrc Be oe fe hel
  go_wp2_with fail
  refine hkn.mono ?_
  rintro e wf ⟨rfl, zf⟩
  go_wp2_with fail
  go_ret
  exact ⟨rfl, ext_trans z8 (ext_trans xe zf)⟩
end Go.Proofs.YthohghnfiicndaaDoor
