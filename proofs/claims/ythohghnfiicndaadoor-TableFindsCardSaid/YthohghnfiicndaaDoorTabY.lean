/- table: what any key has, and all cells of any keys. -/
import Derived.Test.YthohghnfiicndaaDoorTabX
namespace Go.Proofs.YthohghnfiicndaaDoor
open Go.RowKit Go.Maps Go.WideMaps
set_option maxRecDepth 100000

set_option maxHeartbeats 16000000 in
theorem finds8_any {w : World} {S : Nat → Prop} {v : Value} {L : List Ce} {key tt : List UInt8} {seq : Int} (h : Cs w S v L) (hf : LFits L) (hk : key.length ≤ 140737488351232) (ht : tt.length ≤ 140737488351232) (hN : Nib w) :
    Calls Tryd.prog 5 #[v, sv key, .int .i64 seq, sv tt] w fun e w' => e = .returned (.bool true) ∧ Ext w w' := by
  have hza := sv_size key
  have hzm := sv_size tt
  have hc1 := heavy8_any h hf
  have hcs := fun {wx : World} (x : Ext w wx) => Rc.ext h x
  obtain ⟨A, cp, rfl, -, -, -, -⟩ := h.open_ cel_len
  go_enter Tryd.func5, Tryd.ntmps5
  go_wp2_with fail
  refine hc1.mono ?_
  rintro e w1 ⟨q, rfl, hq, x1⟩
  clear hc1 h
  cases q with
  | true =>
    go_wp2_with fail
    go_ret
    exact ⟨rfl, x1⟩
  | false =>
  obtain ⟨hw, hl⟩ := hq rfl
  have hc2 := rise_any (hcs x1) (by omega)
  clear hq
  go_wp2_with fail
  refine hc2.mono ?_
  rintro e w2 ⟨rfl, x2⟩
  have y2 := ext_trans x1 x2
  clear hc2 x1 x2
  by_cases hr : riseN L = 0
  case neg =>
    have hb : ((riseN L : Int) != 0) = true := by rw [bne_iff_ne]; omega
    generalize riseN L = n at *
    go_wp2_with fail
    go_ret
    exact ⟨rfl, y2⟩
  have hb : ((riseN L : Int) != 0) = false := by rw [bne_eq_false_iff_eq]; omega
  by_cases h0 : L = []
  · have hb0 : ((L.length : Int) == 0) = true := by rw [h0]; rfl
    generalize riseN L = n at *
    go_wp2_with fail
    go_ret
    exact ⟨rfl, y2⟩
  have hpos : 0 < L.length := List.length_pos_iff.2 h0
  have hb0 : ((L.length : Int) == 0) = false := by rw [beq_eq_false_iff_ne]; omega
  by_cases hlen : 200 < key.length + tt.length
  · have hb1 : decide ((200 : Int) < (key.length : Int) + (tt.length : Int)) = true := dtrue (by omega)
    generalize riseN L = n at *
    go_wp2_with fail
    go_ret
    exact ⟨rfl, y2⟩
  have hb1 : decide ((200 : Int) < (key.length : Int) + (tt.length : Int)) = false := dfalse (by omega)
  have hsc := fun {S : Nat → Prop} {wx : World} {u : Value} (x y : List UInt8) (h : TL S wx u L) => scan_any (a := x) (b := y) h (build_of hr h0 (by omega))
  have hla := fun {S : Nat → Prop} {wx : World} {u : Value} (h : TL S wx u L) => last_any h (build_of hr h0 (by omega))
  have hfi := fun {S : Nat → Prop} {wx : World} {u : Value} (h : TL S wx u L) => first_any h (build_of hr h0 (by omega))
  have hge := fun {S : Nat → Prop} {wx : World} {u : Value} (h : TL S wx u L) => get_any (key := key) (seq := seq) h (build_of hr h0 (by omega)) (by omega)
  have hrf := fun {wx : World} (x : Ext w wx) => rfirst_any (key := key) (seq := seq) (hcs x)
  have hB := build_of hr h0 (by omega)
  have hc3 := build_any (hcs y2) (by omega) (hN.mod y2 (fun h => h))
  rw [hB] at hc3
  have hop := fun {S : Nat → Prop} {wx : World} {v : Value} (h : Bs wx S v (buildB L)) (n : Nib wx) => opened_any h n hB (by omega) hl
  generalize riseN L = n at *
  generalize buildB L = fr at *
  go_wp2_with fail
  refine hc3.mono ?_
  rintro e w3 ⟨v3, rfl, o3, f3, x3⟩
  have y3 := ext_trans y2 x3
  have hc4 := hop o3.sl (hN.mod y3 (fun h => h))
  clear hc3 hop
  go_wp2_with fail
  refine hc4.mono ?_
  rintro e w4 ⟨g, rfl, T, x4⟩
  have y4 := ext_trans y3 x4
  clear hc4
  have hc5 := hge T
  clear hza hzm hge o3 f3 x3 x4 y3 y2
  generalize outS (firstC L key seq) = R at *
  go_wp2_with fail
  refine hc5.mono ?_
  rintro e w5 ⟨rfl, x5⟩
  have y5 := ext_trans y4 x5
  have T5 := T.ext x5
  obtain ⟨w6, hw6⟩ : ∃ w6, w6 = w5.alloc (.cells (car R.1) 37) := ⟨_, rfl⟩
  obtain ⟨g1, hg1⟩ : ∃ g1, g1 = w5.heap.size := ⟨_, rfl⟩
  have x6 : Ext w5 w6 := by rw [hw6]; exact (Mod.refl _ w5).alloc _
  have B6 : Blk w6 g1 37 (car R.1) := by rw [hw6, hg1]; exact Blk.new w5 _ _
  have y6 := ext_trans y5 x6
  have T6 := T5.ext x6
  have hc6 := hrf y6
  replace hw6 := Lib.hid hw6
  replace hg1 := Lib.hid hg1
  clear hc5 hrf T T5 x5 x6 y4 y5
  go_upto_region 8 with fail
  rw [← hw6.out, ← hg1.out]
  go_wp2_with fail
  refine hc6.mono ?_
  rintro e w7 ⟨rfl, x7⟩
  have y7 := ext_trans y6 x7
  obtain ⟨w8, hw8⟩ : ∃ w8, w8 = w7.alloc (.cells (car R.1) 37) := ⟨_, rfl⟩
  obtain ⟨g2, hg2⟩ : ∃ g2, g2 = w7.heap.size := ⟨_, rfl⟩
  have x8 : Ext w7 w8 := by rw [hw8]; exact (Mod.refl _ w7).alloc _
  have B8 : Blk w8 g2 37 (car R.1) := by rw [hw8, hg2]; exact Blk.new w7 _ _
  have C8 := (B6.mod x7 (fun h => h)).mod x8 (fun h => h)
  have y8 := ext_trans y7 x8
  have T8 := (T6.ext x7).ext x8
  replace hw8 := Lib.hid hw8
  replace hg2 := Lib.hid hg2
  clear hc6 B6 T6 x7 x8 y6 y7
  go_upto_region 9 with fail
  rw [← hw8.out, ← hg2.out]
  obtain ⟨n, hn⟩ : ∃ n, L.length = n + 1 := ⟨L.length - 1, by omega⟩
  have hlk : (lastC L).key = (L.getD n default).key := by unfold lastC; rw [hn, Nat.add_sub_cancel]
  obtain ⟨A', c', hv, _, _, _, h4⟩ := (hcs y8).open_ cel_len
  injection hv with e1 e2 e3
  subst e1
  obtain ⟨ada, hA, _⟩ := Cs.at_ h4 (i := n) (by omega)
  subst hA
  have hcell : ∀ {wx : World}, Ext w wx → wx.cell? ada = some (sv (L.getD 0 default).key) ∧ wx.cell? (ada.add (n * 4)) = some (sv (lastC L).key) := fun x => by
    obtain ⟨A'', c'', hv2, _, _, _, h5⟩ := (hcs x).open_ cel_len
    injection hv2 with e4 _ _
    subst e4
    obtain ⟨ad', hA', _, d0, _⟩ := Cs.at_ h5 (i := n) (by omega)
    obtain ⟨ad'', hA'', _, d1, _⟩ := Cs.at_ h5 (i := 0) (by omega)
    cases hA'
    cases hA''
    rw [hlk, getD_c L (by omega), getD_c L (by omega)]
    rw [Nat.zero_mul, show ∀ a : Addr, a.add 0 = a from fun a => rfl] at d1
    exact ⟨d1, d0⟩
  have hln := fun {S : Nat → Prop} {wx : World} {u : Value} (h : TL S wx u L) => len_any h
  have hlX := fun x y => scan_len L x y
  have hrs := fun {wx : World} (x : Ext w wx) => rscan_any (hcs x) (by omega) key tt
  have heq := fun (wx : World) => eqC wx R.1 R.1
  generalize (lastC L).key = k1 at *
  generalize (L.getD 0 default).key = k0 at *
  have hcx : ∀ {wx : World}, Ext w8 wx → wx.cell? ⟨g1, 0, none⟩ = some (sv R.1.key) ∧ wx.cell? ⟨g1, 1, none⟩ = some (sv R.1.val) ∧ wx.cell? ⟨g1, 2, none⟩ = some (.bool R.1.del) ∧ wx.cell? ⟨g1, 3, none⟩ = some (.int .i64 R.1.seq) ∧ wx.cell? ⟨g2, 0, none⟩ = some (sv R.1.key) ∧ wx.cell? ⟨g2, 1, none⟩ = some (sv R.1.val) ∧ wx.cell? ⟨g2, 2, none⟩ = some (.bool R.1.del) ∧ wx.cell? ⟨g2, 3, none⟩ = some (.int .i64 R.1.seq) ∧ wx.cell? ada = some (sv k0) ∧ wx.cell? (ada.add (n * 4)) = some (sv k1) := fun x => by
    have b1 := C8.mod x (fun h => h)
    have b2 := B8.mod x (fun h => h)
    obtain ⟨z0, z1⟩ := hcell (ext_trans y8 x)
    exact ⟨b1.cell 0, b1.cell 1, b1.cell 2, b1.cell 3, b2.cell 0, b2.cell 1, b2.cell 2, b2.cell 3, z0, z1⟩
  have xx : Ext w8 w8.drew := (Mod.refl _ w8).drew
  have q0 := hcx xx
  have T9 := T8.ext xx
  have y9 := ext_trans y8 xx
  have hs1 := hsc key tt T9
  have hs2 : ∀ {wx : World} (x : Ext w8 wx), Calls Tryd.prog 19 #[.pointer (some ⟨g, 0, none⟩), .string ⟨#[]⟩, .string ⟨#[]⟩] wx fun e w' => ∃ v', e = .returned v' ∧ OwnC w' v' L ∧ Fresh wx.heap.size v' ∧ Ext wx w' := fun x => by
    have := hsc [] [] (T8.ext x)
    rw [scanC_all] at this
    exact this
  have hi5 : IntKind.i64.wrap (n : Int) = (n : Int) := by rw [IntKind.wrap_i64]; omega
  have hn0 : (0 : Int) ≤ (n : Int) := by omega
  have hn1 : (n : Int) < (n : Int) + 1 := by omega
  have hn2 : (0 : Int) < (n : Int) + 1 := by omega
  have hXk := hlX key tt
  clear h4 hcell e2 e3 hlk hsc C8 B8 hb1 hlen
  rw [decide_eq_true rfl] at heq
  rw [hn] at hcs
  rw [hn] at hln
  rw [hn] at hrs
  rw [hn]
  generalize hXX : scanC L key tt = X at *
  have hX48 : X.length * 48 ≤ 140737488351232 := by omega
  have hL48 : L.length * 48 ≤ 140737488351232 := by omega
  obtain ⟨R1, R2⟩ := R
  simp only at q0 hcx heq ⊢
  go_region_held3 (fun wx => wx.cell? ⟨g1, 0, none⟩ = some (sv R1.key) ∧ wx.cell? ⟨g1, 1, none⟩ = some (sv R1.val) ∧ wx.cell? ⟨g1, 2, none⟩ = some (.bool R1.del) ∧ wx.cell? ⟨g1, 3, none⟩ = some (.int .i64 R1.seq) ∧ wx.cell? ⟨g2, 0, none⟩ = some (sv R1.key) ∧ wx.cell? ⟨g2, 1, none⟩ = some (sv R1.val) ∧ wx.cell? ⟨g2, 2, none⟩ = some (.bool R1.del) ∧ wx.cell? ⟨g2, 3, none⟩ = some (.int .i64 R1.seq) ∧ wx.cell? ada = some (sv k0) ∧ wx.cell? (ada.add (n * 4)) = some (sv k1)) (first | exact q0 | exact hcx xa | exact hcx xb | exact hcx xc | exact hcx xd | exact hcx xe | exact hcx xf | exact hcx xg | exact hcx xh | exact hcx xi) (first
    | (go_at_call 19; (with_reducible refine hs1.mono ?_); rintro e wa ⟨va, rfl, oa, fa, za⟩; have xa := ext_trans xx za; have hrs1 := hrs (ext_trans y8 xa))
    | (go_at_call 24; (with_reducible refine hrs1.mono ?_); rintro e wb ⟨vb, rfl, ob, fb, zb⟩; have xb := ext_trans xa zb; have hce := cells8_any (oa.ext zb).rc ob.rc hX48; rw [decide_eq_true rfl] at hce)
    | (go_at_call 18; (with_reducible refine hce.mono ?_); rintro e wc ⟨rfl, zc⟩; have xc := ext_trans xb zc; have hs3 := hs2 xc)
    | (go_at_call 19; (with_reducible refine hs3.mono ?_); rintro e wd ⟨vd, rfl, od, fd, zd⟩; have xd := ext_trans xc zd; have hce2 := cells8_any od.rc (hcs (ext_trans y8 xd)) hL48; rw [decide_eq_true rfl] at hce2)
    | (go_at_call 18; (with_reducible refine hce2.mono ?_); rintro e we ⟨rfl, ze⟩; have xe := ext_trans xd ze; have hfb := hfi (T8.ext xe))
    | (go_at_call 25; (with_reducible refine hfb.mono ?_); rintro e wf ⟨rfl, nf, rfl⟩; have xf := xe.drewN nf; have hlb := hla (T8.ext xf))
    | (go_at_call 26; (with_reducible refine hlb.mono ?_); rintro e wg ⟨rfl, nn, rfl⟩; have xg := xe.drewN (nf + nn); have hlc := hln (T8.ext xg))
    | (go_at_call 20; (with_reducible refine hlc.mono ?_); rintro e wh ⟨rfl, rfl⟩; have xh := xg; have hkn := known8_any (hN.mod (ext_trans y8 xh) (fun h => h)))
    | (go_at_call 13; (with_reducible refine hkn.mono ?_); rintro e wi ⟨rfl, zi⟩; have xi := ext_trans xh zi))
  all_goals go_wp2_with fail
  all_goals go_ret
  all_goals exact ⟨rfl, ext_trans y8 xi⟩
end Go.Proofs.YthohghnfiicndaaDoor
