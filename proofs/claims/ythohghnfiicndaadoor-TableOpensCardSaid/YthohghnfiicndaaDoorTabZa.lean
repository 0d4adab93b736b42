/- table: the document's Build. -/
import Derived.Test.YthohghnfiicndaaDoorTabZ
import Derived.Test.YthohghnfiicndaaDoorCelR
import Derived.Test.YthohghnfiicndaaDoorBloG
namespace Go.Proofs.YthohghnfiicndaaDoor
open Go.RowKit
set_option maxRecDepth 100000

theorem blk_lay4 (p : List Ce) (l : List UInt8) : l ++ (enc7 (lastC p).key.length ++ (lastC p).key) ++ enc7 (clamp (lastC p).seq) ++ (enc7 (encB p).length ++ encB p) = l ++ blkE p := blk_lay p l

theorem gw_keep {w w' : World} {v v' y : Value} {e : TypeId} {xs : List Value} (h : Own w e y xs) (hn : ∀ k, own y k → ¬ own v k) (m : Mod (own v) w w') (n : Next w.heap.size v v') : Own w' e y xs ∧ ∀ k, own y k → ¬ own v' k :=
  ⟨h.mod m hn, fun k hk hh => hn k hk (n.sub (h.lt hk) hh)⟩
theorem wp_gwm {P : Program} {ops : Array Oper} {rest : List Oper} {o : Oper} {a : Act} {Q : Exit → Act → World → Prop} {t : TypeId} {z : Value} {S : Nat → Prop} {w0 w : World} {v y : Value} {l l1 : List UInt8}
    (hT : SliceTy P t 5 z 1) (hg : Gw w0 w v l) (hr : Sl w S y (l1.map bv)) (hgd : o.guard = none) (s x : Operand) (ho : o.op = .call { callee := .builtin .append, args := #[s, x], argTypes := #[t, t] }) (hs : a.eval s = v) (hx : a.eval x = y)
    (hn : l.length + l1.length ≤ 1000000000000) (h : ∀ v' w', Gw w0 w' v' (l ++ l1) → Mod (own v) w w' → Next w.heap.size v v' → wpList P ops Q rest (a.put o.dst v') w') : wpList P ops Q (o :: rest) a w := by
  refine wp_app hT hg.row hr (bv_one _) hgd s x ho hs hx (by simp only [List.length_map]; omega) fun v' w' k1 k2 k3 => ?_
  refine h v' w' ⟨by rw [List.map_append]; exact k1, k3.fresh hg.fr hg.ex.size, hg.ex.trans k2 (fun _ _ h => h) (fun i hi hF => by have := hg.fr i hF; omega)⟩ k2 k3

set_option maxHeartbeats 32000000 in
theorem rbuild_any {w : World} {S : Nat → Prop} {v : Value} {L : List Ce} (h : Cs w S v L) (hw : wC L ≤ 300000) :
    Calls Tryd.prog 12 #[v] w fun e w' => ∃ v', e = .returned (.tuple #[v', .int .i64 (buildN L : Nat)]) ∧ Own w' 5 v' ((buildB L).map bv) ∧ Fresh w.heap.size v' ∧ Ext w w' := by
  have hlw := wC_len L
  have h0 := h
  obtain ⟨A, c, rfl, h1, h2, h3, h4⟩ := h.open_ cel_len
  have hc1 := rise_any h0 (by omega)
  obtain ⟨B, hB⟩ : ∃ B, B = buildB L := ⟨_, rfl⟩
  rw [← hB]
  obtain ⟨R, hR⟩ : ∃ R, R = buildN L := ⟨_, rfl⟩
  rw [← hR]
  by_cases hE : L = []
  · have hR1 := Lib.hid (show R = 1 from hR.trans (if_pos (.inl hE)))
    have hBn : Hid (B = []) := Lib.hid (hB.trans (if_neg (by rw [← hR, hR1.out]; omega)))
    subst hE
    clear hB hR
    go_enter Tryd.func12, Tryd.ntmps12
    go_wp2_with fail
    go_ret2
    exact ⟨_, by rw [hR1.out]; rfl, by rw [hBn.out]; exact Own.nil _ _, fresh_nil _ _ _, Mod.refl _ _⟩
  have hpos : 0 < L.length := List.length_pos_iff.2 hE
  have hb0 : decide ((L.length : Int) < 1) = false := dfalse (by omega)
  have hb00 : ¬ L.length = 0 := by omega
  by_cases hM : 4096 < L.length
  · have hb1 : decide ((4096 : Int) < (L.length : Int)) = true := dtrue (by omega)
    have hR1 := Lib.hid (show R = 1 from hR.trans (if_pos (.inr hM)))
    have hBn : Hid (B = []) := Lib.hid (hB.trans (if_neg (by rw [← hR, hR1.out]; omega)))
    clear hB hR
    go_enter Tryd.func12, Tryd.ntmps12
    go_wp2_with fail
    go_ret2
    exact ⟨_, by rw [hR1.out]; rfl, by rw [hBn.out]; exact Own.nil _ _, fresh_nil _ _ _, Mod.refl _ _⟩
  have hb1 : decide ((4096 : Int) < (L.length : Int)) = false := dfalse (by omega)
  have hR0 : R = riseN L := hR.trans (if_neg (fun h => h.elim hE hM))
  rw [← hR0] at hc1
  by_cases hz : R = 0
  case neg =>
    have hBn : Hid (B = []) := Lib.hid (hB.trans (if_neg (by rw [← hR]; exact hz)))
    have hb : ((R : Int) != 0) = true := by rw [bne_iff_ne]; omega
    clear hB h0 h4 hz hR hR0
    go_enter Tryd.func12, Tryd.ntmps12
    go_wp2_with fail
    refine hc1.mono ?_
    rintro e w1 ⟨rfl, x1⟩
    clear hc1
    go_wp2_with fail
    go_ret2
    exact ⟨_, rfl, by rw [hBn.out]; exact Own.nil _ _, fresh_nil _ _ _, x1⟩
  have hr : riseN L = 0 := hR0.symm.trans hz
  rw [hz] at hc1 ⊢
  have hBs : B = frec (bodyB L) := hB.trans (if_pos (hR.symm.trans hz))
  have hbl := body_len hr (by omega)
  have hpl := split_len L
  have hc2 := fun (w1 : World) (x1 : Ext w w1) => rblocks_any (h0.ext x1) (by omega)
  have hfl := @filB_len L
  have hkl := keysTo_len L L.length
  have hkm : ∀ l ∈ keysB L, l.length ≤ 5000 := fun l hl => by
    obtain ⟨c, hc, rfl⟩ := keysTo_mem (Nat.le_refl _) l hl
    have := ((riseN_zero hr).1 c hc).2.1
    omega
  have hpr : ∀ p ∈ splitB L, riseN p = 0 ∧ p ≠ [] ∧ wC p ≤ 300000 ∧ (lastC p).key.length ≤ 4096 ∧ (encB p).length ≤ 20000000 := fun p hp => by
    have a1 := split_rise hr hp
    have a2 := split_full L p hp
    have a3 := wC_part hp
    have a4 := (riseN_zero a1).1 _ (lastC_mem a2)
    have a5 := encB_le (riseN_zero a1).1
    have a6 := wC_len p
    exact ⟨a1, a2, by omega, a4.2.1, by omega⟩
  have hbk := fun k => blks_take (splitB L) k
  have hbs := fun k h => @blks_snoc (splitB L) k h
  have hbd : bodyB L = enc7 (splitB L).length ++ (splitB L).flatMap blkE ++ enc7 L.length ++ (enc7 (filB L).length ++ filB L) := by unfold bodyB; simp only [List.append_assoc]
  have hbf : ((splitB L).flatMap blkE).length ≤ (bodyB L).length := by rw [hbd]; simp only [List.length_append]; omega
  have hfd : filB L = mk (bn (keysB L).length) (keysB L) := rfl
  have hke : keysB L = keysTo L L.length := rfl
  unfold keysB at hkm
  rw [show keysTo L L.length = keysB L from rfl] at hkl hkm
  generalize bodyB L = BD at *
  generalize filB L = FL at *
  generalize keysB L = KS at *
  generalize splitB L = PS at *
  replace hbd := Lib.hid hbd
  replace hfd := Lib.hid hfd
  replace hBs := Lib.hid hBs
  replace hpr := Lib.hid hpr
  replace hkm := Lib.hid hkm
  replace hke := Lib.hid hke
  have en7 : (enc7 PS.length).length ≤ 10 := enc7_ten (by omega)
  have en8 : (enc7 L.length).length ≤ 10 := enc7_ten (by omega)
  have en9 : (enc7 FL.length).length ≤ 10 := enc7_ten (by omega)
  clear hB hR hR0 hz hE hr h0 h h3
  go_enter Tryd.func12, Tryd.ntmps12
  go_wp2_with fail
  refine hc1.mono ?_
  rintro e w1 ⟨rfl, x1⟩
  clear hc1
  go_wp2_with fail
  refine (hc2 w1 x1).mono ?_
  rintro e w2 ⟨u, vs, rfl, B2, f2, x2⟩
  have y2 := ext_trans x1 x2
  clear hc2 x1 x2
  have hvl := B2.len
  have o2 := B2.own
  obtain ⟨Au, cu, rfl⟩ := o2.shape
  rw [hvl] at o2 f2 ⊢
  go_wp2_with fail
  refine (rnum_any (PS.length : Nat)).mono ?_
  rintro e w3 ⟨v3, rfl, o3, f3, x3⟩
  rw [clamp_n _ (by omega)] at o3
  have G3 : Gw w2 w3 v3 (enc7 PS.length) := ⟨o3, f3, x3⟩
  clear o3 f3 x3
  go_wp2_with fail
  go_loopw [6, 7] (fun vb i wr => ∃ (k : Nat), k ≤ PS.length ∧ i = .int .i64 k ∧ Gw w2 wr vb (enc7 PS.length ++ (PS.take k).flatMap blkE)) (fun _ i _ => PS.length - (intOf i).toNat)
  case atStart => exact ⟨0, Nat.zero_le _, rfl, by rw [List.take_zero, List.flatMap_nil, List.append_nil]; exact G3⟩
  case round =>
    clear G3
    obtain ⟨k, hk, rfl, G⟩ := hrel
    have hbk1 := hbk k
    by_cases hlt : k < PS.length
    · have hbl' : decide ((k : Int) < (PS.length : Int)) = true := dtrue (by omega)
      obtain ⟨ad, hA, c0⟩ := (o2.mod G.ex (fun _ _ h => h)).at_ (k := k) (by omega)
      subst hA
      have hp0 := B2.els k vs[k] PS[k] (by simp [hvl, hlt]) (by simp [hlt])
      obtain ⟨r1, r2, r3, r4, r5⟩ := hpr.out _ (List.getElem_mem hlt)
      have hnx := hbs k hlt
      have hb2 := hbk (k + 1)
      rw [hnx, List.length_append] at hb2
      have hi0 : (0 : Int) ≤ (k : Int) := by omega
      have hi1 : (k : Int) < (PS.length : Int) := by omega
      have hcv : ∀ {wx : World}, Ext w2 wx → wx.cell? (ad.add k) = some vs[k] := fun hx => by
        obtain ⟨ad', hA, d⟩ := (o2.mod hx (fun _ _ h => h)).at_ (k := k) (by omega)
        cases hA
        exact d
      generalize PS[k] = p at *
      generalize vs[k] = x at *
      have hce := fun {wx : World} (hx : Ext w2 wx) => rencode_any (hp0.ext hx).rc (by omega)
      rw [r1, encR_zero r1] at hce
      have hfin := blk_lay4 p (enc7 PS.length ++ (PS.take k).flatMap blkE)
      obtain ⟨a1, cc, n, hv, hpn, l0, l1, l2, l3⟩ := last_at (hp0.ext G.ex).rc r2
      have hn3 : n ≤ 300000 := by have := wC_len p; omega
      have hic : (lastC p).key.length ≤ 4096 := r4
      have hwr : (enc7 PS.length ++ (PS.take k).flatMap blkE).length ≤ 100000000 := by simp only [List.length_append]; omega
      have her : (encB p).length ≤ 20000000 := r5
      subst hv
      generalize lastC p = y at *
      generalize encB p = EB at *
      have hi5 : IntKind.i64.wrap (n : Int) = (n : Int) := by rw [IntKind.wrap_i64]; omega
      have hn0 : (0 : Int) ≤ (n : Int) := by omega
      have hn1 : (n : Int) < (n : Int) + 1 := by omega
      have hnl : (enc7 PS.length ++ (PS.take k).flatMap blkE) ++ blkE p = enc7 PS.length ++ (PS.take (k + 1)).flatMap blkE := by rw [hnx, List.append_assoc]
      rw [hnl] at hfin
      generalize enc7 PS.length ++ (PS.take k).flatMap blkE = l0b at *
      replace hfin := Lib.hid hfin
      clear hp0 r1 r2 r3 r4 r5 hpn hnl hnx hb2
      go_upto_region 11 with fail
      have z0 := World.new_ne wr _ l0
      have z1 := World.new_ne wr _ l1
      have z2 := World.new_ne wr _ l2
      have z3 := World.new_ne wr _ l3
      have zc := World.new_ne wr _ c0
      go_region_held3 (fun wx => wx.cell? (ad.add k) = some (.slice (some a1) (n + 1) cc) ∧ wx.cell? (a1.add (n * 4)) = some (sv y.key) ∧ wx.cell? ⟨(a1.add (n * 4)).block, (a1.add (n * 4)).off + 1, none⟩ = some (sv y.val) ∧ wx.cell? ⟨(a1.add (n * 4)).block, (a1.add (n * 4)).off + 2, none⟩ = some (.bool y.del) ∧ wx.cell? ⟨(a1.add (n * 4)).block, (a1.add (n * 4)).off + 3, none⟩ = some (.int .i64 y.seq)) (first | go_keep) (fail)
      rename_i hHeld
      clear hHeld z0 z1 z2 z3 zc l0 l1 l2 l3 c0
      obtain ⟨wb, hwb⟩ : ∃ wb, wb = (wr.alloc (.cells (car y) 37)).drew := ⟨_, rfl⟩
      have xb : Ext wr wb := by rw [hwb]; exact ((Mod.refl _ wr).alloc _).drew
      have B0 : Blk wb wr.heap.size 37 (car y) := by rw [hwb]; exact (Blk.new wr _ _).mod (F := fun _ => False) ((Mod.refl _ _).drew) (fun h => h)
      have Gb := G.ext xb
      replace hwb : (wr.alloc (.cells #[.string ⟨y.key.toArray⟩, .string ⟨y.val.toArray⟩, .bool y.del, .int .i64 y.seq] 37)).drew = wb := hwb.symm
      rw [hwb]
      obtain ⟨gb, hgb⟩ : ∃ gb, gb = wr.heap.size := ⟨_, rfl⟩
      rw [← hgb] at B0 ⊢
      clear hwb hgb G xb
      have hc7 := hce Gb.ex
      have hcv1 := hcv Gb.ex
      clear hcv
      clear hce
      go_wp2_with fail
      refine hc7.mono ?_
      rintro e w5 ⟨v5, rfl, o5, f5, x5⟩
      have G5 := Gb.ext x5
      have B5 := B0.mod x5 (fun h => h)
      have n5 : ∀ k, own v5 k → ¬ own u6 k := fun k hk hh => by have := f5 k hk; have := Gb.row.lt hh; omega
      obtain ⟨A5, c5, rfl⟩ := o5.shape
      rw [List.length_map] at o5 n5 ⊢
      have d0 : w5.cell? ⟨gb, 0, none⟩ = some (sv y.key) := Blk.cell B5 0
      clear hc7 f5 x5 B0 Gb
      go_wp2_with ((with_reducible show wpList _ _ _ (⟨some 60, _, _, _, _, _⟩ :: _) _ _); refine wp_tob Tryd.underlying9 Tryd.underlying24 Tryd.underlying5 (l := y.key) (by omega) rfl (.tmp 59) rfl rfl ?_; intro cp w6 k1 k2 k3; clear k3)
      refine (rbytes_any k1 (by omega)).mono ?_
      rintro e w7 ⟨v7, rfl, o7, -, x7⟩
      have z7 := ext_trans k2 x7
      have G7 := G5.ext z7
      have B7 := B5.mod z7 (fun h => h)
      have o57 := o5.mod z7 (fun _ _ h => h)
      have e7 := enc7_ten (n := y.key.length) (by omega)
      have e8 := enc7_ten (n := clamp y.seq) (clamp_le _)
      clear G5 B5 o5 k1 k2 x7 z7 d0
      go_wp2_with ((with_reducible show wpList _ _ _ (⟨some 62, _, _, _, _, _⟩ :: _) _ _); refine wp_gwm tyB G7 o7.sl rfl (.tmp 57) (.tmp 61) rfl rfl rfl (by simp only [List.length_append]; omega) ?_; intro v8 w8 G8 m8 n8; obtain ⟨o8, nn8⟩ := gw_keep o57 n5 m8 n8; have d3 := Blk.cell (B7.mod m8 (fun hh => G7.row.ne_blk B7 (by decide) hh)) 3; replace d3 : w8.cell? ⟨gb, 3, none⟩ = some (.int .i64 y.seq) := d3)
      refine (rnum_any y.seq).mono ?_
      rintro e w9 ⟨v9, rfl, o9, -, x9⟩
      have G9 := G8.ext x9
      have o89 := o8.mod x9 (fun _ _ h => h)
      clear G7 G8 B7 o57 o7 m8 n8 n5 o8 x9 d3
      go_wp2_with ((with_reducible show wpList _ _ _ (⟨some 67, _, _, _, _, _⟩ :: _) _ _); refine wp_gwm tyB G9 o9.sl rfl (.tmp 63) (.tmp 66) rfl rfl rfl (by simp only [List.length_append]; omega) ?_; intro v10 w10 G10 m10 n10; obtain ⟨o10, nn10⟩ := gw_keep o89 nn8 m10 n10)
      refine (rbytes_any o10.sl (by omega)).mono ?_
      rintro e w11 ⟨v11, rfl, o11, -, x11⟩
      have G11 := G10.ext x11
      have e9 := enc7_ten (n := EB.length) (by omega)
      clear G9 o9 o89 nn8 m10 n10 nn10 o10 G10 x11
      go_wp2_with ((with_reducible show wpList _ _ _ (⟨some 71, _, _, _, _, _⟩ :: _) _ _); refine wp_gwm tyB G11 o11.sl rfl (.tmp 68) (.tmp 70) rfl rfl rfl (by simp only [List.length_append]; omega) ?_; intro v12 w12 G12 m12 n12)
      rw [hfin.out] at G12
      exact ⟨⟨k + 1, by omega, by go_num, G12⟩, by simp [intOf] <;> omega⟩
    have hbl' : decide ((k : Int) < (PS.length : Int)) = false := dfalse (by omega)
    obtain rfl : k = PS.length := by omega
    rw [List.take_length] at G
    clear hpr hbk1 hk hlt hbk hbs hpl B2 o2
    have hx9 := ext_trans y2 G.ex
    go_wp2_with fail
    go_loopw [11, 12] (fun uk i wx => ∃ (j : Nat) (ks : List (List UInt8)), j ≤ L.length ∧ i = .int .i64 j ∧ Hid (ks = keysTo L j) ∧ ks.length ≤ j ∧ Own wx 9 uk (ks.map sv) ∧ Fresh wr.heap.size uk ∧ Ext wr wx) (fun _ i _ => L.length - (intOf i).toNat)
    case atStart => exact ⟨0, [], Nat.zero_le _, rfl, Lib.hid rfl, Nat.le_refl _, Own.nil _ _, fresh_nil _ _ _, Mod.refl _ _⟩
    case round =>
      obtain ⟨j, ks, hj, rfl, hks, hkl2, ho, hf, hx⟩ := hrel
      by_cases hlt : j < L.length
      · have hbl2 : decide ((j : Int) < (L.length : Int)) = true := dtrue (by omega)
        have hyx := ext_trans hx9 hx
        obtain ⟨ad2, hA, -, c0, -, -, -⟩ := Cs.at_ (h4.ext hyx) hlt
        subst hA
        have hgd := getD_c L hlt
        have hyes := fun hh => (keysTo_yes hgd hh).trans (by rw [← hks.out])
        have hno := fun h0 hh => (keysTo_no hgd h0 hh).trans hks.out.symm
        have hi0 : (0 : Int) ≤ (j : Int) := by omega
        have hi1 : (j : Int) < (L.length : Int) := by omega
        clear hbd hfd hBs hkm hke en7 en8 en9 hbl hfl hkl hbf G hvl f2
        by_cases hk0 : j = 0
        · generalize L[j] = x at *
          have hb0 : ((j : Int) == 0) = true := by rw [beq_iff_eq]; omega
          have hn := Lib.hid (hyes (.inl hk0)).symm
          clear hyes hno hgd hks hk0
          go_upto_region 20 with fail
          go_quiet (fail)
          go_wp2_with ((with_reducible show wpList _ _ _ (⟨some 101, _, _, _, _, _⟩ :: _) _ _); refine wp_app tyS (ho.drewN _ |>.alloc _) (Sl.one _ _ _) (one_ok _ rfl) rfl _ _ rfl rfl rfl (by simp; omega) ?_; intro u' w3 o3 m3 n3)
          exact ⟨⟨j + 1, ks ++ [x.key], by omega, by go_num, hn, by simp; omega, by rw [List.map_append]; exact o3, n3.fresh hf (by have := hx.size; simp; omega), ext_app (hx.drewN _) hf m3⟩, by simp [intOf] <;> omega⟩
        obtain ⟨i, rfl⟩ : ∃ i, j = i + 1 := ⟨j - 1, by omega⟩
        have hj' : i < L.length := by omega
        obtain ⟨ad3, hA, -, d0, -, -, -⟩ := Cs.at_ (h4.ext hyx) hj'
        cases hA
        rw [show i + 1 - 1 = i by omega, getD_c L hj'] at hyes hno
        have hb0 : ((((i + 1 : Nat) : Int)) == 0) = false := by rw [beq_eq_false_iff_ne]; omega
        have hj0 : (0 : Int) ≤ (i : Int) := by omega
        have hj1 : (i : Int) < (L.length : Int) := by omega
        have hj5 : IntKind.i64.wrap (i : Int) = (i : Int) := by rw [IntKind.wrap_i64]; omega
        have hi0' : (0 : Int) ≤ (i : Int) + 1 := by omega
        have hi1' : (i : Int) + 1 < (L.length : Int) := by omega
        have hj6 : ((i : Int) + 1).toNat = i + 1 := by omega
        generalize L[i] = y at *
        generalize L[i + 1] = x at *
        have no0 := hno (by omega)
        clear hno
        by_cases he : x.key = y.key
        · have hn := Lib.hid (no0 he).symm
          have hq : (x.key == y.key) = true := by rw [he]; exact beq_self_eq_true _
          have hq2 : (x.key != y.key) = false := by rw [he]; simp
          clear hyes no0 hgd hks he
          go_upto_region 20 with fail
          go_quiet (fail)
          go_wp2_with fail
          exact ⟨⟨i + 1 + 1, ks, by omega, by go_num, hn, by omega, ho.drewN _, hf, hx.drewN _⟩, by simp [intOf] <;> omega⟩
        · have hn := Lib.hid (hyes (.inr he)).symm
          have hq : (x.key == y.key) = false := beq_eq_false_iff_ne.2 he
          have hq2 : (x.key != y.key) = true := bne_iff_ne.2 he
          clear hyes no0 hgd hks he
          go_upto_region 20 with fail
          go_quiet (fail)
          go_wp2_with ((with_reducible show wpList _ _ _ (⟨some 101, _, _, _, _, _⟩ :: _) _ _); refine wp_app tyS (ho.drewN _ |>.alloc _) (Sl.one _ _ _) (one_ok _ rfl) rfl _ _ rfl rfl rfl (by simp; omega) ?_; intro u' w3 o3 m3 n3)
          exact ⟨⟨i + 1 + 1, ks ++ [x.key], by omega, by go_num, hn, by simp; omega, by rw [List.map_append]; exact o3, n3.fresh hf (by have := hx.size; simp; omega), ext_app (hx.drewN _) hf m3⟩, by simp [intOf] <;> omega⟩
      have hbl2 : decide ((j : Int) < (L.length : Int)) = false := dfalse (by omega)
      obtain rfl : j = L.length := by omega
      have hks2 : ks = KS := hks.out.trans hke.out.symm
      subst hks2
      clear hks hke hj hlt h4
      have G0 := G.ext hx
      clear G
      go_wp2_with fail
      refine (rnum_any (L.length : Nat)).mono ?_
      rintro e w5 ⟨v5, rfl, o5, -, x5⟩
      rw [clamp_n _ (by omega)] at o5
      have G5 := G0.ext x5
      have ok5 := ho.mod x5 (fun _ _ h => h)
      clear G0 ho x5
      go_wp2_with ((with_reducible show wpList _ _ _ (⟨some 106, _, _, _, _, _⟩ :: _) _ _); refine wp_gwm tyB G5 o5.sl rfl (.tmp 102) (.tmp 105) rfl rfl rfl (by simp only [List.length_append]; omega) ?_; intro v6 w6 G6 m6 n6; have ok6 := ok5.mod m6 (fun k hk hv => own_ne ok5 G5.row (by decide) hk hv))
      have hmk := rmake_any ok6.sl (by omega) hkm.out
      rw [← hfd.out] at hmk
      refine hmk.mono ?_
      rintro e w7 ⟨v7, rfl, o7, -, x7⟩
      have G7 := G6.ext x7
      obtain ⟨A7, c7, rfl⟩ := o7.shape
      rw [List.length_map] at o7 ⊢
      clear hmk hkm ok6 ok5 m6 n6 G5 G6 x7 o5
      go_wp2_with fail
      refine (rbytes_any o7.sl (by omega)).mono ?_
      rintro e w8 ⟨v8, rfl, o8, -, x8⟩
      have G8 := G7.ext x8
      clear G7 o7 x8
      go_wp2_with ((with_reducible show wpList _ _ _ (⟨some 111, _, _, _, _, _⟩ :: _) _ _); refine wp_gwm tyB G8 o8.sl rfl (.tmp 107) (.tmp 110) rfl rfl rfl (by simp only [List.length_append]; omega) ?_; intro v9 w9 G9 m9 n9)
      rw [← hbd.out] at G9
      clear m9 n9 G8 o8
      have hfe := frencode_any G9.row.sl (by omega)
      rw [← hBs.out] at hfe
      go_wp2_with fail
      refine hfe.mono ?_
      rintro e w10 ⟨v10, rfl, o10, f10, x10⟩
      have y10 := ext_trans y2 G9.ex
      go_wp2_with fail
      go_ret2
      exact ⟨v10, rfl, o10, fun k hk => by have := f10 k hk; have := y10.size; omega, ext_trans y10 x10⟩
end Go.Proofs.YthohghnfiicndaaDoor
