/- disk: DiskMany. -/
import Derived.Test.YtagchhcpmibelaaDmA
namespace Go.Proofs.Ytagchhcpmibelaa
open Go.RowKit Go.Maps Go.WideMaps
set_option maxRecDepth 100000

set_option maxHeartbeats 16000000 in
theorem many_any {w : World} {v : Value} {P : Tx} {tw : Bool} {dr : Int} (hv0 : Rw w (fun _ => True) v P) (hz : ∀ l ∈ P, l.length ≤ 140737488351232) (hz2 : P.length * 24 ≤ 140737488351232) (hn : -9223372036854775808 ≤ dr ∧ dr ≤ 9223372036854775807) :
    Calls Try.prog 9 #[v, .bool tw, .int .i64 dr] w fun e w' => e = .returned (.bool true) ∧ Ext w w' := by
  have hv := hv0.old
  obtain ⟨A, c, vs, rfl, p1, p2, p3, p0, p5, p6⟩ := hv.open_
  clear hv0
  go_enter Try.func9, Try.ntmps9
  go_wp2_with fail
  go_loop [7, 8] (fun q i => ∃ (j m : Nat), j ≤ P.length ∧ i = .int .i64 j ∧ q = .int .i64 m ∧ Hid (m = j + tot (P.take j)) ∧ m ≤ 8000) (fun _ i => P.length - (intOf i).toNat)
  case atStart => exact ⟨0, 0, Nat.zero_le _, rfl, rfl, Lib.hid (by simp [tot]), by omega⟩
  case round =>
    obtain ⟨j, m, hj, rfl, rfl, hm, hmb⟩ := hrel
    by_cases hgo : j < P.length
    · have hbl : decide ((j : Int) < (P.length : Int)) = true := dtrue (by omega)
      obtain ⟨ad, y, hA, hS, hc, hB⟩ := row_at p0 p5 p6 hgo
      subst hA
      obtain ⟨B, cc, rfl, j1, j2, j3, j4⟩ := hB.open_
      have hi0 : (0 : Int) ≤ (j : Int) := by omega
      have hi1 : (j : Int) < (P.length : Int) := by omega
      have hsn := tot_snoc P j hgo
      have hzl := hz _ (List.getElem_mem hgo)
      have hst : Hid (m + 1 + P[j].length = (j + 1) + tot (P.take (j + 1))) := Lib.hid (by have := hm.out; simp only [tot] at *; omega)
      clear hsn hm j4 p5 p6 hv
      generalize P[j].length = len at *
      by_cases hb8 : 8000 < len
      · have hbb : decide (8000 < len) = true := dtrue hb8
        go_wp2_with fail
        go_ret
        exact ⟨rfl, Mod.refl _ _⟩
      have hbb : decide (8000 < len) = false := dfalse hb8
      by_cases hbig : 8000 < m + 1 + len
      · have hb2 : decide ((8000 : Int) < (m : Int) + 1 + (len : Int)) = true := dtrue (by omega)
        go_wp2_with fail
        go_ret
        exact ⟨rfl, Mod.refl _ _⟩
      have hb2 : decide ((8000 : Int) < (m : Int) + 1 + (len : Int)) = false := dfalse (by omega)
      go_wp2_with fail
      exact ⟨⟨j + 1, m + 1 + len, by omega, by go_num, by congr 1, hst, by omega⟩, by simp [intOf] <;> omega⟩
    obtain rfl : j = P.length := by omega
    have htot : P.length + tot P ≤ 8000 := by have := hm.out; rw [List.take_length] at this; omega
    have hbl : decide ((P.length : Int) < (P.length : Int)) = false := dfalse (by omega)
    clear hm hgo hmb hj
    go_wp2_with fail
    refine (new_law 1048576 (by omega) (by omega)).mono ?_
    rintro e w1 ⟨ba, rfl, Sa, hda, hina, x1⟩
    go_wp2_with fail
    refine (new_law 1048576 (by omega) (by omega)).mono ?_
    rintro e w2 ⟨bb, rfl, Sb, hdb, hinb, x2⟩
    have h2 : Two w w2 (pv ba) (newD 1048576) (pv bb) (newD 1048576) := ⟨Sa, Sb, hda.ext x2, hdb, hina.ext x2.size, fun k hk => ⟨Nat.le_trans x1.size (hinb k hk).1, (hinb k hk).2⟩, fun k ha hb => by have := (hina k ha).2; have := (hinb k hb).1; omega, ext_trans x1 x2⟩
    clear hda hina x1 hdb hinb x2
    have y2 := h2.ext_
    have hca := h2.law (fun S hd hin => append_any hd [120] (hv.mod y2 (fun _ _ _ h => h)) (fun k hk hs => by have := (hin k hs).1; omega) (by omega))
    rw [mn_app (by omega)] at hca
    clear h2 y2
    go_wp2_with fail
    refine hca.mono ?_
    rintro e w3 ⟨rfl, h3⟩
    have hca := h3.symm.law (fun S hd hin => append_any hd [120] (Rw.nil_ w3) (fun k hk => hk.elim) (by simp))
    rw [mn_app (by simp [tot])] at hca
    clear h3
    go_wp2_with fail
    refine hca.mono ?_
    rintro e w4 ⟨rfl, h4⟩
    clear hca
    go_wp2_with fail
    go_loopw [13] (fun i wr => ∃ (k : Nat), k ≤ P.length ∧ i = .int .i64 k ∧ Two w wr (pv bb) (sx (P.take k).flatten 0) (pv ba) (sx P.flatten 0)) (fun i _ => P.length - (intOf i).toNat)
    case atStart => exact ⟨0, Nat.zero_le _, rfl, h4⟩
    case round =>
      clear h4
      obtain ⟨k, hk, rfl, h5⟩ := hrel
      by_cases hlt : k < P.length
      · have hbl2 : decide ((k : Int) < (P.length : Int)) = true := dtrue (by omega)
        obtain ⟨ad, y, hA, hS, hc0, hB⟩ := row_at p0 p5 p6 hlt
        obtain ⟨B, cc, rfl, j1, j2, j3, j4⟩ := hB.open_
        subst hA
        have hx := h5.ext_
        have hkc : wr.cell? (ad.add k) = some (.slice B P[k].length cc) := (hx.cell (lt_of_cell hc0) (fun h => h)).trans hc0
        have hi0 : (0 : Int) ≤ (k : Int) := by omega
        have hi1 : (k : Int) < (P.length : Int) := by omega
        have xa : Ext wr (wr.alloc (.cells #[.slice B P[k].length cc] 32)) := (Mod.refl _ _).alloc _
        have hca := h5.lawx xa (fun S hd hin => append_any hd [120] (one_row hB hx) (fun q hq hs => by
          have h1 := hin q hs
          rcases hq with h | h <;> omega) (by simp))
        rw [mn_app1 hlt (by omega)] at hca
        clear h5 hc0 p5 p6 j4 hz hx xa
        go_wp2_with fail
        refine hca.mono ?_
        rintro e w3 ⟨rfl, h3⟩
        go_wp2_with fail
        exact ⟨⟨k + 1, by omega, by go_num, h3⟩, by simp [intOf] <;> omega⟩
      obtain rfl : k = P.length := by omega
      rw [List.take_length] at h5
      have hbl2 : decide ((P.length : Int) < (P.length : Int)) = false := dfalse (by omega)
      have hfl := flat_len P
      clear hlt hk p5 p6 hv hz
      replace h5 := h5.symm
      obtain ⟨w5, hw5⟩ : ∃ w5, w5 = wr := ⟨_, rfl⟩
      subst hw5
      have kc := fun (w : World) (C : Array Value) (n c : Nat) => Lib.run_convert_bytes_const (P := Try.prog) w 32 5 C n c Try.underlying32 Try.underlying5
      have xa : Ext w5 ((w5.alloc (.cells ([49, 50].map bv).toArray 5 (2, 3))).alloc (.cells #[.slice (some ⟨w5.heap.size, 0, none⟩) 2 2] 32)) := ((Mod.refl _ _).alloc _).alloc _
      have hca := h5.lawx xa (fun S hd hin => append_any hd [121] (lit_row w5 [49, 50] (2, 3) (by simp)) (fun q hq hs => by have := (hin q hs).2; omega) (by simp))
      rw [mn_app2 (by omega)] at hca
      clear h5 xa
      go_wp2_with fail
      refine hca.mono ?_
      rintro e w6 ⟨rfl, h6⟩
      clear hca
      have xa : Ext w6 ((w6.alloc (.cells ([49, 50].map bv).toArray 5 (2, 3))).alloc (.cells #[.slice (some ⟨w6.heap.size, 0, none⟩) 2 2] 32)) := ((Mod.refl _ _).alloc _).alloc _
      have hca := h6.symm.lawx xa (fun S hd hin => append_any hd [121] (lit_row w6 [49, 50] (2, 3) (by simp)) (fun q hq hs => by have := (hin q hs).2; omega) (by simp))
      rw [mn_app2 (by omega)] at hca
      clear h6 xa
      go_wp2_with fail
      refine hca.mono ?_
      rintro e w7 ⟨rfl, h7⟩
      clear hca
      replace h7 := h7.symm
      clear kc hfl
      generalize P.flatten = F at *
      cases tw
      case' true =>
        have xa : Ext w7 (w7.alloc (.cells #[sv [120], sv [121]] 9)) := (Mod.refl _ _).alloc _
        have hca := h7.lawx xa (fun S hd hin => Sync_any hd (two_names w7 [120] [121]) (fun q hq hs => by have := (hin q hs).2; omega))
        rw [mn_sync2] at hca
        clear xa
        clear h7
        go_wp2_with fail
        refine hca.mono ?_
        rintro e w8 ⟨rfl, h8⟩
        clear hca
        have xa : Ext w8 (w8.alloc (.cells #[sv [120]] 9)) := (Mod.refl _ _).alloc _
        have hca := h8.symm.lawx xa (fun S hd hin => Sync_any hd (one_name w8 [120]) (fun q hq hs => by have := (hin q hs).2; omega))
        rw [mn_syncx] at hca
        clear xa
        clear h8
        go_wp2_with fail
        refine hca.mono ?_
        rintro e w9 ⟨rfl, h9⟩
        clear hca
        replace h9 := h9.symm
        have xa : Ext w9 (w9.alloc (.cells #[sv [121]] 9)) := (Mod.refl _ _).alloc _
        have hca := h9.symm.lawx xa (fun S hd hin => Sync_any hd (one_name w9 [121]) (fun q hq hs => by have := (hin q hs).2; omega))
        rw [mn_syncy] at hca
        clear xa
        clear h9
        go_wp2_with fail
        refine hca.mono ?_
        rintro e w10 ⟨rfl, h10⟩
        clear hca
        replace h10 := h10.symm
      case' false =>
        have h10 := h7
        clear h7
        obtain ⟨w10, hw10⟩ : ∃ w10, w10 = w7 := ⟨_, rfl⟩
        subst hw10
      all_goals
        have xa : Ext w10 (w10.alloc (.cells #[sv [120], sv [122], sv [121]] 9)) := (Mod.refl _ _).alloc _
        have hca := h10.lawx xa (fun S hd hin => Sync_any hd (three_names w10 [120] [122] [121]) (fun q hq hs => by have := (hin q hs).2; omega))
        rw [mn_sync3] at hca
        clear xa
        clear h10
        go_wp2_with fail
        refine hca.mono ?_
        rintro e w11 ⟨rfl, h11⟩
        clear hca
        have xa : Ext w11 (w11.alloc (.cells #[sv [120]] 9)) := (Mod.refl _ _).alloc _
        have hca := h11.symm.lawx xa (fun S hd hin => Sync_any hd (one_name w11 [120]) (fun q hq hs => by have := (hin q hs).2; omega))
        rw [mn_syncx] at hca
        clear xa
        clear h11
        go_wp2_with fail
        refine hca.mono ?_
        rintro e w12 ⟨rfl, h12⟩
        clear hca
        replace h12 := h12.symm
        have hca := h12.law (fun S hd hin => Sync_any hd (Ts.nil_ w12) (fun k hk => hk.elim))
        rw [mn_sync0] at hca
        clear h12
        go_wp2_with fail
        refine hca.mono ?_
        rintro e w13 ⟨rfl, h13⟩
        clear hca
        have hca := h13.law (fun S hd hin => crash_any hd dr hn.2)
        clear h13
        go_wp2_with fail
        refine hca.mono ?_
        rintro e w14 ⟨rfl, h14⟩
        clear hca
        have hca := h14.symm.law (fun S hd hin => crash_any hd dr hn.2)
        clear h14
        go_wp2_with fail
        refine hca.mono ?_
        rintro e w15 ⟨rfl, h15⟩
        clear hca
        replace h15 := h15.symm
        have hcr := h15.read [120] (by decide)
        go_wp2_with fail
        refine hcr.mono ?_
        rintro e w16 ⟨u16, rfl, o16, x16⟩
        have h16 := h15.ext x16
        clear hcr h15
        clear x16
        have hcr := h16.symm.read [120] (by decide)
        go_wp2_with fail
        refine hcr.mono ?_
        rintro e w17 ⟨u17, rfl, o17, x17⟩
        have h17 := h16.ext x17
        clear hcr h16
        replace o16 := o16.mod x17 (fun _ _ h => h)
        clear x17
        have hcr := h17.read [121] (by decide)
        go_wp2_with fail
        refine hcr.mono ?_
        rintro e w18 ⟨u18, rfl, o18, x18⟩
        have h18 := h17.ext x18
        clear hcr h17
        replace o16 := o16.mod x18 (fun _ _ h => h)
        replace o17 := o17.mod x18 (fun _ _ h => h)
        clear x18
        have hcr := h18.symm.read [121] (by decide)
        go_wp2_with fail
        refine hcr.mono ?_
        rintro e w19 ⟨u19, rfl, o19, x19⟩
        have h19 := h18.ext x19
        clear hcr h18
        replace o16 := o16.mod x19 (fun _ _ h => h)
        replace o17 := o17.mod x19 (fun _ _ h => h)
        replace o18 := o18.mod x19 (fun _ _ h => h)
        clear x19
        have hs1 := same_any o16.sl o17.sl
        rw [dtrue rfl] at hs1
        go_wp2_with fail
        refine hs1.mono ?_
        rintro e w20 ⟨rfl, k20, rfl⟩
        have x20 : Ext w19 (w19.drewN k20) := (Mod.refl _ _ : Ext w19 w19).drewN k20
        have hs2 := same_any (o18.mod x20 (fun _ _ h => h)).sl (o19.mod x20 (fun _ _ h => h)).sl
        rw [dtrue rfl] at hs2
        replace h19 := h19.ext x20
        clear hs1 o16 o17 o18 o19 x20
        go_wp2_with fail
        refine hs2.mono ?_
        rintro e w21 ⟨rfl, k21, rfl⟩
        replace h19 := h19.ext ((Mod.refl _ _ : Ext (w19.drewN k20) _).drewN k21)
        generalize (w19.drewN k20).drewN k21 = w21 at h19 ⊢
        have xa : Ext w21 (w21.alloc (.cells #[sv [120], sv [121]] 9)) := (Mod.refl _ _).alloc _
        have hca := h19.lawx xa (fun S hd hin => Remove_any hd (two_names w21 [120] [121]) (fun q hq hs => by have := (hin q hs).2; omega))
        rw [mn_remove] at hca
        clear h19 hs2 xa
        go_wp2_with fail
        refine hca.mono ?_
        rintro e w22 ⟨rfl, h22⟩
        have hcl := h22.list
        go_wp2_with fail
        refine hcl.mono ?_
        rintro e w23 ⟨u23, rfl, o23, x23⟩
        have h23 := h22.ext x23
        obtain ⟨A1, c1, rfl⟩ := o23.shape
        have xa : Ext w23 (w23.alloc (.cells #[sv [120]] 9)) := (Mod.refl _ _).alloc _
        have hca := h23.lawx xa (fun S hd hin => Remove_any hd (one_name w23 [120]) (fun q hq hs => by have := (hin q hs).2; omega))
        rw [mn_remove1] at hca
        clear h22 h23 hcl x23 xa o23
        go_wp2_with fail
        refine hca.mono ?_
        rintro e w24 ⟨rfl, h24⟩
        have y24 := h24.ext_
        clear hca h24
        go_wp2_with fail
        refine known3_any.mono ?_
        rintro e w25 ⟨rfl, x25⟩
        go_wp2_with fail
        go_ret
        exact ⟨rfl, ext_trans y24 x25⟩
end Go.Proofs.Ytagchhcpmibelaa
