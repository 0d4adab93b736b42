/- frame: rows that are written one behind the other are read as they were: the statement's own walk. -/
import Derived.Test.YtckgnnopoekniaaDoorFrmJ
namespace Go.Proofs.YtckgnnopoekniaaDoor
open Go.RowKit
set_option maxRecDepth 100000

theorem frecs_app (L : List (List UInt8)) (junk : List UInt8) (h : ∀ p ∈ L, p.length ≤ 1048576) : (frecs L).length ≤ (scan (frecs L ++ junk)).2 ∧ (scan (frecs L ++ junk)).1 = L ++ (scan junk).1 := by
  rw [scan_frecs L junk h]
  exact ⟨by simp, rfl⟩

set_option maxHeartbeats 4000000 in
theorem law_rows {w : World} {y z : Value} {L : List (List UInt8)} {junk : List UInt8} (hy : Rw w (fun _ => True) y L) (hz : Bs w (fun _ => True) z junk) (hN : Nib w) :
    Calls Tryd.prog 7 #[y, z] w fun e w' => e = .returned (.bool true) ∧ Ext w w' := by
  have hy0 := hy
  have hz0 := hz
  obtain ⟨A, c, vs, rfl, h1, h2, h3, h4, h5, h6⟩ := hy.open_
  obtain ⟨Az, cz, rfl, z1, z2, z3, z4⟩ := hz.open_
  clear z3 z4 hy hz
  go_enter Tryd.func7, Tryd.ntmps7
  go_wp2_with fail
  go_loopw [5, 6] (fun v i wr => ∃ k : Nat, k ≤ L.length ∧ i = .int .i64 k ∧ Own wr 5 v ((frecs (L.take k)).map bv) ∧ Fresh w.heap.size v ∧ Ext w wr ∧ Hid ((frecs (L.take k)).length ≤ 4000) ∧ Hid (∀ p ∈ L.take k, p.length ≤ 4000)) (fun _ i _ => L.length - (intOf i).toNat)
  case atStart => exact ⟨0, Nat.zero_le _, rfl, Own.nil _ _, fresh_nil _ _ _, Mod.refl _ _, Lib.hid (by simp [frecs]), Lib.hid (by simp)⟩
  case round =>
    obtain ⟨k, hk, rfl, hown, hf, hx, hle, hall⟩ := hrel
    by_cases hlt : k < L.length
    · obtain ⟨ad, x, rfl, hs, hc, hbs⟩ := row_at h4 (h5.mod hx (fun _ _ _ h => h)) (fun k x l hx1 hl => (h6 k x l hx1 hl).ext hx) hlt
      have hsn := frecs_snoc L k hlt
      have hall2 : ∀ p ∈ L.take (k + 1), p.length ≤ 4000 ∨ p = L[k] := fun p hp => by
        rw [List.take_succ_eq_append_getElem hlt, List.mem_append] at hp
        rcases hp with hp | hp
        · exact .inl (hall.out p hp)
        · exact .inr (by simpa using hp)
      generalize L[k] = p at *
      obtain ⟨A1, c1, rfl, y1, y2, y3, y4⟩ := hbs.open_
      by_cases hbig : 4000 < p.length
      · clear hsn hall2
        go_wp2_with fail
        go_ret
        exact ⟨rfl, hx⟩
      replace hall2 : Hid (∀ p ∈ L.take (k + 1), p.length ≤ 4000) := Lib.hid (fun q hq => by
        rcases hall2 q hq with h | h
        · exact h
        · rw [h]; omega)
      have hle9 := hle.out
      generalize frecs (L.take k) = pre at *
      obtain ⟨nxt, hnx⟩ : ∃ n, n = frecs (L.take (k + 1)) := ⟨_, rfl⟩
      rw [← hnx] at hsn
      replace hnx := Lib.hid hnx
      have hfl := frec_len p
      replace hsn := Lib.hid hsn
      go_wp2_with fail
      refine (encode_any (Rw.one 23 hbs) (hN.mod (Mod.alloc hx _) (fun h => h)) (by simp; omega)).mono ?_
      rintro e w1 ⟨v1, rfl, g1, g2, g3⟩
      rw [show ([p] : List (List UInt8)).flatten = p by simp] at g1
      have hx1a : Ext wr w1 := ext_trans ((Mod.refl _ wr).alloc _) g3
      have hx1 := ext_trans hx hx1a
      have hown1 := hown.mod hx1a (fun _ _ h => h)
      generalize frec p = fr at *
      have hn1 : ((pre.map bv).length + (fr.map bv).length) * 1 ≤ 140737488355328 := by rw [List.length_map, List.length_map, hfl]; omega
      replace hn1 := Lib.hid hn1
      replace hfl := Lib.hid hfl
      obtain ⟨A2, c2, rfl⟩ := g1.shape
      obtain ⟨A3, c3, rfl⟩ := hown1.shape
      clear g2 g3 hown
      simp only [List.length_map] at hown1 hf g1 ⊢
      have hg1 := g1.sl
      go_wp2_with ((with_reducible show wpList _ _ _ (⟨some 38, _, _, _, _, _⟩ :: _) _ _); refine wp_app tyB hown1 hg1 (bv_one _) rfl (.tmp 36) (.tmp 37) rfl rfl rfl hn1.out ?_; intro v4 w4 q1 q2 q3; rw [← List.map_append, ← hsn.out] at q1; have hf4 := q3.fresh hf hx1.size; have hx4 := ext_app0 hx1 hf q2; obtain ⟨A4, c4, rfl⟩ := q1.shape; simp only [List.length_map] at q1 hf4 ⊢; clear q2 q3)
      case roundEnd =>
        rename_i hn4
        exact ⟨⟨k + 1, by omega, by go_num, by rw [← hnx.out]; exact q1, hf4, hx4, Lib.hid (by rw [← hnx.out]; omega), hall2⟩, by simp [intOf] <;> omega⟩
      go_ret
      exact ⟨rfl, hx4⟩
    · rw [List.take_of_length_le (by omega)] at hown hle hall
      by_cases hbj : 4000 < junk.length
      · obtain ⟨A3, c3, rfl⟩ := hown.shape
        go_wp2_with fail
        go_ret
        exact ⟨rfl, hx⟩
      have hle9 := hle.out
      have hsc := scan_all L (fun p hp => by have := hall.out p hp; omega)
      have hsm := frecs_app L junk (fun p hp => by have := hall.out p hp; omega)
      generalize frecs L = all at *
      replace hsm := Lib.hid hsm
      replace hsc := Lib.hid hsc
      have hyw := hy0.mod hx (fun _ _ _ h => h)
      have hzw := hz0.ext hx
      obtain ⟨A3, c3, rfl⟩ := hown.shape
      simp only [List.length_map] at hown hf ⊢
      have hall3 := hown.sl
      clear h5 h6 hall hle
      go_wp2_with fail
      refine (scan_any hall3 (hN.mod hx (fun h => h)) (by omega)).mono ?_
      rintro e w1 ⟨v1, rfl, ⟨vs1, g1⟩, g2⟩
      rw [hsc.out] at g1 ⊢
      have hx1 := ext_trans hx g2
      obtain ⟨A5, c5, rfl⟩ := g1.own.shape
      have hlen1 := g1.len
      rw [hlen1] at g1 ⊢
      have hr1 := g1.rw
      simp only
      have hbn : ((all.length : Int) != (all.length : Int)) = false := by simp
      clear g1 hlen1
      go_wp2_with fail
      refine (rows_any hr1 (hyw.mod g2 (fun _ _ _ h => h))).mono ?_
      rintro e w2 ⟨rfl, n2, hw2⟩
      rw [decide_eq_true (rfl : L = L)]
      have hx2a : Ext w1 w2 := by rw [hw2]; exact (Mod.refl _ w1).drewN n2
      have hx2 := ext_trans hx1 hx2a
      have hall4 := hall3.ext (ext_trans g2 hx2a)
      have hz2 := hz0.ext hx2
      clear hw2 hr1 hall3
      have hn1 : (([] : List Value).length + (all.map bv).length) * 1 ≤ 140737488355328 := by rw [List.length_map]; simp; omega
      have hn2 : ((all.map bv).length + (junk.map bv).length) * 1 ≤ 140737488355328 := by rw [List.length_map, List.length_map]; omega
      replace hn1 := Lib.hid hn1
      replace hn2 := Lib.hid hn2
      have hfr0 : Fresh w2.heap.size (.slice (some ⟨w2.heap.size, 0, none⟩) 0 0) := (fun k hk => by have : w2.heap.size = k := Option.some.inj hk; omega)
      have hlm : (all ++ junk).length ≤ 1000000 := by rw [List.length_append]; omega
      replace hlm := Lib.hid hlm
      go_wp2_with (first
        | ((with_reducible show wpList _ _ _ (⟨some 63, _, _, _, _, _⟩ :: _) _ _); refine wp_app tyB (Own.empty w2 5) (hall4.alloc _) (bv_one _) rfl (.tmp 61) (.tmp 62) rfl rfl rfl hn1.out ?_; intro v3 w3 k1 k2 k3; rw [List.nil_append] at k1; have hx3a := ext_app (Mod.refl _ w2) hfr0 k2; have hf3 := (k3.sooner (B' := w2.heap.size) (by simp)).fresh hfr0 (Nat.le_refl _); clear k2 k3)
        | ((with_reducible show wpList _ _ _ (⟨some 65, _, _, _, _, _⟩ :: _) _ _); refine wp_app tyB k1 (hz2.ext hx3a) (bv_one _) rfl (.tmp 63) (.tmp 64) rfl rfl rfl hn2.out ?_; intro v4 w4 q1 q2 q3; rw [← List.map_append] at q1; have hx4a := ext_app0 hx3a hf3 q2; clear q2 q3))
      have hx4 := ext_trans hx2 hx4a
      refine (scan_any q1.sl (hN.mod hx4 (fun h => h)) hlm.out).mono ?_
      rintro e w5 ⟨v5, rfl, ⟨vs5, m1⟩, m2⟩
      have hx5 := ext_trans hx4 m2
      obtain ⟨hm1, hm2⟩ := hsm.out
      rw [hm2] at m1
      generalize (scan (all ++ junk)).2 = mm at *
      generalize (scan junk).1 = rst at *
      obtain ⟨A6, c6, rfl⟩ := m1.own.shape
      have hlen5 := m1.len
      have hvl : L.length ≤ vs5.length := by rw [hlen5, List.length_append]; omega
      have hcap := own_cap m1.own
      have hpre : Rw w5 (fun _ => True) (.slice A6 L.length c6) L := by
        have hb := m1.own.begin (m := L.length) hvl
        have hl2 : (vs5.take L.length).length = L.length := by rw [List.length_take]; omega
        refine ⟨vs5.take L.length, hl2, ?_, fun k x l hx1 hl => ?_⟩
        · exact hb.sl.mono (fun _ _ _ => trivial)
        · have hkL : k < L.length := (List.getElem?_eq_some_iff.1 hl).1
          rw [List.getElem?_take, if_pos hkL] at hx1
          exact (m1.els k x l hx1 (by rw [List.getElem?_append_left hkL]; exact hl)).1.sl.mono (fun _ _ _ => trivial)
      have hb1 : decide ((all.length : Int) ≤ (mm : Int)) = true := by rw [decide_eq_true_eq]; omega
      have hb2 : decide ((L.length : Int) ≤ (vs5.length : Int)) = true := by rw [decide_eq_true_eq]; omega
      have hlc6 : (L.length : Int) ≤ (c6 : Int) := by omega
      have hyw5 := hy0.mod hx5 (fun _ _ _ h => h)
      clear m1 m2 hm2 hsm q1 hall4 hx4a hx3a k1 hf3 hyw
      go_wp2_with fail
      refine (rows_any hpre hyw5).mono ?_
      rintro e w6 ⟨rfl, n6, hw6⟩
      rw [decide_eq_true (rfl : L = L)]
      have hx6 : Ext w w6 := by rw [hw6]; exact hx5.drewN n6
      clear hw6 hpre hyw5
      go_wp2_with fail
      refine (known2_any (hN.mod hx6 (fun h => h))).mono ?_
      rintro e w7 ⟨rfl, hx7⟩
      go_wp2_with fail
      go_ret
      exact ⟨rfl, ext_trans hx6 hx7⟩
end Go.Proofs.YtckgnnopoekniaaDoor
