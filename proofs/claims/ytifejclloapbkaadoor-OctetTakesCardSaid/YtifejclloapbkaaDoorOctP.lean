/- octet: rows as bytes, and back: the statement's own walk. -/
import Derived.Test.YtifejclloapbkaaDoorOctN
import Derived.Test.YtifejclloapbkaaDoorOctK
namespace Go.Proofs.YtifejclloapbkaaDoor
open Go.RowKit
set_option maxRecDepth 100000

theorem takeB_enc (p rest : List UInt8) (h : p.length ≤ 4611686018427387904) : takeB (some (enc7 p.length ++ p ++ rest)) = (p, some rest) := by
  unfold takeB
  rw [List.append_assoc, takeN_enc _ _ h]
  simp only [takeRaw]
  rw [if_neg (by simp only [List.length_append]; omega)]
  simp
theorem encr_drop (L : List (List UInt8)) (k : Nat) (h : k < L.length) : encr (L.drop k) = enc7 L[k].length ++ L[k] ++ encr (L.drop (k + 1)) := by
  unfold encr
  rw [List.drop_eq_getElem_cons h, List.flatMap_cons]
theorem encr_one (p : List UInt8) : encr [p] = enc7 p.length ++ p := by simp [encr]
theorem encr_len (L : List (List UInt8)) : (encr L).length ≤ 10 * weight L := by
  unfold encr weight
  induction L with
  | nil => simp
  | cons a L ih =>
    have h2 : (enc7 a.length).length ≤ a.length + 1 := by
      by_cases h : a.length < 128
      · rw [enc7_lo h]; simp
      · have := enc7_length a.length a.length (by
          have h1 : a.length < 2 ^ a.length := Nat.lt_two_pow_self
          have h2 : 2 ^ a.length ≤ 2 ^ (7 * (a.length + 1)) := Nat.pow_le_pow_right (by omega) (by omega)
          omega)
        exact this
    simp only [List.flatMap_cons, List.length_append, List.map_cons, List.sum_cons]
    omega
theorem len_le_weight (L : List (List UInt8)) (k : Nat) (h : k < L.length) : L[k].length ≤ weight L := by
  have h1 := weight_snoc L k h
  have h2 := weight_take L (k + 1)
  omega

theorem roomy_begin {w : World} {A : Option Addr} {c : Nat} {l : List UInt8} (h : Own w 5 (.slice A (l.length + 1) c) ((l ++ [171]).map bv)) : Bs w (own (.slice A (l.length + 1) c)) (.slice A l.length c) l := by
  have h1 : Bs w (own (.slice A (l.length + 1) c)) (.slice A (l ++ [171]).length c) (l ++ [171]) := by
    have e : (l ++ [(171 : UInt8)]).length = l.length + 1 := by simp
    rw [e]; exact h.sl
  have := Bs.begin h1 (m := l.length) (by simp)
  rwa [List.take_append_of_le_length (Nat.le_refl _), List.take_of_length_le (Nat.le_refl _)] at this
/-- The bytes that a Writer and the answer hold are not one block's. -/
def Apart (u v : Value) : Prop := ∀ k, u.ownBlock = some k → v.ownBlock ≠ some k

set_option maxHeartbeats 4000000 in
theorem law_rows {w : World} {y z : Value} {L : List (List UInt8)} {raw : List UInt8} (hy : Rw w (fun _ => True) y L) (hz : Bs w (fun _ => True) z raw) (hN : Nib w) :
    Calls Tryd.prog 4 #[y, z] w fun e w' => e = .returned (.bool true) ∧ Ext w w' := by
  by_cases hb1 : 4000 < weight L
  · go_enter Tryd.func4, Tryd.ntmps4
    go_wp2_with fail
    refine (heavy_any hy).mono ?_; rintro e w1 ⟨rfl, rfl⟩
    rw [decide_eq_true hb1]
    go_wp2_with fail
    go_ret
    exact ⟨rfl, Mod.refl _ _⟩
  replace hz : Bs w (fun k => k < w.heap.size) z raw := hz.mono (fun k hk _ => hk)
  replace hy : Rw w (fun k => k < w.heap.size) y L := hy.mono (fun k hk _ => hk)
  have hz0 := hz
  obtain ⟨Az, cz, rfl, z1, z2, z3, z4⟩ := hz.open_
  by_cases hb2 : 4000 < raw.length
  · go_enter Tryd.func4, Tryd.ntmps4
    go_wp2_with fail
    refine (heavy_any hy).mono ?_; rintro e w1 ⟨rfl, rfl⟩
    rw [decide_eq_false hb1]
    go_wp2_with fail
    go_ret
    exact ⟨rfl, Mod.refl _ _⟩
  have hlen := encr_len L
  have hy0 := hy
  obtain ⟨A, c, vs, rfl, y1, y2, y3, y4, y5, y6⟩ := hy.open_
  go_enter Tryd.func4, Tryd.ntmps4
  go_wp2_with fail
  refine (heavy_any hy).mono ?_; rintro e w1 ⟨rfl, rfl⟩
  rw [decide_eq_false hb1]
  go_wp2_with fail
  obtain ⟨b0, hb0⟩ : ∃ b, b = w1.heap.size := ⟨_, rfl⟩
  have hbx := Lib.hid hb0
  go_loopw [7, 8] (fun v i wr => ∃ (k : Nat) (v1 : Value), k ≤ L.length ∧ i = .int .i64 k ∧ Wr wr w1.heap.size v1 (encr (L.take k)) ∧ Wr wr (w1.heap.size + 1) (.slice none 0 0) [] ∧ Own wr 5 v ((encr (L.take k)).map bv) ∧ Fresh (w1.heap.size + 2) v1 ∧ Fresh (w1.heap.size + 2) v ∧ Apart v1 v ∧ Ext w1 wr) (fun _ i _ => L.length - (intOf i).toNat)
  case atStart =>
    refine ⟨0, .slice none 0 0, Nat.zero_le _, rfl, ⟨(Blk.new _ _ _).alloc _, Own.nil _ _⟩, ⟨?_, Own.nil _ _⟩, Own.nil _ _, fresh_nil _ _ _, fresh_nil _ _ _, (show Apart _ _ from fun k hk => by cases hk), ((Mod.refl _ w1).alloc _).alloc _⟩
    have := Blk.new (w1.alloc (.cells #[.slice none 0 0] 25)) 25 #[.slice none 0 0]
    rwa [show (w1.alloc (.cells #[.slice none 0 0] 25)).heap.size = w1.heap.size + 1 by simp] at this
  case round =>
    obtain ⟨k, v1, hk, rfl, hw1, hw2, hown, hf1, hf, hap, hm⟩ := hrel
    have hle := encr_take L k
    by_cases hlt : k < L.length
    · obtain ⟨ad, x, rfl, hc, hbs⟩ := row_now y4 y5 y6 hm (fun _ _ _ h => h) hlt
      obtain ⟨A2, c2, rfl, p1, p2, p3, p4⟩ := hbs.open_
      have hlk := len_le_weight L k hlt
      have hle1 := encr_take L (k + 1)
      have hsn := Lib.hid (encr_snoc L k hlt)
      rw [hsn.out, List.length_append, List.length_append] at hle1
      have hs1 := hm.size
      have hbb := hw2.blk.lt
      have hadw : ad.block < w1.heap.size := by
        obtain ⟨ad', x', e, hs, _⟩ := row_at y4 y5 y6 hlt
        injection e with e
        rw [e]; exact hs
      go_wp2_with fail
      refine (roomy_any (hbs.ext hm) (by omega)).mono ?_
      rintro e w2 ⟨u, rfl, r1, r2, r3⟩
      have hx2 := ext_trans hm r3
      have hw12 := hw1.mod r3 (fun h => h) (fun _ _ h => h)
      have hw22 := hw2.mod r3 (fun h => h) (fun _ _ h => h)
      have hown2 := hown.mod r3 (fun _ _ h => h)
      have hul : ∀ j, own u j → j < w2.heap.size := fun j hj => r1.lt hj
      have hs2 := r3.size
      have hc2 := (r3.cell (p := ad.add k) (lt_of_cell hc) (fun h => h)).trans hc
      obtain ⟨Au, cu, rfl⟩ := r1.shape
      have hcu := own_cap r1
      rw [List.length_map, List.length_append] at r1 r2 hul hcu ⊢
      simp only [List.length_cons, List.length_nil, Nat.zero_add] at r1 r2 hul hcu ⊢
      have hbu := roomy_begin r1
      go_wp2_with fail
      have hr2 := Rw.one 23 hbu
      have hv1l : ∀ j, v1.ownBlock = some j → j < wr.heap.size := fun j hj => hw1.row.lt hj
      have hvl : ∀ j, own u7 j → j < wr.heap.size := fun j hj => hown.lt hj
      have hb0l := hw1.blk.lt
      refine (wbytes_any (hw12.mod ((Mod.refl (fun _ => False) w2).alloc _) (fun h => h) (fun _ _ h => h)) hr2 (fun j hj hs hf => ?_) (by rw [encr_one, List.length_append]; omega)).mono ?_
      · simp only [World.size_alloc] at hj
        have hu1 : own (.slice Au (L[k].length + 1) cu) j ∨ j = w2.heap.size := hs
        rcases hf with hf | hf
        · rcases hu1 with h | h
          · have := r2 j h; omega
          · omega
        · have := hv1l j hf
          rcases hu1 with h | h
          · have := r2 j h; omega
          · omega
      rintro e w3 ⟨rfl, v1', g1, g2, g3⟩
      rw [encr_one] at g1
      have hm23 : Mod (wrF w1.heap.size v1) w2 w3 := ((Mod.refl (fun _ => False) w2).alloc _).trans g2 (fun _ _ h => h.elim) (fun _ _ h => h)
      have hx3 : Ext w1 w3 := hx2.trans hm23 (fun _ _ h => h) (fun j hj h => by
        rcases h with h | h
        · omega
        · have := hf1 j h; omega)
      have hw23 := hw22.mod hm23 (fun h => by
        rcases h with h | h
        · omega
        · have := hf1 _ h; omega) (fun _ h => by cases h)
      have hown3 := hown2.mod hm23 (fun j hj h => by
        rcases h with h | h
        · have := hf j hj; omega
        · exact hap j h hj)
      have r13 := r1.mod hm23 (fun j hj h => by
        have hj1 : wr.heap.size ≤ j := r2 j hj
        rcases h with h | h
        · omega
        · have := hv1l j h; omega)
      have hf1' : Fresh (w1.heap.size + 2) v1' := g3.fresh hf1 (by simp; omega)
      have hv1' : ∀ j, v1'.ownBlock = some j → v1.ownBlock = some j ∨ w2.heap.size < j := fun j hj => by
        rcases g3 with h | h
        · exact .inl (h ▸ hj)
        · have := h j hj; simp at this; exact .inr (by omega)
      have hc3 := (hm23.cell (p := ad.add k) (lt_of_cell hc2) (fun h => by
        rw [block_of_add] at h
        rcases h with h | h
        · omega
        · have := hf1 _ h; omega)).trans hc2
      have hs23 := hm23.size
      clear g2 g3 hm23 hw12 hw22 hown2 r1 hr2 hbu
      go_wp2_with fail
      have hru : Bs w3 (own (.slice Au (L[k].length + 1) cu)) (.slice Au (L[k].length + 1) cu) (L[k] ++ [171]) := r13.sl
      refine (stands_any hru (hbs.ext hx3)).mono ?_
      rintro e w4 ⟨rfl, n4, hw4⟩
      have hm4 : Ext w3 w4 := by rw [hw4]; exact (Mod.refl _ w3).drewN n4
      have hx4 := ext_trans hx3 hm4
      have g14 := g1.mod hm4 (fun h => h) (fun _ _ h => h)
      have hw24 := hw23.mod hm4 (fun h => h) (fun _ _ h => h)
      have hown4 := hown3.mod hm4 (fun _ _ h => h)
      have r14 := r13.mod hm4 (fun _ _ h => h)
      have hc4 := (hm4.cell (p := ad.add k) (lt_of_cell hc3) (fun h => h)).trans hc3
      have hs34 := hm4.size
      clear hw4 hm4 hru g1 hw23 hown3 r13 hc3 hx3
      go_wp2_with fail
      refine (spoil_any r14 (by rw [List.length_append, List.length_singleton]; omega)).mono ?_
      rintro e w5 ⟨rfl, hm5⟩
      have hx5 : Ext w1 w5 := hx4.trans hm5 (fun _ _ h => h) (fun j hj h => by have := r2 j h; omega)
      have g15 := g14.mod hm5 (fun h => by have := r2 _ h; omega) (fun j hj h => by
        have h1 : wr.heap.size ≤ j := r2 j h
        have h2 : j < w2.heap.size := hul j h
        rcases hv1' j hj with h3 | h3
        · have := hv1l j h3; omega
        · omega)
      have hw25 := hw24.mod hm5 (fun h => by have h1 : wr.heap.size ≤ w1.heap.size + 1 := r2 _ h; omega) (fun _ h => by cases h)
      have hown5 := hown4.mod hm5 (fun j hj h => by have := r2 j h; have := hvl j hj; omega)
      have hc5 : w5.cell? (ad.add k) = some (.slice A2 L[k].length c2) := (hm5.cell (p := ad.add k) (lt_of_cell hc4) (fun h => by have := r2 _ h; rw [block_of_add] at this; omega)).trans hc4
      have hs5 := hm5.size
      have hs25 : w2.heap.size ≤ w5.heap.size := by omega
      clear hm5 g14 hw24 hown4 r14 hc4 hx4 hc hc2
      go_wp2_with fail
      refine (rbytes_any (hbs.ext hx5) (by omega)).mono ?_
      rintro e w6 ⟨x6, rfl, m1, m2, m3⟩
      have hx6 := ext_trans hx5 m3
      have g16 := g15.mod m3 (fun h => h) (fun _ _ h => h)
      have hw26 := hw25.mod m3 (fun h => h) (fun _ _ h => h)
      have hown6 := hown5.mod m3 (fun _ _ h => h)
      have hs6 := m3.size
      clear m3 g15 hw25 hown5 hx5 hc5
      go_wp2_with ((with_reducible show wpList _ _ _ (⟨some 55, _, _, _, _, _⟩ :: _) _ _); refine wp_app tyB hown6 m1.sl (bv_one _) rfl (.tmp 49) (.tmp 54) rfl rfl rfl ?hn ?_; rotate_right; intro v7 w7 hown7 hmod7 hnx7)
      case hn => simp only [List.length_map, List.length_append]; omega
      have hv6 : ∀ j, v1'.ownBlock = some j → u7.ownBlock ≠ some j := fun j hj h => by
        rcases hv1' j hj with h1 | h1
        · exact hap j h1 h
        · have := hvl j h; omega
      have g17 := g16.mod hmod7 (fun h => by have := hf _ h; omega) (fun j hj h => hv6 j hj h)
      have hw27 := hw26.mod hmod7 (fun h => by have := hf _ h; omega) (fun _ h => by cases h)
      refine ⟨⟨k + 1, v1', by omega, by go_num, by rw [hsn.out]; exact g17, hw27, by rw [hsn.out, List.map_append]; exact hown7, hf1', hnx7.fresh hf (by omega), ?_, hx6.trans hmod7 (fun _ _ h => h) (fun j hj h => by have := hf j h; omega)⟩, by simp [intOf]; omega⟩
      intro j hj h
      rcases hnx7 with h1 | h1
      · exact hv6 j hj (h1 ▸ h)
      · have h2 := h1 j h
        have h3 := g16.row.lt (k := j) hj
        omega
    · have hLk : L.take k = L := List.take_of_length_le (by omega)
      rw [hLk] at hw1 hown
      clear hLk hle
      have hv1l : ∀ j, v1.ownBlock = some j → j < wr.heap.size := fun j hj => hw1.row.lt hj
      have hvl : ∀ j, own u7 j → j < wr.heap.size := fun j hj => hown.lt hj
      have hb0l := hw1.blk.lt
      have hb1l := hw2.blk.lt
      have hs1 := hm.size
      go_wp2_with fail
      refine (wbytes_any hw2 (hy0.mod hm (fun _ _ _ h => h)) (fun j hj hs hf => ?_) (by simp only [List.length_nil]; omega)).mono ?_
      · rcases hf with hf | hf
        · omega
        · cases hf
      rintro e w2 ⟨rfl, v2, g1, g2, g3⟩
      rw [List.nil_append] at g1
      have hf2 : Fresh wr.heap.size v2 := g3.fresh (fresh_nil _ _ _) (Nat.le_refl _)
      have hx2 : Ext w1 w2 := hm.trans g2 (fun _ _ h => h) (fun j hj h => by
        rcases h with h | h
        · omega
        · cases h)
      have hw12 := hw1.mod g2 (fun h => by
        rcases h with h | h
        · omega
        · cases h) (fun j hj h => by
        rcases h with h | h
        · have := hf1 j hj; omega
        · cases h)
      have hown2 := hown.mod g2 (fun j hj h => by
        rcases h with h | h
        · have := hf j hj; omega
        · cases h)
      have hv2l : ∀ j, v2.ownBlock = some j → j < w2.heap.size := fun j hj => g1.row.lt hj
      have hs2 := g2.size
      clear g2 g3 hw1 hw2 hown
      go_wp2_with fail
      refine (wraw_any hw12 (hz0.ext hx2) (by omega)).mono ?_
      rintro e w3 ⟨rfl, v3, k1, k2, k3⟩
      have hx3 : Ext w1 w3 := hx2.trans k2 (fun _ _ h => h) (fun j hj h => by
        rcases h with h | h
        · omega
        · have := hf1 j h; omega)
      have g13 := g1.mod k2 (fun h => by
        rcases h with h | h
        · omega
        · have := hf1 _ h; omega) (fun j hj h => by
        have h0 := hf2 j hj
        rcases h with h | h
        · omega
        · have := hv1l j h; omega)
      have hown3 := hown2.mod k2 (fun j hj h => by
        rcases h with h | h
        · have := hf j hj; omega
        · exact hap j h hj)
      have hv3 : ∀ j, v3.ownBlock = some j → v1.ownBlock = some j ∨ w2.heap.size ≤ j := fun j hj => by
        rcases k3 with h | h
        · exact .inl (h ▸ hj)
        · exact .inr (h j hj)
      have hs3 := k2.size
      clear k2 k3 g1 hown2 hx2 hw12
      go_wp2_with fail
      refine (wraw_any g13 (hz0.ext hx3) (by omega)).mono ?_
      rintro e w4 ⟨rfl, v4, m1, m2, m3⟩
      have hx4 : Ext w1 w4 := hx3.trans m2 (fun _ _ h => h) (fun j hj h => by
        rcases h with h | h
        · omega
        · have := hf2 j h; omega)
      have k14 := k1.mod m2 (fun h => by
        rcases h with h | h
        · omega
        · have := hf2 _ h; omega) (fun j hj h => by
        rcases h with h | h
        · rcases hv3 j hj with h1 | h1
          · have := hf1 j h1; omega
          · omega
        · have h5 := hf2 j h
          have h6 := hv2l j h
          rcases hv3 j hj with h1 | h1
          · have := hv1l j h1; omega
          · omega)
      have hown4 := hown3.mod m2 (fun j hj h => by
        rcases h with h | h
        · have := hf j hj; omega
        · have := hf2 j h; have := hvl j hj; omega)
      have hf4 : Fresh wr.heap.size v4 := m3.fresh hf2 (by omega)
      clear m2 m3 k1 g13 hown3 hx3
      go_wp2_with ((with_reducible show wpList _ _ _ (⟨some 64, _, _, _, _, _⟩ :: _) _ _); refine wp_app tyB hown4 (hz0.ext hx4) (bv_one _) rfl (.tmp 62) (.tmp 63) rfl rfl rfl ?hn ?_; rotate_right; intro v5 w5 hown5 hmod5 hnx5)
      case hn => simp only [List.length_map]; omega
      have hx5 : Ext w1 w5 := hx4.trans hmod5 (fun _ _ h => h) (fun j hj h => by have := hf j h; omega)
      have k15 := k14.mod hmod5 (fun h => by have := hf _ h; omega) (fun j hj h => by
        rcases hv3 j hj with h1 | h1
        · exact hap j h1 h
        · have := hvl j h; omega)
      have m15 := m1.mod hmod5 (fun h => by have := hf _ h; omega) (fun j hj h => by
        have := hf4 j hj; have := hvl j h; omega)
      rw [← List.map_append] at hown5
      clear hmod5 hnx5 k14 m1 hown4 hx4
      have hlw : (encr L ++ raw).length ≤ 50000 := by rw [List.length_append]; omega
      refine (wout_any k15 (by omega)).mono ?_
      rintro e w6 ⟨x6, rfl, n1, n2, n3, n4⟩
      have hx6 := ext_trans hx5 n3
      have m16 := m15.mod n3 (fun h => h) (fun _ _ h => h)
      have hown6 := hown5.mod n3 (fun _ _ h => h)
      clear n2 n3 n4 k15 m15 hown5 hx5
      go_wp2_with fail
      refine (same_any n1.sl hown6.sl).mono ?_
      rintro e w7 ⟨rfl, n7, hw7⟩
      have hm7 : Ext w6 w7 := by rw [hw7]; exact (Mod.refl _ w6).drewN n7
      have hx7 := ext_trans hx6 hm7
      have m17 := m16.mod hm7 (fun h => h) (fun _ _ h => h)
      have hown7 := hown6.mod hm7 (fun _ _ h => h)
      clear hw7 hm7 n1 m16 hown6 hx6
      rw [decide_eq_true (rfl : encr L ++ raw = encr L ++ raw)]
      go_wp2_with fail
      refine (wout_any m17 (by omega)).mono ?_
      rintro e w8 ⟨x8, rfl, n1, n2, n3, n4⟩
      have hx8 := ext_trans hx7 n3
      have hown8 := hown7.mod n3 (fun _ _ h => h)
      clear n2 n3 n4 m17 hown7 hx7
      go_wp2_with fail
      refine (same_any n1.sl hown8.sl).mono ?_
      rintro e w9 ⟨rfl, n9, hw9⟩
      have hm9 : Ext w8 w9 := by rw [hw9]; exact (Mod.refl _ w8).drewN n9
      have hx9 := ext_trans hx8 hm9
      have hown9 := hown8.mod hm9 (fun _ _ h => h)
      clear hw9 hm9 n1 hown8 hx8
      rw [decide_eq_true (rfl : encr L ++ raw = encr L ++ raw)]
      go_wp2_with fail
      refine (newreader_any hown9.sl (by omega)).mono ?_
      rintro e w10 ⟨b8, v8, rfl, r1, r2, r3, r4⟩
      have hx10 := ext_trans hx9 r4
      have hb8 : w1.heap.size ≤ b8 := by have := hx9.size; omega
      have hT : ∀ k, (fun k => k = w9.heap.size) k → k < b8 := fun k hk => by have : k = w9.heap.size := hk; omega
      clear hx9 hown9 r2 r3 r4 hap hf hf1 hf2 hf4 hvl hv1l hv2l hv3 hm hb0l hb1l hs1 hs2 hs3
      generalize (fun k => k = w9.heap.size) = T at *
      go_wp2_with fail
      go_loopw [11] (fun i wr => ∃ (k : Nat) (v' : Value), k ≤ L.length ∧ i = .int .i64 k ∧ Rd wr b8 T v' (some (encr (L.drop k) ++ raw)) ∧ Ext w1 wr) (fun i _ => L.length - (intOf i).toNat)
      case atStart => exact ⟨0, v8, Nat.zero_le _, rfl, r1, hx10⟩
      case round =>
        clear r1 hx10
        obtain ⟨k, v', hk, rfl, hrd, hm⟩ := hrel
        have hs1 := hm.size
        by_cases hlt : k < L.length
        · obtain ⟨ad, x, rfl, hc, hbs⟩ := row_now y4 y5 y6 hm (fun _ _ _ h => h) hlt
          have hadw : ad.block < w1.heap.size := by
            obtain ⟨ad', x', e, hs, _⟩ := row_at y4 y5 y6 hlt
            injection e with e
            rw [e]; exact hs
          have hlk := len_le_weight L k hlt
          have hed := encr_drop L k hlt
          have hdl : (encr (L.drop k)).length ≤ (encr L).length := by
            have e : encr L = encr (L.take k) ++ encr (L.drop k) := by
              unfold encr
              rw [← List.flatMap_append, List.take_append_drop]
            rw [e, List.length_append]; omega
          have htk := takeB_enc L[k] (encr (L.drop (k + 1)) ++ raw) (by omega)
          rw [← List.append_assoc, ← hed] at htk
          replace hed := Lib.hid hed
          replace htk := Lib.hid htk
          have hrl := hrd.blk.lt
          go_wp2_with fail
          refine (bytes_any hrd (by simp only [Option.getD_some, List.length_append]; omega)).mono ?_
          rintro e w11 ⟨v9, p9, rfl, q1, q2, q3, q4⟩
          rw [htk.out] at q1 q2
          have hx11 : Ext w1 w11 := hm.trans q4 (fun _ _ h => h) (fun j hj h => by omega)
          have hc11 : w11.cell? (ad.add k) = some x := (q4.cell (p := ad.add k) (lt_of_cell hc) (fun h => by rw [block_of_add] at h; omega)).trans hc
          clear hrd hm q4
          go_wp2_with fail
          refine (same_any q2.sl (hbs.ext hx11)).mono ?_
          rintro e w12 ⟨rfl, n12, hw12⟩
          have hm12 : Ext w11 w12 := by rw [hw12]; exact (Mod.refl _ w11).drewN n12
          have hx12 := ext_trans hx11 hm12
          have q22 := q2.mod hm12 (fun _ _ h => h)
          have q12 := q1.mod hm12 (fun h => h) (fun _ _ _ h => h)
          clear hw12 hm12 q2 q1 hx11 hc11
          rw [decide_eq_true (rfl : L[k] = L[k])]
          go_wp2_with fail
          refine (spoil_any q22 (by omega)).mono ?_
          rintro e w13 ⟨rfl, hm13⟩
          have hx13 : Ext w1 w13 := hx12.trans hm13 (fun _ _ h => h) (fun j hj h => by have := q3 j h; omega)
          have q13 := q12.mod hm13 (fun h => by have := q3 _ h; omega) (fun j hj hs h => by have := q3 j h; have := hT j hs; omega)
          go_wp2_with fail
          exact ⟨⟨k + 1, v9, by omega, by go_num, q13, hx13⟩, by simp [intOf]; omega⟩
        · rw [List.drop_of_length_le (by omega)] at hrd
          have e0 : encr [] ++ raw = raw := rfl
          rw [e0] at hrd
          go_wp2_with fail
          refine (left_any hrd).mono ?_
          rintro e w11 ⟨rfl, rfl⟩
          simp only [Option.getD_some]
          go_wp2_with fail
          refine (raw_any hrd _ (by simp only [Option.getD_some]; omega)).mono ?_
          rintro e w12 ⟨v9, p9, rfl, q1, q2, q3, q4⟩
          have e1 : takeRaw (raw.length : Int) (some raw) = (raw, some []) := by simp [takeRaw]
          rw [e1] at q1 q2
          have hx12 : Ext w1 w12 := hm.trans q4 (fun _ _ h => h) (fun j hj h => by omega)
          go_wp2_with fail
          refine (same_any q2.sl (hz0.ext hx12)).mono ?_
          rintro e w13 ⟨rfl, n13, hw13⟩
          have hm13 : Ext w12 w13 := by rw [hw13]; exact (Mod.refl _ w12).drewN n13
          have hx13 := ext_trans hx12 hm13
          have q13 := q1.mod hm13 (fun h => h) (fun _ _ _ h => h)
          clear hw13 hm13 q1 q2 q3 q4 hx12
          rw [decide_eq_true (rfl : raw = raw)]
          go_wp2_with fail
          refine (whole_any q13).mono ?_; rintro e w14 ⟨rfl, rfl⟩
          rw [show isWhole (some []) = true from rfl]
          go_wp2_with fail
          refine (known_any (hN.mod hx13 (fun h => h))).mono ?_; rintro e w15 ⟨rfl, hx15⟩
          go_wp2_with fail
          go_ret
          exact ⟨rfl, ext_trans hx13 hx15⟩
end Go.Proofs.YtifejclloapbkaaDoor
