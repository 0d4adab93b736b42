/- frame: the document's Encode. -/
import Derived.Test.YtblfhonfjljndaaDoorFrmF
namespace Go.Proofs.YtblfhonfjljndaaDoor
open Go.RowKit
set_option maxRecDepth 100000

set_option maxHeartbeats 2000000 in
theorem rencode_any {w : World} {S : Nat → Prop} {v : Value} {p : List UInt8} (h : Bs w S v p) (hp : p.length ≤ 1048576) :
    Calls Tryd.prog 30 #[v] w fun e w' => ∃ v', e = .returned (.tuple #[v', .int .i64 0]) ∧ Own w' 5 v' ((frec p).map bv) ∧ Fresh w.heap.size v' ∧ Ext w w' := by
  have h0 := h
  obtain ⟨A, c, rfl, h1, h2, h3, h4⟩ := h.open_
  clear h3 h4 h
  have hfr : frec p = fhead p.length ++ p ++ four (sumOf (fhead p.length ++ p)) := rfl
  have hfh : fhead p.length = four p.length ++ four (sumOf (four p.length)) := rfl
  have hl4 := Lib.hid (four_len p.length)
  have hlh := Lib.hid (fhead_len p.length)
  replace hfr := Lib.hid hfr
  replace hfh := Lib.hid hfh
  go_enter Tryd.func30, Tryd.ntmps30
  go_wp2_with fail
  refine (four_any p.length (by omega)).mono ?_
  rintro e w1 ⟨v1, rfl, k1, kf1, hx1⟩
  obtain ⟨A1, c1, rfl⟩ := k1.shape
  simp only [List.length_map] at k1 kf1 ⊢
  generalize four p.length = f4 at *
  go_wp2_with fail
  refine (rsum_any k1.sl).mono ?_
  rintro e w2 ⟨rfl, rfl⟩
  have hs4 := Lib.hid (four_len (sumOf f4))
  have hsl := sumOf_lt f4
  generalize sumOf f4 = s4 at *
  go_wp2_with fail
  refine (four_any s4 hsl).mono ?_
  rintro e w3 ⟨v3, rfl, k3, kf3, hx3a⟩
  have hx3 := ext_trans hx1 hx3a
  have k13 := k1.mod hx3a (fun _ _ h => h)
  have hn1 : ((f4.map bv).length + ((four s4).map bv).length) * 1 ≤ 140737488355328 := by rw [List.length_map, List.length_map, hl4.out, hs4.out]; omega
  replace hn1 := Lib.hid hn1
  generalize four s4 = fs at *
  have hn2 : (((fhead p.length).map bv).length + (p.map bv).length) * 1 ≤ 140737488355328 := by rw [List.length_map, List.length_map, hlh.out]; omega
  replace hn2 := Lib.hid hn2
  generalize fhead p.length = fh at *
  obtain ⟨A3, c3, rfl⟩ := k3.shape
  simp only [List.length_map] at k3 ⊢
  have k3s := k3.sl
  clear kf3 k3 k1
  go_wp2_with (first
    | ((with_reducible show wpList _ _ _ (⟨some 16, _, _, _, _, _⟩ :: _) _ _); refine wp_app tyB k13 k3s (bv_one _) rfl (.tmp 12) (.tmp 15) rfl rfl rfl hn1.out ?_; intro v4 w4 m1 m2 m3; rw [← List.map_append, ← hfh.out] at m1; have hx4 := ext_app0 hx3 kf1 m2; have mf4 := m3.fresh kf1 hx3.size; clear m2 m3)
    | ((with_reducible show wpList _ _ _ (⟨some 19, _, _, _, _, _⟩ :: _) _ _); refine wp_app tyB m1 (h0.ext hx4) (bv_one _) rfl (.tmp 17) (.tmp 18) rfl rfl rfl hn2.out ?_; intro v5 w5 q1 q2 q3; rw [← List.map_append] at q1; have hx5 := ext_app0 hx4 mf4 q2; have qf5 := q3.fresh mf4 hx4.size; clear q2 q3))
  obtain ⟨A5, c5, rfl⟩ := q1.shape
  have hbl : (fh ++ p).length ≤ 2000000 := by rw [List.length_append, hlh.out]; omega
  generalize fh ++ p = bd at *
  simp only [List.length_map] at q1 qf5 ⊢
  refine (rsum_any q1.sl).mono ?_
  rintro e w6 ⟨rfl, rfl⟩
  have hs6 := Lib.hid (four_len (sumOf bd))
  have hsl6 := sumOf_lt bd
  generalize sumOf bd = s6 at *
  go_wp2_with fail
  refine (four_any s6 hsl6).mono ?_
  rintro e w7 ⟨v7, rfl, r1, rf1, hx7a⟩
  have hx7 := ext_trans hx5 hx7a
  have q7 := q1.mod hx7a (fun _ _ h => h)
  have hn3 : ((bd.map bv).length + ((four s6).map bv).length) * 1 ≤ 140737488355328 := by rw [List.length_map, List.length_map, hs6.out]; omega
  replace hn3 := Lib.hid hn3
  generalize four s6 = fs6 at *
  obtain ⟨A7, c7, rfl⟩ := r1.shape
  simp only [List.length_map] at r1 ⊢
  have r1s := r1.sl
  clear rf1 r1 q1
  go_wp2_with ((with_reducible show wpList _ _ _ (⟨some 24, _, _, _, _, _⟩ :: _) _ _); refine wp_app tyB q7 r1s (bv_one _) rfl (.tmp 20) (.tmp 23) rfl rfl rfl hn3.out ?_; intro v8 w8 u1 u2 u3)
  go_ret2
  rw [hfr.out, List.map_append]
  exact ⟨_, rfl, u1, u3.fresh qf5 hx7.size, ext_app0 hx7 qf5 u2⟩
end Go.Proofs.YtblfhonfjljndaaDoor
