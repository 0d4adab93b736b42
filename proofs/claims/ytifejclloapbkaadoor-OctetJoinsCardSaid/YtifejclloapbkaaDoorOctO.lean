/- octet: rows joined in two parts: the statement's own walk. -/
import Derived.Test.YtifejclloapbkaaDoorOctN
namespace Go.Proofs.YtifejclloapbkaaDoor
open Go.RowKit
set_option maxRecDepth 100000

theorem tyR : SliceTy Tryd.prog 36 23 (.slice none 0 0) 24 := ⟨Tryd.underlying36, by kernel_rfl, rfl, by omega⟩

/-- Rows with the values that hold them named. -/
theorem Rw.vals {w : World} {S : Nat → Prop} {v : Value} {L : List (List UInt8)} (h : Rw w S v L) : ∃ vs : List Value, vs.length = L.length ∧ Sl w S v vs ∧ (∀ (k : Nat) (x : Value) (l : List UInt8), vs[k]? = some x → L[k]? = some l → Bs w S x l) ∧ ∀ u ∈ vs, u.oneCell' = true := by
  obtain ⟨vs, h1, h2, h3⟩ := h
  refine ⟨vs, h1, h2, h3, fun u hu => ?_⟩
  obtain ⟨k, hk, rfl⟩ := List.mem_iff_getElem.1 hu
  obtain ⟨A, c, he, _⟩ := h3 k vs[k] (L[k]'(by omega)) (by simp [hk]) (by simp [h1 ▸ hk])
  rw [he]; rfl
/-- Two lists of rows in one of the call's own. -/
theorem Rw.join {w w' : World} {S : Nat → Prop} {v : Value} {L M : List (List UInt8)} {vs us : List Value} (hown : Own w' 23 v (vs ++ us)) (hx : Ext w w') (h1 : vs.length = L.length) (h2 : us.length = M.length)
    (h3 : ∀ (k : Nat) (x : Value) (l : List UInt8), vs[k]? = some x → L[k]? = some l → Bs w S x l) (h4 : ∀ (k : Nat) (x : Value) (l : List UInt8), us[k]? = some x → M[k]? = some l → Bs w S x l) :
    Rw w' (fun k => S k ∨ own v k) v (L ++ M) := by
  refine ⟨vs ++ us, by simp [h1, h2], hown.sl.mono (fun _ _ h => .inr h), fun k x l hx' hl => ?_⟩
  by_cases hk : k < vs.length
  · rw [List.getElem?_append_left hk] at hx'
    rw [List.getElem?_append_left (by omega)] at hl
    exact ((h3 k x l hx' hl).ext hx).mono (fun _ _ h => .inl h)
  · rw [List.getElem?_append_right (by omega)] at hx'
    rw [List.getElem?_append_right (by omega)] at hl
    rw [h1] at hx'
    exact ((h4 _ x l hx' hl).ext hx).mono (fun _ _ h => .inl h)

set_option maxHeartbeats 2000000 in
theorem law_joins {w : World} {y z : Value} {L M : List (List UInt8)} (hy : Rw w (fun _ => True) y L) (hz : Rw w (fun _ => True) z M) (hN : Nib w) :
    Calls Tryd.prog 10 #[y, z] w fun e w' => e = .returned (.bool true) ∧ Ext w w' := by
  by_cases hb1 : 4000 < weight L
  · go_enter Tryd.func10, Tryd.ntmps10
    go_wp2_with fail
    refine (heavy_any hy).mono ?_; rintro e w1 ⟨rfl, rfl⟩
    rw [decide_eq_true hb1]
    go_wp2_with fail
    go_ret
    exact ⟨rfl, Mod.refl _ _⟩
  by_cases hb2 : 4000 < weight M
  · go_enter Tryd.func10, Tryd.ntmps10
    go_wp2_with fail
    refine (heavy_any hy).mono ?_; rintro e w1 ⟨rfl, rfl⟩
    rw [decide_eq_false hb1]
    go_wp2_with fail
    refine (heavy_any hz).mono ?_; rintro e w1 ⟨rfl, rfl⟩
    rw [decide_eq_true hb2]
    go_wp2_with fail
    go_ret
    exact ⟨rfl, Mod.refl _ _⟩
  have hfl := weight_flat L
  have hfm := weight_flat M
  have hwl : L.length ≤ weight L := by
    unfold weight
    clear hy hfl hb1
    induction L with
    | nil => simp
    | cons a L ih => simp only [List.length_cons, List.map_cons, List.sum_cons]; omega
  have hwm : M.length ≤ weight M := by
    unfold weight
    clear hz hfm hb2
    induction M with
    | nil => simp
    | cons a M ih => simp only [List.length_cons, List.map_cons, List.sum_cons]; omega
  obtain ⟨l, hl⟩ : ∃ l, L.flatten = l := ⟨_, rfl⟩
  obtain ⟨m, hm⟩ : ∃ m, M.flatten = m := ⟨_, rfl⟩
  rw [hl] at hfl
  rw [hm] at hfm
  have hlm : (L ++ M).flatten = l ++ m := by rw [List.flatten_append, hl, hm]
  replace hl := Lib.hid hl
  replace hm := Lib.hid hm
  replace hlm := Lib.hid hlm
  replace hy : Rw w (fun k => k < w.heap.size) y L := hy.mono (fun k hk _ => hk)
  replace hz : Rw w (fun k => k < w.heap.size) z M := hz.mono (fun k hk _ => hk)
  obtain ⟨vs, a1, a2, a3, a4⟩ := hy.vals
  obtain ⟨us, c1, c2, c3, c4⟩ := hz.vals
  go_enter Tryd.func10, Tryd.ntmps10
  go_wp2_with fail
  refine (heavy_any hy).mono ?_; rintro e w1 ⟨rfl, rfl⟩
  rw [decide_eq_false hb1]
  go_wp2_with fail
  refine (heavy_any hz).mono ?_; rintro e w1 ⟨rfl, rfl⟩
  rw [decide_eq_false hb2]
  go_wp2_with (first
    | ((with_reducible show wpList _ _ _ (⟨some 17, _, _, _, _, _⟩ :: _) _ _); refine wp_app tyR (Own.empty w1 23) (a2.alloc _) a4 rfl (.tmp 15) (.tmp 16) rfl rfl rfl ?hn ?_; rotate_right; intro v2 w2 hown2 hmod2 hnx2; have hfr0 : Fresh w1.heap.size (.slice (some ⟨w1.heap.size, 0, none⟩) 0 0) := (fun k hk => by have : w1.heap.size = k := Option.some.inj hk; omega); have hx2 : Ext w1 w2 := ext_app (Mod.refl _ w1) hfr0 hmod2; have hf2 : Fresh w1.heap.size v2 := hnx2.fresh hfr0 (by simp))
    | ((with_reducible show wpList _ _ _ (⟨some 19, _, _, _, _, _⟩ :: _) _ _); refine wp_app tyR hown2 (c2.ext hx2) c4 rfl (.tmp 17) (.tmp 18) rfl rfl rfl ?hn2 ?_; rotate_right; intro v3 w3 hown3 hmod3 hnx3; have hx3 : Ext w1 w3 := ext_app0 hx2 hf2 hmod3; have hf3 := hnx3.fresh hf2 hx2.size))
  case hn => simp; omega
  case hn2 => simp; omega
  have hall : Rw w3 (fun k => k < w1.heap.size ∨ own v3 k) v3 (L ++ M) := Rw.join (by simpa using hown3) hx3 a1 c1 a3 c3
  have hv3 : ∀ k, own v3 k → k < w3.heap.size := fun k hk => hown3.lt hk
  clear hown2 hmod2 hnx2 hmod3 hnx3 hfr0 hf2 a2 a3 a4 c2 c3 c4 hx2 hown3
  have hs3 := hx3.size
  refine (join_any (hy.mod hx3 (fun _ _ _ h => h)) (by rw [hl.out]; omega)).mono ?_
  rintro e w4 ⟨u1, rfl, k1, k2, k3⟩
  rw [hl.out] at k1
  have hx4 := ext_trans hx3 k3
  have hall4 := hall.mod k3 (fun _ _ _ h => h)
  go_wp2_with fail
  refine (join_any (hz.mod hx4 (fun _ _ _ h => h)) (by rw [hm.out]; omega)).mono ?_
  rintro e w5 ⟨u2, rfl, m1, m2, m3⟩
  rw [hm.out] at m1
  have hx5 := ext_trans hx4 m3
  have hall5 := hall4.mod m3 (fun _ _ _ h => h)
  have k15 := k1.mod m3 (fun _ _ h => h)
  have hs4 := k3.size
  have hs5 := m3.size
  clear hall hall4 k1 k3 m3 hx4
  obtain ⟨A1, e1, rfl⟩ := k15.shape
  obtain ⟨A2, e2, rfl⟩ := m1.shape
  rw [List.length_map] at k15 m1 k2 m2 ⊢
  rw [List.length_map]
  go_wp2_with fail
  have hr5 := Rw.two 23 k15.sl m1.sl
  have hfl2 : ([l, m] : List (List UInt8)).flatten = l ++ m := by simp
  replace hfl2 := Lib.hid hfl2
  refine (join_any hr5 (by rw [hfl2.out, List.length_append]; omega)).mono ?_
  rintro e w6 ⟨x, rfl, x1, x2, x3⟩
  rw [hfl2.out] at x1
  have hm6 : Ext w5 w6 := ext_trans ((Mod.refl (fun _ => False) w5).alloc _) x3
  have hx6 := ext_trans hx5 hm6
  have hall6 := hall5.mod hm6 (fun _ _ _ h => h)
  have hfx : Fresh w5.heap.size x := x2.mono (by simp)
  clear hr5 x2 x3 hm6 hall5 k15 m1 k2 m2
  go_wp2_with fail
  refine (join_any hall6 (by rw [hlm.out, List.length_append]; omega)).mono ?_
  rintro e w7 ⟨y2, rfl, y1, y3, y4⟩
  rw [hlm.out] at y1
  have hx7 := ext_trans hx6 y4
  have hall7 := hall6.mod y4 (fun _ _ _ h => h)
  have x17 := x1.mod y4 (fun _ _ h => h)
  clear hall6 x1 y3 y4 hx6 hx5
  go_wp2_with fail
  refine (same_any x17.sl y1.sl).mono ?_
  rintro e w8 ⟨rfl, n8, hw8⟩
  have hm8 : Ext w7 w8 := by rw [hw8]; exact (Mod.refl _ w7).drewN n8
  have hx8 := ext_trans hx7 hm8
  have hall8 := hall7.mod hm8 (fun _ _ _ h => h)
  have x18 := x17.mod hm8 (fun _ _ h => h)
  have hN8 := hN.mod hx8 (fun h => h)
  clear hw8 hm8 hx7 hall7 x17 y1
  rw [decide_eq_true (rfl : l ++ m = l ++ m)]
  go_wp2_with fail
  refine (sum_any hall8 hN8).mono ?_
  rintro e w9 ⟨rfl, rfl⟩
  rw [hlm.out]
  obtain ⟨A4, e4, rfl⟩ := x18.shape
  obtain ⟨lm, hlmq⟩ : ∃ lm, lm = l ++ m := ⟨_, rfl⟩
  rw [← hlmq] at x18 hfx ⊢
  rw [List.length_map] at x18 hfx ⊢
  have hlmL : lm.length ≤ 8000 := by rw [hlmq, List.length_append]; omega
  rw [← hlmq] at hlm
  replace hlmq := Lib.hid hlmq
  go_wp2_with fail
  have hr9 := Rw.one 23 x18.sl
  refine (sum_any hr9 (hN8.mod ((Mod.refl (fun _ => False) w9).alloc _) (fun h => h))).mono ?_
  rintro e w10 ⟨rfl, hw10⟩
  have hm10 : Ext w9 w10 := by rw [hw10]; exact (Mod.refl _ w9).alloc _
  have hx10 := ext_trans hx8 hm10
  have hall10 := hall8.mod hm10 (fun _ _ _ h => h)
  have x110 := x18.mod hm10 (fun _ _ h => h)
  rw [show ([lm] : List (List UInt8)).flatten = lm by simp]
  clear hw10 hr9 hm10 hx8 hall8 x18 hN8
  have hs10 := hx10.size
  obtain ⟨A5, c5, vs5, rfl, q1, q2, q3, q4, q5, q6⟩ := hall10.open_
  have hfle := flen_le (L ++ M)
  have hfla := flen_all (L ++ M)
  rw [hlm.out] at hfle hfla
  have HFA := Lib.hid hfla
  clear hfla
  have hLM : (L ++ M).length = L.length + M.length := List.length_append
  obtain ⟨N, hNL⟩ : ∃ N, N = (L ++ M).length := ⟨_, rfl⟩
  rw [← hNL] at q1 q4 hLM hall10 hv3 ⊢
  replace hNL := Lib.hid hNL
  replace hLM := Lib.hid hLM
  go_wp2_with fail
  go_loop [7, 8] (fun n i => ∃ k : Nat, k ≤ N ∧ i = .int .i64 k ∧ n = .int .i64 (flen (L ++ M) k : Nat)) (fun _ i => N - (intOf i).toNat)
  case atStart => exact ⟨0, Nat.zero_le _, rfl, by simp [flen]⟩
  case round =>
    obtain ⟨k, hk, rfl, rfl⟩ := hrel
    by_cases hlt : k < N
    · have hlt2 : k < (L ++ M).length := by rw [← hNL.out]; exact hlt
      obtain ⟨ad, x, rfl, hs, hc, hbs⟩ := row_at (by rw [← hNL.out]; exact q4) q5 q6 hlt2
      obtain ⟨A6, c6, rfl, p1, p2, p3, p4⟩ := hbs.open_
      have hsn := Lib.hid (flen_snoc (L ++ M) k hlt2)
      have hle0 := hfle k
      have hle1 := hfle (k + 1)
      rw [hsn.out] at hle1
      obtain ⟨z, hz⟩ : ∃ z, z = (L ++ M)[k].length := ⟨_, rfl⟩
      rw [← hz] at hc p1 hle1
      replace hz := Lib.hid hz
      generalize hF : flen (L ++ M) k = F at *
      replace hF := Lib.hid hF
      go_wp2
      exact ⟨⟨k + 1, by omega, by go_num, by rw [hsn.out, ← hz.out]; go_num⟩, by simp [intOf]; omega⟩
    · rw [HFA.out k (by rw [← hNL.out]; omega)]
      go_wp2_with fail
      refine (spoil_any x110 (by omega)).mono ?_
      rintro e w11 ⟨rfl, hm11⟩
      have hb5 : ∀ k, own (.slice A4 lm.length e4) k → w5.heap.size ≤ k := fun k hk => hfx k hk
      have hall11 := hall10.mod hm11 (fun k hk hs hf => by
        have := hb5 k hf
        rcases hs with hs | hs
        · omega
        · have := hv3 k hs; omega)
      have hx11 : Ext w1 w11 := hx10.trans hm11 (fun _ _ h => h) (fun k hk h => by have := hb5 k h; omega)
      clear hm11 x110 hall10 q4 q5 q6
      go_wp2_with fail
      refine (join_any hall11 (by rw [hlm.out]; omega)).mono ?_
      rintro e w12 ⟨y3, rfl, r1, r2, r3⟩
      rw [hlm.out] at r1
      have hx12 := ext_trans hx11 r3
      clear r2 r3 hall11 hx11
      go_wp2_with fail
      refine (join_any (hy.mod hx12 (fun _ _ _ h => h)) (by rw [hl.out]; omega)).mono ?_
      rintro e w13 ⟨u3, rfl, k1, k2, k3⟩
      rw [hl.out] at k1
      have hx13 := ext_trans hx12 k3
      have r13 := r1.mod k3 (fun _ _ h => h)
      clear k2 k3 r1 hx12
      go_wp2_with fail
      refine (join_any (hz.mod hx13 (fun _ _ _ h => h)) (by rw [hm.out]; omega)).mono ?_
      rintro e w14 ⟨u4, rfl, m1, m2, m3⟩
      rw [hm.out] at m1
      have hx14 := ext_trans hx13 m3
      have k14 := k1.mod m3 (fun _ _ h => h)
      have r14 := r13.mod m3 (fun _ _ h => h)
      clear m2 m3 r13 k1 hx13
      obtain ⟨A7, e7, rfl⟩ := k14.shape
      obtain ⟨A8, e8, rfl⟩ := m1.shape
      rw [List.length_map] at k14 m1 ⊢
      rw [List.length_map]
      go_wp2_with fail
      have hr14 := Rw.two 23 k14.sl m1.sl
      refine (join_any hr14 (by rw [hfl2.out, List.length_append]; omega)).mono ?_
      rintro e w15 ⟨x2, rfl, n1, n2, n3⟩
      rw [hfl2.out, ← hlmq.out] at n1
      have hm15 : Ext w14 w15 := ext_trans ((Mod.refl (fun _ => False) w14).alloc _) n3
      have hx15 := ext_trans hx14 hm15
      have r15 := r14.mod hm15 (fun _ _ h => h)
      clear hr14 n2 n3 hm15 r14 k14 m1 hx14
      go_wp2_with fail
      refine (same_any r15.sl n1.sl).mono ?_
      rintro e w16 ⟨rfl, n16, hw16⟩
      have hx16 : Ext w1 w16 := by rw [hw16]; exact Mod.drewN hx15 n16
      clear hw16 hx15 r15 n1
      rw [decide_eq_true (rfl : lm = lm)]
      go_wp2_with fail
      refine (known_any (hN.mod hx16 (fun h => h))).mono ?_; rintro e w17 ⟨rfl, hx17⟩
      go_wp2_with fail
      go_ret
      exact ⟨rfl, ext_trans hx16 hx17⟩
end Go.Proofs.YtifejclloapbkaaDoor
