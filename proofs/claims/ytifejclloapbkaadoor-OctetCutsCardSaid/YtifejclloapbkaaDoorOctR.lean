/- octet: rows whose bytes are cut short: the statement's own walk. -/
import Derived.Test.YtifejclloapbkaaDoorOctP
namespace Go.Proofs.YtifejclloapbkaaDoor
open Go.RowKit
set_option maxRecDepth 100000

theorem tyI : SliceTy Tryd.prog 22 3 (.int .i64 0) 8 := ⟨Tryd.underlying22, by kernel_rfl, rfl, by omega⟩
/-- Rows of unlike elements are not one block's. -/
theorem own_ne {w : World} {e e' : TypeId} {v v' : Value} {xs ys : List Value} (h : Own w e v xs) (h' : Own w e' v' ys) (hne : e ≠ e') {k : Nat} (hk : own v k) (hk' : own v' k) : False := by
  rcases h'.2 with ⟨rfl, _⟩ | ⟨g, cap, cur, rfl, _, hh, _⟩
  · cases hk'
  · have : g = k := Option.some.inj hk'
    subst this
    exact h.ne_blk (t := e') hh hne hk

theorem numF_cut (f : Nat) : ∀ (i acc V c : Nat), c < (enc7 V).length → numF f i acc ((enc7 V).take c) = none := by
  induction f with
  | zero => intro i acc V c _; rfl
  | succ f ih =>
    intro i acc V c hc
    cases c with
    | zero => rfl
    | succ c =>
      by_cases hv : V < 128
      · rw [enc7_lo hv] at hc; simp at hc
      · rw [enc7_hi hv] at hc ⊢
        have e := u8_ofNat (V % 128 + 128) (by omega)
        have e2 : (UInt8.ofNat (V % 128 + 128)).toNat = V % 128 + 128 := by omega
        simp only [List.take_succ_cons, numF, e2]
        rw [if_pos (by omega)]
        exact ih _ _ _ _ (by simpa using hc)
theorem takeB_cut (p rest : List UInt8) (c : Nat) (hp : p.length ≤ 4611686018427387904) (hc : c < (enc7 p.length ++ p).length) : takeB (some ((enc7 p.length ++ p ++ rest).take c)) = ([], none) := by
  rw [List.length_append] at hc
  by_cases h1 : c < (enc7 p.length).length
  · have e : (enc7 p.length ++ p ++ rest).take c = (enc7 p.length).take c := by
      rw [List.append_assoc, List.take_append_of_le_length (by omega)]
    rw [e]
    have := numF_cut 9 0 0 p.length c h1
    unfold takeB
    simp [takeN, takeNum, this, takeRaw]
  · have e : (enc7 p.length ++ p ++ rest).take c = enc7 p.length ++ (p ++ rest).take (c - (enc7 p.length).length) := by
      rw [List.append_assoc, List.take_append, List.take_of_length_le (by omega)]
    rw [e]
    unfold takeB
    rw [takeN_enc _ _ hp]
    simp only [takeRaw]
    rw [if_pos (by right; rw [List.length_take]; omega)]
theorem takeB_fit (p rest : List UInt8) (c : Nat) (hp : p.length ≤ 4611686018427387904) (hc : (enc7 p.length ++ p).length ≤ c) : takeB (some ((enc7 p.length ++ p ++ rest).take c)) = (p, some (rest.take (c - (enc7 p.length ++ p).length))) := by
  rw [List.take_append, List.take_of_length_le hc]
  exact takeB_enc p _ hp

/-- What a Reader of the first c bytes has left behind k rows. -/
def cutSt (L : List (List UInt8)) (c k : Nat) : Option (List UInt8) :=
  if (encr (L.take k)).length ≤ c then some ((encr (L.drop k)).take (c - (encr (L.take k)).length)) else none
theorem cut_step (L : List (List UInt8)) (c k : Nat) (h : k < L.length) (hp : L[k].length ≤ 4611686018427387904) :
    takeB (cutSt L c k) = (if (encr (L.take (k + 1))).length ≤ c then L[k] else [], cutSt L c (k + 1)) := by
  have hsn := encr_snoc L k h
  have hl : (encr (L.take (k + 1))).length = (encr (L.take k)).length + (enc7 L[k].length ++ L[k]).length := by rw [hsn, List.length_append]
  unfold cutSt
  by_cases h1 : (encr (L.take k)).length ≤ c
  · rw [if_pos h1, encr_drop L k h]
    by_cases h2 : (encr (L.take (k + 1))).length ≤ c
    · rw [if_pos h2, if_pos h2, takeB_fit _ _ _ hp (by omega)]
      congr 3
      omega
    · rw [if_neg h2, if_neg h2, takeB_cut _ _ _ hp (by omega)]
  · rw [if_neg h1, if_neg (by omega), if_neg (by omega)]
    rfl
theorem cutSt_len (L : List (List UInt8)) (c k : Nat) : ((cutSt L c k).getD []).length ≤ c := by
  unfold cutSt
  split
  · simp only [Option.getD_some, List.length_take]; omega
  · simp

def endsOf (L : List (List UInt8)) (k : Nat) : List Int := (List.range k).map fun j => ((encr (L.take (j + 1))).length : Int)
theorem endsOf_snoc (L : List (List UInt8)) (k : Nat) : endsOf L (k + 1) = endsOf L k ++ [((encr (L.take (k + 1))).length : Int)] := by
  unfold endsOf; rw [List.range_succ, List.map_append]; rfl
theorem endsOf_len (L : List (List UInt8)) (k : Nat) : (endsOf L k).length = k := by simp [endsOf]
theorem len_weight (L : List (List UInt8)) : L.length ≤ weight L := by
  unfold weight
  induction L with
  | nil => simp
  | cons a L ih => simp only [List.length_cons, List.map_cons, List.sum_cons]; omega

set_option maxHeartbeats 2000000 in
theorem law_cuts {w : World} {y : Value} {L : List (List UInt8)} (hy : Rw w (fun _ => True) y L) (a : Int) (hN : Nib w) :
    Calls Tryd.prog 8 #[y, .int .i64 a] w fun e w' => e = .returned (.bool true) ∧ Ext w w' := by
  by_cases hb1 : 4000 < weight L
  · go_enter Tryd.func8, Tryd.ntmps8
    go_wp2_with fail
    refine (heavy_any hy).mono ?_; rintro e w1 ⟨rfl, rfl⟩
    rw [decide_eq_true hb1]
    go_wp2_with fail
    go_ret
    exact ⟨rfl, Mod.refl _ _⟩
  replace hy : Rw w (fun k => k < w.heap.size) y L := hy.mono (fun k hk _ => hk)
  have hy0 := hy
  obtain ⟨A, c, vs, rfl, y1, y2, y3, y4, y5, y6⟩ := hy.open_
  by_cases hb2 : L.length = 0
  · have hb2' : ((L.length : Int) == 0) = true := by simp [hb2]
    replace hb2 := Lib.hid hb2
    go_enter Tryd.func8, Tryd.ntmps8
    go_wp2_with fail
    refine (heavy_any hy).mono ?_; rintro e w1 ⟨rfl, rfl⟩
    rw [decide_eq_false hb1]
    go_wp2_with fail
    go_ret
    exact ⟨rfl, Mod.refl _ _⟩
  have hb2' : ((L.length : Int) == 0) = false := by rw [beq_eq_false_iff_ne]; omega
  have hlen := encr_len L
  have hlw := len_weight L
  go_enter Tryd.func8, Tryd.ntmps8
  go_wp2_with fail
  refine (heavy_any hy).mono ?_; rintro e w1 ⟨rfl, rfl⟩
  rw [decide_eq_false hb1]
  go_wp2_with fail
  go_loopw [5, 6, 7] (fun v u i wr => ∃ k : Nat, k ≤ L.length ∧ i = .int .i64 k ∧ Own wr 5 v ((encr (L.take k)).map bv) ∧ Own wr 3 u ((endsOf L k).map iv) ∧ Fresh w1.heap.size v ∧ Fresh w1.heap.size u ∧ Ext w1 wr) (fun _ _ i _ => L.length - (intOf i).toNat)
  case atStart => exact ⟨0, Nat.zero_le _, rfl, Own.nil _ _, Own.nil _ _, fresh_nil _ _ _, fresh_nil _ _ _, Mod.refl _ _⟩
  case round =>
    obtain ⟨k, hk, rfl, hov, hou, hfv, hfu, hm⟩ := hrel
    by_cases hlt : k < L.length
    · obtain ⟨ad, x, rfl, hc, hbs⟩ := row_now y4 y5 y6 hm (fun _ _ _ h => h) hlt
      have hlk := len_le_weight L k hlt
      have hle1 := encr_take L (k + 1)
      have hsn := Lib.hid (encr_snoc L k hlt)
      have hsl : (encr (L.take (k + 1))).length = (encr (L.take k)).length + (enc7 L[k].length ++ L[k]).length := by rw [hsn.out, List.length_append]
      have hle2 : (encr (L.take k)).length + (enc7 L[k].length ++ L[k]).length ≤ 40000 := by omega
      go_wp2_with fail
      refine (rbytes_any (hbs.ext hm) (by omega)).mono ?_
      rintro e w2 ⟨x2, rfl, m1, m2, m3⟩
      have hx2 := ext_trans hm m3
      have hov2 := hov.mod m3 (fun _ _ h => h)
      have hou2 := hou.mod m3 (fun _ _ h => h)
      have hs2 := hm.size
      have hs3 := m3.size
      clear m3 hm hov hou
      obtain ⟨el, hel⟩ : ∃ el, el = (encr (L.take (k + 1))).length := ⟨_, rfl⟩
      rw [← hel] at hsl
      have helb : el ≤ 40000 := by omega
      replace hsl := Lib.hid hsl
      replace hel := Lib.hid hel
      go_wp2_with (first
        | ((with_reducible show wpList _ _ _ (⟨some 31, _, _, _, _, _⟩ :: _) _ _); refine wp_app tyB hov2 m1.sl (bv_one _) rfl (.tmp 25) (.tmp 30) rfl rfl rfl ?hn ?_; rotate_right; intro v3 w3 hov3 hmod3 hnx3; rw [← List.map_append, ← hsn.out] at hov3; have hx3 := ext_app0 hx2 hfv hmod3; have hfv3 : Fresh w1.heap.size v3 := hnx3.fresh hfv (by omega); have hou3 := hou2.mod hmod3 (fun j hj h => own_ne hou2 hov2 (by decide) hj h); have hs4 := hmod3.size; clear hmod3 hnx3; obtain ⟨A4, c4, rfl⟩ := hov3.shape; rw [List.length_map, ← hel.out] at hov3 hfv3 ⊢)
        | ((with_reducible show wpList _ _ _ (⟨some 36, _, _, _, _, _⟩ :: _) _ _); refine wp_app tyI (hou3.alloc _) (Sl.one _ _ _) (by simp [Value.oneCell']) rfl (.tmp 32) (.tmp 35) rfl rfl rfl ?hn2 ?_; rotate_right; intro v5 w5 hou5 hmod5 hnx5))
      case hn => simp only [List.length_map]; omega
      case hn2 => simp only [List.length_map, endsOf_len, List.length_singleton]; omega
      have hx5 := ext_app hx3 hfu hmod5
      have hov5 := (hov3.alloc (.cells #[.int .i64 el] 3)).mod hmod5 (fun j hj h => own_ne (hou3.alloc (.cells #[.int .i64 el] 3)) (hov3.alloc (.cells #[.int .i64 el] 3)) (by decide) h hj)
      refine ⟨⟨k + 1, by omega, by go_num, hov5, ?_, hfv3, hnx5.fresh hfu (by simp; omega), hx5⟩, by simp [intOf]; omega⟩
      rw [endsOf_snoc, List.map_append]
      rw [hel.out] at hou5
      exact hou5
    · have hLk : L.take k = L := List.take_of_length_le (by omega)
      have hkL : k = L.length := by omega
      rw [hLk] at hov
      rw [hkL] at hou
      clear hLk
      have hand := i64_and30 a
      have ha0 : 0 ≤ a % 1073741824 := Int.emod_nonneg _ (by omega)
      obtain ⟨r, hr⟩ : ∃ r : Nat, a % 1073741824 = (r : Int) := Int.eq_ofNat_of_zero_le ha0
      rw [hr] at hand
      clear hr ha0
      have hpos : 0 < (encr L).length := by
        have h0 : 0 < L.length := by omega
        have h1 := encr_take L 1
        have h2 := encr_snoc L 0 h0
        have h3 := enc7_pos L[0].length
        rw [h2] at h1
        simp only [List.length_append] at h1
        omega
      obtain ⟨N, hNe⟩ : ∃ N, N = (encr L).length := ⟨_, rfl⟩
      obtain ⟨A4, c4, rfl⟩ := hov.shape
      have hcap := own_cap hov
      rw [List.length_map] at hov hfv hcap ⊢
      rw [← hNe] at hov hfv hpos hlen hcap ⊢
      have hNb : N ≤ 40000 := by omega
      obtain ⟨i, hi⟩ : ∃ i, i = r % N := ⟨_, rfl⟩
      have hil : i < N := by rw [hi]; exact Nat.mod_lt _ hpos
      have hmod : (r : Int) % (N : Int) = (i : Int) := by rw [hi]; rfl
      have hmod2 : Int.tmod (r : Int) (N : Int) = (i : Int) := by rw [hi]; rfl
      clear hi
      replace hNe := Lib.hid hNe
      replace hkL := Lib.hid hkL
      go_wp2_with fail
      have hbov : Bs wr (own (.slice A4 N c4)) (.slice A4 (encr L).length c4) (encr L) := by rw [← hNe.out]; exact hov.sl
      have hbi := Bs.begin hbov (m := i) (by rw [← hNe.out]; omega)
      refine (newreader_any hbi (by rw [List.length_take]; omega)).mono ?_
      rintro e w2 ⟨b8, v8, rfl, r1, r2, r3, r4⟩
      have hx2 := ext_trans hm r4
      have hou2 := hou.mod r4 (fun _ _ h => h)
      have houl : ∀ j, own u6 j → j < wr.heap.size := fun j hj => hou.lt hj
      have hT : ∀ k, (fun k => k = wr.heap.size) k → k < b8 := fun k hk => by have : k = wr.heap.size := hk; omega
      have hs1 := hm.size
      have hb8 : wr.heap.size < b8 := r2
      have hTl : ∀ k, (fun k => k = wr.heap.size) k → wr.heap.size ≤ k := fun k hk => by have : k = wr.heap.size := hk; omega
      clear r2 r3 r4 hbi hbov hov hou hm hfv
      have hst0 : some ((encr L).take i) = cutSt L i 0 := by
        unfold cutSt
        simp [encr]
      rw [hst0] at r1
      have hends : ∀ j, j < L.length → (endsOf L L.length)[j]? = some ((encr (L.take (j + 1))).length : Int) := fun j hj => by
        unfold endsOf
        rw [List.getElem?_map, List.getElem?_range hj]; rfl
      generalize (fun k => k = wr.heap.size) = T at *
      obtain ⟨g, cu, rfl, hg⟩ : ∃ g cu, u6 = .slice (some ⟨g, 0, none⟩) L.length cu ∧ w1.heap.size ≤ g := by
        rcases hou2.form with ⟨_, h⟩ | ⟨g, cap, h, _⟩
        · have h9 : ((endsOf L L.length).map iv).length = 0 := by rw [h]; rfl
          rw [List.length_map, endsOf_len] at h9; omega
        · rw [List.length_map, endsOf_len] at h
          exact ⟨g, cap, h, hfu g (by rw [h]; rfl)⟩
      have hcu := own_cap hou2
      rw [List.length_map, endsOf_len] at hcu
      have hgw : g < wr.heap.size := houl g rfl
      go_wp2_with fail
      go_loopw [10] (fun ii wq => ∃ (k : Nat) (v' : Value), k ≤ L.length ∧ ii = .int .i64 k ∧ Rd wq b8 T v' (cutSt L i k) ∧ Own wq 3 (.slice (some ⟨g, 0, none⟩) L.length cu) ((endsOf L L.length).map iv) ∧ Ext w1 wq) (fun ii _ => L.length - (intOf ii).toNat)
      case atStart => exact ⟨0, v8, Nat.zero_le _, rfl, r1, hou2, hx2⟩
      case round =>
        clear r1 hou2 hx2 hst0
        obtain ⟨k, v', hk, rfl, hrd, hou, hm⟩ := hrel
        have hsq := hm.size
        by_cases hlt : k < L.length
        · obtain ⟨ad, x, rfl, hc, hbs⟩ := row_now y4 y5 y6 hm (fun _ _ _ h => h) hlt
          have hadw : ad.block < w1.heap.size := by
            obtain ⟨ad', x', e, hs, _⟩ := row_at y4 y5 y6 hlt
            injection e with e
            rw [e]; exact hs
          have hlk := len_le_weight L k hlt
          have hst := Lib.hid (cut_step L i k hlt (by omega))
          have hcl := cutSt_len L i k
          have hrl := hrd.blk.lt
          go_wp2_with fail
          refine (bytes_any hrd (by omega)).mono ?_
          rintro e w11 ⟨v9, p9, rfl, q1, q2, q3, q4⟩
          rw [hst.out] at q1 q2
          have hx11 : Ext w1 w11 := hm.trans q4 (fun _ _ h => h) (fun j hj h => by omega)
          have hou11 := hou.mod q4 (fun j hj h => by have : g = j := Option.some.inj hj; omega)
          have hc11 : w11.cell? (ad.add k) = some x := (q4.cell (p := ad.add k) (lt_of_cell hc) (fun h => by rw [block_of_add] at h; omega)).trans hc
          have hce : w11.cell? ⟨g, k, none⟩ = some (.int .i64 ((encr (L.take (k + 1))).length : Nat)) := by
            have h1 := hou11.cellAt (j := k) (by rw [List.length_map, endsOf_len]; exact hlt)
            have h2 := hends k hlt
            rw [List.getElem_map] at h1
            rw [List.getElem?_eq_getElem (by rw [endsOf_len]; exact hlt)] at h2
            rw [h1, Option.some.inj h2]
          clear hrd hm hou q4 hc
          obtain ⟨E, hE⟩ : ∃ E, E = (encr (L.take (k + 1))).length := ⟨_, rfl⟩
          rw [← hE] at hce q2
          by_cases hcut : E ≤ i
          · have hs1 : cutSt L i (k + 1) = some ((encr (L.drop (k + 1))).take (i - E)) := by
              unfold cutSt
              rw [if_pos (by omega), hE]
            rw [if_pos hcut] at q2
            replace hE := Lib.hid hE
            go_wp2_with fail
            refine (same_any q2.sl (hbs.ext hx11)).mono ?_
            rintro e w12 ⟨rfl, n12, hw12⟩
            have hm12 : Ext w11 w12 := by rw [hw12]; exact (Mod.refl _ w11).drewN n12
            have hx12 := ext_trans hx11 hm12
            have q12 := q1.mod hm12 (fun h => h) (fun _ _ _ h => h)
            have hou12 := hou11.mod hm12 (fun _ _ h => h)
            clear hw12 hm12 q2 q1 hx11 hc11 hou11
            rw [decide_eq_true (rfl : L[k] = L[k])]
            go_wp2_with fail
            refine (good_any q12).mono ?_; rintro e w13 ⟨rfl, rfl⟩
            rw [hs1, Option.isSome_some]
            replace hs1 := Lib.hid hs1
            go_wp2_with fail
            exact ⟨⟨k + 1, v9, by omega, by go_num, q12, hou12, hx12⟩, by simp [intOf]; omega⟩
          · have hs1 : cutSt L i (k + 1) = none := by
              unfold cutSt
              rw [if_neg (by omega)]
            rw [if_neg hcut] at q2
            replace hE := Lib.hid hE
            obtain ⟨A9, c9, rfl⟩ := q2.shape
            simp only [List.map_nil, List.length_nil] at q2 q3 ⊢
            go_wp2_with fail
            refine (good_any q1).mono ?_; rintro e w13 ⟨rfl, rfl⟩
            rw [hs1, Option.isSome_none]
            go_wp2_with fail
            refine (left_any q1).mono ?_; rintro e w13 ⟨rfl, rfl⟩
            rw [hs1]
            replace hs1 := Lib.hid hs1
            simp only [Option.getD_none, List.length_nil]
            go_wp2_with fail
            exact ⟨⟨k + 1, v9, by omega, by go_num, q1, hou11, hx11⟩, by simp [intOf]; omega⟩
        · have hkn : k = L.length := by omega
          have hs1 : cutSt L i k = none := by
            unfold cutSt
            rw [List.take_of_length_le (by omega), if_neg (by rw [← hNe.out]; omega)]
          rw [hs1] at hrd
          replace hs1 := Lib.hid hs1
          replace hkn := Lib.hid hkn
          go_wp2_with fail
          refine (whole_any hrd).mono ?_; rintro e w11 ⟨rfl, rfl⟩
          rw [show isWhole none = false from rfl]
          go_wp2_with fail
          refine (num_any hrd).mono ?_; rintro e w12 ⟨v9, rfl, q1, q2, q3⟩
          have hx12 : Ext w1 w12 := hm.trans q2 (fun _ _ h => h) (fun j hj h => by omega)
          rw [show (takeN none).1 = 0 from rfl]
          go_wp2_with fail
          refine (known_any (hN.mod hx12 (fun h => h))).mono ?_; rintro e w15 ⟨rfl, hx15⟩
          go_wp2_with fail
          go_ret
          exact ⟨rfl, ext_trans hx12 hx15⟩
end Go.Proofs.YtifejclloapbkaaDoor
