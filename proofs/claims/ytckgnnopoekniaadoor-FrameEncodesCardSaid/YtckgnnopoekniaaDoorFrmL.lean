/- frame: of records that are cut short anywhere Scan tells those that are whole: the statement's own walk. -/
import Derived.Test.YtckgnnopoekniaaDoorFrmK
namespace Go.Proofs.YtckgnnopoekniaaDoor
open Go.RowKit
set_option maxRecDepth 100000

theorem tyI : SliceTy Tryd.prog 44 3 (.int .i64 0) 8 := ⟨Tryd.underlying44, by kernel_rfl, rfl, by omega⟩
/-- Where the first k records end. -/
def endsOf (L : List (List UInt8)) (k : Nat) : List Int := (List.range k).map (fun j => ((frecs (L.take (j + 1))).length : Int))
theorem endsOf_snoc (L : List (List UInt8)) (k : Nat) : endsOf L (k + 1) = endsOf L k ++ [((frecs (L.take (k + 1))).length : Int)] := by
  unfold endsOf
  rw [List.range_succ, List.map_append]
  rfl
theorem endsOf_len (L : List (List UInt8)) (k : Nat) : (endsOf L k).length = k := by simp [endsOf]
theorem endsOf_get (L : List (List UInt8)) (k j : Nat) (h : j < k) : (endsOf L k)[j]? = some ((frecs (L.take (j + 1))).length : Int) := by
  unfold endsOf
  rw [List.getElem?_map, List.getElem?_range h]
  rfl
theorem frecs_many (L : List (List UInt8)) : ∀ k, k ≤ L.length → 12 * k ≤ (frecs (L.take k)).length
  | 0, _ => by simp
  | k + 1, h => by
    rw [frecs_snoc L k (by omega), List.length_append, frec_len]
    have := frecs_many L k (by omega)
    omega

set_option maxHeartbeats 4000000 in
theorem law_tears {w : World} {y : Value} {L : List (List UInt8)} (hy : Rw w (fun _ => True) y L) (a : Int) (hN : Nib w) :
    Calls Tryd.prog 6 #[y, .int .i64 a] w fun e w' => e = .returned (.bool true) ∧ Ext w w' := by
  have hy0 := hy
  obtain ⟨A, c, vs, rfl, h1, h2, h3, h4, h5, h6⟩ := hy.open_
  clear hy
  go_enter Tryd.func6, Tryd.ntmps6
  go_wp2_with fail
  go_loopw [5, 6, 7] (fun v u i wr => ∃ k : Nat, k ≤ L.length ∧ i = .int .i64 k ∧ Own wr 5 v ((frecs (L.take k)).map bv) ∧ Own wr 3 u ((endsOf L k).map iv) ∧ Fresh w.heap.size v ∧ Fresh w.heap.size u ∧ Ext w wr ∧ Hid ((frecs (L.take k)).length ≤ 4000) ∧ Hid (∀ p ∈ L.take k, p.length ≤ 4000)) (fun _ _ i _ => L.length - (intOf i).toNat)
  case atStart => exact ⟨0, Nat.zero_le _, rfl, Own.nil _ _, Own.nil _ _, fresh_nil _ _ _, fresh_nil _ _ _, Mod.refl _ _, Lib.hid (by simp [frecs]), Lib.hid (by simp)⟩
  case round =>
    obtain ⟨k, hk, rfl, hown, hownE, hf, hfE, hx, hle, hall⟩ := hrel
    by_cases hlt : k < L.length
    · obtain ⟨ad, x, rfl, hs, hc, hbs⟩ := row_at h4 (h5.mod hx (fun _ _ _ h => h)) (fun k x l hx1 hl => (h6 k x l hx1 hl).ext hx) hlt
      have hsn := frecs_snoc L k hlt
      have hmany := frecs_many L k hk
      have hall2 : ∀ p ∈ L.take (k + 1), p.length ≤ 4000 ∨ p = L[k] := fun p hp => by
        rw [List.take_succ_eq_append_getElem hlt, List.mem_append] at hp
        rcases hp with hp | hp
        · exact .inl (hall.out p hp)
        · exact .inr (by simpa using hp)
      generalize L[k] = p at *
      obtain ⟨A1, c1, rfl, y1, y2, y3, y4⟩ := hbs.open_
      by_cases hbig : 4000 < p.length
      · clear hsn hall2
        go_wp2_with fail
        go_ret
        exact ⟨rfl, hx⟩
      replace hall2 : Hid (∀ p ∈ L.take (k + 1), p.length ≤ 4000) := Lib.hid (fun q hq => by
        rcases hall2 q hq with h | h
        · exact h
        · rw [h]; omega)
      have hle9 := hle.out
      have hk333 : k ≤ 400 := by omega
      clear hmany
      generalize frecs (L.take k) = pre at *
      have hes := endsOf_snoc L k
      have hel := endsOf_len L k
      obtain ⟨nxt, hnx⟩ : ∃ n, n = frecs (L.take (k + 1)) := ⟨_, rfl⟩
      rw [← hnx] at hsn hes
      replace hnx := Lib.hid hnx
      generalize endsOf L k = es at *
      replace hes := Lib.hid hes
      have hfl := frec_len p
      replace hsn := Lib.hid hsn
      go_wp2_with fail
      refine (encode_any (Rw.one 23 hbs) (hN.mod (Mod.alloc hx _) (fun h => h)) (by simp; omega)).mono ?_
      rintro e w1 ⟨v1, rfl, g1, g2, g3⟩
      rw [show ([p] : List (List UInt8)).flatten = p by simp] at g1
      have hx1a : Ext wr w1 := ext_trans ((Mod.refl _ wr).alloc _) g3
      have hx1 := ext_trans hx hx1a
      have hown1 := hown.mod hx1a (fun _ _ h => h)
      have hownE1 := hownE.mod hx1a (fun _ _ h => h)
      generalize frec p = fr at *
      have hn1 : ((pre.map bv).length + (fr.map bv).length) * 1 ≤ 140737488355328 := by rw [List.length_map, List.length_map, hfl]; omega
      replace hn1 := Lib.hid hn1
      replace hfl := Lib.hid hfl
      have hn2 : ((es.map iv).length + ([iv (nxt.length : Int)] : List Value).length) * 8 ≤ 140737488355328 := by rw [List.length_map, hel]; simp; omega
      replace hn2 := Lib.hid hn2
      obtain ⟨A2, c2, rfl⟩ := g1.shape
      obtain ⟨A3, c3, rfl⟩ := hown1.shape
      obtain ⟨A8, c8, rfl⟩ := hownE1.shape
      clear g2 g3 hown hownE
      simp only [List.length_map] at hown1 hf g1 hownE1 hfE ⊢
      rw [hel] at hownE1 hfE ⊢
      replace hel := Lib.hid hel
      have hg1 := g1.sl
      have ho := one_ok (iv (nxt.length : Int)) rfl
      go_wp2_with (first
        | ((with_reducible show wpList _ _ _ (⟨some 40, _, _, _, _, _⟩ :: _) _ _); refine wp_app tyB hown1 hg1 (bv_one _) rfl (.tmp 38) (.tmp 39) rfl rfl rfl hn1.out ?_; intro v4 w4 q1 q2 q3; rw [← List.map_append, ← hsn.out] at q1; have hf4 := q3.fresh hf hx1.size; have hx4 := ext_app0 hx1 hf q2; have hownE4 := hownE1.mod q2 (fun kk hk1 hk2 => own_ne hown1 hownE1 (by decide) hk2 hk1); obtain ⟨A4, c4, rfl⟩ := q1.shape; simp only [List.length_map] at q1 hf4 ⊢; clear q2 q3)
        | ((with_reducible show wpList _ _ _ (⟨some 48, _, _, _, _, _⟩ :: _) _ _); refine wp_app tyI (hownE4.alloc _) (Sl.one w4 3 (iv (nxt.length : Int))) ho rfl (.tmp 44) (.tmp 47) rfl rfl rfl hn2.out ?_; intro v5 w5 r1 r2 r3))
      case roundEnd =>
        rename_i hn4
        have hf5 := (r3.sooner (B' := w4.heap.size) (by simp)).fresh hfE hx4.size
        exact ⟨⟨k + 1, by omega, by go_num, by rw [← hnx.out]; exact (q1.alloc _).mod r2 (fun kk hk1 hk2 => own_ne hownE4 q1 (by decide) hk2 hk1), by rw [hes.out, List.map_append]; exact r1, hf4, hf5, ext_app hx4 hfE r2, Lib.hid (by rw [← hnx.out]; omega), hall2⟩, by simp [intOf] <;> omega⟩
      go_ret
      exact ⟨rfl, hx4⟩
    · rw [List.take_of_length_le (by omega)] at hown hle hall
      obtain rfl : k = L.length := by omega
      have hle9 := hle.out
      have hand := i64_and30 a
      have ha0 : 0 ≤ a % 1073741824 := Int.emod_nonneg _ (by omega)
      have ha1 : a % 1073741824 < 1073741824 := Int.emod_lt_of_pos _ (by omega)
      obtain ⟨r, hr⟩ : ∃ r : Nat, a % 1073741824 = (r : Int) := Int.eq_ofNat_of_zero_le ha0
      rw [hr] at hand ha0 ha1
      clear hr
      obtain ⟨all, hall0⟩ : ∃ all, all = frecs L := ⟨_, rfl⟩
      rw [← hall0] at hown hle9
      replace hall0 := Lib.hid hall0
      obtain ⟨q, hq⟩ : ∃ q, q = r % (all.length + 1) := ⟨_, rfl⟩
      have hql : q < all.length + 1 := by rw [hq]; exact Nat.mod_lt _ (by omega)
      have hmod2 : Int.tmod (r : Int) ((all.length : Int) + 1) = (q : Int) := by rw [hq]; rfl
      have hmod : (r : Int) % ((all.length : Int) + 1) = (q : Int) := by rw [hq]; rfl
      have hb3 : ((all.length : Int) + 1 == 0) = false := by rw [beq_eq_false_iff_ne]; omega
      clear hq ha0 ha1
      have hel := endsOf_len L L.length
      obtain ⟨A3, c3, rfl⟩ := hown.shape
      obtain ⟨A8, c8, rfl⟩ := hownE.shape
      simp only [List.length_map] at hown hf hownE hfE ⊢
      rw [hel] at hownE hfE ⊢
      clear hle hel
      go_wp2_with fail
      have hE : ∀ k : Nat, k < L.length → ∃ ad, A8 = some ad ∧ True ∧ wr.cell? (ad.add k) = some (.int .i64 ((frecs (L.take (k + 1))).length : Int)) := fun k hk => by
        obtain ⟨A', c', e', _, _, _, hcs⟩ := hownE.sl
        injection e' with e'
        obtain ⟨ad, h1, _, h3⟩ := hcs k (iv ((frecs (L.take (k + 1))).length : Int)) (by rw [List.getElem?_map, endsOf_get L L.length k hk]; rfl)
        exact ⟨ad, e'.trans h1, trivial, h3⟩
      have hq0 : q ≤ all.length := by omega
      have hcap3 : all.length ≤ c3 := by have := own_cap hown; rw [List.length_map] at this; exact this
      have hqc : (q : Int) ≤ (c3 : Int) := by omega
      have hpl : (all.take q).length ≤ 1000000 := by rw [List.length_take]; omega
      have hpre : Bs wr (own (.slice A3 q c3)) (.slice A3 q c3) (all.take q) := by
        have := (hown.begin (m := q) (by rw [List.length_map]; omega)).sl
        rw [← List.map_take] at this
        exact this
      have hcut : ∀ n, n ≤ L.length → (frecs (L.take n)).length ≤ q → (n < L.length → q < (frecs (L.take (n + 1))).length) → scan (all.take q) = (L.take n, (frecs (L.take n)).length) := fun n hn1 hn2 hn3 => by
        rw [hall0.out]
        exact scan_cut L q n hn1 (fun p hp => by have := hall.out p hp; omega) hn2 hn3 (by rw [← hall0.out]; exact hq0)
      replace hcut := Lib.hid hcut
      have hyp0 : ∀ n, n ≤ L.length → Rw w (fun _ => True) (.slice A n c) (L.take n) := fun n hn => by
        have hl2 : (vs.take n).length = n := by rw [List.length_take]; omega
        refine ⟨vs.take n, by rw [hl2, List.length_take]; omega, ⟨A, c, by rw [hl2], by rw [hl2]; omega, by simpa [maxLen] using h2, h3, h5.take n⟩, fun k x l hx1 hl => ?_⟩
        have hkn : k < n := by
          rcases Nat.lt_or_ge k n with h | h
          · exact h
          · rw [List.getElem?_eq_none (by rw [hl2]; exact h)] at hx1; cases hx1
        rw [List.getElem?_take, if_pos hkn] at hx1 hl
        exact h6 k x l hx1 hl
      replace hyp0 := Lib.hid hyp0
      replace hE := Lib.hid hE
      clear hown hownE hf hfE hmod2 hmod hand hb3 hlt hk
      go_loop [11] (fun i => ∃ n : Nat, n ≤ L.length ∧ i = .int .i64 n ∧ Hid ((frecs (L.take n)).length ≤ q)) (fun i => L.length - (intOf i).toNat)
      case atStart => exact ⟨0, Nat.zero_le _, rfl, Lib.hid (by simp [frecs])⟩
      case round =>
        obtain ⟨n, hn, rfl, hnq⟩ := hrel
        by_cases hnl : n < L.length
        · obtain ⟨ade, hAe, _, hce⟩ := hE.out n hnl
          subst hAe
          have hni : (n : Int) < (L.length : Int) := by omega
          by_cases hgo : (frecs (L.take (n + 1))).length ≤ q
          · have hgh := Lib.hid hgo
            obtain ⟨fx, hfx⟩ : ∃ fx, fx = (frecs (L.take (n + 1))).length := ⟨_, rfl⟩
            rw [← hfx] at hce hgo
            replace hfx := Lib.hid hfx
            go_wp2_with fail
            exact ⟨⟨n + 1, by omega, by go_num, hgh⟩, by simp [intOf] <;> omega⟩
          · have hsc := hcut.out n hn hnq.out (fun _ => by omega)
            obtain ⟨fx, hfx⟩ : ∃ fx, fx = (frecs (L.take (n + 1))).length := ⟨_, rfl⟩
            rw [← hfx] at hce hgo
            replace hfx := Lib.hid hfx
            have hyp := hyp0.out n hn
            have hlt2 : Hid ((L.take n).length = n) := Lib.hid (by rw [List.length_take]; omega)
            by_cases hn0 : n = 0
            · subst hn0
              have hz0 : (frecs (L.take 0)).length = 0 := by simp [frecs]
              rw [hz0] at hsc
              replace hsc := Lib.hid hsc
              clear hz0
              rw [show ade.add 0 = ade by simp [Addr.add]] at hce
              go_wp2_with fail
              refine (scan_any hpre (hN.mod hx (fun h => h)) hpl).mono ?_
              rintro e w1 ⟨v1, rfl, ⟨vs1, g1⟩, g2⟩
              rw [hsc.out] at g1 ⊢
              have hx1 := ext_trans hx g2
              obtain ⟨A5, c5, rfl⟩ := g1.own.shape
              have hlen1 := g1.len
              rw [hlen1, hlt2.out] at g1 ⊢
              have hr1 := g1.rw
              have hyp1 := hyp.mod hx1 (fun _ _ _ h => h)
              simp only
              clear g1 hlen1
              go_wp2_with fail
              refine (rows_any hr1 hyp1).mono ?_
              rintro e w2 ⟨rfl, n2, hw2⟩
              rw [decide_eq_true (rfl : L.take 0 = L.take 0)]
              have hx2 : Ext w w2 := by rw [hw2]; exact hx1.drewN n2
              clear hw2 hr1 hyp1
              go_wp2_with fail
              refine (known2_any (hN.mod hx2 (fun h => h))).mono ?_
              rintro e w7 ⟨rfl, hx7⟩
              go_wp2_with fail
              go_ret
              exact ⟨rfl, ext_trans hx2 hx7⟩
            · obtain ⟨m, hm⟩ : ∃ m, n = m + 1 := ⟨n - 1, by omega⟩
              have hmi : (n : Int) - 1 = (m : Int) := by omega
              have hd0 : decide ((0 : Int) < (n : Int)) = true := by rw [decide_eq_true_eq]; omega
              obtain ⟨adf, hAf, _, hcf⟩ := hE.out m (by omega)
              have hml : (m : Int) < (L.length : Int) := by omega
              rw [← hm] at hcf
              obtain ⟨fm, hfm⟩ : ∃ fm, fm = (frecs (L.take n)).length := ⟨_, rfl⟩
              rw [← hfm] at hcf hsc
              replace hsc := Lib.hid hsc
              clear hm hn0 hfm
              obtain rfl : ade = adf := Option.some.inj hAf
              go_wp2_with fail
              refine (scan_any hpre (hN.mod hx (fun h => h)) hpl).mono ?_
              rintro e w1 ⟨v1, rfl, ⟨vs1, g1⟩, g2⟩
              rw [hsc.out] at g1 ⊢
              have hx1 := ext_trans hx g2
              obtain ⟨A5, c5, rfl⟩ := g1.own.shape
              have hlen1 := g1.len
              rw [hlen1, hlt2.out] at g1 ⊢
              have hr1 := g1.rw
              have hcf2 := (g2.cell (lt_of_cell hcf) (fun h => h)).trans hcf
              have hyp1 := hyp.mod hx1 (fun _ _ _ h => h)
              simp only
              clear g1 hlen1
              go_wp2_with fail
              refine (rows_any hr1 hyp1).mono ?_
              rintro e w2 ⟨rfl, n2, hw2⟩
              rw [decide_eq_true (rfl : L.take n = L.take n)]
              have hx2 : Ext w w2 := by rw [hw2]; exact hx1.drewN n2
              clear hw2 hr1 hyp1
              go_wp2_with fail
              refine (known2_any (hN.mod hx2 (fun h => h))).mono ?_
              rintro e w7 ⟨rfl, hx7⟩
              go_wp2_with fail
              go_ret
              exact ⟨rfl, ext_trans hx2 hx7⟩
        · have hsc := hcut.out n hn hnq.out (fun h => absurd h hnl)
          have hnL : (n : Int) = (L.length : Int) := by omega
          have hnd : decide ((n : Int) < (L.length : Int)) = false := by rw [decide_eq_false_iff_not]; omega
          clear hnL
          have hyp := hyp0.out n hn
          have hlt2 : Hid ((L.take n).length = n) := Lib.hid (by rw [List.length_take]; omega)
          by_cases hn0 : n = 0
          · subst hn0
            have hz0 : (frecs (L.take 0)).length = 0 := by simp [frecs]
            rw [hz0] at hsc
            replace hsc := Lib.hid hsc
            clear hz0
            go_wp2_with fail
            refine (scan_any hpre (hN.mod hx (fun h => h)) hpl).mono ?_
            rintro e w1 ⟨v1, rfl, ⟨vs1, g1⟩, g2⟩
            rw [hsc.out] at g1 ⊢
            have hx1 := ext_trans hx g2
            obtain ⟨A5, c5, rfl⟩ := g1.own.shape
            have hlen1 := g1.len
            rw [hlen1, hlt2.out] at g1 ⊢
            have hr1 := g1.rw
            have hyp1 := hyp.mod hx1 (fun _ _ _ h => h)
            simp only
            clear g1 hlen1
            go_wp2_with fail
            refine (rows_any hr1 hyp1).mono ?_
            rintro e w2 ⟨rfl, n2, hw2⟩
            rw [decide_eq_true (rfl : L.take 0 = L.take 0)]
            have hx2 : Ext w w2 := by rw [hw2]; exact hx1.drewN n2
            clear hw2 hr1 hyp1
            go_wp2_with fail
            refine (known2_any (hN.mod hx2 (fun h => h))).mono ?_
            rintro e w7 ⟨rfl, hx7⟩
            go_wp2_with fail
            go_ret
            exact ⟨rfl, ext_trans hx2 hx7⟩
          · obtain ⟨m, hm⟩ : ∃ m, n = m + 1 := ⟨n - 1, by omega⟩
            have hmi : (n : Int) - 1 = (m : Int) := by omega
            have hd0 : decide ((0 : Int) < (n : Int)) = true := by rw [decide_eq_true_eq]; omega
            obtain ⟨adf, hAf, _, hcf⟩ := hE.out m (by omega)
            have hml : (m : Int) < (L.length : Int) := by omega
            rw [← hm] at hcf
            obtain ⟨fm, hfm⟩ : ∃ fm, fm = (frecs (L.take n)).length := ⟨_, rfl⟩
            rw [← hfm] at hcf hsc
            replace hsc := Lib.hid hsc
            clear hm hn0 hfm
            subst hAf
            go_wp2_with fail
            refine (scan_any hpre (hN.mod hx (fun h => h)) hpl).mono ?_
            rintro e w1 ⟨v1, rfl, ⟨vs1, g1⟩, g2⟩
            rw [hsc.out] at g1 ⊢
            have hx1 := ext_trans hx g2
            obtain ⟨A5, c5, rfl⟩ := g1.own.shape
            have hlen1 := g1.len
            rw [hlen1, hlt2.out] at g1 ⊢
            have hr1 := g1.rw
            have hcf2 := (g2.cell (lt_of_cell hcf) (fun h => h)).trans hcf
            have hyp1 := hyp.mod hx1 (fun _ _ _ h => h)
            simp only
            clear g1 hlen1
            go_wp2_with fail
            refine (rows_any hr1 hyp1).mono ?_
            rintro e w2 ⟨rfl, n2, hw2⟩
            rw [decide_eq_true (rfl : L.take n = L.take n)]
            have hx2 : Ext w w2 := by rw [hw2]; exact hx1.drewN n2
            clear hw2 hr1 hyp1
            go_wp2_with fail
            refine (known2_any (hN.mod hx2 (fun h => h))).mono ?_
            rintro e w7 ⟨rfl, hx7⟩
            go_wp2_with fail
            go_ret
            exact ⟨rfl, ext_trans hx2 hx7⟩
end Go.Proofs.YtckgnnopoekniaaDoor
