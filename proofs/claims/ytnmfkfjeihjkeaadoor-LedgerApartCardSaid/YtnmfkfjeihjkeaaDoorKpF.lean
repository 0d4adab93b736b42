/- keep: KeepLast. -/
import Derived.Test.YtnmfkfjeihjkeaaDoorKpE
namespace Go.Proofs.YtnmfkfjeihjkeaaDoor
open Go.RowKit Go.Maps Go.WideMaps
set_option maxRecDepth 100000

/-- Rows that a law was handed: their blocks were there at first. -/
theorem Rw.old {w : World} {v : Value} {P : Tx} (h : Rw w (fun _ => True) v P) : Rw w (fun k => k < w.heap.size) v P := by
  obtain ⟨vs, h1, h2, h3⟩ := h
  exact ⟨vs, h1, h2.mono (fun k hk _ => hk), fun k x l hx hl => (h3 k x l hx hl).mono (fun k hk _ => hk)⟩
theorem hold_fuse {w0 wj : World} {v : Value} {d : Ds} (H : Hold w0 wj v d) (n : Nat) (hn : n ≤ 1000) :
    Calls Tryd.prog 24 #[v, .int .i64 (n : Int)] wj fun e w' => e = .returned (.tuple #[]) ∧ Hold w0 w' v { d with fu := true, left := n } := by
  refine (held_call (d' := { d with fu := true, left := n }) H (Mod.refl _ _) fun U _ hdk => ?_).mono fun e w' ⟨h1, h2, _⟩ => ⟨h1, h2⟩
  obtain ⟨bd, bm, D, G, rfl, h⟩ := hdk
  refine (fuse_any h n (by omega)).mono fun e w' ⟨h1, h2, h3⟩ => ⟨h1, ⟨bd, bm, D, G, rfl, ?_⟩, h3.mono fun k _ hk => hk ▸ h.sd⟩
  have e2 : fuseD d (n : Int) = { d with fu := true, left := n } := by
    unfold fuseD
    rw [dtrue (show (0 : Int) ≤ (n : Int) by omega)]
    simp
  rw [← e2]
  exact h2.mono fun k _ hk => .inl hk
/-- The one file, behind k rows that were saved. -/
def lastL (P : Tx) : Nat → Fis
  | 0 => []
  | k + 1 => [⟨[102], frec (P.getD k []), (frec (P.getD k [])).length⟩]
theorem lastL_rise (P : Tx) (k : Nat) : Rise (lastL P k) := by cases k <;> simp [lastL, Rise, nms, riseT]
theorem lastL_one (P : Tx) (k : Nat) : getF (lastL P k) ([102] ++ [126]) = none := by cases k <;> rfl
theorem lastL_put (P : Tx) (k : Nat) (hk : k < P.length) : putF (lastL P k) ⟨[102], frec P[k], (frec P[k]).length⟩ = lastL P (k + 1) := by
  have e : P.getD k [] = P[k] := by simp [List.getD, hk]
  cases k with
  | zero => simp only [lastL, putF, e]
  | succ k => simp only [lastL, putF, if_pos, e]
theorem getD_le {P : Tx} (k : Nat) (h : tot P ≤ 5000) : (P.getD k []).length ≤ 5000 := by
  rcases Nat.lt_or_ge k P.length with hk | hk
  · have e : P.getD k [] = P[k] := by simp [List.getD, hk]
    have h1 := tot_snoc P k hk
    have h2 := tot_le P (k + 1)
    rw [e]
    simp only [tot] at *
    omega
  · have e : P.getD k [] = [] := by simp [List.getD, hk]
    rw [e]; simp
theorem lastL_sum {P : Tx} (k : Nat) (h : tot P ≤ 5000) : sumB (lastL P k) ≤ 6000 := by
  cases k with
  | zero => simp [lastL, sumB]
  | succ k =>
    have := getD_le k h
    simp only [lastL, sumB, List.map_cons, List.map_nil, List.sum_cons, List.sum_nil, frec_len]
    omega
theorem lastL_get (P : Tx) (k : Nat) : getF (lastL P (k + 1)) [102] = some ⟨[102], frec (P.getD k []), (frec (P.getD k [])).length⟩ := rfl
def lastD (P : Tx) (n k : Nat) : Ds := ⟨1048576, lastL P k, true, n - 3 * k⟩
theorem last_save {P : Tx} {n k : Nat} (hk : k < P.length) (ht : tot P ≤ 5000) (h3 : 3 * k ≤ n) :
    (3 * (k + 1) ≤ n ∧ saveD (lastD P n k) [102] P[k] = (lastD P n (k + 1), 0)) ∨ (∃ d, saveD (lastD P n k) [102] P[k] = (d, 9) ∧ getF d.L [102] = getF (lastL P k) [102]) := by
  have h1 := lastL_sum k ht
  have h2 := tot_snoc P k hk
  have h4 := tot_le P (k + 1)
  have hlen : (lastL P k).length < 4096 := by cases k <;> simp [lastL]
  by_cases h : 3 * (k + 1) ≤ n
  · left
    refine ⟨h, ?_⟩
    have := save_ok (r := 1048576) (l := n - 3 * k) (L := lastL P k) (fu := true) (x := [102]) (p := P[k]) (lastL_rise P k) (by decide) (by decide) (lastL_one P k) (by simp only [tot] at *; omega) hlen (fun _ => by omega)
    unfold lastD
    rw [this, lastL_put P k hk]
    simp only [sub, if_true]
    rw [show n - 3 * k - 3 = n - 3 * (k + 1) by omega]
  · right
    obtain ⟨L', h5, _, h6⟩ := save_burnt (r := 1048576) (l := n - 3 * k) (L := lastL P k) (x := [102]) (p := P[k]) (lastL_rise P k) (by decide) (by decide) (lastL_one P k) (by simp only [tot] at *; omega) hlen (by omega)
    exact ⟨_, h5, h6⟩
theorem last_load {P : Tx} {d : Ds} {k : Nat} {draw : Int} (ht : tot P ≤ 5000) (h : getF d.L [102] = getF (lastL P k) [102]) :
    (k = 0 ∧ loadD (crashD draw d) [102] = ([], 7)) ∨ (∃ j, k = j + 1 ∧ loadD (crashD draw d) [102] = (P.getD j [], 0)) := by
  cases k with
  | zero =>
    left
    exact ⟨rfl, load_none (by rw [crash_get, h]; rfl)⟩
  | succ j =>
    right
    refine ⟨j, rfl, load_saved (n := (frec (P.getD j [])).length) ?_ (by have := getD_le j ht; omega)⟩
    rw [crash_get, h, lastL_get, Option.map_some, crash_keeps rfl]
set_option maxHeartbeats 16000000 in
theorem last_any {w : World} {v : Value} {P : Tx} {n draw : Int} (hv0 : Rw w (fun _ => True) v P) (hz : ∀ l ∈ P, l.length ≤ 140737488351232) (hz2 : P.length * 24 ≤ 140737488351232) (hn : -9223372036854775808 ≤ n ∧ n ≤ 9223372036854775807) (hdr : -9223372036854775808 ≤ draw ∧ draw ≤ 9223372036854775807) (hN : Nib w) :
    Calls Tryd.prog 4 #[v, .int .i64 n, .int .i64 draw] w fun e w' => e = .returned (.bool true) ∧ Ext w w' := by
  obtain ⟨A, c, vs, rfl, p1, p2, p3, p0, p5, p6⟩ := hv0.old.open_
  clear hv0
  have hk4 := fun (w' : World) (x : Ext w w') => known4_any (hN.ext x)
  go_enter Tryd.func4, Tryd.ntmps4
  go_wp2_with fail
  go_loop [7, 8] (fun q i => ∃ (j m : Nat), j ≤ P.length ∧ i = .int .i64 j ∧ q = .int .i64 m ∧ Hid (m = 5 * j + tot (P.take j)) ∧ m ≤ 140737488360000) (fun _ i => P.length - (intOf i).toNat)
  case atStart => exact ⟨0, 0, Nat.zero_le _, rfl, rfl, Lib.hid (by simp [tot]), by omega⟩
  case round =>
    obtain ⟨j, m, hj, rfl, rfl, hm, hmb⟩ := hrel
    by_cases hgo : j < P.length ∧ m ≤ 5000
    · obtain ⟨hlt, hm8⟩ := hgo
      have hbl : decide ((j : Int) < (P.length : Int)) = true := dtrue (by omega)
      have hb2 : decide ((m : Int) ≤ 5000) = true := dtrue (by omega)
      obtain ⟨ad, y, hA, hS, hc, hB⟩ := row_at p0 p5 p6 hlt
      subst hA
      obtain ⟨B, cc, rfl, j1, j2, j3, j4⟩ := hB.open_
      have hi0 : (0 : Int) ≤ (j : Int) := by omega
      have hi1 : (j : Int) < (P.length : Int) := by omega
      have hsn := tot_snoc P j hlt
      have hzl := hz _ (List.getElem_mem hlt)
      have hst : Hid (m + 5 + P[j].length = 5 * (j + 1) + tot (P.take (j + 1))) := Lib.hid (by have := hm.out; simp only [tot] at *; omega)
      clear hsn hm j4 p5 p6
      generalize P[j].length = len at *
      go_wp2_with fail
      exact ⟨⟨j + 1, m + 5 + len, by omega, by go_num, by congr 1, hst, by omega⟩, by simp [intOf] <;> omega⟩
    have hout : (j < P.length ∧ 5000 < m) ∨ (j = P.length ∧ 5000 < m) ∨ (j = P.length ∧ m ≤ 5000) := by
      rcases Nat.lt_or_ge j P.length with h1 | h1
      · rcases Nat.lt_or_ge 5000 m with h2 | h2
        · exact .inl ⟨h1, h2⟩
        · exact absurd ⟨h1, h2⟩ hgo
      · rcases Nat.lt_or_ge 5000 m with h2 | h2
        · exact .inr (.inl ⟨by omega, h2⟩)
        · exact .inr (.inr ⟨by omega, h2⟩)
    have hko := hk4 w (Mod.refl _ _)
    rcases hout with ⟨h1, h2⟩ | ⟨h1, h2⟩ | ⟨h1, h2⟩
    · have hb3 : decide ((5000 : Int) < (m : Int)) = true := dtrue (by omega)
      have hbl : decide ((j : Int) < (P.length : Int)) = true := dtrue (by omega)
      have hb2 : decide ((m : Int) ≤ 5000) = false := dfalse (by omega)
      clear hm hgo
      go_wp2_with fail
      refine hko.mono ?_
      rintro e w1 ⟨rfl, x1⟩
      go_wp2_with fail
      go_ret
      exact ⟨rfl, x1⟩
    · have hb3 : decide ((5000 : Int) < (m : Int)) = true := dtrue (by omega)
      have hbl : decide ((j : Int) < (P.length : Int)) = false := dfalse (by omega)
      clear hm hgo
      go_wp2_with fail
      refine hko.mono ?_
      rintro e w1 ⟨rfl, x1⟩
      go_wp2_with fail
      go_ret
      exact ⟨rfl, x1⟩
    have htot : 5 * P.length + tot P ≤ 5000 := by have := hm.out; rw [h1, List.take_length] at this; omega
    have hb3 : decide ((5000 : Int) < (m : Int)) = false := dfalse (by omega)
    have hbl : decide ((j : Int) < (P.length : Int)) = false := dfalse (by omega)
    clear hm hgo hmb hj
    by_cases hn0 : n < 0
    · have hb4 : decide (n < 0) = true := dtrue hn0
      go_wp2_with fail
      refine hko.mono ?_
      rintro e w1 ⟨rfl, x1⟩
      go_wp2_with fail
      go_ret
      exact ⟨rfl, x1⟩
    have hb4 : decide (n < 0) = false := dfalse hn0
    by_cases hn1 : 1000 < n
    · have hb5 : decide (1000 < n) = true := dtrue hn1
      go_wp2_with fail
      refine hko.mono ?_
      rintro e w1 ⟨rfl, x1⟩
      go_wp2_with fail
      go_ret
      exact ⟨rfl, x1⟩
    have hb5 : decide (1000 < n) = false := dfalse hn1
    obtain ⟨N, rfl⟩ := Int.eq_ofNat_of_zero_le (show 0 ≤ n by omega)
    clear hko
    go_wp2_with fail
    refine (new_hold (w0 := w) 1048576 (by omega) (by omega) (Mod.refl _ _)).mono ?_
    rintro e w1 ⟨bd, rfl, H1⟩
    have hc := hold_fuse H1 N (by omega)
    clear H1
    go_wp2_with fail
    refine hc.mono ?_
    rintro e w2 ⟨rfl, H2⟩
    clear hc
    go_wp2_with fail
    go_loopw [11, 12] (fun q i wr => ∃ (k : Nat), k ≤ P.length ∧ i = .int .i64 k ∧ (∃ q', q = .int .i64 q' ∧ Hid (q' = (k : Int) - 1)) ∧ 3 * k ≤ N ∧ Hold w wr (pv bd) (lastD P N k)) (fun _ i _ => P.length - (intOf i).toNat)
    case atStart => exact ⟨0, Nat.zero_le _, rfl, ⟨_, rfl, Lib.hid (by omega)⟩, by omega, H2⟩
    case round =>
      clear H2
      obtain ⟨k, hk, rfl, ⟨q, rfl, hq⟩, h3, H⟩ := hrel
      by_cases hlt : k < P.length
      case' neg =>
        have hbl2 : decide ((k : Int) < (P.length : Int)) = false := dfalse (by omega)
        obtain ⟨d, hd⟩ : ∃ d, d = lastD P N k := ⟨_, rfl⟩
        rw [← hd] at H
        have hg : getF d.L [102] = getF (lastL P k) [102] := by rw [hd]; rfl
        clear hd
        obtain ⟨w3, rfl⟩ : ∃ w3, w3 = wr := ⟨_, rfl⟩
        have H3 := H
        clear H
        go_wp2_with fail
      case' pos =>
        have hbl2 : decide ((k : Int) < (P.length : Int)) = true := dtrue (by omega)
        obtain ⟨ad, y, hA, hc, hB⟩ := row_now p0 p5 p6 H.xt (fun _ _ _ h => h) hlt
        obtain ⟨B, cc, rfl, j1, j2, j3, j4⟩ := hB.open_
        have hB2 := hB.mod H.xt (fun _ _ _ h => h)
        subst hA
        have hi0 : (0 : Int) ≤ (k : Int) := by omega
        have hi1 : (k : Int) < (P.length : Int) := by omega
        have xa : Ext wr (wr.alloc (.cells #[.slice B P[k].length cc] 32)) := (Mod.refl _ _).alloc _
        have hpk : ([P[k]] : Tx).flatten = P[k] := by simp
        have hpl : ([P[k]] : Tx).flatten.length ≤ 1048576 := by
          have h4 := tot_snoc P k hlt
          have h5 := tot_le P (k + 1)
          rw [hpk]
          simp only [tot] at *
          omega
        rcases last_save hlt (show tot P ≤ 5000 by omega) h3 with ⟨h4, hs⟩ | ⟨d, hs, hg⟩
        · have hcs := hold_save (d' := lastD P N (k + 1)) (n := 0) H xa [102] (by decide) (row_one hB2) hN hpl (by rw [hpk]; exact hs)
          clear hs hpl hpk H xa hB hB2 j4 p5 p6
          generalize P[k].length = len at *
          go_wp2_with fail
          refine hcs.mono ?_
          rintro e w3 ⟨rfl, H3⟩
          clear hcs
          go_wp2_with fail
          exact ⟨⟨k + 1, by omega, by go_num, ⟨_, rfl, Lib.hid (by omega)⟩, h4, H3⟩, by simp [intOf] <;> omega⟩
        have hcs := hold_save (d' := d) (n := 9) H xa [102] (by decide) (row_one hB2) hN hpl (by rw [hpk]; exact hs)
        clear hs hpl hpk H xa hB hB2 j4
        generalize P[k].length = len at *
        go_wp2_with fail
        refine hcs.mono ?_
        rintro e w3 ⟨rfl, H3⟩
        clear hcs hlt hi0 hi1 hc
        go_wp2_with fail
      all_goals
        have hcr := hold_crash H3 draw hdr.2 rfl
        have hlast := last_load (draw := draw) (show tot P ≤ 5000 by omega) hg
        clear H3 hg
        refine hcr.mono ?_
        rintro e w4 ⟨rfl, H4⟩
        clear hcr
        go_wp2_with fail
        rcases hlast with ⟨rfl, hl⟩ | ⟨i, rfl, hl⟩
        · have hcl := hold_load H4 [102] (by decide) hN hl
          have hq1 : decide (q < 0) = true := dtrue (by have := hq.out; omega)
          clear hl H4 hq
          refine hcl.mono ?_
          rintro e w5 ⟨u, rfl, -, -, -, H5⟩
          have hkn := hk4 w5 H5.xt
          clear hcl
          go_wp2_with fail
          refine hkn.mono ?_
          rintro e w6 ⟨rfl, x6⟩
          go_wp2_with fail
          go_ret
          exact ⟨rfl, ext_trans H5.xt x6⟩
        · have hil : i < P.length := by omega
          have hqi : q = (i : Int) := by have := hq.out; omega
          rw [show P.getD i [] = P[i] by simp [List.getD, hil]] at hl
          have hcl := hold_load H4 [102] (by decide) hN hl
          subst hqi
          clear hl H4 hq
          refine hcl.mono ?_
          rintro e w5 ⟨u, rfl, o5, f5, x5, H5⟩
          clear hcl
          obtain ⟨ad, y, hA, hc, hB⟩ := row_now p0 p5 p6 H5.xt (fun _ _ _ h => h) hil
          have hB2 := hB.mod H5.xt (fun _ _ _ h => h)
          cases hA
          have hq1 : (0 : Int) ≤ (i : Int) := by omega
          have hq2 : (i : Int) < (P.length : Int) := by omega
          have hsm := same_any o5.sl hB2
          rw [dtrue rfl] at hsm
          have hkn := fun m => hk4 (w5.drewN m) (H5.xt.drewN m)
          clear hB hB2 o5 f5 x5 p5 p6
          go_wp2_with fail
          refine hsm.mono ?_
          rintro e w6 ⟨rfl, m, rfl⟩
          clear hsm
          have hkn2 := hkn m
          go_wp2_with fail
          refine hkn2.mono ?_
          rintro e w7 ⟨rfl, x7⟩
          go_wp2_with fail
          go_ret
          exact ⟨rfl, ext_trans (H5.xt.drewN m) x7⟩
end Go.Proofs.YtnmfkfjeihjkeaaDoor
