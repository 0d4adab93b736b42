/- disk: DiskFuses: the walk. -/
import Derived.Test.YtagchhcpmibelaaDkR
namespace Go.Proofs.Ytagchhcpmibelaa
open Go.RowKit Go.Maps Go.WideMaps
set_option maxRecDepth 100000

/-- Rows that a law was handed: their blocks were there at first. -/
theorem Rw.old {w : World} {v : Value} {P : Tx} (h : Rw w (fun _ => True) v P) : Rw w (fun k => k < w.heap.size) v P := by
  obtain ⟨vs, h1, h2, h3⟩ := h
  exact ⟨vs, h1, h2.mono (fun k hk _ => hk), fun k x l hx hl => (h3 k x l hx hl).mono (fun k hk _ => hk)⟩
set_option maxHeartbeats 16000000 in
theorem fuses_any {w : World} {v : Value} {P : Tx} {n : Int} (hv0 : Rw w (fun _ => True) v P) (hz : ∀ l ∈ P, l.length ≤ 140737488351232) (hz2 : P.length * 24 ≤ 140737488351232) (hn : -9223372036854775808 ≤ n ∧ n ≤ 9223372036854775807) :
    Calls Try.prog 5 #[.int .i64 n, v] w fun e w' => e = .returned (.bool true) ∧ Ext w w' := by
  obtain ⟨A, c, vs, rfl, p1, p2, p3, p0, p5, p6⟩ := hv0.old.open_
  clear hv0
  go_enter Try.func5, Try.ntmps5
  go_wp2_with fail
  go_loop [5, 6] (fun q i => ∃ (j m : Nat), j ≤ P.length ∧ i = .int .i64 j ∧ q = .int .i64 m ∧ Hid (m = j + tot (P.take j)) ∧ m ≤ 140737488360000) (fun _ i => P.length - (intOf i).toNat)
  case atStart => exact ⟨0, 0, Nat.zero_le _, rfl, rfl, Lib.hid (by simp [tot]), by omega⟩
  case round =>
    obtain ⟨j, m, hj, rfl, rfl, hm, hmb⟩ := hrel
    by_cases hgo : j < P.length ∧ m ≤ 8000
    · obtain ⟨hlt, hm8⟩ := hgo
      have hbl : decide ((j : Int) < (P.length : Int)) = true := dtrue (by omega)
      have hb2 : decide ((m : Int) ≤ 8000) = true := dtrue (by omega)
      obtain ⟨ad, y, hA, hS, hc, hB⟩ := row_at p0 p5 p6 hlt
      subst hA
      obtain ⟨B, cc, rfl, j1, j2, j3, j4⟩ := hB.open_
      have hi0 : (0 : Int) ≤ (j : Int) := by omega
      have hi1 : (j : Int) < (P.length : Int) := by omega
      have hsn := tot_snoc P j hlt
      have hzl := hz _ (List.getElem_mem hlt)
      have hst : Hid (m + 1 + P[j].length = (j + 1) + tot (P.take (j + 1))) := Lib.hid (by have := hm.out; simp only [tot] at *; omega)
      clear hsn hm j4 p5 p6
      generalize P[j].length = len at *
      go_wp2_with fail
      exact ⟨⟨j + 1, m + 1 + len, by omega, by go_num, by congr 1, hst, by omega⟩, by simp [intOf] <;> omega⟩
    have hstop : m ≤ 8000 → j = P.length := fun h => by
      rcases Nat.lt_or_ge j P.length with h2 | h2
      · exact absurd ⟨h2, h⟩ hgo
      · omega
    have hout : (j < P.length ∧ 8000 < m) ∨ j = P.length := by
      by_cases h : j = P.length
      · exact .inr h
      · exact .inl ⟨by omega, by
          rcases Nat.lt_or_ge 8000 m with h3 | h3
          · exact h3
          · exact absurd (hstop h3) h⟩
    by_cases hbig : 8000 < m
    · have hb3 : decide ((8000 : Int) < (m : Int)) = true := dtrue (by omega)
      clear hm hgo hstop
      rcases hout with ⟨h1, h2⟩ | h1
      · have hbl : decide ((j : Int) < (P.length : Int)) = true := dtrue (by omega)
        have hb2 : decide ((m : Int) ≤ 8000) = false := dfalse (by omega)
        go_wp2_with fail
        refine known3_any.mono ?_
        rintro e w1 ⟨rfl, x1⟩
        go_wp2_with fail
        go_ret
        exact ⟨rfl, x1⟩
      · have hbl : decide ((j : Int) < (P.length : Int)) = false := dfalse (by omega)
        go_wp2_with fail
        refine known3_any.mono ?_
        rintro e w1 ⟨rfl, x1⟩
        go_wp2_with fail
        go_ret
        exact ⟨rfl, x1⟩
    have hjl := hstop (by omega)
    subst hjl
    have htot : P.length + tot P ≤ 8000 := by have := hm.out; rw [List.take_length] at this; omega
    have hb3 : decide ((8000 : Int) < (m : Int)) = false := dfalse (by omega)
    have hbl : decide ((P.length : Int) < (P.length : Int)) = false := dfalse (by omega)
    clear hm hgo hstop hout hbig hmb hj
    by_cases hn0 : n < 0
    · have hb4 : decide (n < 0) = true := dtrue hn0
      go_wp2_with fail
      refine known3_any.mono ?_
      rintro e w1 ⟨rfl, x1⟩
      go_wp2_with fail
      go_ret
      exact ⟨rfl, x1⟩
    have hb4 : decide (n < 0) = false := dfalse hn0
    by_cases hn1 : 1000 < n
    · have hb5 : decide (1000 < n) = true := dtrue hn1
      go_wp2_with fail
      refine known3_any.mono ?_
      rintro e w1 ⟨rfl, x1⟩
      go_wp2_with fail
      go_ret
      exact ⟨rfl, x1⟩
    have hb5 : decide (1000 < n) = false := dfalse hn1
    obtain ⟨N, rfl⟩ := Int.eq_ofNat_of_zero_le (show 0 ≤ n by omega)
    go_wp2_with fail
    refine (new_law 1048576 (by omega) (by omega)).mono ?_
    rintro e w1 ⟨bd, rfl, S1, hd1, hin1, x1⟩
    have hcf : Calls Try.prog 25 #[pv bd, .int .i64 N] w1 fun e w' => e = .returned (.tuple #[]) ∧ Dk (Grow S1 w1) w' (pv bd) (fs N P 0) ∧ Mod S1 w1 w' := by
      obtain ⟨bd', bm, D, G, e, h⟩ := hd1
      injection e with e
      injection e with e
      injection e with e
      subst e
      refine (fuse_any h N (by omega)).mono fun e w' ⟨h1, h2, h3⟩ => ⟨h1, ⟨_, bm, D, G, rfl, ?_⟩, h3.mono fun k _ hk => hk ▸ h.sd⟩
      have e2 : fuseD (newD 1048576) N = fs N P 0 := by
        unfold fuseD newD fs
        rw [dtrue (show (0 : Int) ≤ (N : Int) by omega)]
        simp
      rw [← e2]
      exact h2.mono fun k _ hk => .inl hk
    have hc := law_of hin1 x1.size hcf
    clear hd1 hcf
    go_wp2_with fail
    refine hc.mono ?_
    rintro e w2 ⟨rfl, S2, hd2, hin2, _, m2⟩
    have x2 := Mod.in_ext x1 m2 hin1
    clear hc m2 hin1 x1
    go_wp2_with fail
    go_loopw [9] (fun i wr => ∃ (k : Nat) (S : Nat → Prop), k ≤ P.length ∧ i = .int .i64 k ∧ Dk S wr (pv bd) (fs N P (min k N)) ∧ In w.heap.size wr S ∧ Ext w wr) (fun i _ => P.length - (intOf i).toNat)
    case atStart => exact ⟨0, S2, Nat.zero_le _, rfl, by rw [Nat.zero_min]; exact hd2, hin2, x2⟩
    case round =>
      clear hd2 hin2 x2
      obtain ⟨k, S, hk, rfl, hd, hin, hx⟩ := hrel
      by_cases hlt : k < P.length
      case neg =>
        have hbl2 : decide ((k : Int) < (P.length : Int)) = false := dfalse (by omega)
        obtain rfl : k = P.length := by omega
        have xa : Ext wr (wr.alloc (.cells #[sv noneT] 9)) := (Mod.refl _ _).alloc _
        have hc := law_of (hin.ext xa.size) (Nat.le_trans hx.size xa.size) (Remove_any (hd.ext xa) (one_name wr noneT) (fun k hk => not_in hin (Nat.le_refl _) k (by omega)))
        rw [fs_remove (Nat.min_le_right _ _)] at hc
        have hx2 := ext_trans hx xa
        have hin2 := hin.ext xa.size
        clear hd hin hx xa
        have hcase : (min P.length N = N ∧ decide (P.length < N) = false ∧ (if min P.length N = N then 9 else 7) = 9) ∨ (decide (P.length < N) = true ∧ (if min P.length N = N then 9 else 7) = 7) := by
          by_cases h : P.length < N
          · exact .inr ⟨dtrue (by omega), if_neg (by omega)⟩
          · exact .inl ⟨by omega, dfalse (by omega), if_pos (by omega)⟩
        have hlast : ∀ q, (appendD (crashD 0 (fs N P q)) [122] [[]]).2 = 0 := fun q => fs_last (by omega)
        generalize min P.length N = q at *
        obtain ⟨r, hr⟩ : ∃ r : Nat, r = if q = N then 9 else 7 := ⟨_, rfl⟩
        rw [← hr] at hc hcase
        have hlast2 := hlast q
        clear hlast hr
        replace hlast2 := Lib.hid hlast2
        generalize fs N P q = dd at *
        rcases hcase with ⟨_, hdn, hr⟩ | ⟨hdn, hr⟩
        all_goals
          subst hr
          go_wp2_with fail
          refine hc.mono ?_
          rintro e w3 ⟨rfl, S3, hd3, hin3, _, m3⟩
          have x3 := Mod.in_ext hx2 m3 hin2
          clear hc m3 hin2 hx2
          have hc := law_of hin3 x3.size (crash_any hd3 0 (by omega))
          clear hd3
          go_wp2_with fail
          refine hc.mono ?_
          rintro e w4 ⟨rfl, S4, hd4, hin4, _, m4⟩
          have x4 := Mod.in_ext x3 m4 hin3
          clear hc m4 hin3 x3
          have xa : Ext w4 (w4.alloc (.cells #[.slice none 0 0] 32)) := (Mod.refl _ _).alloc _
          have hc := law_of (hin4.ext xa.size) (Nat.le_trans x4.size xa.size) (append_any (hd4.ext xa) [122] (Rw.one (w := w4) (S := fun _ => False) (v := .slice none 0 0) (l := []) 32 (Sl.nil _ _)) (fun k hk => not_in hin4 (Nat.le_refl _) k (by rcases hk with h | h; exact h.elim; omega)) (by decide))
          rw [hlast2.out] at hc
          have hx4 := ext_trans x4 xa
          have hin4' := hin4.ext xa.size
          clear hd4 xa x4 hin4
          go_wp2_with fail
          refine hc.mono ?_
          rintro e w5 ⟨rfl, S5, hd5, hin5, _, m5⟩
          have x5 := Mod.in_ext hx4 m5 hin4'
          clear hc m5 hin4' hx4
          go_wp2_with fail
          refine known3_any.mono ?_
          rintro e w6 ⟨rfl, x6⟩
          go_wp2_with fail
          go_ret
          exact ⟨rfl, ext_trans x5 x6⟩
      have hbl2 : decide ((k : Int) < (P.length : Int)) = true := dtrue (by omega)
      obtain ⟨ad, y, hA, hc, hB⟩ := row_now p0 p5 p6 hx (fun _ _ _ h => h) hlt
      obtain ⟨B, cc, rfl, j1, j2, j3, j4⟩ := hB.open_
      have hB2 := hB.mod hx (fun _ _ _ h => h)
      subst hA
      have hi0 : (0 : Int) ≤ (k : Int) := by omega
      have hi1 : (k : Int) < (P.length : Int) := by omega
      have xa : Ext wr (wr.alloc (.cells #[.slice B P[k].length cc] 32)) := (Mod.refl _ _).alloc _
      have hca := law_of (hin.ext xa.size) (Nat.le_trans hx.size xa.size) (append_any (hd.ext xa) [102] (Rw.one 32 hB2) (fun k hk hs => by
        have h1 := hin k hs
        rcases hk with h | h <;> omega) (by simp))
      have hx2 := ext_trans hx xa
      have hin2 := hin.ext xa.size
      have hcase : (decide (k < N) = true ∧ appendD (fs N P (min k N)) [102] [P[k]] = (fs N P (min (k + 1) N), 0)) ∨ (decide (k < N) = false ∧ appendD (fs N P (min k N)) [102] [P[k]] = (fs N P (min (k + 1) N), 9)) := by
        by_cases h : k < N
        · exact .inl ⟨dtrue (by omega), by rw [Nat.min_eq_left (by omega), Nat.min_eq_left (by omega)]; exact fs_ok h hlt (by omega)⟩
        · exact .inr ⟨dfalse (by omega), by rw [Nat.min_eq_right (by omega), Nat.min_eq_right (by omega)]; exact fs_dead⟩
      clear hd hin hx xa hB hB2 p5 p6 j4
      generalize P[k].length = len at *
      obtain ⟨dd, hdd⟩ : ∃ dd, dd = fs N P (min (k + 1) N) := ⟨_, rfl⟩
      rw [← hdd] at hcase
      replace hdd := Lib.hid hdd
      rcases hcase with ⟨hdn, hr⟩ | ⟨hdn, hr⟩
      all_goals
        rw [hr] at hca
        clear hr
        go_wp2_with fail
        refine hca.mono ?_
        rintro e w3 ⟨rfl, S3, hd3, hin3, _, m3⟩
        have x3 := Mod.in_ext hx2 m3 hin2
        clear hca m3 hin2 hx2
        go_wp2_with fail
        exact ⟨⟨k + 1, S3, by omega, by go_num, by rw [← hdd.out]; exact hd3, hin3, x3⟩, by simp [intOf] <;> omega⟩
end Go.Proofs.Ytagchhcpmibelaa
