/- disk: DiskKeeps. -/
import Derived.Test.YtagchhcpmibelaaDkS
namespace Go.Proofs.Ytagchhcpmibelaa
open Go.RowKit Go.Maps Go.WideMaps
set_option maxRecDepth 100000

def ks (P : Tx) (k lst : Nat) : Ds := ⟨1048576, if k = 0 then [] else [⟨[102], (P.take k).flatten, lst⟩], false, 0⟩
theorem ks_beg (P : Tx) (k lst : Nat) : begD (ks P k lst) [[102]] = 0 := by
  unfold begD ks
  rw [if_neg (by simp)]
  rfl
theorem ks_app {P : Tx} {k lst : Nat} (hk : k < P.length) (ht : tot P ≤ 8000) (h0 : k = 0 → lst = 0) : appendD (ks P k lst) [102] [P[k]] = (ks P (k + 1) lst, 0) := by
  have hs := tot_snoc P k hk
  have hl := tot_le P (k + 1)
  have hfl := flat_len (P.take k)
  have hf2 := flat_snoc2 P k hk
  have hd : doneD ⟨1048576, [⟨[102], (P.take (k + 1)).flatten, lst⟩], false, 0⟩ = ks P (k + 1) lst := rfl
  unfold appendD
  rw [if_neg (by rw [ks_beg]; simp), ← hd, hf2]
  by_cases hk0 : k = 0
  · obtain rfl := h0 hk0
    subst hk0
    rw [if_neg (by simp only [ks, sumB, tot, List.map_cons, List.map_nil, List.sum_cons, List.sum_nil, if_pos] at *; omega)]
    simp only [ks, if_pos, getF, List.find?_nil, putF, List.length_nil]
    rw [if_neg (by omega)]
    simp
  · have e : (ks P k lst).L = [⟨[102], (P.take k).flatten, lst⟩] := by unfold ks; rw [if_neg hk0]
    rw [if_neg (by rw [e]; simp only [sumB, tot, ks, List.map_cons, List.map_nil, List.sum_cons, List.sum_nil] at *; omega), e]
    simp only [getF, List.find?_cons, beq_self_eq_true, putF, if_pos]
    simp [ks]
theorem ks_sync {P : Tx} {k lst : Nat} : eachD syncD (ks P (k + 1) lst) [[102]] = (ks P (k + 1) (P.take (k + 1)).flatten.length, 0) := by
  have e : (ks P (k + 1) lst).L = [⟨[102], (P.take (k + 1)).flatten, lst⟩] := by unfold ks; rw [if_neg (by omega)]
  have h : syncD (ks P (k + 1) lst) [102] = (ks P (k + 1) (P.take (k + 1)).flatten.length, 0) := by
    rw [syncD, onF_some _ (ks_beg _ _ _) (g := ⟨[102], (P.take (k + 1)).flatten, lst⟩) (by rw [e]; rfl), e]
    rfl
  rw [eachD_ok (by rw [h]), h]
  rfl
theorem ks_read0 {P : Tx} {lst : Nat} (dr : Int) : readD (crashD dr (ks P 0 lst)) [102] = none := rfl
theorem ks_read {P : Tx} {k lst : Nat} (dr : Int) (hl : lst ≤ (P.take (k + 1)).flatten.length) : ∃ n, lst ≤ n ∧ n ≤ (P.take (k + 1)).flatten.length ∧ readD (crashD dr (ks P (k + 1) lst)) [102] = some ((P.take (k + 1)).flatten.take n) := by
  obtain ⟨h1, h2⟩ := crashN_le dr (f := ⟨[102], (P.take (k + 1)).flatten, lst⟩) hl
  refine ⟨_, h1, h2, ?_⟩
  have e : (ks P (k + 1) lst).L = [⟨[102], (P.take (k + 1)).flatten, lst⟩] := by unfold ks; rw [if_neg (by omega)]
  unfold readD crashD
  rw [e]
  rfl
set_option maxHeartbeats 16000000 in
theorem keeps_any {w : World} {v : Value} {P : Tx} {sy dr : Int} (hv0 : Rw w (fun _ => True) v P) (hz : ∀ l ∈ P, l.length ≤ 140737488351232) (hz2 : P.length * 24 ≤ 140737488351232) (hn : -9223372036854775808 ≤ sy ∧ sy ≤ 9223372036854775807) (hn2 : -9223372036854775808 ≤ dr ∧ dr ≤ 9223372036854775807) :
    Calls Try.prog 4 #[v, .int .i64 sy, .int .i64 dr] w fun e w' => e = .returned (.bool true) ∧ Ext w w' := by
  obtain ⟨A, c, vs, rfl, p1, p2, p3, p0, p5, p6⟩ := hv0.old.open_
  clear hv0
  go_enter Try.func4, Try.ntmps4
  go_wp2_with fail
  go_loop [7, 8] (fun q i => ∃ (j m : Nat), j ≤ P.length ∧ i = .int .i64 j ∧ q = .int .i64 m ∧ Hid (m = j + tot (P.take j)) ∧ m ≤ 140737488360000) (fun _ i => P.length - (intOf i).toNat)
  case atStart => exact ⟨0, 0, Nat.zero_le _, rfl, rfl, Lib.hid (by simp [tot]), by omega⟩
  case round =>
    obtain ⟨j, m, hj, rfl, rfl, hm, hmb⟩ := hrel
    by_cases hgo : j < P.length ∧ m ≤ 8000
    · obtain ⟨hlt, hm8⟩ := hgo
      have hbl : decide ((j : Int) < (P.length : Int)) = true := dtrue (by omega)
      have hb2 : decide ((m : Int) ≤ 8000) = true := dtrue (by omega)
      obtain ⟨ad, y, hA, hS, hc, hB⟩ := row_at p0 p5 p6 hlt
      subst hA
      obtain ⟨B, cc, rfl, j1, j2, j3, j4⟩ := hB.open_
      have hi0 : (0 : Int) ≤ (j : Int) := by omega
      have hi1 : (j : Int) < (P.length : Int) := by omega
      have hsn := tot_snoc P j hlt
      have hzl := hz _ (List.getElem_mem hlt)
      have hst : Hid (m + 1 + P[j].length = (j + 1) + tot (P.take (j + 1))) := Lib.hid (by have := hm.out; simp only [tot] at *; omega)
      clear hsn hm j4 p5 p6
      generalize P[j].length = len at *
      go_wp2_with fail
      exact ⟨⟨j + 1, m + 1 + len, by omega, by go_num, by congr 1, hst, by omega⟩, by simp [intOf] <;> omega⟩
    have hstop : m ≤ 8000 → j = P.length := fun h => by
      rcases Nat.lt_or_ge j P.length with h2 | h2
      · exact absurd ⟨h2, h⟩ hgo
      · omega
    have hout : (j < P.length ∧ 8000 < m) ∨ j = P.length := by
      by_cases h : j = P.length
      · exact .inr h
      · exact .inl ⟨by omega, by
          rcases Nat.lt_or_ge 8000 m with h3 | h3
          · exact h3
          · exact absurd (hstop h3) h⟩
    by_cases hbig : 8000 < m
    · have hb3 : decide ((8000 : Int) < (m : Int)) = true := dtrue (by omega)
      clear hm hgo hstop
      rcases hout with ⟨h1, h2⟩ | h1
      · have hbl : decide ((j : Int) < (P.length : Int)) = true := dtrue (by omega)
        have hb2 : decide ((m : Int) ≤ 8000) = false := dfalse (by omega)
        go_wp2_with fail
        refine known3_any.mono ?_
        rintro e w1 ⟨rfl, x1⟩
        go_wp2_with fail
        go_ret
        exact ⟨rfl, x1⟩
      · have hbl : decide ((j : Int) < (P.length : Int)) = false := dfalse (by omega)
        go_wp2_with fail
        refine known3_any.mono ?_
        rintro e w1 ⟨rfl, x1⟩
        go_wp2_with fail
        go_ret
        exact ⟨rfl, x1⟩
    have hjl := hstop (by omega)
    subst hjl
    have htot : P.length + tot P ≤ 8000 := by have := hm.out; rw [List.take_length] at this; omega
    have hb3 : decide ((8000 : Int) < (m : Int)) = false := dfalse (by omega)
    have hbl : decide ((P.length : Int) < (P.length : Int)) = false := dfalse (by omega)
    clear hm hgo hstop hout hbig hmb hj
    go_wp2_with fail
    refine (new_law 1048576 (by omega) (by omega)).mono ?_
    rintro e w1 ⟨bd, rfl, S1, hd1, hin1, x1⟩
    go_wp2_with fail
    go_loopw [11, 12, 13] (fun va vs i wr => ∃ (k lst : Nat) (S : Nat → Prop) (s : List UInt8), k ≤ P.length ∧ i = .int .i64 k ∧ Dk S wr (pv bd) (ks P k lst) ∧ In w.heap.size wr S ∧ Own wr 5 va ((P.take k).flatten.map bv) ∧ Own wr 5 vs (s.map bv) ∧ s.length = lst ∧ lst ≤ (P.take k).flatten.length ∧ Fresh w.heap.size va ∧ Fresh w.heap.size vs ∧ Hid ((∀ q, own va q → ¬ S q) ∧ (∀ q, own vs q → ¬ S q) ∧ ∀ q, own va q → ¬ own vs q) ∧ Ext w wr) (fun _ _ i _ => P.length - (intOf i).toNat)
    case atStart => exact ⟨0, 0, S1, [], Nat.zero_le _, rfl, hd1, hin1, Own.nil _ _, Own.nil _ _, rfl, Nat.zero_le _, fresh_nil _ _ _, fresh_nil _ _ _, Lib.hid ⟨fun q hq => by simp [own, Value.ownBlock] at hq, fun q hq => by simp [own, Value.ownBlock] at hq, fun q hq => by simp [own, Value.ownBlock] at hq⟩, x1⟩
    case round =>
      clear hd1 hin1 x1
      obtain ⟨k, lst, S, s, hk, rfl, hd, hin, oa, os, hsl, hll, fa, fsv, hsep, hx⟩ := hrel
      by_cases hlt : k < P.length
      case neg =>
        have hbl2 : decide ((k : Int) < (P.length : Int)) = false := dfalse (by omega)
        obtain rfl : k = P.length := by omega
        rw [List.take_length] at oa hll
        have hc := law_of hin hx.size (crash_any hd dr hn2.2)
        clear hd hz p5 p6
        go_wp2_with fail
        refine hc.mono ?_
        rintro e w3 ⟨rfl, S3, hd3, hin3, hsub, m3⟩
        have x3 := Mod.in_ext hx m3 hin
        have oa3 := oa.mod m3 (fun q hq => hsep.out.1 q hq)
        have os3 := os.mod m3 (fun q hq => hsep.out.2.1 q hq)
        have hcr := read_any hd3 [102] (by decide)
        clear hc hd3 hin3 hsub m3 hin hx oa os hsep
        rcases Nat.eq_zero_or_pos P.length with h0 | h0
        · have hb0 : ((P.length : Int) == 0) = true := b_eq0 h0
          rw [show readD (crashD dr (ks P P.length lst)) [102] = none by rw [h0]; rfl] at hcr
          clear h0
          go_wp2_with fail
          refine hcr.mono ?_
          rintro e w4 ⟨u, rfl, o4, f4, x4⟩
          clear hcr
          go_wp2_with fail
          refine known3_any.mono ?_
          rintro e w5 ⟨rfl, x5⟩
          go_wp2_with fail
          go_ret
          exact ⟨rfl, ext_trans x3 (ext_trans x4 x5)⟩
        have hb0 : ((P.length : Int) == 0) = false := b_ne0 (by omega)
        obtain ⟨n, hn1, hn2', hrd⟩ : ∃ n, lst ≤ n ∧ n ≤ P.flatten.length ∧ readD (crashD dr (ks P P.length lst)) [102] = some (P.flatten.take n) := by
          obtain ⟨j, hj⟩ : ∃ j, P.length = j + 1 := ⟨P.length - 1, by omega⟩
          have e : P.take (j + 1) = P := by rw [← hj, List.take_length]
          have := ks_read (P := P) (k := j) (lst := lst) dr (by rw [e]; exact hll)
          rw [e, ← hj] at this
          exact this
        rw [hrd] at hcr
        clear hrd h0
        generalize P.flatten = F at *
        obtain ⟨X, hX⟩ : ∃ X, X = F.take n := ⟨_, rfl⟩
        have hXl : X.length = n := by rw [hX, List.length_take]; omega
        have hXF : X = F.take X.length := by rw [hXl]; exact hX
        rw [← hX] at hcr
        rw [show (some X).getD [] = X from rfl] at hcr
        have hXn : X.length ≤ F.length := by omega
        have hXs : s.length ≤ X.length := by omega
        clear hX hXl hn1 hn2'
        replace hXF := Lib.hid hXF
        go_wp2_with fail
        refine hcr.mono ?_
        rintro e w4 ⟨u, rfl, o4, f4, x4⟩
        have oa4 := oa3.mod x4 (fun _ _ h => h)
        have os4 := os3.mod x4 (fun _ _ h => h)
        have y4 := ext_trans x3 x4
        obtain ⟨A1, c1, rfl⟩ := o4.shape
        obtain ⟨A2, c2, rfl⟩ := oa4.shape
        obtain ⟨A3, c3, rfl⟩ := os4.shape
        simp only [List.length_map] at oa4 os4 o4 ⊢
        have hcap := own_cap oa4
        rw [List.length_map] at hcap
        have hbig : c2 ≤ 9223372036854775807 := by
          obtain ⟨A', c', e1, e2, e3, _⟩ := oa4.sl
          injection e1 with _ _ e1
          subst e1
          simpa [maxLen] using e3
        have hb1 : decide (s.length ≤ X.length) = true := dtrue hXs
        have hb2 : decide (X.length ≤ F.length) = true := dtrue hXn
        have hi0 : (0 : Int) ≤ (X.length : Int) := by omega
        have hi1 : (X.length : Int) ≤ (c2 : Int) := by omega
        have hsm := same_any o4.sl (by have := (oa4.begin (m := X.length) (by rw [List.length_map]; exact hXn)).sl; rw [← List.map_take, ← hXF.out] at this; exact this)
        clear hcr oa3 os3 oa4 os4 o4 x3 x4 f4
        rw [dtrue rfl] at hsm
        go_wp2_with fail
        refine hsm.mono ?_
        rintro e w5 ⟨rfl, k5, rfl⟩
        clear hsm
        go_wp2_with fail
        refine known3_any.mono ?_
        rintro e w6 ⟨rfl, x6⟩
        go_wp2_with fail
        go_ret
        exact ⟨rfl, ext_trans (y4.drewN k5) x6⟩
      have hbl2 : decide ((k : Int) < (P.length : Int)) = true := dtrue (by omega)
      obtain ⟨ad, y, hA, hS, hc0, hB⟩ := row_at p0 p5 p6 hlt
      obtain ⟨B, cc, rfl, j1, j2, j3, j4⟩ := hB.open_
      subst hA
      have hcx := Lib.hid (show ∀ wx, Ext w wx → wx.cell? (ad.add k) = some (.slice B P[k].length cc) from fun wx h => (h.cell (lt_of_cell hc0) (fun h => h)).trans hc0)
      have hi0 : (0 : Int) ≤ (k : Int) := by omega
      have hi1 : (k : Int) < (P.length : Int) := by omega
      have hkc := hcx.out wr hx
      have xa : Ext wr (wr.alloc (.cells #[.slice B P[k].length cc] 32)) := (Mod.refl _ _).alloc _
      have hxa := ext_trans hx xa
      have hca := law_of (hin.ext xa.size) hxa.size (append_any (hd.ext xa) [102] (Rw.one 32 (hB.mod hx (fun _ _ _ h => h))) (fun q hq hs => by
        have h1 := hin q hs
        rcases hq with h | h <;> omega) (by simp))
      rw [ks_app hlt (by omega) (fun h => by subst h; simp at hll; omega)] at hca
      have hfl := flat_le P (k + 1)
      have hft := flat_snoc2 P k hlt
      have hzl := hz _ (List.getElem_mem hlt)
      have hina := hin.ext xa.size
      have hsz : wr.heap.size ≤ (wr.alloc (.cells #[.slice B P[k].length cc] 32)).heap.size := xa.size
      clear hc0 p5 p6 j4 hd hz
      go_wp2_with fail
      refine hca.mono ?_
      rintro e w3 ⟨rfl, S3, hd3, hin3, hsub, m3⟩
      have x3 := Mod.in_ext hxa m3 hina
      have oa3 := (oa.mod xa (fun _ _ h => h)).mod m3 (fun q hq => hsep.out.1 q hq)
      have os3 := (os.mod xa (fun _ _ h => h)).mod m3 (fun q hq => hsep.out.2.1 q hq)
      have hB3 := hB.mod x3 (fun _ _ _ h => h)
      have hk3 := hcx.out w3 x3
      have s3a := Lib.hid (show ∀ q, own u11 q → ¬ S3 q from fun q hq hs => by
        have h1 := oa.lt hq
        rcases hsub q hs with h | h
        · exact hsep.out.1 q hq h
        · omega)
      have s3s := Lib.hid (show ∀ q, own u12 q → ¬ S3 q from fun q hq hs => by
        have h1 := os.lt hq
        rcases hsub q hs with h | h
        · exact hsep.out.2.1 q hq h
        · omega)
      have hlt3 := oa3
      have n1 : ((((P.take k).flatten).map bv).length + (P[k].map bv).length) * 1 ≤ 140737488355328 := by
        have h1 := congrArg List.length hft
        rw [List.length_append] at h1
        rw [List.length_map, List.length_map]
        omega
      have hfin : ∀ (v4 : Value) (w4 : World), Own w4 5 v4 (((P.take k).flatten).map bv ++ P[k].map bv) → Mod (own u11) w3 w4 → Next w3.heap.size u11 v4 →
          Own w4 5 v4 ((P.take (k + 1)).flatten.map bv) ∧ Ext w w4 ∧ Dk S3 w4 (pv bd) (ks P (k + 1) lst) ∧ In w.heap.size w4 S3 ∧ Own w4 5 u12 (s.map bv) ∧ Fresh w.heap.size v4 ∧ Hid ((∀ q, own v4 q → ¬ S3 q) ∧ (∀ q, own u12 q → ¬ S3 q) ∧ ∀ q, own v4 q → ¬ own u12 q) := fun v4 w4 o4 m4 n4 => by
        have nn : ∀ q, own v4 q → own u11 q ∨ w3.heap.size ≤ q := fun q hq => by
          rcases n4 with e | e
          · left; show u11.ownBlock = some q; rw [← e]; exact hq
          · exact .inr (e q hq)
        refine ⟨by rw [hft, List.map_append]; exact o4, ext_app0 x3 fa m4, hd3.mod m4 (fun q _ hs hq => s3a.out q hq hs), hin3.ext m4.size, os3.mod m4 (fun q hq h => hsep.out.2.2 q h hq), n4.fresh fa x3.size, Lib.hid ⟨fun q hq hs => ?_, s3s.out, fun q hq hs => ?_⟩⟩
        · rcases nn q hq with h | h
          · exact s3a.out q h hs
          · have := (hin3 q hs).2; omega
        · rcases nn q hq with h | h
          · exact hsep.out.2.2 q h hs
          · have := os3.lt hs; omega
      obtain ⟨F, hF⟩ : ∃ F, F = (P.take (k + 1)).flatten := ⟨_, rfl⟩
      rw [← hF] at hfin hfl
      have hFl : lst ≤ F.length := by rw [hF, hft, List.length_append]; omega
      have hks : ∀ l, eachD syncD (ks P (k + 1) l) [[102]] = (ks P (k + 1) F.length, 0) := fun l => by rw [hF]; exact ks_sync
      replace hks := Lib.hid hks
      replace hF := Lib.hid hF
      generalize (P.take k).flatten = F0 at *
      replace hfin := Lib.hid hfin
      clear hsep hd3 hin3 os3 s3a s3s hca hina m3 hft hsub oa os hin
      by_cases hsy : (k : Int) < sy
      · have hbs : decide ((k : Int) < sy) = true := dtrue hsy
        go_wp2_with ((with_reducible show wpList _ _ _ (⟨some 66, _, _, _, _, _⟩ :: _) _ _); refine wp_app tyB oa3 hB3 (bv_one _) rfl (.tmp 61) (.tmp 65) rfl rfl rfl n1 ?_; intro v4 w4 o4 m4 n4; have hf4 := Lib.hid (hfin.out v4 w4 o4 m4 n4); clear hfin n4 m4 o4)
        obtain ⟨k1, k2, k3, k4, k5, k6, k7⟩ := hf4.out
        clear hf4
        have xb : Ext w4 (w4.alloc (.cells #[sv [102]] 9)) := (Mod.refl _ _).alloc _
        have hcs := law_of (k4.ext xb.size) (Nat.le_trans k2.size xb.size) (Sync_any (k3.ext xb) (one_name w4 [102]) (fun q hq => not_in k4 (Nat.le_refl _) q (by omega)))
        rw [hks.out] at hcs
        have x4b := ext_trans k2 xb
        have k4b := k4.ext xb.size
        have k1b := k1.mod xb (fun _ _ h => h)
        have hszb := xb.size
        clear k2 k3 k4 k5 hks
        refine hcs.mono ?_
        rintro e w5 ⟨rfl, S5, hd5, hin5, hsub5, m5⟩
        have x5 := Mod.in_ext x4b m5 k4b
        have o5 := k1b.mod m5 (fun q hq => k7.out.1 q hq)
        have s5 := Lib.hid (show ∀ q, own v4 q → ¬ S5 q from fun q hq hs => by
          have h1 := k1.lt hq
          rcases hsub5 q hs with h | h
          · exact k7.out.1 q hq h
          · omega)
        have n2 : (([] : List Value).length + (F.map bv).length) * 1 ≤ 140737488355328 := by rw [List.length_map, List.length_nil]; omega
        have oE := Own.empty w5 5
        have fE : Fresh w5.heap.size (.slice (some ⟨w5.heap.size, 0, none⟩) 0 0) := fun b hb => by
          have e : w5.heap.size = b := by simpa [Value.ownBlock] using hb
          omega
        have xE : Ext w5 (w5.alloc (.cells #[] 5)) := (Mod.refl _ _).alloc _
        have rE := (o5.mod xE (fun _ _ h => h)).sl
        have hfin2 : ∀ (v6 : Value) (w6 : World), Own w6 5 v6 (([] : List Value) ++ F.map bv) → Mod (own (.slice (some ⟨w5.heap.size, 0, none⟩) 0 0)) (w5.alloc (.cells #[] 5)) w6 → Next (w5.alloc (.cells #[] 5)).heap.size (.slice (some ⟨w5.heap.size, 0, none⟩) 0 0) v6 →
            Dk S5 w6 (pv bd) (ks P (k + 1) F.length) ∧ In w.heap.size w6 S5 ∧ Own w6 5 v4 (F.map bv) ∧ Own w6 5 v6 (F.map bv) ∧ Fresh w.heap.size v6 ∧ Hid ((∀ q, own v4 q → ¬ S5 q) ∧ (∀ q, own v6 q → ¬ S5 q) ∧ ∀ q, own v4 q → ¬ own v6 q) ∧ Ext w w6 := fun v6 w6 o6 m6 n6 => by
          have x6 : Ext w5 w6 := ext_app0 xE fE m6
          have f6 : Fresh w5.heap.size v6 := n6.fresh fE xE.size
          refine ⟨hd5.ext x6, hin5.ext x6.size, o5.mod x6 (fun _ _ h => h), by simpa using o6, f6.mono x5.size, Lib.hid ⟨s5.out, fun q hq hs => ?_, fun q hq hs => ?_⟩, ext_trans x5 x6⟩
          · have := f6 q hq; have := (hin5 q hs).2; omega
          · have := f6 q hs; have := o5.lt hq; omega
        replace hfin2 := Lib.hid hfin2
        clear hcs hd5 hin5 o5 s5 x5 x4b k4b k1b k1 k7 m5 hsub5
        go_wp2_with ((with_reducible show wpList _ _ _ (⟨some 76, _, _, _, _, _⟩ :: _) _ _); refine wp_app tyB oE rE (bv_one _) rfl (.tmp 74) (.tmp 75) rfl rfl rfl n2 ?_; intro v6 w6 o6 m6 n6)
        obtain ⟨r1, r2, r3, r4, r5, r6, r7⟩ := hfin2.out v6 w6 o6 m6 n6
        exact ⟨⟨k + 1, F.length, S5, F, by omega, by go_num, r1, r2, by rw [← hF.out]; exact r3, r4, rfl, by rw [← hF.out]; exact Nat.le_refl _, k6, r5, r6, r7⟩, by simp [intOf] <;> omega⟩
      · have hbs : decide ((k : Int) < sy) = false := dfalse hsy
        go_wp2_with ((with_reducible show wpList _ _ _ (⟨some 66, _, _, _, _, _⟩ :: _) _ _); refine wp_app tyB oa3 hB3 (bv_one _) rfl (.tmp 61) (.tmp 65) rfl rfl rfl n1 ?_; intro v4 w4 o4 m4 n4; have hf4 := Lib.hid (hfin.out v4 w4 o4 m4 n4); clear hfin n4 m4 o4)
        obtain ⟨k1, k2, k3, k4, k5, k6, k7⟩ := hf4.out
        exact ⟨⟨k + 1, lst, S3, s, by omega, by go_num, k3, k4, by rw [← hF.out]; exact k1, k5, hsl, by rw [← hF.out]; exact hFl, k6, fsv, k7, k2⟩, by simp [intOf] <;> omega⟩
end Go.Proofs.Ytagchhcpmibelaa
