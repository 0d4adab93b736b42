/- filter: the program's reader: filter; Parse. -/
import Derived.Test.YtekocbphdckmkaaFpN
namespace Go.Proofs.Ytekocbphdckmkaa
open Go.RowKit
set_option maxRecDepth 100000

theorem head_c {R : List UInt8} {c d : UInt8} (hc : c = R.headD 0) (hd : d ≠ 0) : R.head? = some d ↔ c = d := by
  rw [hc]
  cases R with
  | nil => simp; exact fun h => hd h.symm
  | cons a R => simp
theorem filP_no {n : Nat} {R : List UInt8} (h : R.head? ≠ some 40) : filP n R = .error 3 := by
  cases n with
  | zero => rw [filP, if_neg h]
  | succ n => rw [filP, if_neg h]
set_option maxHeartbeats 16000000 in
theorem ffilter_step {n : Nat} (hn : n ≤ 16) (ih : ∀ m, n = m + 1 → FilIH m) : FilIH n := by
  intro w g s k h hk hl
  have hgB := h.lt
  obtain ⟨U, hU⟩ : ∃ U, U = filP n (s.drop k) := ⟨_, rfl⟩
  rw [← hU]
  obtain ⟨w1, hw1⟩ : ∃ y7 : World, y7 = w.alloc (.cells z5 25) := ⟨_, rfl⟩
  obtain ⟨p, hp⟩ : ∃ p, p = w.heap.size := ⟨_, rfl⟩
  have x1 : Ext w w1 := by rw [hw1]; exact (Mod.refl _ w).alloc _
  have B1 : Blk w1 p 25 z5 := by rw [hw1, hp]; exact Blk.new w _ _
  have r1 := h.mod x1 (fun h => h)
  have m1 : Mod (fun b => b = g) w w1 := x1.mono (fun _ _ h => h.elim)
  have hpg : p ≠ g := by omega
  have hgp : g ≠ p := by omega
  have hpn : ¬ p < w.heap.size := by omega
  have hmodp : ∀ {wx : World} (a b c d e : Value), Mod (fun b => b = g) w wx → Mod (fun b => b = g) w (W5 wx p a b c d e) := fun a b c d e m => mod5 m (fun h => absurd h hpn) a b c d e
  obtain ⟨c, hc⟩ : ∃ d, d = (s.drop k).headD 0 := ⟨_, rfl⟩
  have hnx := next_any r1 hk
  rw [← hc] at hnx
  have hlt : c ≠ 0 → k < s.length := fun h0 => (drop_head hc h0).1
  have hhd := head_c hc (d := 40) (by decide)
  replace hw1 := Lib.hid hw1
  replace hp := Lib.hid hp
  replace hU := Lib.hid hU
  replace hc := Lib.hid hc
  clear h x1
  go_enter Try.func20, Try.ntmps20
  go_upto_region 1 with fail
  rw [← hw1.out, ← hp.out]
  go_wp2_with fail
  refine hnx.mono ?_
  rintro e w2 ⟨rfl, n2, hw2⟩
  have x2 : Ext w1 w2 := by rw [hw2]; exact (Mod.refl _ w1).drewN n2
  clear hw2 hnx
  have r2 := r1.mod x2 (fun h => h)
  have m2 := m1.then_ x2 (fun _ _ h => h.elim)
  have B2 := B1.mod x2 (fun h => h)
  clear r1 m1 B1 x2
  by_cases h40 : c = 40
  rotate_left
  · have e40 : ((c.toNat : Int) != 40) = true := by rw [bne, show ((c.toNat : Int) == 40) = false from byte_ne c (n := 40) (by omega) h40]; rfl
    have hU2 := Lib.hid (hU.out.trans (filP_no (n := n) (fun h => h40 (hhd.1 h))))
    clear hU hc hhd hlt h40 ih
    obtain ⟨⟨f0, f1, f2, f3, f4⟩, e0, e1, e2, e3, e4⟩ := B2.five
    go_wp2_with fail
    refine bodyPost_ret (results_cell_row2 Try.results20 _ _ _ _ _ _ _ rfl (B2.set5 _ _ _ _ _) Try.underlying25 rfl (by kernel_rfl)) rfl ?_
    exact ⟨⟨fz, _, _, 3, k, rfl, hk, Blk.far5 r2 hgp _ _ _ _ _, .inl ⟨hU2.out, (by decide), rfl, rfl, rfl⟩⟩, hmodp _ _ _ _ _ m2⟩
  have e40 : ((c.toNat : Int) != 40) = false := by rw [bne, show ((c.toNat : Int) == 40) = true from byte_eq c (n := 40) (by omega) h40]; rfl
  have hkl := hlt (by rw [h40]; decide)
  have hhd2 := hhd.2 h40
  clear hhd hlt h40 hc
  cases n with
  | zero =>
    have hU2 := Lib.hid (show U = .error 10 by rw [hU.out, filP, if_pos hhd2])
    clear hU ih hhd2
    obtain ⟨⟨f0, f1, f2, f3, f4⟩, e0, e1, e2, e3, e4⟩ := B2.five
    go_wp2_with fail
    refine bodyPost_ret (results_cell_row2 Try.results20 _ _ _ _ _ _ _ rfl (B2.set5 _ _ _ _ _) Try.underlying25 rfl (by kernel_rfl)) rfl ?_
    exact ⟨⟨fz, _, _, 10, k, rfl, hk, Blk.far5 r2 hgp _ _ _ _ _, .inl ⟨hU2.out, (by decide), rfl, rfl, rfl⟩⟩, hmodp _ _ _ _ _ m2⟩
  | succ n =>
    have hU1 : U = closeP (innerP (filP n) (s.drop (k + 1))) := by rw [hU.out, filP, if_pos hhd2, List.tail_drop]
    have hdb : decide ((16 : Int) < 17 - ((n + 1 : Nat) : Int)) = false := dfalse (by omega)
    have hd16 : (17 : Int) - ((n + 1 : Nat) : Int) = 16 - (n : Int) := by omega
    rw [hd16] at hdb ⊢
    replace hU1 := Lib.hid hU1
    have ih2 : Hid (FilIH n) := Lib.hid (p := FilIH n) (@ih n rfl)
    clear hU hhd2 hd16 ih
    obtain ⟨c0, c1⟩ := r2.c
    have z1 := Blk.frozen r2 1
    have r3 := r2.step
    have y3 := step_mod (w := w2) (g := g) (.int .i64 ((k : Int) + 1))
    go_upto_region 6 with fail
    obtain ⟨w3, hw3⟩ : ∃ y7 : World, y7 = w2.setCell ⟨g, 1, none⟩ (.int .i64 ((k : Int) + 1)) := ⟨_, rfl⟩
    rw [← hw3] at r3 y3 ⊢
    have m3 := m2.then_ y3 (fun _ _ h => h)
    have B3 := B2.mod y3 hpg
    clear hw3 r2 m2 B2 c0 c1 z1 y3
    have hih := Lib.hid (finner_any ih2.out (by omega) r3 hkl hl)
    clear ih2
    go_wp2_with fail
    refine hih.out.mono ?_
    rintro e w4 ⟨⟨F, vs, vk, x, j, rfl, hj, r4, hcase⟩, y4⟩
    have hcase2 : FCase (n + 1) (innerP (filP n) (s.drop (k + 1))) w3.heap.size w4 s F vs vk x j := hcase
    obtain ⟨⟨A1, l1, t1, rfl⟩, A2, l2, t2, rfl⟩ := hcase2.shape
    have m4 := m3.then_ y4 (fun _ _ h => h)
    have B4 := B3.mod y4 hpg
    have hpw : p < w3.heap.size := B3.lt
    have hws : w.heap.size ≤ w3.heap.size := m3.size
    obtain ⟨w5, hw5⟩ : ∃ y7 : World, y7 = w4.alloc (.cells #[.int .i64 F.kind, sv F.typ, sv F.val, .slice A1 l1 t1, .slice A2 l2 t2] 25) := ⟨_, rfl⟩
    obtain ⟨q, hq⟩ : ∃ p, p = w4.heap.size := ⟨_, rfl⟩
    have x5 : Ext w4 w5 := by rw [hw5]; exact (Mod.refl _ w4).alloc _
    have BQ : Blk w5 q 25 #[.int .i64 F.kind, sv F.typ, sv F.val, .slice A1 l1 t1, .slice A2 l2 t2] := by rw [hw5, hq]; exact Blk.new w4 _ _
    have r5 := r4.mod x5 (fun h => h)
    have m5 := m4.then_ x5 (fun _ _ h => h.elim)
    have B5 := B4.mod x5 (fun h => h)
    have hqg : q ≠ g := by have := r4.lt; omega
    have hqp : q ≠ p := by have := B4.lt; omega
    replace hw5 := Lib.hid hw5
    replace hq := Lib.hid hq
    clear hih hcase r4 m4 B4 B3 m3 r3 y4
    go_upto_region 7 with fail
    rw [← hw5.out, ← hq.out]
    rcases hcase2 with ⟨hR, hx0, rfl, hv1, hv2⟩ | ⟨hR, rfl, hF⟩
    · have hU2 := Lib.hid (show U = .error x by rw [hU1.out, hR]; rfl)
      have hne : ((x : Int) != 0) = true := bne_iff_ne.2 (by omega)
      clear hU1 hR hv1 hv2 BQ
      obtain ⟨⟨f0, f1, f2, f3, f4⟩, e0, e1, e2, e3, e4⟩ := B5.five
      go_wp2_with fail
      refine bodyPost_ret (results_cell_row2 Try.results20 _ _ _ _ _ _ _ rfl (B5.set5 _ _ _ _ _) Try.underlying25 rfl (by kernel_rfl)) rfl ?_
      exact ⟨⟨fz, _, _, x, j, rfl, hj, Blk.far5 r5 hgp _ _ _ _ _, .inl ⟨hU2.out, hx0, rfl, rfl, rfl⟩⟩, hmodp _ _ _ _ _ m5⟩
    have hcl : U = if (s.drop j).head? = some 41 then .ok (F, (s.drop j).tail) else .error 3 := by rw [hU1.out, hR]; rfl
    replace hcl := Lib.hid hcl
    clear hU1 hR
    go_wp2_with fail
    refine (take_any r5 hj (by omega) [41] (by decide)).mono ?_
    rintro e w6 ⟨b, rfl, hb, r6, y6⟩
    rw [pre_one] at hb
    have m6 := m5.then_ y6 (fun _ _ h => h)
    have B6 := B5.mod y6 hpg
    have BQ6 := BQ.mod y6 hqg
    have hF6 := (hF.ext x5).mod y6 (fun b _ hb h => by have : b = g := h; omega)
    replace hb := Lib.hid hb
    clear r5 m5 B5 BQ y6 hF x5
    cases b
    · have hU2 := Lib.hid (show U = .error 3 by rw [hcl.out, if_neg (of_decide_eq_false hb.out.symm)])
      rw [if_neg (by decide)] at r6
      clear hcl hb BQ6 hF6
      obtain ⟨⟨f0, f1, f2, f3, f4⟩, e0, e1, e2, e3, e4⟩ := B6.five
      go_wp2_with fail
      refine bodyPost_ret (results_cell_row2 Try.results20 _ _ _ _ _ _ _ rfl (B6.set5 _ _ _ _ _) Try.underlying25 rfl (by kernel_rfl)) rfl ?_
      exact ⟨⟨fz, _, _, 3, j, rfl, hj, Blk.far5 r6 hgp _ _ _ _ _, .inl ⟨hU2.out, (by decide), rfl, rfl, rfl⟩⟩, hmodp _ _ _ _ _ m6⟩
    · have hU2 := Lib.hid (show U = .ok (F, s.drop (j + 1)) by rw [hcl.out, if_pos (of_decide_eq_true hb.out.symm), List.tail_drop])
      have hjl : j + 1 ≤ s.length := by
        have h1 := of_decide_eq_true hb.out.symm
        rw [List.head?_drop] at h1
        exact (List.getElem?_eq_some_iff.1 h1).1
      rw [if_pos rfl] at r6
      replace r6 : Rd w6 g s (j + 1) := r6
      clear hcl hb
      obtain ⟨⟨f0, f1, f2, f3, f4⟩, e0, e1, e2, e3, e4⟩ := B6.five
      obtain ⟨-, q0, q1, q2, q3, q4⟩ := BQ6.five
      go_wp2_with fail
      refine bodyPost_ret (results_cell_row2 Try.results20 _ _ _ _ _ _ _ rfl (B6.set5 _ _ _ _ _) Try.underlying25 rfl (by kernel_rfl)) rfl ?_
      exact ⟨⟨F, _, _, 0, j + 1, rfl, hjl, Blk.far5 r6 hgp _ _ _ _ _, .inr ⟨hU2.out, rfl, (hF6.mod (mod5_at w6 p _ _ _ _ _) (fun b _ hb h => by have : b = p := h; omega)).mono (fun b _ h => by omega)⟩⟩, hmodp _ _ _ _ _ m6⟩
theorem ffilter_any : ∀ n, n ≤ 16 → FilIH n
  | 0, h => ffilter_step h (fun m e => absurd e (by omega))
  | n + 1, h => ffilter_step h (fun m e => by obtain rfl : n = m := by omega
                                              exact ffilter_any n (by omega))
end Go.Proofs.Ytekocbphdckmkaa
