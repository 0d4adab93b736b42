/- filter: the document's reader: filter. -/
import Derived.Test.YtekocbphdckmkaaFrE
namespace Go.Proofs.Ytekocbphdckmkaa
open Go.RowKit
set_option maxRecDepth 100000

/-- Where the document's filter has come: what stands between its brackets is read. -/
def GAt (n : Nat) (R : PR) (w wx : World) (p fb g : Nat) (s : List UInt8) : Prop :=
  ∃ (F : Fi) (vs vk : Value) (x j : Nat), (-9223372036854775808 ≤ F.kind ∧ F.kind ≤ 9223372036854775807) ∧ (∃ A m c, vs = .slice A m c) ∧ (∃ A m c, vk = .slice A m c) ∧ j ≤ s.length ∧ Mod (fun b => b = g) w wx ∧ R3 wx g s j x ∧ Blk wx p 25 z5 ∧ Blk wx fb 25 #[.int .i64 F.kind, sv F.typ, sv F.val, vs, vk] ∧
    ((R = .error x ∧ x ≠ 0) ∨ (R = .error 3 ∧ x = 0 ∧ j = s.length) ∨ (R = .ok (F, s.drop j) ∧ x = 0 ∧ FilS (fun b => fb < b) n wx F vs vk))
theorem close_ok {F : Fi} {R : List UInt8} : closeP (.ok (F, R)) = if R.head? = some 41 then .ok (F, R.tail) else .error 3 := rfl
theorem kids_one {p : List UInt8 → PR} (hp : Goes p) {R : List UInt8} : kidsP p 2 false R = (match p R with | .error e => (.error e : PR) | .ok (F, R') => .ok (.mk 2 [] [] [] [F], R')) := by
  unfold kidsP
  rw [manyP, if_pos (.inl rfl)]
  cases h : p R with
  | error e => rfl
  | ok y =>
    obtain ⟨F, R'⟩ := y
    have h1 := hp _ _ _ h
    obtain ⟨m, hm⟩ : ∃ m, R.length = m + 1 := ⟨R.length - 1, by omega⟩
    have h2 : manyP p R.length false ([] ++ [F]) R' = .ok ([F], R') := by
      rw [hm, manyP, if_neg]
      · rfl
      · rintro (h | ⟨h, -⟩)
        · cases h
        · cases h
    show (match manyP p R.length false ([] ++ [F]) R' with | .error e => (.error e : PR) | .ok (K, R') => .ok (.mk 2 [] [] [] K, R')) = _
    rw [h2]
set_option maxHeartbeats 64000000 in
theorem rfilter_step {n : Nat} (hn : n ≤ 16) (ih : ∀ m, n = m + 1 → FilIH3 m) : FilIH3 n := by
  intro w g s k h hk hl
  have hgB := h.lt
  obtain ⟨U, hU⟩ : ∃ U, U = filP n (s.drop k) := ⟨_, rfl⟩
  rw [← hU]
  obtain ⟨w1, hw1⟩ : ∃ y7 : World, y7 = w.alloc (.cells z5 25) := ⟨_, rfl⟩
  obtain ⟨p, hp⟩ : ∃ p, p = w.heap.size := ⟨_, rfl⟩
  have x1 : Ext w w1 := by rw [hw1]; exact (Mod.refl _ w).alloc _
  have B1 : Blk w1 p 25 z5 := by rw [hw1, hp]; exact Blk.new w _ _
  have r1 := h.mod x1 (fun h => h)
  have m1 : Mod (fun b => b = g) w w1 := x1.mono (fun _ _ h => h.elim)
  have hpg : p ≠ g := by omega
  have hgp : g ≠ p := by omega
  have hpn : ¬ p < w.heap.size := by omega
  have hpw1 : p < w1.heap.size := B1.lt
  have hmodp : ∀ {wx : World} (a b c d e : Value), Mod (fun b => b = g) w wx → Mod (fun b => b = g) w (W5 wx p a b c d e) := fun a b c d e m => mod5 m (fun h => absurd h hpn) a b c d e
  rw [← hp]
  replace hw1 := Lib.hid hw1
  replace hp := Lib.hid hp
  replace hU := Lib.hid hU
  clear h x1
  go_enter Try.func21, Try.ntmps21
  go_upto_region 1 with fail
  rw [← hw1.out, ← hp.out]
  clear hw1
  go_wp2_with fail
  refine (rsign_at r1 hk (by omega) 40 40 rfl).mono ?_
  rintro e w2 ⟨b1, rfl, hb1, hk1, r2, y2⟩
  have m2 := m1.then_ y2 (fun _ _ h => h)
  have B2 := B1.mod y2 hpg
  have h12 := y2.size
  clear r1 m1 B1 y2
  cases b1
  case false =>
    replace r2 : R3 w2 g s k 0 := r2
    have hU2 := Lib.hid (hU.out.trans (filP_no (n := n) (of_decide_eq_false hb1.symm)))
    clear hU hb1 ih
    go_wp2_with fail
    refine (rbad_any r2 3).mono ?_
    rintro e w3 ⟨rfl, r3, y3⟩
    have m3 := m2.then_ y3 (fun _ _ h => h)
    have BX := B2.mod y3 hpg
    clear r2 m2 B2 y3
    obtain ⟨⟨f0, f1, f2, f3, f4⟩, e0, e1, e2, e3, e4⟩ := BX.five
    go_wp2_with fail
    refine bodyPost_ret (results_cell_row Try.results21 _ _ _ _ _ _ _ rfl (BX.set5 _ _ _ _ _) Try.underlying25 rfl (by kernel_rfl)) rfl ?_
    exact ⟨⟨fz, _, _, 3, k, rfl, by decide, ⟨_, _, _, rfl⟩, ⟨_, _, _, rfl⟩, hk, Blk.far5 r3 hgp _ _ _ _ _, .inl ⟨hU2.out, by decide⟩⟩, hmodp _ _ _ _ _ m3⟩
  replace r2 : R3 w2 g s (k + 1) 0 := r2
  replace hk1 : k + 1 ≤ s.length := hk1
  have hhd := of_decide_eq_true hb1.symm
  clear hb1
  cases n with
  | zero =>
    have hU2 := Lib.hid (show U = .error 10 by rw [hU.out, filP, if_pos hhd])
    clear hU ih hhd
    go_wp2_with fail
    refine (rbad_any r2 10).mono ?_
    rintro e w3 ⟨rfl, r3, y3⟩
    have m3 := m2.then_ y3 (fun _ _ h => h)
    have BX := B2.mod y3 hpg
    clear r2 m2 B2 y3
    obtain ⟨⟨f0, f1, f2, f3, f4⟩, e0, e1, e2, e3, e4⟩ := BX.five
    go_wp2_with fail
    refine bodyPost_ret (results_cell_row Try.results21 _ _ _ _ _ _ _ rfl (BX.set5 _ _ _ _ _) Try.underlying25 rfl (by kernel_rfl)) rfl ?_
    exact ⟨⟨fz, _, _, 10, k + 1, rfl, by decide, ⟨_, _, _, rfl⟩, ⟨_, _, _, rfl⟩, hk1, Blk.far5 r3 hgp _ _ _ _ _, .inl ⟨hU2.out, by decide⟩⟩, hmodp _ _ _ _ _ m3⟩
  | succ n =>
    have hU1 : U = closeP (innerP (filP n) (s.drop (k + 1))) := by rw [hU.out, filP, if_pos hhd, List.tail_drop]
    have hdb : decide ((16 : Int) < 17 - ((n + 1 : Nat) : Int)) = false := dfalse (by omega)
    have hd16 : (17 : Int) - ((n + 1 : Nat) : Int) = 16 - (n : Int) := by omega
    rw [hd16] at hdb ⊢
    replace hU1 := Lib.hid hU1
    have ih2 : Hid (FilIH3 n) := Lib.hid (p := FilIH3 n) (@ih n rfl)
    clear hU hhd hd16 ih
    obtain ⟨R, hR⟩ : ∃ R, R = innerP (filP n) (s.drop (k + 1)) := ⟨_, rfl⟩
    rw [← hR] at hU1
    replace hR := Lib.hid hR
    obtain ⟨w4, hw4⟩ : ∃ y7 : World, y7 = w2.alloc (.cells z5 25) := ⟨_, rfl⟩
    obtain ⟨fb, hfb⟩ : ∃ y8, y8 = w2.heap.size := ⟨_, rfl⟩
    have x4 : Ext w2 w4 := by rw [hw4]; exact (Mod.refl _ w2).alloc _
    have F4 : Blk w4 fb 25 z5 := by rw [hw4, hfb]; exact Blk.new w2 _ _
    have r4 := r2.mod x4 (fun h => h)
    have m4 := m2.then_ x4 (fun _ _ h => h.elim)
    have B4 := B2.mod x4 (fun h => h)
    have hfg : fb ≠ g := by have := r2.lt; omega
    have hgf : g ≠ fb := fun h => hfg h.symm
    have hfp : p ≠ fb := by have := B2.lt; omega
    have hpf : fb ≠ p := fun h => hfp h.symm
    have hfw : w.heap.size ≤ fb := by have := m2.size; omega
    have hfs : fb < w4.heap.size := F4.lt
    have hpf2 : p < fb := by have := B2.lt; omega
    replace hw4 := Lib.hid hw4
    replace hfb := Lib.hid hfb
    clear r2 m2 B2 x4
    go_upto_block 0 with fail
    rw [← hw4.out, ← hfb.out]
    go_cut [0] (fun s0 wx => s0 = .pointer (some ⟨g, 0, none⟩) ∧ GAt (n + 1) R w wx p fb g s)
    case first =>
      go_wp2_with fail
      refine (rsign_at r4 hk1 (by omega) 38 38 rfl).mono ?_
      rintro e w5 ⟨b1, rfl, hb1, hk5, r5, y5⟩
      have m5 := m4.then_ y5 (fun _ _ h => h)
      have B5 := B4.mod y5 hpg
      have F5 := F4.mod y5 hfg
      clear r4 m4 B4 F4 y5
      cases b1
      case true =>
        replace r5 : R3 w5 g s (k + 1 + 1) 0 := r5
        replace hk5 : k + 1 + 1 ≤ s.length := hk5
        have hin : kidsP (filP n) 0 true (s.drop (k + 1 + 1)) = R := by
          rw [hR.out, ← inner_kids (kd := 0) (b := true) (of_decide_eq_true hb1.symm) (by decide), List.tail_drop]
        have hki := rkids_any ih2.out (by omega) (kd := 0) (by omega) r5 hk5 hl
        rw [hin] at hki
        replace hki := Lib.hid hki
        clear hb1 hin
        go_wp2_with fail
        refine hki.out.mono ?_
        rintro e w9 ⟨⟨F, vs, vk, x, j, rfl, hkF, ⟨As, ms, cs, rfl⟩, ⟨Ak, mk, ck, rfl⟩, hj, r9, hcase⟩, y9⟩
        have B9 := B5.mod y9 hpg
        have F9 := F5.mod y9 hfg
        have m9 := m5.then_ y9 (fun _ _ h => h)
        have hsz9 : fb < w5.heap.size := F5.lt
        obtain ⟨⟨f0, f1, f2, f3, f4⟩, k0, k1, k2, k3, k4⟩ := F9.five
        clear hki r5 m5 B5 F5 y9
        go_wp2_with fail
        go_meet
        refine ⟨rfl, F, _, _, x, j, hkF, ⟨_, _, _, rfl⟩, ⟨_, _, _, rfl⟩, hj, mod5 m9 (fun h => by omega) _ _ _ _ _, Blk.far5 r9 hgf _ _ _ _ _, Blk.far5 B9 hfp _ _ _ _ _, F9.set5 _ _ _ _ _, ?_⟩
        rcases hcase with h | ⟨h1, h2, h3⟩
        · exact .inl h
        · exact .inr (.inr ⟨h1, h2, (h3.mod (mod5_at w9 fb _ _ _ _ _) (fun b _ hb h => by have : b = fb := h; omega)).mono (fun b _ h => by omega)⟩)
      replace r5 : R3 w5 g s (k + 1) 0 := r5
      have n38 := Lib.hid (of_decide_eq_false hb1.symm)
      clear hb1
      go_wp2_with fail
      refine (rsign_at r5 hk1 (by omega) 124 124 rfl).mono ?_
      rintro e w6 ⟨b1, rfl, hb1, hk6, r6, y6⟩
      have m6 := m5.then_ y6 (fun _ _ h => h)
      have B6 := B5.mod y6 hpg
      have F6 := F5.mod y6 hfg
      clear r5 m5 B5 F5 y6
      cases b1
      case true =>
        replace r6 : R3 w6 g s (k + 1 + 1) 0 := r6
        replace hk6 : k + 1 + 1 ≤ s.length := hk6
        have hin : kidsP (filP n) 1 true (s.drop (k + 1 + 1)) = R := by
          rw [hR.out, ← inner_kids (kd := 1) (b := true) (of_decide_eq_true hb1.symm) (by decide), List.tail_drop]
        have hki := rkids_any ih2.out (by omega) (kd := 1) (by omega) r6 hk6 hl
        rw [hin] at hki
        replace hki := Lib.hid hki
        clear hb1 hin
        go_wp2_with fail
        refine hki.out.mono ?_
        rintro e w9 ⟨⟨F, vs, vk, x, j, rfl, hkF, ⟨As, ms, cs, rfl⟩, ⟨Ak, mk, ck, rfl⟩, hj, r9, hcase⟩, y9⟩
        have B9 := B6.mod y9 hpg
        have F9 := F6.mod y9 hfg
        have m9 := m6.then_ y9 (fun _ _ h => h)
        have hsz9 : fb < w6.heap.size := F6.lt
        obtain ⟨⟨f0, f1, f2, f3, f4⟩, k0, k1, k2, k3, k4⟩ := F9.five
        clear hki r6 m6 B6 F6 y9
        go_wp2_with fail
        go_meet
        refine ⟨rfl, F, _, _, x, j, hkF, ⟨_, _, _, rfl⟩, ⟨_, _, _, rfl⟩, hj, mod5 m9 (fun h => by omega) _ _ _ _ _, Blk.far5 r9 hgf _ _ _ _ _, Blk.far5 B9 hfp _ _ _ _ _, F9.set5 _ _ _ _ _, ?_⟩
        rcases hcase with h | ⟨h1, h2, h3⟩
        · exact .inl h
        · exact .inr (.inr ⟨h1, h2, (h3.mod (mod5_at w9 fb _ _ _ _ _) (fun b _ hb h => by have : b = fb := h; omega)).mono (fun b _ h => by omega)⟩)
      replace r6 : R3 w6 g s (k + 1) 0 := r6
      have n124 := Lib.hid (of_decide_eq_false hb1.symm)
      clear hb1
      go_wp2_with fail
      refine (rsign_at r6 hk1 (by omega) 33 33 rfl).mono ?_
      rintro e w7 ⟨b1, rfl, hb1, hk7, r7, y7⟩
      have m7 := m6.then_ y7 (fun _ _ h => h)
      have B7 := B6.mod y7 hpg
      have F7 := F6.mod y7 hfg
      clear r6 m6 B6 F6 y7
      cases b1
      case true =>
        replace r7 : R3 w7 g s (k + 1 + 1) 0 := r7
        replace hk7 : k + 1 + 1 ≤ s.length := hk7
        have hin : R = (match filP n (s.drop (k + 1 + 1)) with | .error e => (.error e : PR) | .ok (F, R') => .ok (.mk 2 [] [] [] [F], R')) := by
          rw [hR.out, ← inner_kids (kd := 2) (b := false) (of_decide_eq_true hb1.symm) (by decide), List.tail_drop, kids_one (filP_goes n)]
        have hki := ih2.out r7 hk7 hl
        have hdp : (16 - (n : Int)) + 1 = 17 - (n : Int) := by omega
        have hwr : IntKind.i64.wrap (17 - (n : Int)) = 17 - (n : Int) := wrap_small _ (by omega) (by omega)
        replace hki := Lib.hid hki
        replace hin := Lib.hid hin
        clear hb1
        go_wp2_with fail
        refine hki.out.mono ?_
        rintro e w9 ⟨⟨F, vs, vk, x, j, rfl, hkF, ⟨As, ms, cs, rfl⟩, ⟨Ak, mk, ck, rfl⟩, hj, r9, hcase⟩, y9⟩
        have B9 := B7.mod y9 hpg
        have F9 := F7.mod y9 hfg
        have m9 := m7.then_ y9 (fun _ _ h => h)
        have hsz9 : fb < w7.heap.size := F7.lt
        have hszy := y9.size
        obtain ⟨wa, hwa⟩ : ∃ y7 : World, y7 = w9.alloc (.cells #[.int .i64 F.kind, sv F.typ, sv F.val, .slice As ms cs, .slice Ak mk ck] 25) := ⟨_, rfl⟩
        obtain ⟨ga, hga⟩ : ∃ y8, y8 = w9.heap.size := ⟨_, rfl⟩
        have xa : Ext w9 wa := by rw [hwa]; exact (Mod.refl _ w9).alloc _
        have RA : Rc fic 5 wa (fun b => b = ga) (.slice (some ⟨ga, 0, none⟩) 1 1) [(F, Value.slice As ms cs, Value.slice Ak mk ck)] := by
          rw [hwa, hga]
          have := SlK.one w9 25 (fic (F, Value.slice As ms cs, Value.slice Ak mk ck)) 5 (fic_len _)
          unfold Rc
          simpa using this
        have BA := B9.mod xa (fun h => h)
        have FA := F9.mod xa (fun h => h)
        have rA := r9.mod xa (fun h => h)
        have mA := m9.then_ xa (fun _ _ h => h.elim)
        obtain ⟨⟨f0, f1, f2, f3, f4⟩, k0, k1, k2, k3, k4⟩ := FA.five
        replace hwa := Lib.hid hwa
        replace hga := Lib.hid hga
        clear hki r7 m7 B7 F7 y9 B9 F9 r9 m9
        go_wp2_with (first | rw [← hwa.out, ← hga.out])
        go_meet
        refine ⟨rfl, .mk 2 [] [] [] [F], .slice none 0 0, .slice (some ⟨ga, 0, none⟩) 1 1, x, j, krg (k := 2) (by decide), ⟨_, _, _, rfl⟩, ⟨_, _, _, rfl⟩, hj, mod5 mA (fun h => by omega) _ _ _ _ _, Blk.far5 rA hgf _ _ _ _ _, Blk.far5 BA hfp _ _ _ _ _, FA.set5 _ _ _ _ _, ?_⟩
        rcases hcase with ⟨h1, h2⟩ | ⟨h1, h2, h3⟩
        · exact .inl ⟨by rw [hin.out, h1], h2⟩
        · refine .inr (.inr ⟨by rw [hin.out, h1], h2, ?_⟩)
          have h4 : FilS (fun b => fb < b) (n + 1) wa (.mk 2 [] [] [] [F]) (.slice none 0 0) (.slice (some ⟨ga, 0, none⟩) 1 1) := ⟨⟨krg (k := 2) (by decide), by simp [Fi.typ], by simp [Fi.val], by simp [Fi.subs], by simp [Fi.subs], by simp [Fi.kids]⟩, Sl.nil _ _, [(F, Value.slice As ms cs, Value.slice Ak mk ck)], RA.mono (fun b _ hb => by have := hga.out; have : b = ga := hb; omega), rfl, fun x hx => by
            rw [List.mem_singleton.1 hx]
            exact (h3.ext xa).mono (fun b _ h => by omega)⟩
          exact h4.mod (mod5_at wa fb _ _ _ _ _) (fun b _ hb h => by have : b = fb := h; omega)
      replace r7 : R3 w7 g s (k + 1) 0 := r7
      have n33 := of_decide_eq_false hb1.symm
      have hin : toPR (itemP (s.drop (k + 1))) = R := by rw [hR.out]; exact inner_item n38.out n124.out n33
      have hki := ritem_any r7 hk1 hl
      replace hki := Lib.hid hki
      replace hin := Lib.hid hin
      clear hb1 n38 n124 n33
      go_wp2_with fail
      refine hki.out.mono ?_
      rintro e w9 ⟨⟨F, vs, vk, x, j, rfl, hkF, ⟨As, ms, cs, rfl⟩, ⟨Ak, mk, ck, rfl⟩, hj, r9, hcase⟩, y9⟩
      have B9 := B7.mod y9 hpg
      have F9 := F7.mod y9 hfg
      have m9 := m7.then_ y9 (fun _ _ h => h)
      have hsz9 : fb < w7.heap.size := F7.lt
      obtain ⟨⟨f0, f1, f2, f3, f4⟩, k0, k1, k2, k3, k4⟩ := F9.five
      clear hki r7 m7 B7 F7 y9
      go_wp2_with fail
      go_meet
      refine ⟨rfl, F, _, _, x, j, hkF, ⟨_, _, _, rfl⟩, ⟨_, _, _, rfl⟩, hj, mod5 m9 (fun h => by omega) _ _ _ _ _, Blk.far5 r9 hgf _ _ _ _ _, Blk.far5 B9 hfp _ _ _ _ _, F9.set5 _ _ _ _ _, ?_⟩
      rcases hcase with ⟨h1, h2 | ⟨h2, h3⟩⟩ | ⟨h1, h2, h3⟩
      · refine .inl ⟨by rw [← hin.out, h1, h2]; rfl, by omega⟩
      · exact .inr (.inl ⟨by rw [← hin.out, h1]; rfl, h2, h3⟩)
      · exact .inr (.inr ⟨by rw [← hin.out, h1]; rfl, h2, ((h3.more (by omega)).mod (mod5_at w9 fb _ _ _ _ _) (fun b _ hb h => by have : b = fb := h; omega)).mono (fun b _ h => by omega)⟩)
    case rest =>
      obtain ⟨rfl, F, vs, vk, x, j, hkF, ⟨As, ms, cs, rfl⟩, ⟨Ak, mk, ck, rfl⟩, hj, m9, r9, B9, F9, hcase⟩ := hcut
      clear r4 m4 B4 F4 hR ih2
      obtain ⟨c0, c1, c2⟩ := r9.c
      by_cases hx : x = 0
      rotate_left
      · have hxb : ((x : Int) == 0) = false := beq_eq_false_iff_ne.2 (by omega)
        have hU2 := Lib.hid (show U = .error x by
          rcases hcase with ⟨h1, -⟩ | ⟨-, h2, -⟩ | ⟨-, h2, -⟩
          · rw [hU1.out, h1]; rfl
          · exact absurd h2 hx
          · exact absurd h2 hx)
        obtain ⟨-, q0, q1, q2, q3, q4⟩ := F9.five
        have BX := B9
        clear hcase hU1 B9
        obtain ⟨⟨f0, f1, f2, f3, f4⟩, e0, e1, e2, e3, e4⟩ := BX.five
        go_wp2_with fail
        refine bodyPost_ret (results_cell_row Try.results21 _ _ _ _ _ _ _ rfl (BX.set5 _ _ _ _ _) Try.underlying25 rfl (by kernel_rfl)) rfl ?_
        exact ⟨⟨F, _, _, x, j, rfl, hkF, ⟨_, _, _, rfl⟩, ⟨_, _, _, rfl⟩, hj, Blk.far5 r9 hgp _ _ _ _ _, .inl ⟨hU2.out, hx⟩⟩, hmodp _ _ _ _ _ m9⟩
      subst hx
      have hxb : (((0 : Nat) : Int) == 0) = true := rfl
      replace hcase := Lib.hid hcase
      go_wp2_with fail
      refine (rsign_at r9 hj (by omega) 41 41 rfl).mono ?_
      rintro e wa ⟨b1, rfl, hb1, hja, ra, ya⟩
      have ma := m9.then_ ya (fun _ _ h => h)
      have Ba := B9.mod ya hpg
      have Fa := F9.mod ya hfg
      clear r9 m9 B9 F9 c0 c1 c2
      cases b1
      case false =>
        replace ra : R3 wa g s j 0 := ra
        have hd := of_decide_eq_false hb1.symm
        have hU2 := Lib.hid (show U = .error 3 by
          rcases hcase.out with ⟨-, h2⟩ | ⟨h1, -, -⟩ | ⟨h1, -, -⟩
          · exact absurd rfl h2
          · rw [hU1.out, h1]; rfl
          · rw [hU1.out, h1, close_ok, if_neg hd])
        clear hcase hU1 hb1 hd Fa ya
        go_wp2_with fail
        refine (rbad_any ra 3).mono ?_
        rintro e wb ⟨rfl, rb, yb⟩
        have mb := ma.then_ yb (fun _ _ h => h)
        have BX := Ba.mod yb hpg
        clear ra ma Ba yb
        obtain ⟨⟨f0, f1, f2, f3, f4⟩, e0, e1, e2, e3, e4⟩ := BX.five
        go_wp2_with fail
        refine bodyPost_ret (results_cell_row Try.results21 _ _ _ _ _ _ _ rfl (BX.set5 _ _ _ _ _) Try.underlying25 rfl (by kernel_rfl)) rfl ?_
        exact ⟨⟨fz, _, _, 3, j, rfl, by decide, ⟨_, _, _, rfl⟩, ⟨_, _, _, rfl⟩, hj, Blk.far5 rb hgp _ _ _ _ _, .inl ⟨hU2.out, by decide⟩⟩, hmodp _ _ _ _ _ mb⟩
      replace ra : R3 wa g s (j + 1) 0 := ra
      replace hja : j + 1 ≤ s.length := hja
      have hd := of_decide_eq_true hb1.symm
      have hres : Hid (U = .ok (F, s.drop (j + 1)) ∧ FilS (fun b => fb < b) (n + 1) wa F (.slice As ms cs) (.slice Ak mk ck)) := Lib.hid (by
        rcases hcase.out with ⟨-, h2⟩ | ⟨-, -, h3⟩ | ⟨h1, -, h3⟩
        · exact absurd rfl h2
        · omega
        · exact ⟨by rw [hU1.out, h1, close_ok, if_pos hd, List.tail_drop], h3.mod ya (fun b hb hS h => by have : b = g := h; omega)⟩)
      obtain ⟨-, q0, q1, q2, q3, q4⟩ := Fa.five
      have BX := Ba
      clear hcase hU1 hb1 hd ya Ba
      obtain ⟨⟨f0, f1, f2, f3, f4⟩, e0, e1, e2, e3, e4⟩ := BX.five
      go_wp2_with fail
      refine bodyPost_ret (results_cell_row Try.results21 _ _ _ _ _ _ _ rfl (BX.set5 _ _ _ _ _) Try.underlying25 rfl (by kernel_rfl)) rfl ?_
      exact ⟨⟨F, _, _, 0, j + 1, rfl, hkF, ⟨_, _, _, rfl⟩, ⟨_, _, _, rfl⟩, hja, Blk.far5 ra hgp _ _ _ _ _, .inr ⟨hres.out.1, rfl, (hres.out.2.mod (mod5_at wa p _ _ _ _ _) (fun b _ hb h => by have : b = p := h; omega)).mono (fun b _ h => by omega)⟩⟩, hmodp _ _ _ _ _ ma⟩
theorem rfilter_any : ∀ n, n ≤ 16 → FilIH3 n
  | 0, h => rfilter_step h (fun m e => absurd e (by omega))
  | n + 1, h => rfilter_step h (fun m e => by obtain rfl : n = m := by omega
                                              exact rfilter_any n (by omega))
end Go.Proofs.Ytekocbphdckmkaa
