/- filter: the document's reader: item. -/
import Derived.Test.YtekocbphdckmkaaFrC
namespace Go.Proofs.Ytekocbphdckmkaa
open Go.RowKit
set_option maxRecDepth 100000

/-- What the document's item gives. -/
def IOut3 (V : Option (Fi × List UInt8)) (B : Nat) (w' : World) (g : Nat) (s : List UInt8) (e : Ending) : Prop :=
  ∃ (F : Fi) (vs vk : Value) (x j : Nat), e = .returned (filV F vs vk) ∧ (-9223372036854775808 ≤ F.kind ∧ F.kind ≤ 9223372036854775807) ∧ (∃ A m c, vs = .slice A m c) ∧ (∃ A m c, vk = .slice A m c) ∧ j ≤ s.length ∧ R3 w' g s j x ∧
    ((V = none ∧ (x = 3 ∨ (x = 0 ∧ j = s.length))) ∨ (V = some (F, s.drop j) ∧ x = 0 ∧ FilS (fun b => B ≤ b) 1 w' F vs vk))
/-- Where the document's item has come, its filter made. -/
def IAt (V3 : Option (List (List UInt8) × List UInt8)) (T : List UInt8) (c : UInt8) (Q : List (List UInt8)) (w wx : World) (p fb g : Nat) (s : List UInt8) (j : Nat) : Prop :=
  ∃ (F : Fi) (vs : Value), mkItem T c Q = some F ∧ (-9223372036854775808 ≤ F.kind ∧ F.kind ≤ 9223372036854775807) ∧ (∃ A m c, vs = .slice A m c) ∧ Mod (fun b => b = g) w wx ∧ R3 wx g s j 0 ∧ Blk wx p 25 z5 ∧ Blk wx fb 25 #[.int .i64 F.kind, sv F.typ, sv F.val, vs, .slice none 0 0] ∧
    (V3 = some (Q, s.drop j) → FilS (fun b => p < b) 1 wx F vs (.slice none 0 0))
theorem krg {k : Int} (h : 0 ≤ k ∧ k ≤ 7) : -9223372036854775808 ≤ k ∧ k ≤ 9223372036854775807 := by omega
theorem mk_small {T : List UInt8} {c : UInt8} {q : List UInt8} {kd : Int} (hk : kd = kindC c) : mkItem T c [q] = some (.mk kd T q [] []) := by rw [mkItem_one, hk]
theorem mk_many {T : List UInt8} {Q : List (List UInt8)} (h : 1 < Q.length) : mkItem T 61 Q = if Q = [[], []] then some (.mk 7 T [] [] []) else some (.mk 4 T [] Q []) := by
  unfold mkItem
  rw [if_neg (fun h => h.1 rfl), if_neg (by decide), if_neg (by decide), if_pos h]
set_option maxHeartbeats 32000000 in
theorem ritem_any {w : World} {g : Nat} {s : List UInt8} {k : Nat} (h : R3 w g s k 0) (hk : k ≤ s.length) (hl : s.length ≤ 1000000) :
    Calls Try.prog 35 #[.pointer (some ⟨g, 0, none⟩)] w fun e w' => IOut3 (itemP (s.drop k)) w.heap.size w' g s e ∧ Mod (fun b => b = g) w w' := by
  have hgB := h.lt
  obtain ⟨V, hV⟩ : ∃ V, V = itemP (s.drop k) := ⟨_, rfl⟩
  rw [← hV]
  obtain ⟨w1, hw1⟩ : ∃ y7 : World, y7 = w.alloc (.cells z5 25) := ⟨_, rfl⟩
  obtain ⟨p, hp⟩ : ∃ p, p = w.heap.size := ⟨_, rfl⟩
  have x1 : Ext w w1 := by rw [hw1]; exact (Mod.refl _ w).alloc _
  have B1 : Blk w1 p 25 z5 := by rw [hw1, hp]; exact Blk.new w _ _
  have r1 := h.mod x1 (fun h => h)
  have m1 : Mod (fun b => b = g) w w1 := x1.mono (fun _ _ h => h.elim)
  have hpg : p ≠ g := by omega
  have hgp : g ≠ p := by omega
  have hpn : ¬ p < w.heap.size := by omega
  have hpB : p < w1.heap.size := B1.lt
  have hmodp : ∀ {wx : World} (a b c d e : Value), Mod (fun b => b = g) w wx → Mod (fun b => b = g) w (W5 wx p a b c d e) := fun a b c d e m => mod5 m (fun h => absurd h hpn) a b c d e
  rw [← hp]
  replace hw1 := Lib.hid hw1
  replace hp := Lib.hid hp
  replace hV := Lib.hid hV
  clear h x1
  go_enter Try.func35, Try.ntmps35
  go_upto_region 1 with fail
  rw [← hw1.out, ← hp.out]
  clear hw1
  go_wp2_with fail
  refine (rtyp_any r1 hk hl).mono ?_
  rintro e w2 ⟨T, c, j, rfl, hj, r2, y2, hty⟩
  have m2 := m1.then_ y2 (fun _ _ h => h)
  have B2 := B1.mod y2 hpg
  have h12 := y2.size
  clear r1 m1 B1 y2
  have hc8 := c.toNat_lt
  rcases hty with ⟨hty, rfl⟩ | ⟨hty, hc0, hT32⟩
  · have hVn := Lib.hid (show V = none by rw [hV.out]; unfold itemP; rw [hty]; rfl)
    have e0 : (((0 : UInt8).toNat : Int) == 0) = true := rfl
    clear hV hty
    go_wp2_with fail
    refine (rbad_any r2 3).mono ?_
    rintro e w3 ⟨rfl, r3, y3⟩
    have m3 := m2.then_ y3 (fun _ _ h => h)
    have BX := B2.mod y3 hpg
    clear r2 m2 B2 y3
    obtain ⟨⟨f0, f1, f2, f3, f4⟩, e0, e1, e2, e3, e4⟩ := BX.five
    go_wp2_with fail
    refine bodyPost_ret (results_cell_row Try.results35 _ _ _ _ _ _ _ rfl (BX.set5 _ _ _ _ _) Try.underlying25 rfl (by kernel_rfl)) rfl ?_
    exact ⟨⟨fz, _, _, 3, j, rfl, by decide, ⟨_, _, _, rfl⟩, ⟨_, _, _, rfl⟩, hj, Blk.far5 r3 hgp _ _ _ _ _, .inl ⟨hVn.out, .inl rfl⟩⟩, hmodp _ _ _ _ _ m3⟩
  have hVv : V = (valP (s.drop j) []).bind fun y => (mkItem T c y.1).map fun f => (f, y.2) := by rw [hV.out]; unfold itemP; rw [hty]; rfl
  have e0 : ((c.toNat : Int) == 0) = false := byte_ne c (n := 0) (by omega) hc0
  replace hVv := Lib.hid hVv
  clear hV hty
  go_wp2_with fail
  refine (rvalue_any r2 hj hl).mono ?_
  rintro e w3 ⟨v, ok, rfl, y3, j3, hj3, r3, hvo⟩
  have m3 := m2.then_ y3 (fun _ _ h => h)
  have B3 := B2.mod y3 hpg
  have h23 := y3.size
  clear r2 m2 B2 y3
  rcases hvo with ⟨rfl, hV3, rfl⟩ | ⟨P, o, rfl, hown, hfr, hPl, hV3⟩
  · have hVn := Lib.hid (show V = none by rw [hVv.out, hV3]; rfl)
    clear hVv hV3
    go_wp2_with fail
    refine (rbad_any r3 3).mono ?_
    rintro e w4 ⟨rfl, r4, y4⟩
    have m4 := m3.then_ y4 (fun _ _ h => h)
    have BX := B3.mod y4 hpg
    clear r3 m3 B3 y4
    obtain ⟨⟨f0, f1, f2, f3, f4⟩, e0, e1, e2, e3, e4⟩ := BX.five
    go_wp2_with fail
    refine bodyPost_ret (results_cell_row Try.results35 _ _ _ _ _ _ _ rfl (BX.set5 _ _ _ _ _) Try.underlying25 rfl (by kernel_rfl)) rfl ?_
    exact ⟨⟨fz, _, _, 3, j3, rfl, by decide, ⟨_, _, _, rfl⟩, ⟨_, _, _, rfl⟩, hj3, Blk.far5 r4 hgp _ _ _ _ _, .inl ⟨hVn.out, .inl rfl⟩⟩, hmodp _ _ _ _ _ m4⟩
  obtain ⟨Q, hQ⟩ : ∃ Q, Q = P ++ [o] := ⟨_, rfl⟩
  rw [← hQ] at hown hV3
  obtain ⟨V3, hV3e⟩ : ∃ V3, V3 = valP (s.drop j) [] := ⟨_, rfl⟩
  rw [← hV3e] at hV3 hVv
  have hQ1 : 1 ≤ Q.length := by rw [hQ]; simp
  have hQm : Q.length ≤ 1000001 := by rw [hQ]; simp; omega
  have hQe : V3 = some (Q, s.drop j3) → ∀ x ∈ Q, x.length ≤ 1000000 := fun h x hx => by
    rw [hV3e] at h
    have := (valP_ok _ _ _ _ _ (Nat.le_refl _) h).2.2.2.2 x hx
    rw [List.length_nil, List.length_drop] at this
    omega
  have hVS : ∀ {F : Fi}, mkItem T c Q = some F → (V = none ∧ j3 = s.length) ∨ (V = some (F, s.drop j3) ∧ V3 = some (Q, s.drop j3)) := fun h => by
    rcases hV3 with e | ⟨e, hje⟩
    · refine .inr ⟨?_, e⟩
      rw [hVv.out, e]
      show (mkItem T c Q).map _ = _
      rw [h]; rfl
    · exact .inl ⟨by rw [hVv.out, e]; rfl, hje⟩
  have hVN : mkItem T c Q = none → V = none := fun h => by
    rcases hV3 with e | ⟨e, hje⟩
    · rw [hVv.out, e]
      show (mkItem T c Q).map _ = _
      rw [h]; rfl
    · rw [hVv.out, e]; rfl
  clear hV3 hVv hV3e hQ hPl
  obtain ⟨A, cv, rfl⟩ := hown.shape
  obtain ⟨n, hn⟩ : ∃ n, n = Q.length := ⟨_, rfl⟩
  rw [List.length_map, ← hn] at hown hfr ⊢
  have hn1 : 1 ≤ n := by omega
  have hnm : n ≤ 1000001 := by omega
  replace hn := Lib.hid hn
  by_cases hcn : c ≠ 61 ∧ 1 < n
  · have hVn := Lib.hid (hVN (by unfold mkItem; rw [if_pos ⟨hcn.1, by have := hn.out; omega⟩]))
    have e61 : ((c.toNat : Int) != 61) = true := by rw [bne, show ((c.toNat : Int) == 61) = false from byte_ne c (n := 61) (by omega) hcn.1]; rfl
    have hnb : decide ((1 : Int) < (n : Int)) = true := dtrue (by omega)
    have hnb2 : decide (1 < n) = true := dtrue hcn.2
    clear hVS hVN hcn hQe
    go_wp2_with fail
    refine (rbad_any r3 3).mono ?_
    rintro e w4 ⟨rfl, r4, y4⟩
    have m4 := m3.then_ y4 (fun _ _ h => h)
    have BX := B3.mod y4 hpg
    clear r3 m3 B3 y4
    obtain ⟨⟨f0, f1, f2, f3, f4⟩, e0, e1, e2, e3, e4⟩ := BX.five
    go_wp2_with fail
    refine bodyPost_ret (results_cell_row Try.results35 _ _ _ _ _ _ _ rfl (BX.set5 _ _ _ _ _) Try.underlying25 rfl (by kernel_rfl)) rfl ?_
    exact ⟨⟨fz, _, _, 3, j3, rfl, by decide, ⟨_, _, _, rfl⟩, ⟨_, _, _, rfl⟩, hj3, Blk.far5 r4 hgp _ _ _ _ _, .inl ⟨hVn.out, .inl rfl⟩⟩, hmodp _ _ _ _ _ m4⟩
  obtain ⟨q0, Q', hQ⟩ : ∃ q0 Q', Q = q0 :: Q' := by
    cases Q with
    | nil => simp at hQ1
    | cons a b => exact ⟨a, b, rfl⟩
  obtain ⟨A', c', hv', -, -, -, hcs⟩ := Sl.open_ (f := sv) (l := Q) hown.sl
  rw [← hn.out] at hv'
  injection hv' with hA' hl' hc'
  clear hl'
  subst hA'
  subst hc'
  obtain ⟨ad, hA, -, cx⟩ := hcs.at_ (show 0 < Q.length by omega)
  have hq0 : Q[0] = q0 := by simp [hQ]
  rw [hq0] at cx
  subst hA
  replace cx : w3.cell? ad = some (sv q0) := by simpa [Addr.add] using cx
  have hcs2 : ∀ (h1 : 1 < Q.length), w3.cell? ⟨ad.block, ad.off + 1, none⟩ = some (sv Q[1]) := fun h1 => by
    obtain ⟨ad2, hA2, -, cx2⟩ := hcs.at_ h1
    cases hA2
    simpa [Addr.add] using cx2
  obtain ⟨w4, hw4⟩ : ∃ y7 : World, y7 = w3.alloc (.cells #[.int .i64 3, sv T, sv q0, .slice none 0 0, .slice none 0 0] 25) := ⟨_, rfl⟩
  obtain ⟨fb, hfb⟩ : ∃ y8, y8 = w3.heap.size := ⟨_, rfl⟩
  have x4 : Ext w3 w4 := by rw [hw4]; exact (Mod.refl _ w3).alloc _
  have F4 : Blk w4 fb 25 #[.int .i64 3, sv T, sv q0, .slice none 0 0, .slice none 0 0] := by rw [hw4, hfb]; exact Blk.new w3 _ _
  have r4 := r3.mod x4 (fun h => h)
  have m4 := m3.then_ x4 (fun _ _ h => h.elim)
  have B4 := B3.mod x4 (fun h => h)
  have hown4 := hown.mod x4 (fun _ _ h => h)
  have hfg : fb ≠ g := by have := r3.lt; omega
  have hgf : g ≠ fb := fun h => hfg h.symm
  have hfp : p ≠ fb := by have := B3.lt; omega
  have hfw : w.heap.size ≤ fb := by have := m3.size; omega
  have cx4 := ext_cell x4 cx
  have hcs4 := fun h1 => ext_cell x4 (hcs2 h1)
  have hovf : ∀ b, own (.slice (some ad) n cv) b → b ≠ fb ∧ p < b := fun b hb => ⟨by have := hown.lt hb; omega, by have := hfr b hb; omega⟩
  replace hw4 := Lib.hid hw4
  replace hfb := Lib.hid hfb
  have hcb : ((c.toNat : Int) != 61) = true ∧ decide ((1 : Int) < (n : Int)) = false ∧ decide (1 < n) = false ∨ ((c.toNat : Int) != 61) = false := by
    by_cases h61 : c = 61
    · exact .inr (by rw [bne, show ((c.toNat : Int) == 61) = true from byte_eq c (n := 61) (by omega) h61]; rfl)
    · refine .inl ⟨by rw [bne, show ((c.toNat : Int) == 61) = false from byte_ne c (n := 61) (by omega) h61]; rfl, dfalse (fun h => hcn ⟨h61, by omega⟩), dfalse (fun h => hcn ⟨h61, h⟩)⟩
  have hi0 : (0 : Int) < (n : Int) := by omega
  have hi00 : 0 < n := by omega
  clear hcs hq0 hown hcs2 hfr hVN r3 m3 B3 x4
  go_upto_region 5 with fail
  go_cut [32] (fun b5 wx => b5 = .bool false ∧ wx = w3)
  case first =>
    rcases hcb with ⟨h1, h2, h3⟩ | h1
    all_goals
      go_wp2_with fail
      go_meet
      exact ⟨rfl, rfl⟩
  case rest =>
  obtain ⟨rfl, rfl⟩ := hcut
  clear hcb
  have hfin : ∀ {wx : World}, Mod (fun b => b = fb) w4 wx → Mod (fun b => b = g) w wx ∧ R3 wx g s j3 0 ∧ Blk wx p 25 z5 ∧ Own wx 9 (.slice (some ad) n cv) (Q.map sv) := fun yq => ⟨m4.trans yq (fun _ _ h => h) (fun b hb h => by have : b = fb := h; omega), r4.mod yq hgf, B4.mod yq hfp, hown4.mod yq (fun b hb h => (hovf b hb).1 h)⟩
  have hmq : ∀ (a : Value) (i : Nat), Mod (fun b => b = fb) w4 (w4.setCell ⟨fb, i, none⟩ a) := fun a i => (Mod.refl (fun b => b = fb) w4).setCell (p := ⟨fb, i, none⟩) (fun _ => rfl) a
  have hFBq : ∀ (kd : Int), -9223372036854775808 ≤ kd ∧ kd ≤ 9223372036854775807 → V3 = some (Q, s.drop j3) → FB (.mk kd T q0 [] []) := fun kd hkd h => ⟨hkd, by show T.length ≤ _; omega, by show q0.length ≤ _; have := hQe h q0 (by rw [hQ]; simp); omega, by simp [Fi.subs], by simp [Fi.subs], by simp [Fi.kids]⟩
  clear r4 m4 B4 hown4
  go_upto_block 0 with fail
  rw [← hw4.out, ← hfb.out]
  go_cut [3] (fun s3 wx => s3 = sv T ∧ IAt V3 T c Q w wx p fb g s j3)
  case first =>
    obtain ⟨⟨f0, f1, f2, f3, f4⟩, k0, k1, k2, k3, k4⟩ := F4.five
    by_cases hn2 : n = 1
    · have hQ1 : Q = [q0] := by
        rw [hQ]
        have h := hn.out
        rw [hQ, hn2, List.length_cons] at h
        rw [List.eq_nil_of_length_eq_zero (by omega : Q'.length = 0)]
      have hb2 : ((n : Int) == 2) = false := beq_eq_false_iff_ne.2 (by omega)
      have hb1 : decide ((1 : Int) < (n : Int)) = false := dfalse (by omega)
      have hb11 : decide (1 < n) = false := dfalse (by omega)
      by_cases h62 : c = 62
      · have e62 : ((c.toNat : Int) == 62) = true := byte_eq c (n := 62) (by omega) h62
        have hmk : mkItem T c Q = some (.mk 5 T q0 [] []) := by rw [hQ1]; exact mk_small (by rw [h62]; rfl)
        replace hQ1 := Lib.hid hQ1
        clear h62
        go_wp2_with fail
        go_meet
        obtain ⟨a1, a2, a3, a4⟩ := hfin (hmq (.int .i64 5) 0)
        exact ⟨rfl, .mk 5 T q0 [] [], .slice none 0 0, hmk, krg (k := 5) (by decide), ⟨_, _, _, rfl⟩, a1, a2, a3, F4.set_ 0 _, fun h => FilS.leaf (hFBq 5 (krg (by decide)) h) (Sl.nil _ _) rfl⟩
      have e62 : ((c.toNat : Int) == 62) = false := byte_ne c (n := 62) (by omega) h62
      by_cases h60 : c = 60
      · have e60 : ((c.toNat : Int) == 60) = true := byte_eq c (n := 60) (by omega) h60
        have hmk : mkItem T c Q = some (.mk 6 T q0 [] []) := by rw [hQ1]; exact mk_small (by rw [h60]; rfl)
        replace hQ1 := Lib.hid hQ1
        clear h60 h62
        go_wp2_with fail
        go_meet
        obtain ⟨a1, a2, a3, a4⟩ := hfin (hmq (.int .i64 6) 0)
        exact ⟨rfl, .mk 6 T q0 [] [], .slice none 0 0, hmk, krg (k := 6) (by decide), ⟨_, _, _, rfl⟩, a1, a2, a3, F4.set_ 0 _, fun h => FilS.leaf (hFBq 6 (krg (by decide)) h) (Sl.nil _ _) rfl⟩
      have e60 : ((c.toNat : Int) == 60) = false := byte_ne c (n := 60) (by omega) h60
      have hmk : mkItem T c Q = some (.mk 3 T q0 [] []) := by rw [hQ1]; exact mk_small (by unfold kindC; rw [if_neg h62, if_neg h60])
      replace hQ1 := Lib.hid hQ1
      clear h60 h62
      go_wp2_with fail
      go_meet
      obtain ⟨a1, a2, a3, a4⟩ := hfin (Mod.refl (fun b => b = fb) w4)
      exact ⟨rfl, .mk 3 T q0 [] [], .slice none 0 0, hmk, krg (k := 3) (by decide), ⟨_, _, _, rfl⟩, a1, a2, a3, F4, fun h => FilS.leaf (hFBq 3 (krg (by decide)) h) (Sl.nil _ _) rfl⟩
    have hc61 : c = 61 := Classical.byContradiction fun h => hcn ⟨h, by omega⟩
    subst hc61
    have e62 : (((61 : UInt8).toNat : Int) == 62) = false := rfl
    have e60 : (((61 : UInt8).toNat : Int) == 60) = false := rfl
    have hb1 : decide ((1 : Int) < (n : Int)) = true := dtrue (by omega)
    have hb11 : decide (1 < n) = true := dtrue (by omega)
    have hQl : 1 < Q.length := by have := hn.out; omega
    have hmm := mk_many (T := T) hQl
    have cy4 := hcs4 hQl
    obtain ⟨q1, hq1⟩ : ∃ q1, q1 = Q[1] := ⟨_, rfl⟩
    rw [← hq1] at cy4
    have hi1 : (1 : Int) < (n : Int) := by omega
    have hi11 : 1 < n := by omega
    have hsub : ∀ {wx : World}, Mod (fun b => b = fb) w4 wx → Blk wx fb 25 #[.int .i64 4, sv T, sv [], .slice (some ad) n cv, .slice none 0 0] → Q ≠ [[], []] → IAt V3 T 61 Q w wx p fb g s j3 := fun yq BF hne => by
      obtain ⟨a1, a2, a3, a4⟩ := hfin yq
      refine ⟨.mk 4 T [] Q [], .slice (some ad) n cv, by rw [hmm, if_neg hne], krg (k := 4) (by decide), ⟨_, _, _, rfl⟩, a1, a2, a3, BF, fun h => FilS.leaf ⟨krg (k := 4) (by decide), by show T.length ≤ _; omega, by simp [Fi.val], by show Q.length * 16 ≤ _; omega, fun x hx => by have := hQe h x hx; omega, by simp [Fi.kids]⟩ (a4.sl.mono (fun b _ hb => (hovf b hb).2)) rfl⟩
    have y4 := fun a b c d e => mod5_at w4 fb a b c d e
    by_cases hn3 : n = 2
    rotate_left
    · have hb2 : ((n : Int) == 2) = false := beq_eq_false_iff_ne.2 (by omega)
      have hne : Q ≠ [[], []] := fun h => hn3 (by rw [hn.out, h]; rfl)
      replace hsub := Lib.hid (hsub (y4 _ _ _ _ _) (F4.set5 (.int .i64 4) (sv T) (sv []) (.slice (some ad) n cv) (.slice none 0 0)) hne)
      clear hmm hq1 hne hcs4 y4
      go_wp2_with fail
      go_meet
      exact ⟨rfl, hsub.out⟩
    have hb2 : ((n : Int) == 2) = true := beq_iff_eq.2 (by omega)
    have hQ2 : Q = [q0, q1] := by
      have h := hn.out
      rw [hQ, hn3, List.length_cons] at h
      obtain ⟨z, hz⟩ : ∃ z, Q' = [z] := by
        match Q', h with
        | [z], _ => exact ⟨z, rfl⟩
      rw [hq1]
      simp [hQ, hz]
    by_cases hq0 : q0 = []
    rotate_left
    · have hz0 : q0.isEmpty = false := by cases q0 with | nil => exact absurd rfl hq0 | cons a b => rfl
      have hz1 : (q0 == []) = false := beq_eq_false_iff_ne.2 hq0
      have hne : Q ≠ [[], []] := fun h => hq0 (by rw [hQ2] at h; cases h; rfl)
      replace hsub := Lib.hid (hsub (y4 _ _ _ _ _) (F4.set5 (.int .i64 4) (sv T) (sv []) (.slice (some ad) n cv) (.slice none 0 0)) hne)
      clear hmm hq1 hne hcs4 y4 hQ2 hq0 hn3
      go_wp2_with fail
      go_meet
      exact ⟨rfl, hsub.out⟩
    have hz0 : q0.isEmpty = true := by rw [hq0]; rfl
    have hz1 : (q0 == []) = true := by rw [hq0]; rfl
    by_cases hq2 : q1 = []
    rotate_left
    · have hz2 : q1.isEmpty = false := by cases q1 with | nil => exact absurd rfl hq2 | cons a b => rfl
      have hz3 : (q1 == []) = false := beq_eq_false_iff_ne.2 hq2
      have hne : Q ≠ [[], []] := fun h => hq2 (by rw [hQ2] at h; cases h; rfl)
      replace hsub := Lib.hid (hsub (y4 _ _ _ _ _) (F4.set5 (.int .i64 4) (sv T) (sv []) (.slice (some ad) n cv) (.slice none 0 0)) hne)
      clear hmm hq1 hne hcs4 y4 hQ2 hq0 hq2 hn3
      go_wp2_with fail
      go_meet
      exact ⟨rfl, hsub.out⟩
    have hz2 : q1.isEmpty = true := by rw [hq2]; rfl
    have hz3 : (q1 == []) = true := by rw [hq2]; rfl
    have hmk : mkItem T 61 Q = some (.mk 7 T [] [] []) := by rw [hmm, if_pos (by rw [hQ2, hq0, hq2])]
    replace hmk := Lib.hid hmk
    have BF := F4.set5 (.int .i64 7) (sv T) (sv []) (.slice none 0 0) (.slice none 0 0)
    obtain ⟨a1, a2, a3, a4⟩ := hfin (y4 (.int .i64 7) (sv T) (sv []) (.slice none 0 0) (.slice none 0 0))
    have hres : IAt V3 T 61 Q w (W5 w4 fb (.int .i64 7) (sv T) (sv []) (.slice none 0 0) (.slice none 0 0)) p fb g s j3 := ⟨.mk 7 T [] [] [], .slice none 0 0, hmk.out, krg (k := 7) (by decide), ⟨_, _, _, rfl⟩, a1, a2, a3, BF, fun h => FilS.leaf ⟨krg (k := 7) (by decide), by show T.length ≤ _; omega, by simp [Fi.val], by simp [Fi.subs], by simp [Fi.subs], by simp [Fi.kids]⟩ (Sl.nil _ _) rfl⟩
    replace hres := Lib.hid hres
    clear hmm hq1 hcs4 y4 hQ2 hq0 hq2 hn3 hsub a1 a2 a3 a4 BF hmk
    go_wp2_with fail
    go_meet
    exact ⟨rfl, hres.out⟩
  case rest =>
    obtain ⟨rfl, F, vs, hmk, hkr, ⟨As, ms, cs, rfl⟩, mX, rX, BX, FX, hFS⟩ := hcut
    have hVV := hVS hmk
    replace hVV := Lib.hid hVV
    replace hFS := Lib.hid hFS
    obtain ⟨-, g0, g1, g2, g3, g4⟩ := FX.five
    clear hVS hmk hQ F4 cx4 hcs4 hovf hfin hmq hFBq FX cx hQe
    obtain ⟨⟨f0, f1, f2, f3, f4⟩, e0, e1, e2, e3, e4⟩ := BX.five
    go_wp2_with fail
    refine bodyPost_ret (results_cell_row Try.results35 _ _ _ _ _ _ _ rfl (BX.set5 _ _ _ _ _) Try.underlying25 rfl (by kernel_rfl)) rfl ?_
    refine ⟨⟨F, _, _, 0, j3, rfl, hkr, ⟨_, _, _, rfl⟩, ⟨_, _, _, rfl⟩, hj3, Blk.far5 rX hgp _ _ _ _ _, ?_⟩, hmodp _ _ _ _ _ mX⟩
    rcases hVV.out with ⟨hVn, hje⟩ | ⟨hVy, hV3⟩
    · exact .inl ⟨hVn, .inr ⟨rfl, hje⟩⟩
    · exact .inr ⟨hVy, rfl, ((hFS.out hV3).mod (mod5_at wc p _ _ _ _ _) (fun b hb h1 h2 => by have : b = p := h2; omega)).mono (fun b _ h => by omega)⟩
end Go.Proofs.Ytekocbphdckmkaa
