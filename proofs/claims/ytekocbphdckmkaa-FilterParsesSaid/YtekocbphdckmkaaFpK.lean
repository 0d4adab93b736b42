/- filter: the program's reader: item. -/
import Derived.Test.YtekocbphdckmkaaFpJ
import Derived.Deep.CutBlock
import Derived.Deep.DeepCutAuto
namespace Go.Proofs.Ytekocbphdckmkaa
open Go.RowKit
set_option maxRecDepth 100000

theorem ext_mid (l : List UInt8) (a b : Nat) : Value.string ((⟨l.toArray⟩ : ByteArray).extract a b) = sv ((l.drop a).take (b - a)) := by
  rw [ext_sv]
abbrev z5 : Array Value := #[.int .i64 0, sv [], sv [], .slice none 0 0, .slice none 0 0]
set_option maxHeartbeats 16000000 in
theorem fitem_any {w : World} {g : Nat} {s : List UInt8} {k : Nat} (h : Rd w g s k) (hk : k ≤ s.length) (hl : s.length ≤ 1000000) :
    Calls Try.prog 44 #[.pointer (some ⟨g, 0, none⟩)] w fun e w' => FOut 1 (toPR (itemP (s.drop k))) w.heap.size w' g s e ∧ Mod (fun b => b = g) w w' := by
  have hgB := h.lt
  have hsz := sv_size s
  obtain ⟨V, hV⟩ : ∃ V, V = itemP (s.drop k) := ⟨_, rfl⟩
  rw [← hV]
  obtain ⟨U, hU⟩ : ∃ U, U = toPR V := ⟨_, rfl⟩
  rw [← hU]
  replace hU := Lib.hid hU
  obtain ⟨w1, hw1⟩ : ∃ x, x = w.alloc (.cells z5 25) := ⟨_, rfl⟩
  obtain ⟨p, hp⟩ : ∃ p, p = w.heap.size := ⟨_, rfl⟩
  have x1 : Ext w w1 := by rw [hw1]; exact (Mod.refl _ w).alloc _
  have B1 : Blk w1 p 25 z5 := by rw [hw1, hp]; exact Blk.new w _ _
  have hw1s : w1.heap.size = p + 1 := by rw [hw1, hp]; simp
  have r1 := h.mod x1 (fun h => h)
  have m1 : Mod (fun b => b = g) w w1 := x1.mono (fun _ _ h => h.elim)
  have hpg : p ≠ g := by omega
  have hgp : g ≠ p := by omega
  have hpn : ¬ p < w.heap.size := by omega
  have hmodp : ∀ {wx : World} (a b c d e : Value), Mod (fun b => b = g) w wx → Mod (fun b => b = g) w (W5 wx p a b c d e) := fun a b c d e m => mod5 m (fun h => absurd h hpn) a b c d e
  replace hw1 := Lib.hid hw1
  replace hp := Lib.hid hp
  clear h
  have hia := fun wx : World => iany_any (w := wx) (R := s.drop k) (by rw [List.length_drop]; omega)
  have hit := idx_take (s.drop k)
  have het := ext_tail s k
  obtain ⟨n, hn⟩ : ∃ n, n = Lib.indexAny (s.drop k) sgns := ⟨_, rfl⟩
  rw [← hn] at hia hit
  rw [← hp.out]
  replace hia : ∀ wx, Calls Try.prog 53 #[sv (s.drop k), .string ⟨#[61, 62, 60, 126]⟩] wx fun e w' => e = .returned (.int .i64 n) ∧ Ext wx w' := hia
  replace hia := Lib.hid hia
  replace hit := Lib.hid hit
  replace hV := Lib.hid hV
  clear hn
  have hi0 : (0 : Int) ≤ (k : Int) := by omega
  have hi1 : (k : Int) ≤ (s.length : Int) := by omega
  go_enter Try.func44, Try.ntmps44
  go_upto_region 1 with fail
  rw [← hw1.out, ← hp.out]
  have hcc : ∀ {wx : World}, Rd wx g s k → wx.cell? ⟨g, 0, none⟩ = some (sv s) ∧ wx.cell? ⟨g, 1, none⟩ = some (.int .i64 k) := fun r => r.c
  have rd1 : Rd w1.drew g s k := r1.mod ((Mod.refl (fun _ => False) w1).drew) (fun h => h)
  go_region_held3 (fun wx => wx.cell? ⟨g, 0, none⟩ = some (sv s) ∧ wx.cell? ⟨g, 1, none⟩ = some (.int .i64 k)) (first | exact hcc rd1 | exact hcc r2) (first
    | (go_at_call 53; (with_reducible refine (hia.out _).mono ?_); rintro e2 w2 ⟨rfl, y2⟩; have x2 : Ext w1 w2 := ext_trans ((Mod.refl _ w1).drew) y2; have r2 := r1.mod x2 (fun h => h)))
  rename_i hHeld
  clear hHeld rd1 y2
  have m2 := m1.then_ x2 (fun _ _ h => h.elim)
  have B2 := B1.mod x2 (fun h => h)
  clear B1 r1 m1 hcc
  rcases hit.out with ⟨hn1, hdw⟩ | ⟨j, hj, hn1, htw, hdw⟩
  · have hV2 := hU.out
    rw [hV.out, itemP_none hdw] at hV2
    replace hV2 := Lib.hid hV2
    subst hn1
    obtain ⟨⟨f0, f1, f2, f3, f4⟩, e0, e1, e2, e3, e4⟩ := B2.five
    clear hit hV hdw hia het hU
    go_wp2_with fail
    refine bodyPost_ret (results_cell_row2 Try.results44 _ _ _ _ _ _ _ rfl (B2.set5 _ _ _ _ _) Try.underlying25 rfl (by kernel_rfl)) rfl ?_
    exact ⟨⟨fz, _, _, 3, k, rfl, hk, Blk.far5 r2 hgp _ _ _ _ _, .inl ⟨hV2.out, by decide, rfl, rfl, rfl⟩⟩, hmodp _ _ _ _ _ m2⟩
  rw [List.length_drop] at hj
  obtain ⟨T, hT⟩ : ∃ T, T = (s.drop k).take j := ⟨_, rfl⟩
  have hTl : T.length ≤ 1000000 := by rw [hT, List.length_take, List.length_drop]; omega
  have hVt : V = if isTyp T then ((sgnP (s.drop (k + j))).bind fun x => (valP x.2 []).bind fun y => (mkItem T x.1 y.1).map fun f => (f, y.2)) else none := by
    rw [hV.out]
    unfold itemP typR
    rw [htw, hdw, ← hT, List.drop_drop]
    split
    · cases sgnP (s.drop (k + j)) <;> rfl
    · rfl
  have hem := ext_mid s k (k + j)
  rw [show k + j - k = j by omega, ← hT, show k + j = ((k : Int) + (j : Int)).toNat by omega] at hem
  subst hn1
  have hlt0 : decide ((j : Int) < 0) = false := dfalse (by omega)
  have hj1 : (k : Int) + (j : Int) ≤ (s.length : Int) := by omega
  have hj2 : (k : Int) ≤ (k : Int) + (j : Int) := by omega
  have hjm : j ≤ 1000000 := by omega
  have hwr : IntKind.i64.wrap ((k : Int) + (j : Int)) = (k : Int) + (j : Int) := wrap_small _ (by omega) (by omega)
  have hkj : k + j ≤ s.length := by omega
  obtain ⟨c0, c1⟩ := r2.c
  replace hVt := Lib.hid hVt
  clear hit hV htw hdw hia het hT hj
  go_upto_region 4 with fail
  have z0 := World.new_ne w2 _ c0
  have z1 := World.new_ne w2 _ c1
  go_region_held3 (fun wx => wx.cell? ⟨g, 0, none⟩ = some (sv s) ∧ wx.cell? ⟨g, 1, none⟩ = some (.int .i64 k)) (first | go_keep) (fail)
  rename_i hHeld
  clear hHeld z0 z1 c0 c1
  obtain ⟨q, hq⟩ : ∃ q, q = w2.heap.size := ⟨_, rfl⟩
  obtain ⟨w3, hw3⟩ : ∃ x, x = (w2.alloc (.cells #[.int .i64 0, sv T, sv [], .slice none 0 0, .slice none 0 0] 25)).drew := ⟨_, rfl⟩
  have x3 : Ext w2 w3 := by rw [hw3]; exact ((Mod.refl _ w2).alloc _).drew
  have BQ : Blk w3 q 25 #[.int .i64 0, sv T, sv [], .slice none 0 0, .slice none 0 0] := by rw [hw3, hq]; exact (Blk.new w2 _ _).mod (F := fun _ => False) ((Mod.refl _ _).drew) (fun h => h)
  have hqp : q ≠ p := by have := B2.lt; omega
  have hqg : q ≠ g := by have := r2.lt; omega
  have hpq : p ≠ q := fun h => hqp h.symm
  have hgq : g ≠ q := fun h => hqg h.symm
  have hqw : w.heap.size ≤ q := by have := m2.size; omega
  rw [show (w2.alloc (.cells #[.int .i64 0, .string ⟨T.toArray⟩, .string ⟨#[]⟩, .slice none 0 0, .slice none 0 0] 25)).drew = w3 from hw3.symm, ← hq]
  have r3 := r2.mod x3 (fun h => h)
  have m3 := m2.then_ x3 (fun _ _ h => h.elim)
  have B3 := B2.mod x3 (fun h => h)
  clear hw3 hq r2 m2 B2 x3
  obtain ⟨c0, c1⟩ := r3.c
  have z1 := Blk.frozen r3 1
  have r4 : Rd (w3.setCell ⟨g, 1, none⟩ (.int .i64 ((k : Int) + (j : Int)))) g s (k + j) := by
    have := r3.go (j := k + j)
    rwa [Int.natCast_add] at this
  have y4 := step_mod (w := w3) (g := g) (.int .i64 ((k : Int) + (j : Int)))
  go_wp2_with fail
  obtain ⟨w4, hw4⟩ : ∃ x, x = w3.setCell ⟨g, 1, none⟩ (.int .i64 ((k : Int) + (j : Int))) := ⟨_, rfl⟩
  rw [← hw4] at r4 y4 ⊢
  have m4 := m3.then_ y4 (fun _ _ h => h)
  have B4 := B3.mod y4 hpg
  have BQ4 := BQ.mod y4 hqg
  clear hw4 r3 m3 B3 BQ y4 c0 c1 z1
  refine (fsign_any r4 hkj hl).mono ?_
  rintro e w5 ⟨kd, st, ok, j2, rfl, hj2, r5, y5, hsg⟩
  have m5 := m4.then_ y5 (fun _ _ h => h)
  have B5 := B4.mod y5 hpg
  have BQ5 := BQ4.mod y5 hqg
  obtain ⟨w6, hw6⟩ : ∃ x, x = w5.alloc (.cells #[.int .i64 kd, .bool st] 73) := ⟨_, rfl⟩
  obtain ⟨u, hu⟩ : ∃ q, q = w5.heap.size := ⟨_, rfl⟩
  have x6 : Ext w5 w6 := by rw [hw6]; exact (Mod.refl _ w5).alloc _
  have BU : Blk w6 u 73 #[.int .i64 kd, .bool st] := by rw [hw6, hu]; exact Blk.new w5 _ _
  have r6 := r5.mod x6 (fun h => h)
  have m6 := m5.then_ x6 (fun _ _ h => h.elim)
  have B6 := B5.mod x6 (fun h => h)
  have BQ6 := BQ5.mod x6 (fun h => h)
  have hup : u ≠ p := by have := B5.lt; omega
  have huq : u ≠ q := by have := BQ5.lt; omega
  have hug : u ≠ g := by have := r5.lt; omega
  replace hw6 := Lib.hid hw6
  replace hu := Lib.hid hu
  clear r4 m4 B4 BQ4 y5 x6 r5 m5 B5 BQ5
  replace hsg := Lib.hid hsg
  go_upto_region 7 with fail
  rw [← hw6.out, ← hu.out]
  have cT : w6.cell? ⟨q, 1, none⟩ = some (sv T) := BQ6.cell 1
  have hty := fun wx => type_any (w := wx) T (by omega)
  rcases hsg.out with ⟨rfl, c, hsc, hkd, hst⟩ | ⟨rfl, hsc⟩
  rotate_left
  · have hU2 := hU.out
    rw [hVt.out, hsc] at hU2
    replace hU2 : U = .error 3 := hU2.trans (by split <;> rfl)
    replace hU2 := Lib.hid hU2
    clear hsg hVt hU hsc hem hty
    obtain ⟨⟨f0, f1, f2, f3, f4⟩, e0, e1, e2, e3, e4⟩ := B6.five
    go_wp2_with fail
    refine bodyPost_ret (results_cell_row2 Try.results44 _ _ _ _ _ _ _ rfl (B6.set5 _ _ _ _ _) Try.underlying25 rfl (by kernel_rfl)) rfl ?_
    exact ⟨⟨fz, _, _, 3, j2, rfl, hj2, Blk.far5 r6 hgp _ _ _ _ _, .inl ⟨hU2.out, by decide, rfl, rfl, rfl⟩⟩, hmodp _ _ _ _ _ m6⟩
  by_cases hT : isTyp T
  rotate_left
  · rw [dfalse hT] at hty
    have hU2 := hU.out
    rw [hVt.out, if_neg hT] at hU2
    replace hU2 : U = .error 3 := hU2
    replace hU2 := Lib.hid hU2
    replace hty := Lib.hid hty
    clear hsg hVt hU hsc hem hT hkd hst
    go_wp2_with fail
    refine (hty.out _).mono ?_
    rintro e w7 ⟨rfl, rfl⟩
    obtain ⟨⟨f0, f1, f2, f3, f4⟩, e0, e1, e2, e3, e4⟩ := B6.five
    go_wp2_with fail
    refine bodyPost_ret (results_cell_row2 Try.results44 _ _ _ _ _ _ _ rfl (B6.set5 _ _ _ _ _) Try.underlying25 rfl (by kernel_rfl)) rfl ?_
    exact ⟨⟨fz, _, _, 3, j2, rfl, hj2, Blk.far5 r6 hgp _ _ _ _ _, .inl ⟨hU2.out, by decide, rfl, rfl, rfl⟩⟩, hmodp _ _ _ _ _ m6⟩
  rw [dtrue hT] at hty
  have hVv := hVt.out
  rw [if_pos hT, hsc] at hVv
  replace hVv : V = (valP (s.drop j2) []).bind fun y => (mkItem T c y.1).map fun f => (f, y.2) := hVv
  replace hVv := Lib.hid hVv
  replace hty := Lib.hid hty
  replace hkd := Lib.hid hkd
  replace hst := Lib.hid hst
  clear hsg hVt hsc hem hT
  go_wp2_with fail
  refine (hty.out _).mono ?_
  rintro e w7 ⟨rfl, rfl⟩
  clear hty cT
  obtain ⟨b, hb⟩ : ∃ b, b = (s.drop j2).headD 0 := ⟨_, rfl⟩
  have hnx := fun n => next_any (r6.drewN n) hj2
  rw [← hb] at hnx
  obtain ⟨pb, hpb⟩ : ∃ pb, pb = preB (s.drop j2) [42, 41] := ⟨_, rfl⟩
  have hpr := fun wx => pre_any (w := wx) (x := s.drop j2) (p := [42, 41])
  rw [← hpb] at hpr
  have hpb2 : pb = true → b = 42 := fun h => by
    rw [hpb, pre_two] at h
    have h2 := (of_decide_eq_true h).1
    rw [hb]
    cases hR : s.drop j2 with
    | nil => rw [hR] at h2; cases h2
    | cons a R => rw [hR] at h2; cases h2; rfl
  have het2 := ext_tail s j2
  have hj20 : (0 : Int) ≤ (j2 : Int) := by omega
  have hj21 : (j2 : Int) ≤ (s.length : Int) := by omega
  replace hb := Lib.hid hb
  replace hpb := Lib.hid hpb
  replace hpr := Lib.hid hpr
  replace hnx := Lib.hid hnx
  go_upto_region 9 with fail
  go_cut [8] (fun s8 wx => s8 = .bool pb ∧ Ext w7 wx)
  case first =>
    obtain ⟨c0, c1⟩ := r6.c
    have hcase : (((b.toNat : Int) == 42) = true) ∨ (((b.toNat : Int) == 42) = false ∧ pb = false) := by
      by_cases h42 : b = 42
      · exact .inl (byte_eq b (n := 42) (by omega) h42)
      · refine .inr ⟨byte_ne b (n := 42) (by omega) h42, ?_⟩
        cases hp2 : pb
        · rfl
        · exact absurd (hpb2 hp2) h42
    clear hpb2
    rcases hcase with h42 | ⟨h42, rfl⟩
    all_goals
      go_quiet (first | (go_at_call 30; (with_reducible refine Calls.quiet_of (hnx.out _))) | (go_at_call 45; (with_reducible refine Calls.quiet_of_same (hpr.out _))))
      go_wp2_with fail
      go_meet
      exact ⟨rfl, (Mod.refl _ _).drewN _⟩
  case rest =>
    obtain ⟨rfl, x8⟩ := hcut
    have r8 := r6.mod x8 (fun h => h)
    have m8 := m6.then_ x8 (fun _ _ h => h.elim)
    have B8 := B6.mod x8 (fun h => h)
    have BQ8 := BQ6.mod x8 (fun h => h)
    have BU8 := BU.mod x8 (fun h => h)
    have h8q : q < wc.heap.size := BQ8.lt
    have h8p : p < wc.heap.size := B8.lt
    clear r6 m6 B6 BQ6 BU x8 hnx hpr het2 hb hpb2
    go_wp2_with fail
    refine (fvalue_any r8 hj2 hl).mono ?_
    rintro e w9 ⟨v, ok, rfl, y9, hvo⟩
    have m9 := m8.then_ y9 (fun _ _ h => h)
    have B9 := B8.mod y9 hpg
    have BQ9 := BQ8.mod y9 hqg
    have BU9 := BU8.mod y9 hug
    have z0 := Blk.frozen BQ9 0
    have z2 := Blk.frozen BQ9 2
    have z3 := Blk.frozen BQ9 3
    have cu0 : w9.cell? ⟨u, 0, none⟩ = some (.int .i64 kd) := BU9.cell 0
    have cu1 : w9.cell? ⟨u, 1, none⟩ = some (.bool st) := BU9.cell 1
    have cq0 : w9.cell? ⟨q, 0, none⟩ = some (.int .i64 0) := BQ9.cell 0
    have cq2 : w9.cell? ⟨q, 2, none⟩ = some (sv []) := BQ9.cell 2
    have cq3 : w9.cell? ⟨q, 3, none⟩ = some (.slice none 0 0) := BQ9.cell 3
    have hmq : ∀ (a : Value) (i : Nat), Mod (fun b => b = q) w9 (w9.setCell ⟨q, i, none⟩ a) := fun a i => (Mod.refl (fun b => b = q) w9).setCell (p := ⟨q, i, none⟩) (fun _ => rfl) a
    clear r8 m8 B8 BQ8 BU8 y9
    rcases hvo with ⟨hvv, rfl, rfl, j3, hj3, r9⟩ | ⟨P, j3, hvv, rfl, hown, hfr, hj3, r9⟩
    · have hU2 := hU.out
      rw [hVv.out, hvv] at hU2
      replace hU2 : U = .error 3 := hU2
      replace hU2 := Lib.hid hU2
      have B10 := B9.mod (hmq (.int .i64 kd) 0) hpq
      have r10 : Rd (w9.setCell ⟨q, 0, none⟩ (.int .i64 kd)) g s j3 := r9.mod (hmq (.int .i64 kd) 0) hgq
      have m10 : Mod (fun b => b = g) w (w9.setCell ⟨q, 0, none⟩ (.int .i64 kd)) := m9.trans (hmq (.int .i64 kd) 0) (fun _ _ h => h) (fun b hb h => by have : b = q := h; omega)
      clear hVv hU hvv hkd hst hpb
      go_upto_region 14 with fail
      obtain ⟨⟨f0, f1, f2, f3, f4⟩, e0, e1, e2, e3, e4⟩ := B10.five
      go_wp2_with fail
      refine bodyPost_ret (results_cell_row2 Try.results44 _ _ _ _ _ _ _ rfl (B10.set5 _ _ _ _ _) Try.underlying25 rfl (by kernel_rfl)) rfl ?_
      exact ⟨⟨fz, _, _, 3, j3, rfl, hj3, Blk.far5 r10 hgp _ _ _ _ _, .inl ⟨hU2.out, by decide, rfl, rfl, rfl⟩⟩, hmodp _ _ _ _ _ m10⟩
    have hP := valP_ok _ _ _ _ _ (Nat.le_refl _) hvv
    have hal := hpb.out.trans (alone_iff hvv)
    have hU2 := hU.out
    rw [hVv.out, hvv] at hU2
    replace hU2 : U = toPR ((mkItem T c P).map fun f => (f, s.drop j3)) := hU2
    obtain ⟨-, -, hPn, hPl, hPe⟩ := hP
    rw [List.length_drop] at hPl
    have hPm : P.length ≤ 1000000 := by omega
    have hPe2 : ∀ x ∈ P, x.length ≤ 1000000 := fun x hx => by have := hPe x hx; rw [List.length_nil, List.length_drop] at this; omega
    have hP1 : 1 ≤ P.length := by cases P with | nil => exact absurd rfl hPn | cons a P => simp
    clear hPe hPl hPn hVv hU hvv hpb
    obtain ⟨A, cv, rfl⟩ := hown.shape
    have how2 := hown
    rw [List.length_map] at hown hfr ⊢
    clear how2
    have hsl := hown.sl
    by_cases hL : 1 < P.length
    · have hlb : decide ((0 : Int) < (P.length : Int) - 1) = true := dtrue (by omega)
      by_cases hc : c = 61
      rotate_left
      · have hst2 : st = false := by rw [hst.out]; exact beq_eq_false_iff_ne.2 hc
        rw [show mkItem T c P = none by unfold mkItem; rw [if_pos ⟨hc, hL⟩]] at hU2
        replace hU2 : U = .error 3 := hU2
        replace hU2 := Lib.hid hU2
        subst hst2
        have B10 := B9.mod (hmq (.int .i64 kd) 0) hpq
        have r10 : Rd (w9.setCell ⟨q, 0, none⟩ (.int .i64 kd)) g s j3 := r9.mod (hmq (.int .i64 kd) 0) hgq
        have m10 : Mod (fun b => b = g) w (w9.setCell ⟨q, 0, none⟩ (.int .i64 kd)) := m9.trans (hmq (.int .i64 kd) 0) (fun _ _ h => h) (fun b hb h => by have : b = q := h; omega)
        have BU10 := BU9.mod (hmq (.int .i64 kd) 0) huq
        have cu10 : (w9.setCell ⟨q, 0, none⟩ (.int .i64 kd)).cell? ⟨u, 1, none⟩ = some (.bool false) := BU10.cell 1
        clear hkd hst hal hc
        go_upto_region 14 with fail
        obtain ⟨⟨f0, f1, f2, f3, f4⟩, e0, e1, e2, e3, e4⟩ := B10.five
        go_wp2_with fail
        refine bodyPost_ret (results_cell_row2 Try.results44 _ _ _ _ _ _ _ rfl (B10.set5 _ _ _ _ _) Try.underlying25 rfl (by kernel_rfl)) rfl ?_
        exact ⟨⟨fz, _, _, 3, j3, rfl, hj3, Blk.far5 r10 hgp _ _ _ _ _, .inl ⟨hU2.out, by decide, rfl, rfl, rfl⟩⟩, hmodp _ _ _ _ _ m10⟩
      have hst2 : st = true := by rw [hst.out, hc]; rfl
      subst hst2
      have BU10 := BU9.mod (hmq (.int .i64 kd) 0) huq
      have cu10 : (w9.setCell ⟨q, 0, none⟩ (.int .i64 kd)).cell? ⟨u, 1, none⟩ = some (.bool true) := BU10.cell 1
      have hm61 : mkItem T c P = if P = [[], []] then some (.mk 7 T [] [] []) else some (.mk 4 T [] P []) := by
        unfold mkItem
        rw [if_neg (fun h => h.1 hc), if_neg (by rw [hc]; decide), if_neg (by rw [hc]; decide), if_pos hL]
      by_cases ha : P = [[], []]
      · rw [dtrue ha] at hal
        rw [hm61, if_pos ha] at hU2
        replace hU2 : U = .ok (.mk 7 T [] [] [], s.drop j3) := hU2
        replace hU2 := Lib.hid hU2
        have hFB : FB (.mk 7 T [] [] []) := ⟨by show _ ∧ _; simp [Fi.kind], by show T.length ≤ _; omega, by simp [Fi.val], by simp [Fi.subs], by simp [Fi.subs], by simp [Fi.kids]⟩
        subst hal
        clear hkd hst hc ha hm61
        go_upto_region 21 with fail
        obtain ⟨wq, hwq⟩ : ∃ y7 : World, y7 = (w9.setCell ⟨q, 0, none⟩ (.int .i64 kd)).setCell ⟨q, 0, none⟩ (.int .i64 7) := ⟨_, rfl⟩
        rw [← hwq]
        have yq : Mod (fun b => b = q) w9 wq := by rw [hwq]; exact ((hmq (.int .i64 kd) 0).setCell (p := ⟨q, 0, none⟩) (fun _ => rfl) _)
        have BQ0 : Blk wq q 25 #[.int .i64 7, sv T, sv [], .slice none 0 0, .slice none 0 0] := by rw [hwq]; exact (BQ9.set_ 0 _).set_ 0 _
        clear hwq
        have B10 := B9.mod yq hpq
        have r10 : Rd wq g s j3 := r9.mod yq hgq
        have m10 : Mod (fun b => b = g) w wq := m9.trans yq (fun _ _ h => h) (fun b hb h => by have : b = q := h; omega)
        have hFS : FilS (fun b => p < b) 1 wq (.mk 7 T [] [] []) (.slice none 0 0) (.slice none 0 0) := FilS.leaf hFB (Sl.nil _ _) rfl
        obtain ⟨⟨f0, f1, f2, f3, f4⟩, e0, e1, e2, e3, e4⟩ := B10.five
        obtain ⟨-, q0, q1, q2, q3, q4⟩ := BQ0.five
        clear B9 BQ9 BU9 z0 z2 z3 cu0 cu1 cq0 cq2 cq3 r9
        go_wp2_with fail
        refine bodyPost_ret (results_cell_row2 Try.results44 _ _ _ _ _ _ _ rfl (B10.set5 _ _ _ _ _) Try.underlying25 rfl (by kernel_rfl)) rfl ?_
        exact ⟨⟨(.mk 7 T [] [] []), _, _, 0, j3, rfl, hj3, Blk.far5 r10 hgp _ _ _ _ _, .inr ⟨hU2.out, rfl, (hFS.mod (mod5_at wq p _ _ _ _ _) (fun b hb h1 h2 => by have : b = p := h2; omega)).mono (fun b _ h => by have := hp.out; omega)⟩⟩, hmodp _ _ _ _ _ m10⟩
      · rw [dfalse ha] at hal
        rw [hm61, if_neg ha] at hU2
        replace hU2 : U = .ok (.mk 4 T [] P [], s.drop j3) := hU2
        replace hU2 := Lib.hid hU2
        have hFB : FB (.mk 4 T [] P []) := ⟨by show _ ∧ _; simp [Fi.kind], by show T.length ≤ _; omega, by simp [Fi.val], by show P.length * 16 ≤ _; omega, fun x hx => by have := hPe2 x hx; omega, by simp [Fi.kids]⟩
        subst hal
        clear hkd hst hc ha hm61
        go_upto_region 21 with fail
        obtain ⟨wq, hwq⟩ : ∃ y7 : World, y7 = ((w9.setCell ⟨q, 0, none⟩ (.int .i64 kd)).setCell ⟨q, 0, none⟩ (.int .i64 4)).setCell ⟨q, 3, none⟩ (.slice A P.length cv) := ⟨_, rfl⟩
        rw [← hwq]
        have yq : Mod (fun b => b = q) w9 wq := by rw [hwq]; exact (((hmq (.int .i64 kd) 0).setCell (p := ⟨q, 0, none⟩) (fun _ => rfl) _).setCell (p := ⟨q, 3, none⟩) (fun _ => rfl) _)
        have BQ0 : Blk wq q 25 #[.int .i64 4, sv T, sv [], .slice A P.length cv, .slice none 0 0] := by rw [hwq]; exact ((BQ9.set_ 0 _).set_ 0 _).set_ 3 _
        clear hwq
        have B10 := B9.mod yq hpq
        have r10 : Rd wq g s j3 := r9.mod yq hgq
        have m10 : Mod (fun b => b = g) w wq := m9.trans yq (fun _ _ h => h) (fun b hb h => by have : b = q := h; omega)
        have hFS : FilS (fun b => p < b) 1 wq (.mk 4 T [] P []) (.slice A P.length cv) (.slice none 0 0) := FilS.leaf hFB ((hown.mod yq (fun b hb h => by have := hfr b hb; have : b = q := h; omega)).sl.mono (fun b _ hb => by have := hfr b hb; omega)) rfl
        obtain ⟨⟨f0, f1, f2, f3, f4⟩, e0, e1, e2, e3, e4⟩ := B10.five
        obtain ⟨-, q0, q1, q2, q3, q4⟩ := BQ0.five
        clear B9 BQ9 BU9 z0 z2 z3 cu0 cu1 cq0 cq2 cq3 r9
        go_wp2_with fail
        refine bodyPost_ret (results_cell_row2 Try.results44 _ _ _ _ _ _ _ rfl (B10.set5 _ _ _ _ _) Try.underlying25 rfl (by kernel_rfl)) rfl ?_
        exact ⟨⟨(.mk 4 T [] P []), _, _, 0, j3, rfl, hj3, Blk.far5 r10 hgp _ _ _ _ _, .inr ⟨hU2.out, rfl, (hFS.mod (mod5_at wq p _ _ _ _ _) (fun b hb h1 h2 => by have : b = p := h2; omega)).mono (fun b _ h => by have := hp.out; omega)⟩⟩, hmodp _ _ _ _ _ m10⟩
    · have hlb : decide ((0 : Int) < (P.length : Int) - 1) = false := dfalse (by omega)
      have ha : P ≠ [[], []] := fun h => hL (by rw [h]; decide)
      rw [dfalse ha] at hal
      have hmk : mkItem T c P = some (.mk (kindC c) T (P.headD []) [] []) := by
        unfold mkItem kindC
        rw [if_neg (fun h => hL h.2), if_neg ha, if_neg hL]
        by_cases h62 : c = 62
        · rw [if_pos h62, if_pos h62]
        · rw [if_neg h62, if_neg h62]
          by_cases h60 : c = 60
          · rw [if_pos h60, if_pos h60]
          · rw [if_neg h60, if_neg h60]
      rw [hmk, ← hkd.out] at hU2
      have hkr : -9223372036854775808 ≤ kd ∧ kd ≤ 9223372036854775807 := by
        rw [hkd.out]
        unfold kindC
        split
        · omega
        · split <;> omega
      obtain ⟨x, hx⟩ : ∃ x, P = [x] := by
        match P, hP1, hL with
        | [x], _, _ => exact ⟨x, rfl⟩
        | _ :: _ :: _, _, h => exact absurd (by simp) h
      have hxl := hPe2 x (by rw [hx]; exact List.mem_singleton.2 rfl)
      rw [hx] at hU2 hsl
      replace hU2 : U = .ok (.mk kd T x [] [], s.drop j3) := hU2
      replace hU2 := Lib.hid hU2
      have hPl1 : P.length = 1 := by rw [hx]; rfl
      rw [hPl1] at hown hfr hlb ⊢
      replace hsl : Sl w9 (own (.slice A 1 cv)) (.slice A 1 cv) ([x].map sv) := hsl
      obtain ⟨A', c', hv', -, -, -, hcs⟩ := Sl.open_ (f := sv) (l := [x]) (hsl.mod (hmq (.int .i64 kd) 0) (fun b _ hb h => by have := hfr b hb; have : b = q := h; omega))
      injection hv' with hA' hl' hc'
      clear hl'
      subst hA'
      obtain ⟨ad, hA, -, cx⟩ := hcs.at_ (show 0 < [x].length by simp)
      subst hA
      replace cx : (w9.setCell ⟨q, 0, none⟩ (.int .i64 kd)).cell? ad = some (sv x) := by simpa [Addr.add] using cx
      have hFB : FB (.mk kd T x [] []) := ⟨hkr, by show T.length ≤ _; omega, by show x.length ≤ _; omega, by simp [Fi.subs], by simp [Fi.subs], by simp [Fi.kids]⟩
      subst hal
      clear hkd hst ha hmk hkr hcs hsl hx hL hPl1 hc' hPm hPe2 hP1
      go_upto_region 21 with fail
      obtain ⟨wq, hwq⟩ : ∃ y7 : World, y7 = (w9.setCell ⟨q, 0, none⟩ (.int .i64 kd)).setCell ⟨q, 2, none⟩ (sv x) := ⟨_, rfl⟩
      rw [← hwq]
      have yq : Mod (fun b => b = q) w9 wq := by rw [hwq]; exact ((hmq (.int .i64 kd) 0).setCell (p := ⟨q, 2, none⟩) (fun _ => rfl) _)
      have BQ0 : Blk wq q 25 #[.int .i64 kd, sv T, sv x, .slice none 0 0, .slice none 0 0] := by rw [hwq]; exact (BQ9.set_ 0 _).set_ 2 _
      clear hwq
      have B10 := B9.mod yq hpq
      have r10 : Rd wq g s j3 := r9.mod yq hgq
      have m10 : Mod (fun b => b = g) w wq := m9.trans yq (fun _ _ h => h) (fun b hb h => by have : b = q := h; omega)
      have hFS : FilS (fun b => p < b) 1 wq (.mk kd T x [] []) (.slice none 0 0) (.slice none 0 0) := FilS.leaf hFB (Sl.nil _ _) rfl
      obtain ⟨⟨f0, f1, f2, f3, f4⟩, e0, e1, e2, e3, e4⟩ := B10.five
      obtain ⟨-, q0, q1, q2, q3, q4⟩ := BQ0.five
      clear B9 BQ9 BU9 z0 z2 z3 cu0 cu1 cq0 cq2 cq3 r9
      go_wp2_with fail
      refine bodyPost_ret (results_cell_row2 Try.results44 _ _ _ _ _ _ _ rfl (B10.set5 _ _ _ _ _) Try.underlying25 rfl (by kernel_rfl)) rfl ?_
      exact ⟨⟨(.mk kd T x [] []), _, _, 0, j3, rfl, hj3, Blk.far5 r10 hgp _ _ _ _ _, .inr ⟨hU2.out, rfl, (hFS.mod (mod5_at wq p _ _ _ _ _) (fun b hb h1 h2 => by have : b = p := h2; omega)).mono (fun b _ h => by have := hp.out; omega)⟩⟩, hmodp _ _ _ _ _ m10⟩
end Go.Proofs.Ytekocbphdckmkaa
