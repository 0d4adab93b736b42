/- filter: the program's Parse. -/
import Derived.Test.YtekocbphdckmkaaFpO
namespace Go.Proofs.Ytekocbphdckmkaa
open Go.RowKit
set_option maxRecDepth 100000

/-- What Parse gives, of what it is to give. -/
def POut (R : Except Nat Fi) (w' : World) (e : Ending) : Prop :=
  ∃ (F : Fi) (vs vk : Value) (x : Nat), e = .returned (.tuple #[filV F vs vk, .int .i64 (x : Int)]) ∧ ((R = .error x ∧ x ≠ 0 ∧ F = fz ∧ vs = .slice none 0 0 ∧ vk = .slice none 0 0) ∨ (R = .ok F ∧ x = 0 ∧ FilN 16 w' F vs vk))
set_option maxHeartbeats 16000000 in
theorem fparse_any {w : World} (s : List UInt8) (hl : s.length ≤ 1000000) :
    Calls Try.prog 8 #[sv s] w fun e w' => POut (parseP s) w' e ∧ Ext w w' := by
  have hsz := sv_size s
  obtain ⟨U, hU⟩ : ∃ U, U = parseP s := ⟨_, rfl⟩
  rw [← hU]
  obtain ⟨w1, hw1⟩ : ∃ y7 : World, y7 = w.alloc (.cells z5 25) := ⟨_, rfl⟩
  obtain ⟨p, hp⟩ : ∃ p, p = w.heap.size := ⟨_, rfl⟩
  have x1 : Ext w w1 := by rw [hw1]; exact (Mod.refl _ w).alloc _
  have B1 : Blk w1 p 25 z5 := by rw [hw1, hp]; exact Blk.new w _ _
  obtain ⟨w2, hw2⟩ : ∃ y7 : World, y7 = w1.alloc (.cells #[sv s, .int .i64 0] 41) := ⟨_, rfl⟩
  obtain ⟨g, hg⟩ : ∃ p, p = w1.heap.size := ⟨_, rfl⟩
  have x2 : Ext w1 w2 := by rw [hw2]; exact (Mod.refl _ w1).alloc _
  have r2 : Rd w2 g s 0 := by rw [hw2, hg]; exact Blk.new w1 _ _
  have B2 := B1.mod x2 (fun h => h)
  have hpg : p ≠ g := by have := B1.lt; omega
  have hgp : g ≠ p := fun h => hpg h.symm
  have hpn : ¬ p < w.heap.size := by omega
  have hgn : ¬ g < w.heap.size := by have := B1.lt; omega
  have m2 : Ext w w2 := ext_trans x1 x2
  have hmodp : ∀ {wx : World} (a b c d e : Value), Ext w wx → Ext w (W5 wx p a b c d e) := fun a b c d e m => mod5 m (fun h => absurd h hpn) a b c d e
  have hff := ffilter_any 16 (Nat.le_refl _) r2 (Nat.zero_le _) hl
  rw [show (17 : Int) - ((16 : Nat) : Int) = 1 from rfl, List.drop_zero] at hff
  replace hw1 := Lib.hid hw1
  replace hw2 := Lib.hid hw2
  replace hp := Lib.hid hp
  replace hg := Lib.hid hg
  replace hU := Lib.hid hU
  replace hff := Lib.hid hff
  clear x1 x2 B1
  go_enter Try.func8, Try.ntmps8
  go_upto_region 1 with fail
  rw [← hw1.out, ← hp.out]
  go_upto_region 2 with fail
  rw [← hw2.out, ← hg.out]
  go_wp2_with fail
  refine hff.out.mono ?_
  rintro e w3 ⟨⟨F, vs, vk, x, j, rfl, hj, r3, hcase⟩, y3⟩
  have hcase2 : FCase 16 (filP 16 s) w2.heap.size w3 s F vs vk x j := hcase
  obtain ⟨⟨A1, l1, t1, rfl⟩, A2, l2, t2, rfl⟩ := hcase2.shape
  have m3 : Ext w w3 := m2.trans y3 (fun _ _ h => h) (fun b hb h => by have : b = g := h; omega)
  have B3 := B2.mod y3 hpg
  have hpw : p < w2.heap.size := B2.lt
  obtain ⟨w4, hw4⟩ : ∃ y7 : World, y7 = w3.alloc (.cells #[.int .i64 F.kind, sv F.typ, sv F.val, .slice A1 l1 t1, .slice A2 l2 t2] 25) := ⟨_, rfl⟩
  obtain ⟨q, hq⟩ : ∃ p, p = w3.heap.size := ⟨_, rfl⟩
  have x4 : Ext w3 w4 := by rw [hw4]; exact (Mod.refl _ w3).alloc _
  have BQ : Blk w4 q 25 #[.int .i64 F.kind, sv F.typ, sv F.val, .slice A1 l1 t1, .slice A2 l2 t2] := by rw [hw4, hq]; exact Blk.new w3 _ _
  have r4 := r3.mod x4 (fun h => h)
  have m4 := ext_trans m3 x4
  have B4 := B3.mod x4 (fun h => h)
  have hqp : q ≠ p := by have := B3.lt; omega
  replace hw4 := Lib.hid hw4
  replace hq := Lib.hid hq
  clear hff hcase r3 m3 B3 r2 m2 B2 y3
  go_upto_region 3 with fail
  rw [← hw4.out, ← hq.out]
  rcases hcase2 with ⟨hR, hx0, rfl, hv1, hv2⟩ | ⟨hR, rfl, hF⟩
  · have hU2 := Lib.hid (show U = .error x by rw [hU.out, parseP, hR])
    have hne : ((x : Int) != 0) = true := bne_iff_ne.2 (by omega)
    clear hU hR hv1 hv2 BQ
    obtain ⟨⟨f0, f1, f2, f3, f4⟩, e0, e1, e2, e3, e4⟩ := B4.five
    go_wp2_with fail
    refine bodyPost_ret (results_cell_row2 Try.results8 _ _ _ _ _ _ _ rfl (B4.set5 _ _ _ _ _) Try.underlying25 rfl (by kernel_rfl)) rfl ?_
    exact ⟨⟨fz, _, _, x, rfl, .inl ⟨hU2.out, hx0, rfl, rfl, rfl⟩⟩, hmodp _ _ _ _ _ m4⟩
  have hUc : U = if s.drop j = [] then (if isN 16 F = true then .ok F else .error 5) else .error 3 := by rw [hU.out, parseP, hR]
  replace hUc := Lib.hid hUc
  have hF4 := hF.ext x4
  obtain ⟨c0, c1⟩ := r4.c
  clear hU hR hF x4
  by_cases hjl : j < s.length
  · have hb : decide ((j : Int) < (s.length : Int)) = true := dtrue (by omega)
    have hbn : decide (j < s.length) = true := dtrue hjl
    have hU2 := Lib.hid (show U = .error 3 by
      rw [hUc.out, if_neg]
      intro h
      have := congrArg List.length h
      rw [List.length_drop] at this
      simp only [List.length_nil] at this
      omega)
    clear hUc hF4 BQ
    obtain ⟨⟨f0, f1, f2, f3, f4⟩, e0, e1, e2, e3, e4⟩ := B4.five
    go_wp2_with fail
    refine bodyPost_ret (results_cell_row2 Try.results8 _ _ _ _ _ _ _ rfl (B4.set5 _ _ _ _ _) Try.underlying25 rfl (by kernel_rfl)) rfl ?_
    exact ⟨⟨fz, _, _, 3, rfl, .inl ⟨hU2.out, (by decide), rfl, rfl, rfl⟩⟩, hmodp _ _ _ _ _ m4⟩
  have hb : decide ((j : Int) < (s.length : Int)) = false := dfalse (by omega)
  have hbn : decide (j < s.length) = false := dfalse hjl
  have hUd : U = if isN 16 F = true then .ok F else .error 5 := by rw [hUc.out, if_pos (List.drop_of_length_le (by omega))]
  replace hUd := Lib.hid hUd
  have his := IsF_any hF4.fil
  generalize isN 16 F = b at *
  obtain ⟨-, q0, q1, q2, q3, q4⟩ := BQ.five
  replace his := Lib.hid his
  clear hUc
  go_wp2_with fail
  refine his.out.mono ?_
  rintro e w5 ⟨rfl, x5⟩
  have m5 := ext_trans m4 x5
  have B5 := B4.mod x5 (fun h => h)
  have BQ5 := BQ.mod x5 (fun h => h)
  have hF5 := hF4.ext x5
  clear his hF4 m4 B4 q0 q1 q2 q3 q4 BQ x5 c0 c1
  cases b
  · have hU2 := Lib.hid (show U = .error 5 by rw [hUd.out, if_neg (by decide)])
    clear hUd hF5 BQ5
    obtain ⟨⟨f0, f1, f2, f3, f4⟩, e0, e1, e2, e3, e4⟩ := B5.five
    go_wp2_with fail
    refine bodyPost_ret (results_cell_row2 Try.results8 _ _ _ _ _ _ _ rfl (B5.set5 _ _ _ _ _) Try.underlying25 rfl (by kernel_rfl)) rfl ?_
    exact ⟨⟨fz, _, _, 5, rfl, .inl ⟨hU2.out, (by decide), rfl, rfl, rfl⟩⟩, hmodp _ _ _ _ _ m5⟩
  · have hU2 := Lib.hid (show U = .ok F by rw [hUd.out, if_pos rfl])
    clear hUd
    obtain ⟨⟨f0, f1, f2, f3, f4⟩, e0, e1, e2, e3, e4⟩ := B5.five
    obtain ⟨-, q0, q1, q2, q3, q4⟩ := BQ5.five
    go_wp2_with fail
    refine bodyPost_ret (results_cell_row2 Try.results8 _ _ _ _ _ _ _ rfl (B5.set5 _ _ _ _ _) Try.underlying25 rfl (by kernel_rfl)) rfl ?_
    exact ⟨⟨F, _, _, 0, rfl, .inr ⟨hU2.out, rfl, (hF5.mod (mod5_at w5 p _ _ _ _ _) (fun b _ hb h => by have : b = p := h; omega)).fil⟩⟩, hmodp _ _ _ _ _ m5⟩
end Go.Proofs.Ytekocbphdckmkaa
