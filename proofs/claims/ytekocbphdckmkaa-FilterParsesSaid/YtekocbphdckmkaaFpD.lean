/- filter: the program's reader: value. -/
import Derived.Test.YtekocbphdckmkaaFpC
namespace Go.Proofs.Ytekocbphdckmkaa
open Go.RowKit
set_option maxRecDepth 100000

/-- What a value gives, of its pieces up to here. -/
def cat (p : List (List UInt8)) (x : Option (List (List UInt8) × List UInt8)) : Option (List (List UInt8) × List UInt8) := x.map fun y => (p ++ y.1, y.2)
theorem cat_nil (x : Option (List (List UInt8) × List UInt8)) : cat [] x = x := by cases x <;> rfl
theorem cat_none (p : List (List UInt8)) : cat p none = none := rfl
theorem cat_star (p : List (List UInt8)) (cur : List UInt8) (x : Option (List (List UInt8) × List UInt8)) : cat p (x.map fun y => (cur :: y.1, y.2)) = cat (p ++ [cur]) x := by
  cases x <;> simp [cat]
/-- What is told of a value. -/
def VOut (V : Option (List (List UInt8) × List UInt8)) (B : Nat) (w' : World) (g : Nat) (s : List UInt8) (v : Value) (ok : Bool) : Prop :=
  (V = none ∧ ok = false ∧ v = .slice none 0 0 ∧ ∃ j, j ≤ s.length ∧ Rd w' g s j) ∨
  ∃ p j, V = some (p, s.drop j) ∧ ok = true ∧ Own w' 9 v (p.map sv) ∧ Fresh B v ∧ j ≤ s.length ∧ Rd w' g s j
theorem byte_eq (c : UInt8) {n : Nat} (hn : n < 256) (h : c = UInt8.ofNat n) : ((c.toNat : Int) == (n : Int)) = true := by
  rw [h, UInt8.toNat_ofNat_of_lt' (by exact hn)]; exact beq_self_eq_true _
theorem byte_ne (c : UInt8) {n : Nat} (hn : n < 256) (h : c ≠ UInt8.ofNat n) : ((c.toNat : Int) == (n : Int)) = false := by
  rw [beq_eq_false_iff_ne]
  intro h2
  apply h
  apply UInt8.toNat_inj.1
  rw [UInt8.toNat_ofNat_of_lt' (by exact hn)]
  omega
theorem head_is {R : List UInt8} {c : UInt8} (h : c = R.headD 0) (hc : c ≠ 0) : R = c :: R.tail := by
  cases R with
  | nil => exact absurd h hc
  | cons a R => rw [h]; rfl
theorem drop_head {s : List UInt8} {j : Nat} {c : UInt8} (h : c = (s.drop j).headD 0) (hc : c ≠ 0) : j < s.length ∧ s.drop j = c :: s.drop (j + 1) := by
  have h1 := head_is h hc
  obtain ⟨h2, h3⟩ := drop_lt h1
  exact ⟨h2, by rw [h3]; exact h1⟩
theorem tyStr : SliceTy Try.prog 22 9 (.string ⟨#[]⟩) 16 := ⟨Try.underlying22, by kernel_rfl, rfl, by omega⟩
set_option maxHeartbeats 16000000 in
theorem fvalue_any {w : World} {g : Nat} {s : List UInt8} {k : Nat} (h : Rd w g s k) (hk : k ≤ s.length) (hl : s.length ≤ 1000000) :
    Calls Try.prog 55 #[.pointer (some ⟨g, 0, none⟩)] w fun e w' => ∃ v ok, e = .returned (.tuple #[v, .bool ok]) ∧ Mod (fun b => b = g) w w' ∧ VOut (valP (s.drop k) []) w.heap.size w' g s v ok := by
  obtain ⟨V, hV⟩ : ∃ V, V = valP (s.drop k) [] := ⟨_, rfl⟩
  rw [← hV]
  replace hV := Lib.hid hV
  have hgB := h.lt
  go_enter Try.func55, Try.ntmps55
  go_wp2_with fail
  go_loopw [4, 5] (fun v4 v5 wr => ∃ (j : Nat) (P : List (List UInt8)) (o : List UInt8), j ≤ s.length ∧ P.length ≤ j ∧ o.length ≤ j ∧ Own wr 9 v4 (P.map sv) ∧ Fresh w.heap.size v4 ∧ Own wr 5 v5 (o.map bv) ∧ Fresh w.heap.size v5 ∧ Rd wr g s j ∧ Mod (fun b => b = g) w wr ∧ Hid (V = cat P (valP (s.drop j) o))) (fun _ _ wr => s.length - rdAt wr g)
  case atStart => exact ⟨k, [], [], hk, Nat.zero_le _, Nat.zero_le _, Own.nil _ _, fresh_nil _ _ _, Own.nil _ _, fresh_nil _ _ _, h, Mod.refl _ _, Lib.hid (by rw [cat_nil]; exact hV.out)⟩
  case round =>
    obtain ⟨j, P, o, hj, hPj, hoj, p1, f1, p2, f2, r1, m1, hv⟩ := hrel
    clear hV h
    have hat := r1.at_
    obtain ⟨c, hc⟩ : ∃ c, c = (s.drop j).headD 0 := ⟨_, rfl⟩
    have hn := next_any r1 hj
    rw [← hc] at hn
    replace hc := Lib.hid hc
    go_wp2_with fail
    refine hn.mono ?_
    rintro e w2 ⟨rfl, n2, hw2⟩
    have x2 : Ext wr w2 := by rw [hw2]; exact (Mod.refl _ wr).drewN n2
    clear hw2 hn
    have r2 := r1.mod x2 (fun h => h)
    have m2 := m1.then_ x2 (fun _ _ h => h.elim)
    have q1 := p1.mod x2 (fun _ _ h => h)
    have q2 := p2.mod x2 (fun _ _ h => h)
    clear r1 m1 x2 p1 p2
    obtain ⟨A4, c4, rfl⟩ := q1.shape
    obtain ⟨A5, c5, rfl⟩ := q2.shape
    rw [List.length_map] at q1 q2 f1 f2 ⊢
    have cv := run_conv (P := Try.prog) Try.underlying48 Try.underlying5 Try.underlying9 q2.sl
    have hn1 := Lib.hid (show ((P.map sv).length + [sv o].length) * 16 ≤ 140737488355328 by simp; omega)
    by_cases h41 : c = 41
    · have e41 : ((c.toNat : Int) == 41) = true := byte_eq c (n := 41) (by omega) h41
      have hvv : V = some (P ++ [o], s.drop j) := by
        rw [hv.out, head_is hc.out (by rw [h41]; decide), h41, valP_end]; rfl
      replace hvv := Lib.hid hvv
      clear hv hc h41
      go_wp2_with ((with_reducible show wpList _ _ _ (⟨some 22, _, _, _, _, _⟩ :: _) _ _); refine wp_app tyStr (q1.alloc _) (Sl.one w2 9 (sv o)) (one_ok _ rfl) rfl (.tmp 18) (.tmp 21) rfl rfl rfl hn1.out ?_; intro v3 w3 g1 g2 g3)
      have y3 := mod_app g2
      have r3 := r2.mod y3 (fun h => by have := f1 _ h; omega)
      have m3 : Mod (fun b => b = g) w w3 := m2.then_ y3 (fun b hb h => by have := f1 _ h; omega)
      have f3 : Fresh w.heap.size v3 := g3.fresh f1 (by have := m2.size; simp; omega)
      go_ret2
      exact ⟨_, _, rfl, m3, .inr ⟨P ++ [o], j, hvv.out, rfl, by rw [List.map_append]; exact g1, f3, hj, r3⟩⟩
    have e41 : ((c.toNat : Int) == 41) = false := byte_ne c (n := 41) (by omega) h41
    by_cases h40 : c = 40 ∨ c = 0
    · have hvv : V = none := by
        rw [hv.out]
        by_cases h0 : c = 0
        · have hh := hc.out
          cases hR : s.drop j with
          | nil => rfl
          | cons a R => rw [hR, List.headD_cons, h0] at hh; rw [valP_bad (.inr hh.symm)]; rfl
        · rw [head_is hc.out h0, valP_bad h40]; rfl
      have e0 : ((c.toNat : Int) == 40) = true ∨ (((c.toNat : Int) == 40) = false ∧ ((c.toNat : Int) == 0) = true) := by
        by_cases h5 : c = 40
        · exact .inl (byte_eq c (n := 40) (by omega) h5)
        · exact .inr ⟨byte_ne c (n := 40) (by omega) h5, byte_eq c (n := 0) (by omega) (h40.resolve_left h5)⟩
      replace hvv := Lib.hid hvv
      clear hv hc h41 h40 cv
      rcases e0 with e0 | ⟨e0, e1⟩
      all_goals
        go_wp2_with fail
        go_ret2
        exact ⟨_, _, rfl, m2, .inl ⟨hvv.out, rfl, rfl, j, hj, r2⟩⟩
    have h0 : c ≠ 0 := fun h => h40 (.inr h)
    have e40 : ((c.toNat : Int) == 40) = false := byte_ne c (n := 40) (by omega) (fun h => h40 (.inl h))
    have e0 : ((c.toNat : Int) == 0) = false := byte_ne c (n := 0) (by omega) h0
    obtain ⟨hjl, hdr⟩ := drop_head hc.out h0
    have hvd := hv.out
    rw [hdr] at hvd
    obtain ⟨c0, c1⟩ := r2.c
    have z1 := Blk.frozen r2 1
    by_cases h42 : c = 42
    · have e42 : ((c.toNat : Int) == 42) = true := byte_eq c (n := 42) (by omega) h42
      rw [h42, valP_star, cat_star] at hvd
      replace hvd := Lib.hid hvd
      clear hv hc h41 h40 h42 hdr h0 c0 c1 z1
      go_wp2_with ((with_reducible show wpList _ _ _ (⟨some 32, _, _, _, _, _⟩ :: _) _ _); refine wp_app tyStr (q1.alloc _) (Sl.one w2 9 (sv o)) (one_ok _ rfl) rfl (.tmp 28) (.tmp 31) rfl rfl rfl hn1.out ?_; intro v3 w3 g1 g2 g3; have y3 := mod_app g2; have r3 := r2.mod y3 (fun h => by have := f1 _ h; omega); obtain ⟨c0, c1⟩ := r3.c; have z1 := Blk.frozen r3 1)
      have m3 : Mod (fun b => b = g) w w3 := m2.then_ y3 (fun b hb h => by have := f1 _ h; omega)
      have f3 : Fresh w.heap.size v3 := g3.fresh f1 (by have := m2.size; simp; omega)
      refine ⟨⟨j + 1, P ++ [o], [], by omega, by simp; omega, Nat.zero_le _, (by rw [List.map_append]; exact g1.mod (step_mod (w := w3) (g := g) _) (fun b hb hbg => by have := f3 _ hb; have : b = g := hbg; omega)), f3, Own.nil _ _, fresh_nil _ _ _, r3.step, m3.then_ (step_mod _) (fun _ _ h => h), hvd⟩, ?_⟩
      rw [r3.step.at_, hat]; omega
    have e42 : ((c.toNat : Int) == 42) = false := byte_ne c (n := 42) (by omega) h42
    by_cases h92 : c = 92
    · have e92 : ((c.toNat : Int) == 92) = true := byte_eq c (n := 92) (by omega) h92
      rw [h92] at hvd
      replace hvd := Lib.hid hvd
      clear hv hc h41 h40 h42 h92 hdr h0 c0 c1 z1 cv
      go_wp2_with fail
      refine (fesc_any r2 hjl (by omega)).mono ?_
      rintro e w3 ⟨t, ok, j2, rfl, hj2, r3, x3, hcase⟩
      have m3 := m2.then_ x3 (fun _ _ h => h)
      have q3 := q1.mod x3 (fun b hb hbg => by have := f1 _ hb; have : b = g := hbg; omega)
      have q4 := q2.mod x3 (fun b hb hbg => by have := f2 _ hb; have : b = g := hbg; omega)
      rcases hcase with ⟨rfl, rfl, a, b, x, y, hd1, ha, hb, hxy, hj3⟩ | ⟨rfl, hno⟩
      · have hvd2 := hvd.out
        rw [hd1, valP_esc ha hb, ← hxy] at hvd2
        replace hvd2 := Lib.hid hvd2
        clear hd1 ha hb hxy hvd r2 q1 q2 m2 x3
        go_wp2_with ((with_reducible show wpList _ _ _ (⟨some 45, _, _, _, _, _⟩ :: _) _ _); refine wp_app1 tyB q4 rfl (by omega) rfl (.tmp 42) (.tmp 44) rfl rfl rfl ?_; intro v4 w4 g1 y4 g3; have r4 := r3.mod y4 (fun h => by have := f2 _ h; omega); obtain ⟨c0, c1⟩ := r4.c; have z1 := Blk.frozen r4 1)
        have m4 : Mod (fun b => b = g) w w4 := m3.then_ y4 (fun b hb h => by have := f2 _ h; omega)
        have f4 : Fresh w.heap.size v4 := g3.fresh f2 (by have := m3.size; simp; omega)
        have q5 := q3.mod y4 (fun b hb hb2 => own_ne q3 q4 (by decide) hb hb2)
        have r5 := r4.step
        have hcj : ((j + 2 : Nat) : Int) = (j : Int) + 2 := by omega
        rw [hcj] at r5
        refine ⟨⟨j + 2 + 1, P, o ++ [t], by omega, by omega, by simp; omega, q5.mod (step_mod (w := w4) (g := g) _) (fun b hb hbg => by have := f1 _ hb; have : b = g := hbg; omega), f1, g1.mod (step_mod (w := w4) (g := g) _) (fun b hb hbg => by have := f4 _ hb; have : b = g := hbg; omega), f4, r5, m4.then_ (step_mod _) (fun _ _ h => h), hvd2⟩, ?_⟩
        rw [r5.at_, hat]; omega
      · have hvd2 := hvd.out
        rw [valP_noesc hno, cat_none] at hvd2
        replace hvd2 := Lib.hid hvd2
        clear hno hvd
        go_wp2_with fail
        go_ret2
        exact ⟨_, _, rfl, m3, .inl ⟨hvd2.out, rfl, rfl, j2, hj2, r3⟩⟩
    have e92 : ((c.toNat : Int) == 92) = false := byte_ne c (n := 92) (by omega) h92
    rw [valP_plain h41 h40 h42 h92] at hvd
    replace hvd := Lib.hid hvd
    clear hv hc h41 h40 h42 h92 hdr h0 c0 c1 z1 cv
    go_wp2_with ((with_reducible show wpList _ _ _ (⟨some 15, _, _, _, _, _⟩ :: _) _ _); refine wp_app1 tyB q2 rfl (by omega) rfl (.tmp 12) (.tmp 14) rfl rfl rfl ?_; intro v3 w3 g1 y3 g3; have r3 := r2.mod y3 (fun h => by have := f2 _ h; omega); obtain ⟨c0, c1⟩ := r3.c; have z1 := Blk.frozen r3 1)
    have m3 : Mod (fun b => b = g) w w3 := m2.then_ y3 (fun b hb h => by have := f2 _ h; omega)
    have f3 : Fresh w.heap.size v3 := g3.fresh f2 (by have := m2.size; simp; omega)
    have q3 := q1.mod y3 (fun b hb hb2 => own_ne q1 q2 (by decide) hb hb2)
    refine ⟨⟨j + 1, P, o ++ [c], by omega, by omega, by simp; omega, q3.mod (step_mod (w := w3) (g := g) _) (fun b hb hbg => by have := f1 _ hb; have : b = g := hbg; omega), f1, g1.mod (step_mod (w := w3) (g := g) _) (fun b hb hbg => by have := f3 _ hb; have : b = g := hbg; omega), f3, r3.step, m3.then_ (step_mod _) (fun _ _ h => h), hvd⟩, ?_⟩
    rw [r3.step.at_, hat]; omega
end Go.Proofs.Ytekocbphdckmkaa
