/- filter: the program's reader: inner, filter. -/
import Derived.Test.YtekocbphdckmkaaFpM
namespace Go.Proofs.Ytekocbphdckmkaa
open Go.RowKit
set_option maxRecDepth 100000

/-- What is told of a filter's reader, but for the value told. -/
def FCase (n : Nat) (R : PR) (B : Nat) (w' : World) (s : List UInt8) (F : Fi) (vs vk : Value) (x j : Nat) : Prop :=
  (R = .error x ∧ x ≠ 0 ∧ F = fz ∧ vs = .slice none 0 0 ∧ vk = .slice none 0 0) ∨ (R = .ok (F, s.drop j) ∧ x = 0 ∧ FilS (fun b => B ≤ b) n w' F vs vk)
theorem FCase.store {n m : Nat} {R : PR} {B B' : Nat} {w' wx : World} {s : List UInt8} {F : Fi} {vs vk : Value} {x j p : Nat} (h : FCase n R B w' s F vs vk x j) (hn : n ≤ m) (hp : p < B) (hB : B' ≤ B) (y : Mod (fun k => k = p) w' wx) : FCase m R B' wx s F vs vk x j := by
  rcases h with h | ⟨h1, h2, h3⟩
  · exact .inl h
  · exact .inr ⟨h1, h2, ((h3.more hn).mod y (fun b _ hb h => by have : b = p := h; omega)).mono (fun b _ h => by omega)⟩
theorem FCase.as {n : Nat} {R R' : PR} {B : Nat} {w' : World} {s : List UInt8} {F : Fi} {vs vk : Value} {x j : Nat} (h : FCase n R B w' s F vs vk x j) (e : R = R') : FCase n R' B w' s F vs vk x j := e ▸ h
theorem FCase.shape {n : Nat} {R : PR} {B : Nat} {w' : World} {s : List UInt8} {F : Fi} {vs vk : Value} {x j : Nat} (h : FCase n R B w' s F vs vk x j) : (∃ A n c, vs = .slice A n c) ∧ ∃ A n c, vk = .slice A n c := by
  rcases h with ⟨-, -, -, rfl, rfl⟩ | ⟨-, -, h⟩
  · exact ⟨⟨_, _, _, rfl⟩, _, _, _, rfl⟩
  · obtain ⟨⟨A, c, rfl⟩, B, d, rfl⟩ := h.shape
    exact ⟨⟨_, _, _, rfl⟩, _, _, _, rfl⟩
theorem inner_kids {p : List UInt8 → PR} {R : List UInt8} {c : UInt8} {kd : Int} {b : Bool} (h : R.head? = some c) (hc : (c = 38 ∧ kd = 0 ∧ b = true) ∨ (c = 124 ∧ kd = 1 ∧ b = true) ∨ (c = 33 ∧ kd = 2 ∧ b = false)) : kidsP p kd b R.tail = innerP p R := by
  unfold innerP
  rw [h]
  rcases hc with ⟨rfl, rfl, rfl⟩ | ⟨rfl, rfl, rfl⟩ | ⟨rfl, rfl, rfl⟩ <;> simp
theorem inner_item {p : List UInt8 → PR} {R : List UInt8} (h1 : R.head? ≠ some 38) (h2 : R.head? ≠ some 124) (h3 : R.head? ≠ some 33) : toPR (itemP R) = innerP p R := by
  unfold innerP
  rw [if_neg h1, if_neg h2, if_neg h3]
  cases itemP R <;> rfl
set_option maxHeartbeats 16000000 in
theorem finner_any {n : Nat} (ih : FilIH n) (hn : n ≤ 15) {w : World} {g : Nat} {s : List UInt8} {k : Nat} (h : Rd w g s k) (hk : k ≤ s.length) (hl : s.length ≤ 1000000) :
    Calls Try.prog 31 #[.pointer (some ⟨g, 0, none⟩), .int .i64 (16 - (n : Int))] w fun e w' => FOut (n + 1) (innerP (filP n) (s.drop k)) w.heap.size w' g s e ∧ Mod (fun b => b = g) w w' := by
  have hgB := h.lt
  obtain ⟨U, hU⟩ : ∃ U, U = innerP (filP n) (s.drop k) := ⟨_, rfl⟩
  rw [← hU]
  obtain ⟨w1, hw1⟩ : ∃ y7 : World, y7 = w.alloc (.cells z5 25) := ⟨_, rfl⟩
  obtain ⟨p, hp⟩ : ∃ p, p = w.heap.size := ⟨_, rfl⟩
  have x1 : Ext w w1 := by rw [hw1]; exact (Mod.refl _ w).alloc _
  have B1 : Blk w1 p 25 z5 := by rw [hw1, hp]; exact Blk.new w _ _
  have r1 := h.mod x1 (fun h => h)
  have m1 : Mod (fun b => b = g) w w1 := x1.mono (fun _ _ h => h.elim)
  have hpg : p ≠ g := by omega
  have hgp : g ≠ p := by omega
  have hpn : ¬ p < w.heap.size := by omega
  have hmodp : ∀ {wx : World} (a b c d e : Value), Mod (fun b => b = g) w wx → Mod (fun b => b = g) w (W5 wx p a b c d e) := fun a b c d e m => mod5 m (fun h => absurd h hpn) a b c d e
  obtain ⟨c, hc⟩ : ∃ d, d = (s.drop k).headD 0 := ⟨_, rfl⟩
  have hnx := next_any r1 hk
  rw [← hc] at hnx
  have hlt : c ≠ 0 → k < s.length := fun h0 => (drop_head hc h0).1
  have hhd : ∀ d, d ≠ 0 → ((s.drop k).head? = some d ↔ c = d) := fun d hd => by
    rw [hc]
    cases s.drop k with
    | nil => simp; exact fun h => hd h.symm
    | cons a R => simp
  replace hw1 := Lib.hid hw1
  replace hp := Lib.hid hp
  replace hU := Lib.hid hU
  replace hc := Lib.hid hc
  replace hhd := Lib.hid hhd
  replace hlt := Lib.hid hlt
  clear h x1
  go_enter Try.func31, Try.ntmps31
  go_upto_region 1 with fail
  rw [← hw1.out, ← hp.out]
  go_wp2_with fail
  refine hnx.mono ?_
  rintro e w2 ⟨rfl, n2, hw2⟩
  have x2 : Ext w1 w2 := by rw [hw2]; exact (Mod.refl _ w1).drewN n2
  clear hw2 hnx
  have r2 := r1.mod x2 (fun h => h)
  have m2 := m1.then_ x2 (fun _ _ h => h.elim)
  have B2 := B1.mod x2 (fun h => h)
  clear r1 m1 B1 x2
  by_cases h38 : c = 38
  · have e38 : ((c.toNat : Int) == 38) = true := byte_eq c (n := 38) (by omega) h38
    have hkl := hlt.out (by rw [h38]; decide)
    have hke := (inner_kids (p := filP n) (kd := 0) (b := true) ((hhd.out c (by rw [h38]; decide)).2 rfl) (.inl ⟨h38, rfl, rfl⟩)).trans hU.out.symm
    rw [List.tail_drop] at hke
    have hkc := fkids_any ih hn (kd := 0) (b := true) (.inl ⟨rfl, rfl⟩) r2 hkl hl
    replace hke := Lib.hid hke
    replace hkc := Lib.hid hkc
    clear hU hc hhd hlt h38
    go_wp2_with fail
    refine hkc.out.mono ?_
    rintro e w3 ⟨⟨F, vs, vk, x, j, rfl, hj, r3, hcase⟩, y3⟩
    have hcase2 : FCase (n + 1) (kidsP (filP n) 0 true (s.drop (k + 1))) w2.heap.size w3 s F vs vk x j := hcase
    obtain ⟨⟨A1, l1, t1, rfl⟩, A2, l2, t2, rfl⟩ := hcase2.shape
    have m3 := m2.then_ y3 (fun _ _ h => h)
    have B3 := B2.mod y3 hpg
    have hpw : p < w2.heap.size := B2.lt
    have hws : w.heap.size ≤ w2.heap.size := m2.size
    obtain ⟨⟨f0, f1, f2, f3, f4⟩, e0, e1, e2, e3, e4⟩ := B3.five
    clear hcase y3
    replace hcase2 := Lib.hid hcase2
    go_wp2_with fail
    refine bodyPost_ret (results_cell_row2 Try.results31 _ _ _ _ _ _ _ rfl (B3.set5 _ _ _ _ _) Try.underlying25 rfl (by kernel_rfl)) rfl ?_
    exact ⟨⟨F, _, _, x, j, rfl, hj, Blk.far5 r3 hgp _ _ _ _ _, (hcase2.out.store (Nat.le_refl _) hpw hws (mod5_at w3 p _ _ _ _ _)).as hke.out⟩, hmodp _ _ _ _ _ m3⟩
  have e38 : ((c.toNat : Int) == 38) = false := byte_ne c (n := 38) (by omega) h38
  by_cases h124 : c = 124
  · have e124 : ((c.toNat : Int) == 124) = true := byte_eq c (n := 124) (by omega) h124
    have hkl := hlt.out (by rw [h124]; decide)
    have hke := (inner_kids (p := filP n) (kd := 1) (b := true) ((hhd.out c (by rw [h124]; decide)).2 rfl) (.inr (.inl ⟨h124, rfl, rfl⟩))).trans hU.out.symm
    rw [List.tail_drop] at hke
    have hkc := fkids_any ih hn (kd := 1) (b := true) (.inr (.inl ⟨rfl, rfl⟩)) r2 hkl hl
    replace hke := Lib.hid hke
    replace hkc := Lib.hid hkc
    clear hU hc hhd hlt h124
    go_wp2_with fail
    refine hkc.out.mono ?_
    rintro e w3 ⟨⟨F, vs, vk, x, j, rfl, hj, r3, hcase⟩, y3⟩
    have hcase2 : FCase (n + 1) (kidsP (filP n) 1 true (s.drop (k + 1))) w2.heap.size w3 s F vs vk x j := hcase
    obtain ⟨⟨A1, l1, t1, rfl⟩, A2, l2, t2, rfl⟩ := hcase2.shape
    have m3 := m2.then_ y3 (fun _ _ h => h)
    have B3 := B2.mod y3 hpg
    have hpw : p < w2.heap.size := B2.lt
    have hws : w.heap.size ≤ w2.heap.size := m2.size
    obtain ⟨⟨f0, f1, f2, f3, f4⟩, e0, e1, e2, e3, e4⟩ := B3.five
    clear hcase y3
    replace hcase2 := Lib.hid hcase2
    go_wp2_with fail
    refine bodyPost_ret (results_cell_row2 Try.results31 _ _ _ _ _ _ _ rfl (B3.set5 _ _ _ _ _) Try.underlying25 rfl (by kernel_rfl)) rfl ?_
    exact ⟨⟨F, _, _, x, j, rfl, hj, Blk.far5 r3 hgp _ _ _ _ _, (hcase2.out.store (Nat.le_refl _) hpw hws (mod5_at w3 p _ _ _ _ _)).as hke.out⟩, hmodp _ _ _ _ _ m3⟩
  have e124 : ((c.toNat : Int) == 124) = false := byte_ne c (n := 124) (by omega) h124
  by_cases h33 : c = 33
  · have e33 : ((c.toNat : Int) == 33) = true := byte_eq c (n := 33) (by omega) h33
    have hkl := hlt.out (by rw [h33]; decide)
    have hke := (inner_kids (p := filP n) (kd := 2) (b := false) ((hhd.out c (by rw [h33]; decide)).2 rfl) (.inr (.inr ⟨h33, rfl, rfl⟩))).trans hU.out.symm
    rw [List.tail_drop] at hke
    have hkc := fkids_any ih hn (kd := 2) (b := false) (.inr (.inr ⟨rfl, rfl⟩)) r2 hkl hl
    replace hke := Lib.hid hke
    replace hkc := Lib.hid hkc
    clear hU hc hhd hlt h33
    go_wp2_with fail
    refine hkc.out.mono ?_
    rintro e w3 ⟨⟨F, vs, vk, x, j, rfl, hj, r3, hcase⟩, y3⟩
    have hcase2 : FCase (n + 1) (kidsP (filP n) 2 false (s.drop (k + 1))) w2.heap.size w3 s F vs vk x j := hcase
    obtain ⟨⟨A1, l1, t1, rfl⟩, A2, l2, t2, rfl⟩ := hcase2.shape
    have m3 := m2.then_ y3 (fun _ _ h => h)
    have B3 := B2.mod y3 hpg
    have hpw : p < w2.heap.size := B2.lt
    have hws : w.heap.size ≤ w2.heap.size := m2.size
    obtain ⟨⟨f0, f1, f2, f3, f4⟩, e0, e1, e2, e3, e4⟩ := B3.five
    clear hcase y3
    replace hcase2 := Lib.hid hcase2
    go_wp2_with fail
    refine bodyPost_ret (results_cell_row2 Try.results31 _ _ _ _ _ _ _ rfl (B3.set5 _ _ _ _ _) Try.underlying25 rfl (by kernel_rfl)) rfl ?_
    exact ⟨⟨F, _, _, x, j, rfl, hj, Blk.far5 r3 hgp _ _ _ _ _, (hcase2.out.store (Nat.le_refl _) hpw hws (mod5_at w3 p _ _ _ _ _)).as hke.out⟩, hmodp _ _ _ _ _ m3⟩
  have e33 : ((c.toNat : Int) == 33) = false := byte_ne c (n := 33) (by omega) h33
  have hke := (inner_item (p := filP n) (fun h => h38 ((hhd.out 38 (by decide)).1 h)) (fun h => h124 ((hhd.out 124 (by decide)).1 h)) (fun h => h33 ((hhd.out 33 (by decide)).1 h))).trans hU.out.symm
  have hkc := fitem_any r2 hk hl
  replace hke := Lib.hid hke
  replace hkc := Lib.hid hkc
  clear hU hc hhd hlt h38 h124 h33
  go_wp2_with fail
  refine hkc.out.mono ?_
  rintro e w3 ⟨⟨F, vs, vk, x, j, rfl, hj, r3, hcase⟩, y3⟩
  have hcase2 : FCase 1 (toPR (itemP (s.drop k))) w2.heap.size w3 s F vs vk x j := hcase
  obtain ⟨⟨A1, l1, t1, rfl⟩, A2, l2, t2, rfl⟩ := hcase2.shape
  have m3 := m2.then_ y3 (fun _ _ h => h)
  have B3 := B2.mod y3 hpg
  have hpw : p < w2.heap.size := B2.lt
  have hws : w.heap.size ≤ w2.heap.size := m2.size
  obtain ⟨⟨f0, f1, f2, f3, f4⟩, e0, e1, e2, e3, e4⟩ := B3.five
  clear hcase y3
  replace hcase2 := Lib.hid hcase2
  go_wp2_with fail
  refine bodyPost_ret (results_cell_row2 Try.results31 _ _ _ _ _ _ _ rfl (B3.set5 _ _ _ _ _) Try.underlying25 rfl (by kernel_rfl)) rfl ?_
  exact ⟨⟨F, _, _, x, j, rfl, hj, Blk.far5 r3 hgp _ _ _ _ _, (hcase2.out.store (by omega) hpw hws (mod5_at w3 p _ _ _ _ _)).as hke.out⟩, hmodp _ _ _ _ _ m3⟩
end Go.Proofs.Ytekocbphdckmkaa
