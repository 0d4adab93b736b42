/- ledger: Write. -/
import Derived.Test.YtnmfkfjeihjkeaaDoorKlE
namespace Go.Proofs.YtnmfkfjeihjkeaaDoor
open Go.RowKit Go.Maps Go.WideMaps
set_option maxRecDepth 100000

section
variable {T U V X : Nat → Prop} {w w' : World} {g bd : Nat} {dv ew y : Value} {vs : List Value} {l : Lst} {d : Ds} {b : List UInt8} {n : Nat}
def writL (l : Lst) (n : Nat) (b : List UInt8) (e : Nat) : Lst := if e = 0 then ⟨l.p, n, b, [], false⟩ else { l with dead := true }
theorem wri_err {T4 : Nat → Prop} {w4 : World} {d' : Ds} (h4 : Dk T4 w4 (pv bd) d') (hT4 : ∀ k, T4 k → (T k ∨ w.heap.size ≤ k) ∧ k < w4.heap.size) (l4 : LgAt U w4 g bd dv ew vs l) (sep : ∀ k, T k → ¬ U k) (hT : ∀ k, T k → X k ∧ k < w.heap.size) (hU : ∀ k, U k → X k ∧ k < w.heap.size) (m4 : Mod T w w4) :
    LDk (Grow X w) (w4.setCell ⟨g, 5, none⟩ (.bool true)) bd d' g { l with dead := true } ∧ Mod X w (w4.setCell ⟨g, 5, none⟩ (.bool true)) := by
  have hz4 := m4.size
  have s7 : Mod (fun k => k = g) w4 (w4.setCell ⟨g, 5, none⟩ (.bool true)) := setg_mod _ _ _ _
  have hz7 := s7.size
  have hTU : ∀ k, T4 k → ¬ U k := fun k hk hu => by
    rcases (hT4 k hk).1 with h | h
    · exact sep k h hu
    · have := (hU k hu).2; omega
  refine ⟨⟨T4, U, dv, ew, vs, h4.mod s7 (fun k _ hk e => hTU k hk (e ▸ l4.sg)), ?_, hTU, fun k hk => ⟨?_, by have := (hT4 k hk).2; omega⟩, fun k hk => ⟨.inl (hU k hk).1, by have := (hU k hk).2; omega⟩⟩, m4.trans s7 (fun k _ h => (hT k h).1) (fun k _ h => h ▸ (hU g l4.sg).1)⟩
  · exact ⟨l4.sg, l4.blk.set_ 5 _, l4.dat.mod s7 (fun k _ hs e => hs.2.1 e), l4.ents.mod s7 (fun k hk e => (l4.entU k hk).2 e), l4.entU, l4.len, fun k x e hx he => (l4.els k x e hx he).mod s7 (fun k _ hs e => hs.2.1 e), l4.small, l4.pl, l4.bb, l4.dl, l4.el⟩
  · rcases (hT4 k hk).1 with h | h
    · exact .inl (hT k h).1
    · exact .inr h
theorem wri_fin {T4 : Nat → Prop} {w4 w5 : World} {d' : Ds} {u : Value} (h4 : Dk T4 w4 (pv bd) d') (hT4 : ∀ k, T4 k → (T k ∨ w.heap.size ≤ k) ∧ k < w4.heap.size) (l4 : LgAt U w4 g bd dv ew vs l) (sep : ∀ k, T k → ¬ U k) (hT : ∀ k, T k → X k ∧ k < w.heap.size) (hU : ∀ k, U k → X k ∧ k < w.heap.size) (m4 : Mod T w w4) (hdead : l.dead = false)
    (hb : b.length ≤ 524288) (hn : n ≤ 1099511627776) (o5 : Own w5 5 u (b.map bv)) (f5 : Fresh w4.heap.size u) (q5 : Ext w4 w5) :
    LDk (Grow X w) (((w5.setCell ⟨g, 2, none⟩ (.int .i64 (n : Int))).setCell ⟨g, 3, none⟩ u).setCell ⟨g, 4, none⟩ (.slice none 0 0)) bd d' g ⟨l.p, n, b, [], false⟩ ∧ Mod X w (((w5.setCell ⟨g, 2, none⟩ (.int .i64 (n : Int))).setCell ⟨g, 3, none⟩ u).setCell ⟨g, 4, none⟩ (.slice none 0 0)) := by
  have hz4 := m4.size
  have hz5 := q5.size
  have s7 : Mod (fun k => k = g) w5 (((w5.setCell ⟨g, 2, none⟩ (.int .i64 (n : Int))).setCell ⟨g, 3, none⟩ u).setCell ⟨g, 4, none⟩ (.slice none 0 0)) :=
    ((setg_mod w5 g 2 _).then_ (setg_mod _ g 3 _) fun _ _ h => h).then_ (setg_mod _ g 4 _) fun _ _ h => h
  have hz7 := s7.size
  have hgl : g < w.heap.size := (hU g l4.sg).2
  have m47 : Mod (fun k => k = g) w4 (((w5.setCell ⟨g, 2, none⟩ (.int .i64 (n : Int))).setCell ⟨g, 3, none⟩ u).setCell ⟨g, 4, none⟩ (.slice none 0 0)) := q5.trans s7 (fun _ _ h => h.elim) (fun _ _ h => h)
  have hTU : ∀ k, T4 k → ¬ U k := fun k hk hu => by
    rcases (hT4 k hk).1 with h | h
    · exact sep k h hu
    · have := (hU k hu).2; omega
  refine ⟨⟨T4, fun k => U k ∨ (w4.heap.size ≤ k ∧ k < (((w5.setCell ⟨g, 2, none⟩ (.int .i64 (n : Int))).setCell ⟨g, 3, none⟩ u).setCell ⟨g, 4, none⟩ (.slice none 0 0)).heap.size), u, .slice none 0 0, [], h4.mod m47 (fun k _ hk e => hTU k hk (e ▸ l4.sg)), ?_, ?_, fun k hk => ⟨?_, by have := (hT4 k hk).2; omega⟩, ?_⟩, m4.trans m47 (fun k _ h => (hT k h).1) (fun k _ h => h ▸ (hU g l4.sg).1)⟩
  · have hbk : Blk (((w5.setCell ⟨g, 2, none⟩ (.int .i64 (n : Int))).setCell ⟨g, 3, none⟩ u).setCell ⟨g, 4, none⟩ (.slice none 0 0)) g 103 (lcells bd ⟨l.p, n, b, [], l.dead⟩ u (.slice none 0 0)) := (((l4.blk.mod q5 (fun h => h)).set_ 2 (.int .i64 (n : Int))).set_ 3 u).set_ 4 (.slice none 0 0)
    rw [hdead] at hbk
    refine ⟨.inl l4.sg, hbk, ?_, Own.nil _ _, (fun k hk => by cases hk), rfl, (fun k x e hx => by simp at hx), (fun e he => by cases he), l4.pl, hn, (by show b.length ≤ 1000000; omega), by simp⟩
    exact (o5.mod s7 (fun k hk e => by have := f5 k hk; omega)).sl.mono fun k _ hk => ⟨.inr ⟨f5 k hk, by have := o5.lt hk; omega⟩, by have := f5 k hk; omega, fun h => by cases h⟩
  · rintro k hk (h | h)
    · exact hTU k hk h
    · have := (hT4 k hk).2; omega
  · rcases (hT4 k hk).1 with h | h
    · exact .inl (hT k h).1
    · exact .inr h
  · rintro k (h | h)
    · exact ⟨.inl (hU k h).1, by have := (hU k h).2; omega⟩
    · exact ⟨.inr (by omega), h.2⟩
set_option maxHeartbeats 16000000 in
theorem lwrite_any (h : Dk T w (pv bd) d) (hl : LgAt U w g bd dv ew vs l) (sep : ∀ k, T k → ¬ U k) (hT : ∀ k, T k → X k ∧ k < w.heap.size) (hU : ∀ k, U k → X k ∧ k < w.heap.size)
    (hdead : l.dead = false) (hy : Bs w V y b) (hV : ∀ k, V k → k < w.heap.size ∧ ¬ X k) (hb : b.length ≤ 524288) (hn : n ≤ 1099511627776) (hln : lastL5 l ≤ n) (hN : Nib w) :
    Calls Tryd.prog 36 #[pv g, .int .i64 (n : Int), y] w fun e w' => e = .returned (.int .i64 ((replD d l.p n b).2 : Nat)) ∧ LDk (Grow X w) w' bd (replD d l.p n b).1 g (writL l n b (replD d l.p n b).2) ∧ Mod X w w' := by
  obtain ⟨Ay, cy, rfl, y1, y2, y3, y4⟩ := hy.open_
  have c5 : w.cell? ⟨g, 5, none⟩ = some (.bool false) := by have := hl.blk.cell 5; rw [this, ← hdead]; rfl
  have hcl := last5_any hl
  have hb1 : decide ((524288 : Int) < (b.length : Int)) = false := dfalse (by omega)
  have hb2 : decide ((1099511627776 : Int) < (n : Int)) = false := dfalse (by omega)
  have hb3 : decide ((n : Int) < (lastL5 l : Int)) = false := dfalse (by omega)
  have hcy := fun k => repl_any (w := w.drewN k) (h.ext ((Mod.refl _ _).drewN k)) (hl.ext ((Mod.refl _ _).drewN k)) sep (hy.drewN k) (fun k hk => (hV k hk).1) hb (n := n) (by omega) hN
  generalize lastL5 l = la at *
  generalize hq : replD d l.p n b = r at *
  clear hq
  obtain ⟨d', n'⟩ := r
  simp only at hcy ⊢
  obtain ⟨L', hL'⟩ : ∃ L', L' = writL l n b n' := ⟨_, rfl⟩
  rw [← hL']
  replace hL' := Lib.hid hL'
  go_enter Tryd.func36, Tryd.ntmps36
  go_wp2_with fail
  refine hcl.mono ?_
  rintro e w1 ⟨rfl, k1, rfl⟩
  clear hcl
  replace hcy := hcy k1
  go_wp2_with fail
  refine hcy.mono ?_
  rintro e w4 ⟨rfl, h4, m4⟩
  replace m4 : Mod T w w4 := ((Mod.refl _ w).drewN k1).then_ m4 fun _ _ h => h
  have h4 := h4.cut
  have hz4 := m4.size
  have l4 := hl.mod m4 fun k _ hk hT => sep k hT hk
  have y4' := hy.mod m4 fun k hk hv hT' => (hV k hv).2 (hT k hT').1
  clear hcy hl h c5
  by_cases hn4 : n' = 0
  case neg =>
    have hb4 := n_ne0 hn4
    have hfin := wri_err (w := w) (X := X) h4 (fun k hk => ⟨hk.1, hk.2⟩) l4 sep hT hU m4
    have c5 : w4.cell? ⟨g, 5, none⟩ = some (.bool l.dead) := l4.blk.cell 5
    have z5 : w4.frozen? ⟨g, 5, none⟩ = false := l4.blk.frozen 5
    have hLe : L' = { l with dead := true } := by rw [hL'.out]; unfold writL; rw [if_neg hn4]
    rw [← hLe] at hfin
    clear hLe hL'
    replace hfin := Lib.hid hfin
    clear l4 h4 m4 y4' hy y4
    go_wp2_with fail
    go_ret
    exact ⟨rfl, hfin.out⟩
  subst hn4
  have hLe : L' = ⟨l.p, n, b, [], false⟩ := hL'.out
  have hfin := fun (u : Value) (w5 : World) (o5 : Own w5 5 u (b.map bv)) (f5 : Fresh w4.heap.size u) (q5 : Ext w4 w5) => wri_fin (w := w) (X := X) (n := n) h4 (fun k hk => ⟨hk.1, hk.2⟩) l4 sep hT hU m4 hdead hb hn o5 f5 q5
  rw [← hLe] at hfin
  clear hLe hL'
  replace hfin := Lib.hid hfin
  have hj : Calls Tryd.prog 70 #[.slice (some ⟨w4.heap.size, 0, none⟩) 1 1] (w4.alloc (.cells #[.slice Ay b.length cy] 32)) fun e w' => ∃ v', e = .returned v' ∧ Own w' 5 v' (b.map bv) ∧ Fresh w4.heap.size v' ∧ Ext w4 w' :=
    (join_any (Rw.one 32 y4') (by simp; omega)).mono fun e w' ⟨v', q1, q2, q3, q4⟩ => ⟨v', q1, by simpa using q2, q3.mono (by simp), ext_trans ((Mod.refl _ w4).alloc _) q4⟩
  have hcl : ∀ {wx : World}, Ext w4 wx → Blk wx g 103 (lcells bd l dv ew) := fun q => l4.blk.mod q (fun h => h)
  clear l4 h4 m4 y4' hy y4
  go_wp2_with fail
  refine hj.mono ?_
  rintro e w5 ⟨u, rfl, o5, f5, q5⟩
  have hf := hfin.out u w5 o5 f5 q5
  obtain ⟨Au, cu, rfl⟩ := o5.shape
  have hbk := hcl q5
  have e2 : w5.cell? ⟨g, 2, none⟩ = some (.int .i64 (l.base : Int)) := hbk.cell 2
  have e3 : w5.cell? ⟨g, 3, none⟩ = some dv := hbk.cell 3
  have e4 : w5.cell? ⟨g, 4, none⟩ = some ew := hbk.cell 4
  have z2 : w5.frozen? ⟨g, 2, none⟩ = false := hbk.frozen 2
  have z3 : w5.frozen? ⟨g, 3, none⟩ = false := hbk.frozen 3
  have z4 : w5.frozen? ⟨g, 4, none⟩ = false := hbk.frozen 4
  clear hbk hcl hj hfin o5 f5 q5
  replace hf := Lib.hid hf
  rw [List.length_map] at hf
  go_wp2_with fail
  go_ret
  exact ⟨rfl, hf.out⟩
end
end Go.Proofs.YtnmfkfjeihjkeaaDoor
