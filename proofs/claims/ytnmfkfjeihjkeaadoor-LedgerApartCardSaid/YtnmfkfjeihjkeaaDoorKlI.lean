/- ledger: Write. -/
import Derived.Test.YtnmfkfjeihjkeaaDoorKlE
namespace Go.Proofs.YtnmfkfjeihjkeaaDoor
open Go.RowKit Go.Maps Go.WideMaps
set_option maxRecDepth 100000

section
variable {T U V X : Nat → Prop} {w w' : World} {g bd : Nat} {dv ew y : Value} {vs : List Value} {l : Lst} {d : Ds} {b : List UInt8} {n : Nat}
def writL (l : Lst) (n : Nat) (b : List UInt8) (e : Nat) : Lst := if e = 0 then ⟨l.p, n, b, [], false⟩ else { l with dead := true }
theorem wri_err {T4 : Nat → Prop} {w4 : World} {d' : Ds} (h4 : Dk T4 w4 (pv bd) d') (hT4 : ∀ k, T4 k → (T k ∨ w.heap.size ≤ k) ∧ k < w4.heap.size) (l4 : LgAt U w4 g bd dv ew vs l) (sep : ∀ k, T k → ¬ U k) (hT : ∀ k, T k → X k ∧ k < w.heap.size) (hU : ∀ k, U k → X k ∧ k < w.heap.size) (m4 : Mod T w w4) :
    LDk (Grow X w) (w4.setCell ⟨g, 5, none⟩ (.bool true)) bd d' g { l with dead := true } ∧ Mod X w (w4.setCell ⟨g, 5, none⟩ (.bool true)) := by
  have hz4 := m4.size
  have s7 : Mod (fun k => k = g) w4 (w4.setCell ⟨g, 5, none⟩ (.bool true)) := setg_mod _ _ _ _
  have hz7 := s7.size
  have hTU : ∀ k, T4 k → ¬ U k := fun k hk hu => by
    rcases (hT4 k hk).1 with h | h
    · exact sep k h hu
    · have := (hU k hu).2; omega
  refine ⟨⟨T4, U, dv, ew, vs, h4.mod s7 (fun k _ hk e => hTU k hk (e ▸ l4.sg)), ?_, hTU, fun k hk => ⟨?_, by have := (hT4 k hk).2; omega⟩, fun k hk => ⟨.inl (hU k hk).1, by have := (hU k hk).2; omega⟩⟩, m4.trans s7 (fun k _ h => (hT k h).1) (fun k _ h => h ▸ (hU g l4.sg).1)⟩
  · exact ⟨l4.sg, l4.blk.set_ 5 _, l4.dat.mod s7 (fun k _ hs e => hs.2.1 e), l4.ents.mod s7 (fun k hk e => (l4.entU k hk).2 e), l4.entU, l4.len, fun k x e hx he => (l4.els k x e hx he).mod s7 (fun k _ hs e => hs.2.1 e), l4.small, l4.pl, l4.bb, l4.dl, l4.el⟩
  · rcases (hT4 k hk).1 with h | h
    · exact .inl (hT k h).1
    · exact .inr h
theorem wri_fin {T4 : Nat → Prop} {w4 w5 : World} {d' : Ds} {u : Value} (h4 : Dk T4 w4 (pv bd) d') (hT4 : ∀ k, T4 k → (T k ∨ w.heap.size ≤ k) ∧ k < w4.heap.size) (l4 : LgAt U w4 g bd dv ew vs l) (sep : ∀ k, T k → ¬ U k) (hT : ∀ k, T k → X k ∧ k < w.heap.size) (hU : ∀ k, U k → X k ∧ k < w.heap.size) (m4 : Mod T w w4) (hdead : l.dead = false)
    (hb : b.length ≤ 524288) (hn : n ≤ 1099511627776) (o5 : Own w5 5 u (b.map bv)) (f5 : Fresh w4.heap.size u) (q5 : Ext w4 w5) :
    LDk (Grow X w) (((w5.setCell ⟨g, 2, none⟩ (.int .i64 (n : Int))).setCell ⟨g, 3, none⟩ u).setCell ⟨g, 4, none⟩ (.slice none 0 0)) bd d' g ⟨l.p, n, b, [], false⟩ ∧ Mod X w (((w5.setCell ⟨g, 2, none⟩ (.int .i64 (n : Int))).setCell ⟨g, 3, none⟩ u).setCell ⟨g, 4, none⟩ (.slice none 0 0)) := by
  have hz4 := m4.size
  have hz5 := q5.size
  have s7 : Mod (fun k => k = g) w5 (((w5.setCell ⟨g, 2, none⟩ (.int .i64 (n : Int))).setCell ⟨g, 3, none⟩ u).setCell ⟨g, 4, none⟩ (.slice none 0 0)) :=
    ((setg_mod w5 g 2 _).then_ (setg_mod _ g 3 _) fun _ _ h => h).then_ (setg_mod _ g 4 _) fun _ _ h => h
  have hz7 := s7.size
  have hgl : g < w.heap.size := (hU g l4.sg).2
  have m47 : Mod (fun k => k = g) w4 (((w5.setCell ⟨g, 2, none⟩ (.int .i64 (n : Int))).setCell ⟨g, 3, none⟩ u).setCell ⟨g, 4, none⟩ (.slice none 0 0)) := q5.trans s7 (fun _ _ h => h.elim) (fun _ _ h => h)
  have hTU : ∀ k, T4 k → ¬ U k := fun k hk hu => by
    rcases (hT4 k hk).1 with h | h
    · exact sep k h hu
    · have := (hU k hu).2; omega
  refine ⟨⟨T4, fun k => U k ∨ (w4.heap.size ≤ k ∧ k < (((w5.setCell ⟨g, 2, none⟩ (.int .i64 (n : Int))).setCell ⟨g, 3, none⟩ u).setCell ⟨g, 4, none⟩ (.slice none 0 0)).heap.size), u, .slice none 0 0, [], h4.mod m47 (fun k _ hk e => hTU k hk (e ▸ l4.sg)), ?_, ?_, fun k hk => ⟨?_, by have := (hT4 k hk).2; omega⟩, ?_⟩, m4.trans m47 (fun k _ h => (hT k h).1) (fun k _ h => h ▸ (hU g l4.sg).1)⟩
  · have hbk : Blk (((w5.setCell ⟨g, 2, none⟩ (.int .i64 (n : Int))).setCell ⟨g, 3, none⟩ u).setCell ⟨g, 4, none⟩ (.slice none 0 0)) g 103 (lcells bd ⟨l.p, n, b, [], l.dead⟩ u (.slice none 0 0)) := (((l4.blk.mod q5 (fun h => h)).set_ 2 (.int .i64 (n : Int))).set_ 3 u).set_ 4 (.slice none 0 0)
    rw [hdead] at hbk
    refine ⟨.inl l4.sg, hbk, ?_, Own.nil _ _, (fun k hk => by cases hk), rfl, (fun k x e hx => by simp at hx), (fun e he => by cases he), l4.pl, hn, (by show b.length ≤ 1000000; omega), by simp⟩
    exact (o5.mod s7 (fun k hk e => by have := f5 k hk; omega)).sl.mono fun k _ hk => ⟨.inr ⟨f5 k hk, by have := o5.lt hk; omega⟩, by have := f5 k hk; omega, fun h => by cases h⟩
  · rintro k hk (h | h)
    · exact hTU k hk h
    · have := (hT4 k hk).2; omega
  · rcases (hT4 k hk).1 with h | h
    · exact .inl (hT k h).1
    · exact .inr h
  · rintro k (h | h)
    · exact ⟨.inl (hU k h).1, by have := (hU k h).2; omega⟩
    · exact ⟨.inr (by omega), h.2⟩
set_option maxHeartbeats 16000000 in
theorem lwrite_any (h : Dk T w (pv bd) d) (hl : LgAt U w g bd dv ew vs l) (sep : ∀ k, T k → ¬ U k) (hT : ∀ k, T k → X k ∧ k < w.heap.size) (hU : ∀ k, U k → X k ∧ k < w.heap.size)
    (hdead : l.dead = false) (hy : Bs w V y b) (hV : ∀ k, V k → k < w.heap.size ∧ ¬ X k) (hb : b.length ≤ 524288) (hn : n ≤ 1099511627776) (hln : lastL5 l ≤ n) (hN : Nib w) :
    Calls Tryd.prog 36 #[pv g, .int .i64 (n : Int), y] w fun e w' => e = .returned (.int .i64 ((replD d l.p n b).2 : Nat)) ∧ LDk (Grow X w) w' bd (replD d l.p n b).1 g (writL l n b (replD d l.p n b).2) ∧ Mod X w w' := by
  obtain ⟨Ay, cy, rfl, y1, y2, y3, y4⟩ := hy.open_
  have c5 : w.cell? ⟨g, 5, none⟩ = some (.bool false) := by have := hl.blk.cell 5; rw [this, ← hdead]; rfl
  have hcl := last5_any hl
  have hb1 : decide ((524288 : Int) < (b.length : Int)) = false := dfalse (by omega)
  have hb2 : decide ((1099511627776 : Int) < (n : Int)) = false := dfalse (by omega)
  have hb3 : decide ((n : Int) < (lastL5 l : Int)) = false := dfalse (by omega)
  have hcy := fun k => repl_any (w := w.drewN k) (h.ext ((Mod.refl _ _).drewN k)) (hl.ext ((Mod.refl _ _).drewN k)) sep (hy.drewN k) (fun k hk => (hV k hk).1) hb (n := n) (by omega) hN
  generalize lastL5 l = la at *
  generalize hq : replD d l.p n b = r at *
  clear hq
  obtain ⟨d', n'⟩ := r
  simp only at hcy ⊢
  obtain ⟨L', hL'⟩ : ∃ L', L' = writL l n b n' := ⟨_, rfl⟩
  rw [← hL']
  replace hL' := Lib.hid hL'
  go_enter Tryd.func36, Tryd.ntmps36
  go_wp2_with fail
  refine hcl.mono ?_
  rintro e w1 ⟨rfl, k1, rfl⟩
  clear hcl
  replace hcy := hcy k1
  go_wp2_with fail
  refine hcy.mono ?_
  rintro e w4 ⟨rfl, h4, m4⟩
  replace m4 : Mod T w w4 := ((Mod.refl _ w).drewN k1).then_ m4 fun _ _ h => h
  have h4 := h4.cut
  have hz4 := m4.size
  have l4 := hl.mod m4 fun k _ hk hT => sep k hT hk
  have y4' := hy.mod m4 fun k hk hv hT' => (hV k hv).2 (hT k hT').1
  clear hcy hl h c5
  by_cases hn4 : n' = 0
  case neg =>
    have hb4 := n_ne0 hn4
    have hfin := wri_err (w := w) (X := X) h4 (fun k hk => ⟨hk.1, hk.2⟩) l4 sep hT hU m4
    have c5 : w4.cell? ⟨g, 5, none⟩ = some (.bool l.dead) := l4.blk.cell 5
    have z5 : w4.frozen? ⟨g, 5, none⟩ = false := l4.blk.frozen 5
    have hLe : L' = { l with dead := true } := by rw [hL'.out]; unfold writL; rw [if_neg hn4]
    rw [← hLe] at hfin
    clear hLe hL'
    replace hfin := Lib.hid hfin
    clear l4 h4 m4 y4' hy y4
    go_wp2_with fail
    go_ret
    exact ⟨rfl, hfin.out⟩
  subst hn4
  have hLe : L' = ⟨l.p, n, b, [], false⟩ := hL'.out
  have hfin := fun (u : Value) (w5 : World) (o5 : Own w5 5 u (b.map bv)) (f5 : Fresh w4.heap.size u) (q5 : Ext w4 w5) => wri_fin (w := w) (X := X) (n := n) h4 (fun k hk => ⟨hk.1, hk.2⟩) l4 sep hT hU m4 hdead hb hn o5 f5 q5
  rw [← hLe] at hfin
  clear hLe hL'
  replace hfin := Lib.hid hfin
  have hj : Calls Tryd.prog 70 #[.slice (some ⟨w4.heap.size, 0, none⟩) 1 1] (w4.alloc (.cells #[.slice Ay b.length cy] 32)) fun e w' => ∃ v', e = .returned v' ∧ Own w' 5 v' (b.map bv) ∧ Fresh w4.heap.size v' ∧ Ext w4 w' :=
    (join_any (Rw.one 32 y4') (by simp; omega)).mono fun e w' ⟨v', q1, q2, q3, q4⟩ => ⟨v', q1, by simpa using q2, q3.mono (by simp), ext_trans ((Mod.refl _ w4).alloc _) q4⟩
  have hcl : ∀ {wx : World}, Ext w4 wx → Blk wx g 103 (lcells bd l dv ew) := fun q => l4.blk.mod q (fun h => h)
  clear l4 h4 m4 y4' hy y4
  go_wp2_with fail
  refine hj.mono ?_
  rintro e w5 ⟨u, rfl, o5, f5, q5⟩
  have hf := hfin.out u w5 o5 f5 q5
  obtain ⟨Au, cu, rfl⟩ := o5.shape
  have hbk := hcl q5
  have e2 : w5.cell? ⟨g, 2, none⟩ = some (.int .i64 (l.base : Int)) := hbk.cell 2
  have e3 : w5.cell? ⟨g, 3, none⟩ = some dv := hbk.cell 3
  have e4 : w5.cell? ⟨g, 4, none⟩ = some ew := hbk.cell 4
  have z2 : w5.frozen? ⟨g, 2, none⟩ = false := hbk.frozen 2
  have z3 : w5.frozen? ⟨g, 3, none⟩ = false := hbk.frozen 3
  have z4 : w5.frozen? ⟨g, 4, none⟩ = false := hbk.frozen 4
  clear hbk hcl hj hfin o5 f5 q5
  replace hf := Lib.hid hf
  rw [List.length_map] at hf
  go_wp2_with fail
  go_ret
  exact ⟨rfl, hf.out⟩
end
end Go.Proofs.YtnmfkfjeihjkeaaDoor
namespace Go.Proofs.YtnmfkfjeihjkeaaDoor
open Go.RowKit Go.Maps Go.WideMaps
set_option maxRecDepth 100000

section
variable {T U V X : Nat → Prop} {w w' : World} {g bd : Nat} {dv ew y : Value} {vs : List Value} {l : Lst} {d : Ds} {b : List UInt8} {n : Nat}
theorem img_len (h : l.p.length ≤ 20) : (imgN l.p).length ≤ 1000000 := by simp [imgN]; omega
theorem log_len (h : l.p.length ≤ 20) : (logN l.p).length ≤ 1000000 := by simp [logN]; omega
set_option maxHeartbeats 8000000 in
theorem rimg_none (h : Dk T w (pv bd) d) (hl : LgAt U w g bd dv ew vs l) (hN : Nib w) (he : loadD d (imgN l.p) = ([], 7)) :
    Calls Tryd.prog 67 #[pv g] w fun e w' => e = .returned (.int .i64 0) ∧ Ext w w' := by
  have hcc : ∀ {wj : World}, Ext w wj → wj.cell? ⟨g, 0, none⟩ = some (pv bd) := fun q => (hl.blk.mod q (fun h => h)).cell 0
  have q0 : Ext w w.drew := (Mod.refl _ w).drew
  have himg := img_any (hl.blk.mod q0 (fun h => h)) hl.pl
  have hld := load_any (h.ext q0) (imgN l.p) (img_len hl.pl) (hN.ext q0)
  rw [he] at hld
  clear h hl he
  generalize imgN l.p = i at *
  go_enter Tryd.func67, Tryd.ntmps67
  go_wp2_with fail
  go_region_held3 (fun wx => wx.cell? ⟨g, 0, none⟩ = some (pv bd)) (first | exact hcc q0 | exact hkX)
    (first
      | (go_at_call 66; (with_reducible refine himg.mono ?_); rintro e wx ⟨rfl, rfl⟩)
      | (go_at_call 17; (with_reducible refine hld.mono ?_); rintro e w4 ⟨u, rfl, o4, f4, q4⟩; have hkX := hcc (ext_trans q0 q4)))
  all_goals
    have x4 := ext_trans q0 q4
    clear hkX hcc himg hld o4 f4 q4
    go_wp2_with fail
    go_ret
    exact ⟨rfl, x4⟩
/-- An image that may be. -/
def Img (b : List UInt8) (n : Nat) (dt : List UInt8) : Prop := ∃ st1 st2, takeN (some b) = (n, st1) ∧ takeB st1 = (dt, st2) ∧ isWhole st2 = true ∧ n ≤ 1099511627776
theorem Img.numB (n : Nat) (p : List UInt8) (hn : n ≤ 1099511627776) (hp : p.length ≤ 1000000) : Img (Go.Proofs.YtnmfkfjeihjkeaaDoor.numB n p) n p := by
  refine ⟨some (enc7 p.length ++ p), some [], takeN_enc n (enc7 p.length ++ p) (by omega), ?_, rfl, hn⟩
  have := takeB_enc p [] (by omega)
  rwa [List.append_nil] at this
theorem rimg_fin {w2 w5 : World} {u : Value} {dt : List UInt8} (hl : LgAt U w g bd dv ew vs l) (hU : ∀ k, U k → X k ∧ k < w.heap.size) (q2 : Ext w w2) (hn : n ≤ 1099511627776) (hdt : dt.length ≤ 1000000) (o5 : Own w5 5 u (dt.map bv)) (f5 : Fresh w.heap.size u) (q5 : Mod (fun k => k = g) w w5)
    (hb : Blk w5 g 103 (lcells bd ⟨l.p, n, l.data, l.es, l.dead⟩ dv ew)) :
    LgAt (fun k => U k ∨ (w.heap.size ≤ k ∧ k < (w5.setCell ⟨g, 3, none⟩ u).heap.size)) (w5.setCell ⟨g, 3, none⟩ u) g bd u ew vs ⟨l.p, n, dt, l.es, l.dead⟩ ∧ Mod (fun k => k = g) w (w5.setCell ⟨g, 3, none⟩ u) := by
  have s7 : Mod (fun k => k = g) w5 (w5.setCell ⟨g, 3, none⟩ u) := setg_mod _ _ _ _
  have hz7 := s7.size
  have hz5 := q5.size
  have m7 := q5.then_ s7 fun _ _ h => h
  have hgl : g < w.heap.size := (hU g hl.sg).2
  have hbk : Blk (w5.setCell ⟨g, 3, none⟩ u) g 103 (lcells bd ⟨l.p, n, dt, l.es, l.dead⟩ u ew) := hb.set_ 3 u
  refine ⟨⟨.inl hl.sg, hbk, ?_, hl.ents.mod m7 (fun k hk e => (hl.entU k hk).2 e), fun k hk => ⟨.inl (hl.entU k hk).1, (hl.entU k hk).2⟩, hl.len, fun k x e hx he => ?_, hl.small, hl.pl, hn, hdt, hl.el⟩, m7⟩
  · exact (o5.mod s7 (fun k hk e => by have := f5 k hk; omega)).sl.mono fun k _ hk => ⟨.inr ⟨f5 k hk, by have := o5.lt hk; omega⟩, by have := f5 k hk; omega, fun h => by have := f5 k hk; have := (hU k (hl.entU k h).1).2; omega⟩
  · exact ((hl.els k x e hx he).mod m7 (fun k _ hs e => hs.2.1 e)).mono fun k _ hs => ⟨.inl hs.1, hs.2⟩
set_option maxHeartbeats 16000000 in
theorem rimg_some {dt : List UInt8} (h : Dk T w (pv bd) d) (hl : LgAt U w g bd dv ew vs l) (hU : ∀ k, U k → X k ∧ k < w.heap.size) (hN : Nib w) (he : loadD d (imgN l.p) = (b, 0)) (hb : b.length ≤ 1000000) (hi : Img b n dt) :
    Calls Tryd.prog 67 #[pv g] w fun e w' => e = .returned (.int .i64 0) ∧ (∃ u, LgAt (fun k => U k ∨ (w.heap.size ≤ k ∧ k < w'.heap.size)) w' g bd u ew vs ⟨l.p, n, dt, l.es, l.dead⟩) ∧ Mod (fun k => k = g) w w' := by
  have hcc : ∀ {wj : World}, Ext w wj → wj.cell? ⟨g, 0, none⟩ = some (pv bd) := fun q => (hl.blk.mod q (fun h => h)).cell 0
  have q0 : Ext w w.drew := (Mod.refl _ w).drew
  have himg := img_any (hl.blk.mod q0 (fun h => h)) hl.pl
  have hld := load_any (h.ext q0) (imgN l.p) (img_len hl.pl) (hN.ext q0)
  rw [he] at hld
  have hblk : ∀ {wj : World}, Ext w wj → Blk wj g 103 (lcells bd l dv ew) := fun q => hl.blk.mod q (fun h => h)
  have hgl : g < w.heap.size := (hU g hl.sg).2
  obtain ⟨st1, st2, hi1, hi2, hi3, hi4⟩ := hi
  have hs1 : (st1.getD []).length ≤ b.length := by
    have h2 := takeN_len (some b)
    rw [hi1] at h2
    exact h2
  have hdt : dt.length ≤ 1000000 := by
    have h1 := (takeB_len st1).2
    rw [hi2] at h1
    simp only at h1
    omega
  have hfin := fun (u : Value) (w5 : World) (o5 : Own w5 5 u (dt.map bv)) (f5 : Fresh w.heap.size u) (q5 : Mod (fun k => k = g) w w5) (hb : Blk w5 g 103 (lcells bd ⟨l.p, n, l.data, l.es, l.dead⟩ dv ew)) => rimg_fin (X := X) hl hU (Mod.refl _ w) hi4 hdt o5 f5 q5 hb
  replace hfin := Lib.hid hfin
  clear h hl he
  generalize imgN l.p = i at *
  go_enter Tryd.func67, Tryd.ntmps67
  go_wp2_with fail
  go_region_held3 (fun wx => wx.cell? ⟨g, 0, none⟩ = some (pv bd)) (first | exact hcc q0 | exact hkX)
    (first
      | (go_at_call 66; (with_reducible refine himg.mono ?_); rintro e wx ⟨rfl, rfl⟩)
      | (go_at_call 17; (with_reducible refine hld.mono ?_); rintro e w4 ⟨u, rfl, o4, f4, q4⟩; have hkX := hcc (ext_trans q0 q4)))
  all_goals
    have x4 := ext_trans q0 q4
    have hnr := newreader_any o4.sl (by omega)
    clear hkX hcc himg hld o4 f4 q4
    go_wp2_with fail
    refine hnr.mono ?_
    rintro e w5 ⟨br, v5, rfl, rd5, z5, z6, x5⟩
    have y5 := ext_trans x4 x5
    have hz4 := x4.size
    clear hnr x5
    have hnm := num_any rd5
    rw [hi1] at hnm
    simp only at hnm
    go_wp2_with fail
    refine hnm.mono ?_
    rintro e w6 ⟨v6, rfl, rd6, m6, z7⟩
    have y6 : Ext w w6 := y5.trans m6 (fun _ _ h => h) (fun k hk e => by omega)
    have hb6 := hblk y6
    have c2 : w6.cell? ⟨g, 2, none⟩ = some (.int .i64 (l.base : Int)) := hb6.cell 2
    have z2 : w6.frozen? ⟨g, 2, none⟩ = false := hb6.frozen 2
    have s6 : Mod (fun k => k = g) w6 (w6.setCell ⟨g, 2, none⟩ (.int .i64 (n : Nat))) := setg_mod _ _ _ _
    have rd7 := rd6.mod s6 (by omega) (fun k _ hk e => by omega)
    have hb7 : Blk (w6.setCell ⟨g, 2, none⟩ (.int .i64 (n : Nat))) g 103 (lcells bd ⟨l.p, n, l.data, l.es, l.dead⟩ dv ew) := hb6.set_ 2 _
    have hby := bytes_any rd7 (by omega)
    rw [hi2] at hby
    simp only at hby
    have y7 : Mod (fun k => k = g) w (w6.setCell ⟨g, 2, none⟩ (.int .i64 (n : Nat))) := y6.trans s6 (fun _ _ h => h.elim) (fun _ _ h => h)
    have hz8 := s6.size
    clear hnm rd5 rd6 m6 hb6 rd7 s6
    go_wp2_with fail
    refine hby.mono ?_
    rintro e w8 ⟨v8, u8, rfl, rd8, o8, f8, m8⟩
    clear hby
    have y8 : Mod (fun k => k = g) w w8 := y7.trans m8 (fun _ _ h => h) (fun k hk e => by omega)
    have hb8 := hb7.mod m8 (by omega)
    have hf := hfin.out u8 w8 o8 (f8.mono (by omega)) y8 hb8
    have e2 : w8.cell? ⟨g, 2, none⟩ = some (.int .i64 (n : Int)) := hb8.cell 2
    have e3 : w8.cell? ⟨g, 3, none⟩ = some dv := hb8.cell 3
    have z3 : w8.frozen? ⟨g, 3, none⟩ = false := hb8.frozen 3
    have s8 : Mod (fun k => k = g) w8 (w8.setCell ⟨g, 3, none⟩ u8) := setg_mod _ _ _ _
    have rd9 := rd8.mod s8 (by omega) (fun k _ hk e => by have := m8.size; omega)
    have hb9 : Blk (w8.setCell ⟨g, 3, none⟩ u8) g 103 (lcells bd ⟨l.p, n, l.data, l.es, l.dead⟩ u8 ew) := hb8.set_ 3 u8
    have hwh := whole_any rd9
    rw [hi3] at hwh
    have e9 : (w8.setCell ⟨g, 3, none⟩ u8).cell? ⟨g, 2, none⟩ = some (.int .i64 (n : Int)) := hb9.cell 2
    obtain ⟨A8, l8, c8, hu8⟩ : ∃ A n c, u8 = .slice A n c := (by obtain ⟨A, c, h⟩ := o8.shape; exact ⟨A, _, c, h⟩)
    replace hf := Lib.hid hf
    have hb4 : decide ((1099511627776 : Int) < (n : Int)) = false := dfalse (by omega)
    clear hfin hblk hb7 hb8 hb9 rd8 rd9 o8 f8 m8 s8 y7 y8 hi1 hi2
    subst hu8
    go_wp2_with fail
    refine hwh.mono ?_
    rintro e w9 ⟨rfl, rfl⟩
    go_wp2_with fail
    go_ret
    exact ⟨rfl, ⟨_, hf.out.1⟩, hf.out.2⟩
end
end Go.Proofs.YtnmfkfjeihjkeaaDoor
namespace Go.Proofs.YtnmfkfjeihjkeaaDoor
open Go.RowKit Go.Maps Go.WideMaps
set_option maxRecDepth 100000

section
variable {w w' : World} {t B : Nat} {tv y : Value} {vs : List Value} {base ah n : Nat} {es : Tx} {r p : List UInt8} {V : Nat → Prop}
abbrev tcells (base ah : Nat) (tv : Value) : Array Value := #[.int .i64 (base : Int), .int .i64 (ah : Int), tv]
def esN (base n : Nat) (es : Tx) (p : List UInt8) : Tx := if n ≤ base then es else es ++ [p]
set_option maxHeartbeats 16000000 in
theorem take5_any (tk : Blk w t 133 (tcells base ah tv)) (ho : Orw w B tv vs es) (hB : B ≤ w.heap.size) (hrow : Bs w V y r) (hr : r.length ≤ 1000000) (hi : Img r n p) (h1 : 1 ≤ n) (hah : ah = 0 ∨ n = ah + 1) (hcase : n ≤ base ∨ n = base + es.length + 1) (hah2 : ah ≤ 1099511627776) (hbase : base ≤ 1099511627776) (hes : es.length ≤ 200000) :
    Calls Tryd.prog 98 #[pv t, y] w fun e w' => e = .returned (.int .i64 0) ∧ (∃ tv' vs', Blk w' t 133 (tcells base n tv') ∧ Orw w' B tv' vs' (esN base n es p)) ∧ Mod (fun k => k = t ∨ own tv k) w w' := by
  obtain ⟨st1, st2, hi1, hi2, hi3, hi4⟩ := hi
  have hs1 : (st1.getD []).length ≤ r.length := by
    have h2 := takeN_len (some r)
    rw [hi1] at h2
    exact h2
  have hp : p.length ≤ 1000000 := by
    have h1 := (takeB_len st1).2
    rw [hi2] at h1
    simp only at h1
    omega
  have htl : t < w.heap.size := tk.lt
  have hnr := newreader_any hrow (by omega)
  have hb1 : decide ((n : Int) < 1) = false := dfalse (by omega)
  have hb2 : decide ((1099511627776 : Int) < (n : Int)) = false := dfalse (by omega)
  have hnt : ¬ own tv t := fun h => by
    obtain ⟨cur, hc⟩ := ho.own.ty h
    exact absurd (hc.ty_eq tk) (by decide)
  clear hrow
  obtain ⟨E, hE⟩ : ∃ E, E = esN base n es p := ⟨_, rfl⟩
  rw [← hE]
  replace hE := Lib.hid hE
  go_enter Tryd.func98, Tryd.ntmps98
  go_wp2_with fail
  refine hnr.mono ?_
  rintro e w5 ⟨br, v5, rfl, rd5, z5, z6, x5⟩
  clear hnr
  have hnm := num_any rd5
  rw [hi1] at hnm
  simp only at hnm
  go_wp2_with fail
  refine hnm.mono ?_
  rintro e w6 ⟨v6, rfl, rd6, m6, z7⟩
  have y6 : Ext w w6 := x5.trans m6 (fun _ _ h => h) (fun k hk e => by omega)
  have hby := bytes_any rd6 (by omega)
  rw [hi2] at hby
  simp only at hby
  clear hnm rd5 m6
  go_wp2_with fail
  refine hby.mono ?_
  rintro e w7 ⟨v7, u7, rfl, rd7, o7, f7, m7⟩
  have y7 : Ext w w7 := y6.trans m7 (fun _ _ h => h) (fun k hk e => by omega)
  have hz6 := y6.size
  have hwh := whole_any rd7
  rw [hi3] at hwh
  clear hby rd6 m7
  go_wp2_with fail
  refine hwh.mono ?_
  rintro e w8 ⟨rfl, rfl⟩
  clear hwh rd7
  have tk8 := tk.mod y7 (fun h => h)
  have ho8 := ho.ext y7
  have f7' := f7.mono hz6
  have c0 : w8.cell? ⟨t, 0, none⟩ = some (.int .i64 (base : Int)) := tk8.cell 0
  have c1 : w8.cell? ⟨t, 1, none⟩ = some (.int .i64 (ah : Int)) := tk8.cell 1
  have c2 : w8.cell? ⟨t, 2, none⟩ = some tv := tk8.cell 2
  have z1 : w8.frozen? ⟨t, 1, none⟩ = false := tk8.frozen 1
  have s9 : Mod (fun k => k = t) w8 (w8.setCell ⟨t, 1, none⟩ (.int .i64 (n : Int))) := setg_mod _ _ _ _
  have tk9 : Blk (w8.setCell ⟨t, 1, none⟩ (.int .i64 (n : Int))) t 133 (tcells base n tv) := tk8.set_ 1 _
  have d0 : (w8.setCell ⟨t, 1, none⟩ (.int .i64 (n : Int))).cell? ⟨t, 0, none⟩ = some (.int .i64 (base : Int)) := tk9.cell 0
  have d2 : (w8.setCell ⟨t, 1, none⟩ (.int .i64 (n : Int))).cell? ⟨t, 2, none⟩ = some tv := tk9.cell 2
  have ho9 : Orw (w8.setCell ⟨t, 1, none⟩ (.int .i64 (n : Int))) B tv vs es := ⟨ho8.own.mod s9 (fun k hk e => hnt (e ▸ hk)), ho8.fresh, ho8.len, fun k x e hx he => ⟨(ho8.els k x e hx he).1.mod s9 (fun k hk e => by
    obtain ⟨cur, hc⟩ := (ho8.els _ x _ hx he).1.ty hk
    rw [e] at hc
    exact absurd (hc.ty_eq tk8) (by decide)), (ho8.els k x e hx he).2⟩⟩
  have o9 : Own (w8.setCell ⟨t, 1, none⟩ (.int .i64 (n : Int))) 5 u7 (p.map bv) := o7.mod s9 (fun k hk e => by have := f7' k hk; omega)
  have m9 : Mod (fun k => k = t ∨ own tv k) w (w8.setCell ⟨t, 1, none⟩ (.int .i64 (n : Int))) := y7.trans s9 (fun _ _ h => h.elim) (fun _ _ h => .inl h)
  have hgo : (ah = 0 ∧ True) ∨ (decide (0 < ah) = true ∧ n = ah + 1) := by
    rcases hah with h | h
    · exact .inl ⟨h, trivial⟩
    · by_cases h0 : ah = 0
      · exact .inl ⟨h0, trivial⟩
      · exact .inr ⟨decide_eq_true (by omega), h⟩
  clear hah tk ho ho8 o7 tk8 hi1 hi2 hi3
  have hne : n = ah + 1 → ((n : Int) != (ah : Int) + 1) = false := fun h => by rw [bne_eq_false_iff_eq]; omega
  obtain ⟨Au, lu, cu, hu⟩ : ∃ A n c, u7 = .slice A n c := (by obtain ⟨A, c, h⟩ := o9.shape; exact ⟨A, _, c, h⟩)
  obtain ⟨w9, hw9⟩ : ∃ w9, w9 = w8.setCell ⟨t, 1, none⟩ (.int .i64 (n : Int)) := ⟨_, rfl⟩
  have hfin1 : n ≤ base → (∃ tv' vs', Blk (w8.setCell ⟨t, 1, none⟩ (.int .i64 (n : Int))) t 133 (tcells base n tv') ∧ Orw (w8.setCell ⟨t, 1, none⟩ (.int .i64 (n : Int))) B tv' vs' E) ∧ Mod (fun k => k = t ∨ own tv k) w (w8.setCell ⟨t, 1, none⟩ (.int .i64 (n : Int))) := fun h => ⟨⟨tv, vs, tk9, by rw [hE.out, show esN base n es p = es by unfold esN; rw [if_pos h]]; exact ho9⟩, m9⟩
  replace hfin1 := Lib.hid hfin1
  have e0 : w9.cell? ⟨t, 0, none⟩ = some (.int .i64 (base : Int)) := by rw [hw9]; exact d0
  have e2 : w9.cell? ⟨t, 2, none⟩ = some tv := by rw [hw9]; exact d2
  rw [← hw9] at tk9 ho9 o9 m9
  have hlen := ho9.len
  obtain ⟨At, ct, htv⟩ := ho9.own.shape
  rw [hlen] at htv
  have hz9 : w.heap.size ≤ w9.heap.size := m9.size
  by_cases hle : n ≤ base
  · have hb4 : decide ((n : Int) ≤ (base : Int)) = true := dtrue (by omega)
    have hf := Lib.hid (hfin1.out hle)
    clear hfin1 tk9 ho9 o9 m9 e0 e2 hw9
    rcases hgo with ⟨rfl, -⟩ | ⟨hg, hg2⟩
    · go_wp2_with fail
      go_ret
      exact ⟨rfl, hf.out⟩
    · have hne2 := hne hg2
      clear hg2 hne
      go_wp2_with fail
      go_ret
      exact ⟨rfl, hf.out⟩
  have hb4 : decide ((n : Int) ≤ (base : Int)) = false := dfalse (by omega)
  have hn2 := hcase.resolve_left hle
  have hne4 : ((n : Int) != (base : Int) + (es.length : Int) + 1) = false := by rw [bne_eq_false_iff_eq]; omega
  clear hn2
  have hes' : E = es ++ [p] := by rw [hE.out]; unfold esN; rw [if_neg hle]
  have hn1 : (vs.length + [Value.bool true].length) * 24 ≤ 140737488355328 := by simp; omega
  replace hes' := Lib.hid hes'
  have hfin2 : ∀ (m : Nat) (v6 : Value) (w6 : World), Own w6 32 v6 (vs ++ [u7]) → Mod (own tv) ((w9.drewN m).alloc (.cells #[u7] 32)) w6 → Next ((w9.drewN m).alloc (.cells #[u7] 32)).heap.size tv v6 →
      (∃ tv' vs', Blk (w6.setCell ⟨t, 2, none⟩ v6) t 133 (tcells base n tv') ∧ Orw (w6.setCell ⟨t, 2, none⟩ v6) B tv' vs' E) ∧ Mod (fun k => k = t ∨ own tv k) w (w6.setCell ⟨t, 2, none⟩ v6) := fun m v6 w6 o6 m6 n6 => by
    have xa : Ext w9 ((w9.drewN m).alloc (.cells #[u7] 32)) := ((Mod.refl _ w9).drewN m).alloc _
    have hoa := ho9.ext xa
    have oa := o9.mod xa (fun _ _ h => h)
    have hsn := hoa.snoc o6 m6 n6 oa (f7'.mono (by omega)) (by have := xa.size; omega)
    have tk6 := (tk9.mod xa (fun h => h)).mod m6 hnt
    have s6 : Mod (fun k => k = t) w6 (w6.setCell ⟨t, 2, none⟩ v6) := setg_mod _ _ _ _
    have hnv : ¬ own v6 t := fun h => by
      obtain ⟨cur, hc⟩ := o6.ty h
      exact absurd (hc.ty_eq tk6) (by decide)
    refine ⟨⟨v6, _, tk6.set_ 2 v6, by rw [hes'.out]; exact ⟨hsn.own.mod s6 (fun k hk e => hnv (e ▸ hk)), hsn.fresh, hsn.len, fun k x e hx he => ⟨(hsn.els k x e hx he).1.mod s6 (fun k hk e => by
      obtain ⟨cur, hc⟩ := (hsn.els _ x _ hx he).1.ty hk
      rw [e] at hc
      exact absurd (hc.ty_eq tk6) (by decide)), (hsn.els k x e hx he).2⟩⟩⟩, ?_⟩
    exact ((m9.trans xa (fun _ _ h => h) (fun _ _ h => h.elim)).trans m6 (fun _ _ h => h) (fun _ _ h => .inr h)).trans s6 (fun _ _ h => h) (fun _ _ h => .inl h)
  replace hfin2 := Lib.hid hfin2
  have hc6 : ∀ (m : Nat) (w6 : World), Mod (own tv) ((w9.drewN m).alloc (.cells #[u7] 32)) w6 → w6.cell? ⟨t, 2, none⟩ = some tv ∧ w6.frozen? ⟨t, 2, none⟩ = false := fun m w6 m6 => by
    have tk6 := (tk9.mod (((Mod.refl (fun _ => False) w9).drewN m).alloc (.cells #[u7] 32)) (fun h => h)).mod m6 hnt
    exact ⟨tk6.cell 2, tk6.frozen 2⟩
  have hown : ∀ m : Nat, Own ((w9.drewN m).alloc (.cells #[u7] 32)) 32 tv vs := fun m => ho9.own.mod (((Mod.refl (fun _ => False) w9).drewN m).alloc _) (fun _ _ h => h)
  have hone : ∀ x ∈ [u7], x.oneCell' = true := fun x hx => by rw [List.mem_singleton.1 hx, hu]; rfl
  have hsl : ∀ m : Nat, Sl ((w9.drewN m).alloc (.cells #[u7] 32)) (fun k => k = w8.heap.size) (.slice (some ⟨w8.heap.size, 0, none⟩) 1 1) [u7] := fun m => by
    have hsz : (w9.drewN m).heap.size = w8.heap.size := by rw [hw9]; simp [World.setCell]
    have := Sl.one (w9.drewN m) 32 u7
    rwa [hsz] at this
  have hd : ∀ m : Nat, (w9.drewN m).cell? ⟨t, 2, none⟩ = some tv := fun m => e2
  clear hfin1 tk9 ho9 o9 m9 hcase s9 y7 y6
  subst hu
  subst htv
  subst hw9
  rcases hgo with ⟨rfl, -⟩ | ⟨hg, hg2⟩
  case' inr =>
    have hne2 := hne hg2
    clear hg2
  all_goals
    clear hne
    go_wp2_with fail
    go_quiet (fail)
    go_wp2_with ((with_reducible show wpList _ _ _ (⟨some 69, _, _, _, _, _⟩ :: _) _ _); refine wp_app tyR (hown _) (hsl _) hone rfl (.tmp 66) (.tmp 68) rfl rfl rfl hn1 ?_; intro v6 w10 o6 m6 n6; obtain ⟨A6, l6, c6, hv6⟩ : ∃ A n c, v6 = .slice A n c := (by obtain ⟨A, c, h⟩ := o6.shape; exact ⟨A, _, c, h⟩); subst hv6; have hf := Lib.hid (hfin2.out _ _ _ o6 m6 n6); obtain ⟨g2, y2⟩ := hc6 _ _ m6; clear o6 m6 n6 hfin2 hc6 hown hd)
    go_ret
    exact ⟨rfl, hf.out⟩
end
end Go.Proofs.YtnmfkfjeihjkeaaDoor
namespace Go.Proofs.YtnmfkfjeihjkeaaDoor
open Go.RowKit Go.Maps Go.WideMaps
set_option maxRecDepth 100000

/-- Records numbered from m on. -/
def numd (m : Nat) : Tx → Tx
  | [] => []
  | p :: ps => numB m p :: numd (m + 1) ps
theorem numd_len : ∀ (m : Nat) (ps : Tx), (numd m ps).length = ps.length
  | _, [] => rfl
  | m, p :: ps => by rw [numd, List.length_cons, numd_len, List.length_cons]
theorem numd_get : ∀ (m : Nat) (ps : Tx) (k : Nat) (hk : k < ps.length) (hk' : k < (numd m ps).length), (numd m ps)[k] = numB (m + k) ps[k]
  | _, [], k, hk, _ => absurd hk (by simp)
  | m, p :: ps, 0, _, _ => by simp [numd]
  | m, p :: ps, k + 1, hk, _ => by
    simp only [numd, List.getElem_cons_succ]
    rw [numd_get (m + 1) ps k (by simpa using hk), show m + 1 + k = m + (k + 1) by omega]
theorem numd_app : ∀ (m : Nat) (ps qs : Tx), numd m (ps ++ qs) = numd m ps ++ numd (m + ps.length) qs
  | _, [], _ => rfl
  | m, p :: ps, qs => by
    simp only [List.cons_append, numd, List.length_cons]
    rw [numd_app, show m + 1 + ps.length = m + (ps.length + 1) by omega]
theorem esN_drop {base m k : Nat} {ps : Tx} (hm : m ≤ base + 1) (hk : k < ps.length) : esN base (m + k) ((ps.take k).drop (base + 1 - m)) ps[k] = (ps.take (k + 1)).drop (base + 1 - m) := by
  unfold esN
  by_cases h : m + k ≤ base
  · rw [if_pos h, List.drop_of_length_le (by rw [List.length_take]; omega), List.drop_of_length_le (by rw [List.length_take]; omega)]
  · rw [if_neg h, List.take_succ_eq_append_getElem hk, List.drop_append_of_le_length (by rw [List.length_take]; omega)]
section
variable {w w' : World} {t : Nat} {y : Value} {base m : Nat} {ps : Tx} {V : Nat → Prop}
set_option maxHeartbeats 16000000 in
theorem each5_any (tk : Blk w t 133 (tcells base 0 (.slice none 0 0))) (hrows : Rw w V y (numd m ps)) (hV : ∀ k, V k → k < w.heap.size ∧ k ≠ t) (h1 : 1 ≤ m) (hm : m ≤ base + 1) (hmost : m + ps.length ≤ 1099511627776) (hps : ps.length ≤ 100000) (hp : ∀ p ∈ ps, p.length ≤ 900000) (hbase : base ≤ 1099511627776) :
    Calls Tryd.prog 97 #[y, .func (.func 98) #[pv t] #[]] w fun e w' => e = .returned (.int .i64 0) ∧ (∃ ah tv vs, Blk w' t 133 (tcells base ah tv) ∧ Orw w' w.heap.size tv vs (ps.drop (base + 1 - m))) ∧ Mod (fun k => k = t) w w' := by
  obtain ⟨A, c, vs0, rfl, p1, p2, p3, p0, p5, p6⟩ := hrows.open_
  clear hrows
  have hnl := numd_len m ps
  rw [hnl] at p1
  obtain ⟨E, hE⟩ : ∃ E, E = ps.drop (base + 1 - m) := ⟨_, rfl⟩
  rw [← hE]
  replace hE := Lib.hid hE
  rw [hnl]
  go_enter Tryd.func97, Tryd.ntmps97
  go_wp2_with fail
  go_loopw [10] (fun i wr => ∃ (k : Nat), k ≤ ps.length ∧ i = .int .i64 k ∧ (∃ ah tv vs, Hid (ah = 0 ∨ m + k = ah + 1) ∧ ah ≤ 1099511627776 ∧ Blk wr t 133 (tcells base ah tv) ∧ Orw wr w.heap.size tv vs ((ps.take k).drop (base + 1 - m))) ∧ Mod (fun k => k = t) w wr) (fun i _ => ps.length - (intOf i).toNat)
  case atStart => exact ⟨0, Nat.zero_le _, rfl, ⟨0, _, _, Lib.hid (.inl rfl), by omega, tk, by rw [List.take_zero, List.drop_nil]; exact Orw.nil _ _⟩, Mod.refl _ _⟩
  case round =>
    clear tk
    obtain ⟨k, hk, rfl, ⟨ah, tv, vs, hah, hah2, tk, ho⟩, hmod⟩ := hrel
    by_cases hlt : k < ps.length
    case neg =>
      have hbl : decide ((k : Int) < (ps.length : Int)) = false := dfalse (by omega)
      rw [List.take_of_length_le (by omega), ← hE.out] at ho
      go_wp2_with fail
      go_ret
      exact ⟨rfl, ⟨ah, tv, vs, tk, ho⟩, hmod⟩
    have hbl : decide ((k : Int) < (ps.length : Int)) = true := dtrue (by omega)
    obtain ⟨ad, x, hA, hS, hc, hB⟩ := row_at (L := numd m ps) p0 (p5.mod hmod fun k _ hk e => (hV k hk).2 e) (fun k x l h1 h2 => (p6 k x l h1 h2).mod hmod fun k _ hk e => (hV k hk).2 e) (by rw [hnl]; exact hlt)
    rw [numd_get m ps k hlt (by rw [hnl]; exact hlt)] at hB
    have hpl := hp _ (List.getElem_mem hlt)
    have hnb := numB_len (m + k) ps[k] (by omega) (by omega)
    have hel : ((ps.take k).drop (base + 1 - m)).length = k - (base + 1 - m) := by rw [List.length_drop, List.length_take, Nat.min_eq_left (by omega)]
    have hct := take5_any tk ho hmod.size hB (by omega) (Img.numB (m + k) ps[k] (by omega) (by omega)) (by omega) hah.out (by rw [hel]; omega) hah2 hbase (by rw [hel]; omega)
    rw [esN_drop hm hlt] at hct
    subst hA
    have hi0 : (0 : Int) ≤ (k : Int) := by omega
    have hi1 : (k : Int) < (ps.length : Int) := by omega
    have hfresh := ho.fresh
    have hnx : (m + k = 0 ∨ m + (k + 1) = m + k + 1) := .inr (by omega)
    clear tk ho hB hel hnb p5 p6
    generalize hG : (ps.take (k + 1)).drop (base + 1 - m) = G at hct
    replace hG := Lib.hid hG
    go_wp2_with fail
    refine hct.mono ?_
    rintro e w2 ⟨rfl, ⟨tv', vs', tk', ho'⟩, m2⟩
    have hm2 : Mod (fun k => k = t) w w2 := hmod.trans m2 (fun _ _ h => h) (fun k hk h => h.elim id fun h => by have := hfresh k h; omega)
    clear hct m2 hmod
    go_wp2_with fail
    exact ⟨⟨k + 1, by omega, by go_num, ⟨m + k, tv', vs', Lib.hid (.inr (by omega)), by omega, tk', by rw [hG.out]; exact ho'⟩, hm2⟩, by simp [intOf] <;> omega⟩
end
end Go.Proofs.YtnmfkfjeihjkeaaDoor
