/- ledger: two Ledgers on one Disk. -/
import Derived.Test.YtnmfkfjeihjkeaaDoorKlY
namespace Go.Proofs.YtnmfkfjeihjkeaaDoor
open Go.RowKit Go.Maps Go.WideMaps
set_option maxRecDepth 100000

/-- Two Ledgers on one Disk, all come since w0. -/
def Pr (w0 w : World) (bd gx gy r B N : Nat) (F : Fn) (lx ly : Lst) : Prop :=
  ∃ Y dv ew vs, Ky Y w0 w bd gx r B N F lx ∧ LgAt Y w gy bd dv ew vs ly ∧ (∀ k, Y k → w0.heap.size ≤ k ∧ k < w.heap.size) ∧ On F ly.p ly.base ly.data ly.es ∧ ly.dead = false
section
variable {V Y : Nat → Prop} {w0 w wa : World} {bd g gx gy r B N n : Nat} {F : Fn} {l lx ly : Lst} {p q b dt : List UInt8} {es : Tx} {y : Value} {o : Option (List UInt8)}
theorem On.apart_log (h : On F p n dt es) (ha : Apart p q) : On (updF F (logN q) o) p n dt es :=
  h.other (by rw [aside_sfx, logN_sfx]; exact ha 2 (by omega) 1 (by omega)) (by rw [imgN_sfx, logN_sfx]; exact ha 0 (by omega) 1 (by omega)) (by rw [logN_sfx, logN_sfx]; exact ha 1 (by omega) 1 (by omega))
theorem On.apart_img (h : On F p n dt es) (ha : Apart p q) : On (updF F (imgN q) o) p n dt es :=
  h.other (by rw [aside_sfx, imgN_sfx]; exact ha 2 (by omega) 0 (by omega)) (by rw [imgN_sfx, imgN_sfx]; exact ha 0 (by omega) 0 (by omega)) (by rw [logN_sfx, imgN_sfx]; exact ha 1 (by omega) 0 (by omega))
theorem Pr.swap (H : Pr w0 w bd gx gy r B N F lx ly) : Pr w0 w bd gy gx r B N F ly lx := by
  obtain ⟨Y, dv, ew, vs, ⟨L, ⟨T, U, dv1, ew1, vs1, h1, h2, h3, h4, h5⟩, h0, q2, q3, q4⟩, k2, k3, k4, k5⟩ := H
  exact ⟨U, dv1, ew1, vs1, ⟨L, ⟨T, Y, dv, ew, vs, h1, k2, fun k hk hy => (h4 k hk).1.2 hy, fun k hk => ⟨⟨(h4 k hk).1.1, h3 k hk⟩, (h4 k hk).2⟩, fun k hk => ⟨⟨(k3 k hk).1, fun hu => (h5 k hu).1.2 hk⟩, (k3 k hk).2⟩⟩, h0, q2, k4, k5⟩, h2, fun k hk => ⟨(h5 k hk).1.1, (h5 k hk).2⟩, q3, q4⟩
theorem Pr.xt (H : Pr w0 w bd gx gy r B N F lx ly) : Ext w0 w := by
  obtain ⟨Y, dv, ew, vs, h, _⟩ := H
  exact h.xt
theorem Pr.ext (H : Pr w0 w bd gx gy r B N F lx ly) (hx : Ext w wa) : Pr w0 wa bd gx gy r B N F lx ly := by
  obtain ⟨Y, dv, ew, vs, h1, h2, h3, h4⟩ := H
  exact ⟨Y, dv, ew, vs, h1.ext hx, h2.ext hx, fun k hk => ⟨(h3 k hk).1, Nat.lt_of_lt_of_le (h3 k hk).2 hx.size⟩, h4⟩
theorem pr_last {m : Nat} (H : Pr w0 w bd gx gy r B N F lx ly) (hm : lastL5 lx = m) :
    Calls Tryd.prog 37 #[pv gx] w fun e w' => e = .returned (.int .i64 (m : Nat)) ∧ ∃ k, w' = w.drewN k := by
  obtain ⟨Y, dv, ew, vs, h, _⟩ := H
  exact li_lastE h.li hm
theorem ky_appendV (H : Ky Y w0 w bd g r B N F l) (hN : Nib w0) (hY : ∀ k, Y k → k < w.heap.size) (hy : Bs w V y b) (hV : ∀ k, V k → k < w.heap.size ∧ (k < w0.heap.size ∨ Y k)) (hb : b.length ≤ 65536) (hn : lastL5 l + 1 ≤ 1099511627776) (hes : l.es.length + 1 ≤ 100000) (hp : l.p.length ≤ 20) (hr : B + (32 + b.length) ≤ r) (hN2 : N < 4096) :
    Calls Tryd.prog 35 #[pv g, y] w fun e w' => e = .returned (.tuple #[.int .i64 ((lastL5 l + 1 : Nat) : Int), .int .i64 0]) ∧ Ky Y w0 w' bd g r (B + (32 + b.length)) (N + 1) (layF F l b) (lappL l b) ∧ Mod (fun k => w0.heap.size ≤ k ∧ ¬ Y k) w w' := by
  obtain ⟨L, ⟨T, U, dv, ew, vs, h1, h2, h3, h4, h5⟩, h0, q2, q3, q4⟩ := H
  have hlen := numB_len (lastL5 l + 1) b (by omega) (by omega)
  obtain ⟨L', k1, k2⟩ := q2.lay (r := r) (p := l.p) (n := lastL5 l + 1) (b := b) hp (by rw [frec_len]; omega) hN2
  refine (lapp_ok (X := fun k => w0.heap.size ≤ k ∧ ¬ Y k) h1 h2 h3 h4 h5 q4 hy (fun k hk => ⟨(hV k hk).1, fun h => (hV k hk).2.elim (fun h' => by omega) h.2⟩) hb hn hes k1 (hN.ext h0)).mono fun e w' ⟨m1, m2, m3⟩ => ⟨m1, ⟨L', ?_, ?_, k2.mono (by rw [frec_len]; omega) (Nat.le_refl _), q3.lays (b := b) (by omega), q4⟩, m3⟩
  · refine m2.mono fun k hk h => ?_
    rcases h with h | h
    · exact h
    · exact ⟨by have := h0.size; omega, fun h' => by have := hY k h'; omega⟩
  · exact h0.trans m3 (fun _ _ h => h) (fun k hk h => by have := h.1; omega)
theorem ky_writeV (H : Ky Y w0 w bd g r B N F l) (hN : Nib w0) (hY : ∀ k, Y k → k < w.heap.size) (hy : Bs w V y b) (hV : ∀ k, V k → k < w.heap.size ∧ (k < w0.heap.size ∨ Y k)) (hb : b.length ≤ 524288) (hn : n ≤ 1099511627776) (hln : lastL5 l ≤ n) (hp : l.p.length ≤ 20) (hr : B + (32 + b.length) ≤ r) (hN2 : N < 4096) :
    Calls Tryd.prog 36 #[pv g, .int .i64 (n : Int), y] w fun e w' => e = .returned (.int .i64 0) ∧ Ky Y w0 w' bd g r (B + (32 + b.length)) (N + 1) (wroteF F l.p n b) ⟨l.p, n, b, [], false⟩ ∧ Mod (fun k => w0.heap.size ≤ k ∧ ¬ Y k) w w' := by
  obtain ⟨L, ⟨T, U, dv, ew, vs, h1, h2, h3, h4, h5⟩, h0, q2, q3, q4⟩ := H
  obtain ⟨L', k1, k2⟩ := q2.repl (r := r) (p := l.p) (n := n) (b := b) hp q3.1 (by omega) (by omega) hr hN2
  have hw := lwrite_any (X := fun k => w0.heap.size ≤ k ∧ ¬ Y k) h1 h2 h3 h4 h5 q4 hy (fun k hk => ⟨(hV k hk).1, fun h => (hV k hk).2.elim (fun h' => by omega) h.2⟩) hb hn hln (hN.ext h0)
  rw [k1] at hw
  refine hw.mono fun e w' ⟨m1, m2, m3⟩ => ⟨m1, ⟨L', ?_, ?_, k2, On.wrote ?_ ?_ ?_ hn (show b.length ≤ 900000 by omega), rfl⟩, m3⟩
  · refine LDk.mono (show LDk _ w' bd _ g ⟨l.p, n, b, [], false⟩ from m2) fun k hk h => ?_
    rcases h with h | h
    · exact h
    · exact ⟨by have := h0.size; omega, fun h' => by have := hY k h'; omega⟩
  · exact h0.trans m3 (fun _ _ h => h) (fun k hk h => by have := h.1; omega)
  · unfold wroteF
    rw [updF_other (aside_ne_log _).symm, updF_other (aside_ne_img _).symm]
    exact q3.1
  · unfold wroteF
    rw [updF_other (img_ne_log _), updF_same]
  · unfold wroteF
    simp [updF]
theorem pr_append {m : Nat} {l' : Lst} (H : Pr w0 w bd gx gy r B N F lx ly) (hN : Nib w0) (ha : Apart ly.p lx.p) (b : List UInt8) (fr : Nat × Nat) (hm : lastL5 lx + 1 = m) (hl' : lappL lx b = l') (hb : b.length ≤ 65536) (hn : m ≤ 1099511627776) (hes : lx.es.length + 1 ≤ 100000) (hp : lx.p.length ≤ 20) (hr : B + (32 + b.length) ≤ r) (hN2 : N < 4096) :
    Calls Tryd.prog 35 #[pv gx, .slice (some ⟨w.heap.size, 0, none⟩) b.length b.length] (w.alloc (.cells (b.map bv).toArray 5 fr)) fun e w' => e = .returned (.tuple #[.int .i64 (m : Int), .int .i64 0]) ∧ Pr w0 w' bd gx gy r (B + (32 + b.length)) (N + 1) (layF F lx b) l' ly := by
  subst hm
  subst hl'
  obtain ⟨Y, dv, ew, vs, hk, k2, k3, k4, k5⟩ := H
  have h0 := hk.xt.size
  have xa : Ext w (w.alloc (.cells (b.map bv).toArray 5 fr)) := (Mod.refl _ _).alloc _
  have hk2 : Ky (fun k => Y k ∨ k = w.heap.size) w0 (w.alloc (.cells (b.map bv).toArray 5 fr)) bd gx r B N F lx := hk.turn (xa.mono (fun _ _ h => h.elim)) (fun k hk hlt => hk.elim id (fun e => by omega)) (fun k h => (k3 k h).1)
  have hY2 : ∀ k, (Y k ∨ k = w.heap.size) → w0.heap.size ≤ k ∧ k < (w.alloc (.cells (b.map bv).toArray 5 fr)).heap.size := fun k h => by
    have hz : (w.alloc (.cells (b.map bv).toArray 5 fr)).heap.size = w.heap.size + 1 := by simp
    rcases h with h | h
    · have := k3 k h; omega
    · omega
  refine (ky_appendV hk2 hN (fun k h => (hY2 k h).2) (Bs.text w 5 b fr (by simp only [maxLen]; omega)) (fun k h => ⟨(hY2 k (.inr h)).2, .inr (.inr h)⟩) hb hn hes hp hr hN2).mono fun e w' ⟨q1, q2, q3⟩ => ⟨q1, Y, dv, ew, vs, q2.turn (Mod.refl _ _) (fun k h _ => .inl h) (fun k h => (hY2 k h).1), (k2.ext xa).mod q3 (fun k _ hy h => h.2 (.inl hy)), fun k hk => ⟨(k3 k hk).1, Nat.lt_of_lt_of_le (hY2 k (.inl hk)).2 q3.size⟩, k4.apart_log ha, k5⟩
theorem pr_write (H : Pr w0 w bd gx gy r B N F lx ly) (hN : Nib w0) (ha : Apart ly.p lx.p) (b : List UInt8) (fr : Nat × Nat) (hb : b.length ≤ 524288) (hn : n ≤ 1099511627776) (hln : lastL5 lx ≤ n) (hp : lx.p.length ≤ 20) (hr : B + (32 + b.length) ≤ r) (hN2 : N < 4096) :
    Calls Tryd.prog 36 #[pv gx, .int .i64 (n : Int), .slice (some ⟨w.heap.size, 0, none⟩) b.length b.length] (w.alloc (.cells (b.map bv).toArray 5 fr)) fun e w' => e = .returned (.int .i64 0) ∧ Pr w0 w' bd gx gy r (B + (32 + b.length)) (N + 1) (wroteF F lx.p n b) ⟨lx.p, n, b, [], false⟩ ly := by
  obtain ⟨Y, dv, ew, vs, hk, k2, k3, k4, k5⟩ := H
  have h0 := hk.xt.size
  have xa : Ext w (w.alloc (.cells (b.map bv).toArray 5 fr)) := (Mod.refl _ _).alloc _
  have hk2 : Ky (fun k => Y k ∨ k = w.heap.size) w0 (w.alloc (.cells (b.map bv).toArray 5 fr)) bd gx r B N F lx := hk.turn (xa.mono (fun _ _ h => h.elim)) (fun k hk hlt => hk.elim id (fun e => by omega)) (fun k h => (k3 k h).1)
  have hY2 : ∀ k, (Y k ∨ k = w.heap.size) → w0.heap.size ≤ k ∧ k < (w.alloc (.cells (b.map bv).toArray 5 fr)).heap.size := fun k h => by
    have hz : (w.alloc (.cells (b.map bv).toArray 5 fr)).heap.size = w.heap.size + 1 := by simp
    rcases h with h | h
    · have := k3 k h; omega
    · omega
  refine (ky_writeV hk2 hN (fun k h => (hY2 k h).2) (Bs.text w 5 b fr (by simp only [maxLen]; omega)) (fun k h => ⟨(hY2 k (.inr h)).2, .inr (.inr h)⟩) hb hn hln hp hr hN2).mono fun e w' ⟨q1, q2, q3⟩ => ⟨q1, Y, dv, ew, vs, q2.turn (Mod.refl _ _) (fun k h _ => .inl h) (fun k h => (hY2 k h).1), (k2.ext xa).mod q3 (fun k _ hy h => h.2 (.inl hy)), fun k hk => ⟨(k3 k hk).1, Nat.lt_of_lt_of_le (hY2 k (.inl hk)).2 q3.size⟩, ?_, k5⟩
  exact (k4.apart_img ha).apart_log ha
/-- A Ledger dropped: the Disk is left. -/
def dropF (F : Fn) (p : List UInt8) : Fn := updF (updF F (logN p) none) (imgN p) none
theorem On.drop (h : On F p n dt es) : On (dropF F p) p 0 [] [] := by
  refine ⟨?_, .inl ⟨by unfold dropF; simp [updF], rfl, rfl⟩, ?_, fun e he => by cases he⟩
  · unfold dropF
    rw [updF_other (aside_ne_img p).symm, updF_other (aside_ne_log p).symm]
    exact h.1
  · unfold dropF
    rw [updF_other (img_ne_log p).symm]
    simp [updF]
theorem pr_drop (H : Pr w0 w bd gx gy r B N F lx ly) (hp : lx.p.length ≤ 20) :
    Calls Tryd.prog 40 #[pv gx] w fun e w' => e = .returned (.int .i64 0) ∧ Hi w0 w' bd r B N (dropF F lx.p) := by
  obtain ⟨Y, dv, ew, vs, ⟨L, h1, h0, q2, q3, q4⟩, k2, k3, k4, k5⟩ := H
  have hz := h0.size
  obtain ⟨L1, e1, H1⟩ := (q2.anyx (logN lx.p)).rm (r := r) (by simp [logN]) (by simp [logN]; omega)
  obtain ⟨L2, e2, H2⟩ := (H1.anyx (imgN lx.p)).rm (r := r) (by simp [imgN]) (by simp [imgN]; omega)
  refine (drop5_any h1 (fun k hk => ⟨by omega, fun h => by have := (k3 k h).2; omega⟩) q4 e1 e2).mono fun e w' ⟨m1, ⟨T, m2, m3⟩, m4⟩ => ⟨m1, L2, ?_, H2⟩
  have hz4 := m4.size
  exact ⟨T, m2, fun k hk => .inr ⟨(m3 k hk).1.1, (m3 k hk).2⟩, h0.trans m4 (fun _ _ h => h) (fun k hk h => by have := h.1; omega), Nat.le_refl _, by omega⟩
theorem pr_open (H : Li w0 w bd gx r B N F lx) (hN : Nib w0) (ho : On F p n dt es) (hp1 : 1 ≤ p.length) (hp : p.length ≤ 20) (hB : B ≤ 1000000) (hn : n + 1 + es.length ≤ 1099511627776) (hl : es.length ≤ 100000) :
    Calls Tryd.prog 34 #[pv bd, sv p] w fun e w' => ∃ g, e = .returned (.tuple #[pv g, ev 0]) ∧ Pr w0 w' bd g gx r B (N + 1) F ⟨p, n, dt, es, false⟩ lx := by
  obtain ⟨L, ⟨⟨T, U, dv, ew, vs, h1, h2, h3, h4, h5⟩, hx⟩, q2, q3, q4⟩ := H
  have hz := hx.size
  obtain ⟨L', k1, k2⟩ := ho.opens (r := r) q2 hp hB hn hl
  refine (lopen_any (X := fun k => T k ∨ w.heap.size ≤ k) h1 (fun k hk => ⟨.inl hk, (h4 k hk).2⟩) (fun k hk => .inr hk) (hN.ext hx) (fun h => ?_) hp1 hp k1).mono fun e w' ⟨g, m1, m2, m3, m4⟩ => ⟨g, m1, U, dv, ew, vs, ⟨L', m3.mono fun k hk h => ?_, hx.trans m4 (fun _ _ h => h) (fun k hk h => ?_), k2, ho, rfl⟩, h2.mod m4 (fun k hk hu h => ?_), fun k hk => ⟨(h5 k hk).1.1, ?_⟩, q3, q4⟩
  · have := lt_of_cell (hN 0 (by decide))
    rcases h with h | h
    · have := (h4 _ h).1.1; omega
    · omega
  · rcases h with h | h
    · exact ⟨(h4 k h).1.1, h3 k h⟩
    · exact ⟨by omega, fun hu => by have := (h5 k hu).2; omega⟩
  · rcases h with h | h
    · have := (h4 k h).1.1; omega
    · omega
  · rcases h with h | h
    · exact h3 k h hu
    · omega
  · have := (h5 k hk).2; have := m4.size; omega
end
end Go.Proofs.YtnmfkfjeihjkeaaDoor
