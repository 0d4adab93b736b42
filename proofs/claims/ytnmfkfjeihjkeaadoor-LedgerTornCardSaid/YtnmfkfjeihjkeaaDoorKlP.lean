/- ledger: a Disk and a Ledger of a law's own. -/
import Derived.Test.YtnmfkfjeihjkeaaDoorKlN
import Derived.Test.YtnmfkfjeihjkeaaDoorKpF
namespace Go.Proofs.YtnmfkfjeihjkeaaDoor
open Go.RowKit Go.Maps Go.WideMaps
set_option maxRecDepth 100000

/-- A Disk and a Ledger that have come since w0. -/
def Lh (w0 w : World) (bd : Nat) (d : Ds) (g : Nat) (l : Lst) : Prop := LDk (fun k => w0.heap.size ≤ k ∧ k < w.heap.size) w bd d g l ∧ Ext w0 w
section
variable {T U V X Y : Nat → Prop} {w0 w w' wa : World} {g bd n : Nat} {dv ew y : Value} {vs : List Value} {l : Lst} {d d1 d' : Ds} {b dt p : List UInt8} {es : Tx}
theorem LDk.mono (H : LDk X w bd d g l) (h : ∀ k, k < w.heap.size → X k → Y k) : LDk Y w bd d g l := by
  obtain ⟨T, U, dv, ew, vs, h1, h2, h3, h4, h5⟩ := H
  exact ⟨T, U, dv, ew, vs, h1, h2, h3, fun k hk => ⟨h k (h4 k hk).2 (h4 k hk).1, (h4 k hk).2⟩, fun k hk => ⟨h k (h5 k hk).2 (h5 k hk).1, (h5 k hk).2⟩⟩
theorem Lh.ext (H : Lh w0 w bd d g l) (hx : Ext w wa) : Lh w0 wa bd d g l := ⟨(H.1.ext hx).mono fun k hk h => ⟨h.1, hk⟩, ext_trans H.2 hx⟩
theorem Lh.hold (H : Lh w0 w bd d g l) : Hold w0 w (pv bd) d := by
  obtain ⟨⟨T, U, dv, ew, vs, h1, h2, h3, h4, h5⟩, hx⟩ := H
  exact ⟨T, h1, fun k hk => .inr (h4 k hk).1, hx, Nat.le_refl _, hx.size⟩
theorem Lh.of {m : Mod X wa w'} (hx : Ext w0 wa) (H : LDk Y w' bd d g l) (hX : ∀ k, X k → w0.heap.size ≤ k) (hY : ∀ k, Y k → w0.heap.size ≤ k) : Lh w0 w' bd d g l :=
  ⟨H.mono fun k hk h => ⟨hY k h, hk⟩, hx.trans m (fun _ _ h => h) fun k hk h => by have := hX k h; omega⟩
theorem Lh.xt (H : Lh w0 w bd d g l) : Ext w0 w := H.2
theorem lh_open (H : Hold w0 w (pv bd) d) (hN : Nib w0) (hp1 : 1 ≤ p.length) (hp : p.length ≤ 20) (ho : OpensD d p d' n dt es) :
    Calls Tryd.prog 34 #[pv bd, sv p] w fun e w' => ∃ g, e = .returned (.tuple #[pv g, ev 0]) ∧ Lh w0 w' bd d' g ⟨p, n, dt, es, false⟩ := by
  have hx := H.xt
  obtain ⟨T, h1, h2, h3, h4, h5⟩ := H
  refine (lopen_any (X := fun k => w0.heap.size ≤ k) h1 (fun k hk => ?_) (fun k hk => Nat.le_trans h5 hk) (hN.ext hx) (fun h => by have := lt_of_cell (hN 0 (by decide)); omega) hp1 hp ho).mono fun e w' ⟨g, q1, q2, q3, q4⟩ => ⟨g, q1, Lh.of (m := q4) hx q3 (fun _ h => h) (fun _ h => h)⟩
  rcases h2 k hk with h | h
  · exact h.1.elim
  · exact h
theorem lh_append (H : Lh w0 w bd d g l) (hx : Ext w wa) (hdead : l.dead = false) (hy : Bs wa V y b) (hV : ∀ k, V k → k < wa.heap.size ∧ (k < w0.heap.size ∨ w.heap.size ≤ k)) (hb : b.length ≤ 65536) (hn : lastL5 l + 1 ≤ 1099511627776) (hes : l.es.length + 1 ≤ 100000) (hr : layD d l.p (lastL5 l + 1) b = (d', 0)) (hN : Nib w0) :
    Calls Tryd.prog 35 #[pv g, y] wa fun e w' => e = .returned (.tuple #[.int .i64 ((lastL5 l + 1 : Nat) : Int), .int .i64 0]) ∧ Lh w0 w' bd d' g (lappL l b) := by
  obtain ⟨⟨T, U, dv, ew, vs, h1, h2, h3, h4, h5⟩, hx0⟩ := H
  have hz := hx.size
  have hz0 := hx0.size
  refine (lapp_ok (X := fun k => w0.heap.size ≤ k ∧ k < w.heap.size) (h1.ext hx) (h2.ext hx) h3 (fun k hk => ⟨(h4 k hk).1, by have := (h4 k hk).2; omega⟩) (fun k hk => ⟨(h5 k hk).1, by have := (h5 k hk).2; omega⟩) hdead hy (fun k hk => ⟨(hV k hk).1, fun h => by have := (hV k hk).2; omega⟩) hb hn hes hr (hN.ext (ext_trans hx0 hx))).mono fun e w' ⟨q1, q2, q3⟩ => ⟨q1, Lh.of (m := q3) (ext_trans hx0 hx) q2 (fun _ h => h.1) (fun k h => ?_)⟩
  rcases h with h | h
  · exact h.1
  · omega
theorem lh_write (H : Lh w0 w bd d g l) (hx : Ext w wa) (hdead : l.dead = false) (hy : Bs wa V y b) (hV : ∀ k, V k → k < wa.heap.size ∧ (k < w0.heap.size ∨ w.heap.size ≤ k)) (hb : b.length ≤ 524288) (hn : n ≤ 1099511627776) (hln : lastL5 l ≤ n) {e : Nat} (hr : replD d l.p n b = (d', e)) (hN : Nib w0) :
    Calls Tryd.prog 36 #[pv g, .int .i64 (n : Int), y] wa fun q w' => q = .returned (.int .i64 (e : Int)) ∧ Lh w0 w' bd d' g (writL l n b e) := by
  obtain ⟨⟨T, U, dv, ew, vs, h1, h2, h3, h4, h5⟩, hx0⟩ := H
  have hz := hx.size
  have hz0 := hx0.size
  have := lwrite_any (X := fun k => w0.heap.size ≤ k ∧ k < w.heap.size) (h1.ext hx) (h2.ext hx) h3 (fun k hk => ⟨(h4 k hk).1, by have := (h4 k hk).2; omega⟩) (fun k hk => ⟨(h5 k hk).1, by have := (h5 k hk).2; omega⟩) hdead hy (fun k hk => ⟨(hV k hk).1, fun h => by have := (hV k hk).2; omega⟩) hb hn hln (hN.ext (ext_trans hx0 hx))
  rw [hr] at this
  refine this.mono fun e w' ⟨q1, q2, q3⟩ => ⟨q1, Lh.of (m := q3) (ext_trans hx0 hx) q2 (fun _ h => h.1) (fun k h => ?_)⟩
  rcases h with h | h
  · exact h.1
  · omega
theorem lh_last (H : Lh w0 w bd d g l) :
    Calls Tryd.prog 37 #[pv g] w fun e w' => e = .returned (.int .i64 (lastL5 l : Nat)) ∧ ∃ k, w' = w.drewN k := by
  obtain ⟨⟨T, U, dv, ew, vs, h1, h2, h3, h4, h5⟩, hx0⟩ := H
  exact last5_any h2
theorem lh_base (H : Lh w0 w bd d g l) :
    Calls Tryd.prog 39 #[pv g] w fun e w' => ∃ u, e = .returned (.tuple #[.int .i64 (l.base : Nat), u]) ∧ Own w' 5 u (l.data.map bv) ∧ Fresh w.heap.size u ∧ Ext w w' := by
  obtain ⟨⟨T, U, dv, ew, vs, h1, h2, h3, h4, h5⟩, hx0⟩ := H
  exact base_any h2
end
/-- What a prefix's files say: a ledger. -/
def On (F : Fn) (p : List UInt8) (n : Nat) (dt : List UInt8) (es : Tx) : Prop :=
  F (imgN p ++ [126]) = none ∧ ImgF (F (imgN p)) n dt ∧ F (logN p) = (if es = [] then none else some (logB (n + 1) es)) ∧ (∀ e ∈ es, e.length ≤ 900000)
section
variable {F : Fn} {B N r n : Nat} {L : Fis} {b p dt x : List UInt8} {es : Tx} {o : Option (List UInt8)}
theorem On.old (h : On F p n dt es) : oldB F (logN p) = logB (n + 1) es := by
  unfold oldB
  rw [h.2.2.1]
  by_cases he : es = []
  · rw [if_pos he, he]; rfl
  · rw [if_neg he]; rfl
theorem On.log (h : On F p n dt es) (hn : n + 1 + es.length ≤ 1099511627776) (hl : es.length ≤ 100000) : LogF (F (logN p)) n es (F (logN p)) := by
  rw [h.2.2.1]
  by_cases he : es = []
  · rw [if_pos he]; exact .inl ⟨rfl, he, rfl⟩
  · rw [if_neg he]
    have := LogF.whole (n := n) (m := n + 1) (ps := es) (by omega) (Nat.le_refl _) hn hl h.2.2.2
    rw [Nat.sub_self, List.drop_zero, if_neg he] at this
    exact this
theorem On.opens (h : On F p n dt es) (hL : HasL F B N L) (h2 : p.length ≤ 20) (hB : B ≤ 1000000) (hn : n + 1 + es.length ≤ 1099511627776) (hl : es.length ≤ 100000) :
    ∃ L', OpensD ⟨r, L, false, 0⟩ p ⟨r, L', false, 0⟩ n dt es ∧ HasL F B (N + 1) L' := by
  obtain ⟨L', q1, q2⟩ := (hL.anyx _).opens (r := r) h2 hB h.2.1 (h.log hn hl)
  refine ⟨L', q1, q2.congr fun x => ?_⟩
  unfold openF
  by_cases hx : x = logN p
  · subst hx; simp [updF]
  · rw [updF_other hx]
    by_cases hx2 : x = imgN p ++ [126]
    · subst hx2; rw [h.1]; simp [updF]
    · rw [updF_other hx2]
theorem On.lays (h : On F p n dt es) (hb : b.length ≤ 900000) : On (updF F (logN p) (some (oldB F (logN p) ++ frec (numB (n + es.length + 1) b)))) p n dt (es ++ [b]) := by
  refine ⟨?_, ?_, ?_, fun e he => ?_⟩
  · rw [updF_other (aside_ne_log p).symm]; exact h.1
  · rw [updF_other (img_ne_log p)]; exact h.2.1
  · rw [updF_same, h.old, if_neg (by simp), logB_snoc, show n + 1 + es.length = n + es.length + 1 by omega]
  · rcases List.mem_append.1 he with h' | h'
    · exact h.2.2.2 e h'
    · rw [List.mem_singleton.1 h']; exact hb
/-- What another name's file turns does not matter. -/
theorem On.other (h : On F p n dt es) {o : Option (List UInt8)} (h1 : imgN p ++ [126] ≠ x) (h2 : imgN p ≠ x) (h3 : logN p ≠ x) : On (updF F x o) p n dt es :=
  ⟨by rw [updF_other h1]; exact h.1, by rw [updF_other h2]; exact h.2.1, by rw [updF_other h3]; exact h.2.2.1, h.2.2.2⟩
theorem On.none (p : List UInt8) : On (fun _ => none) p 0 [] [] := ⟨rfl, .inl ⟨rfl, rfl, rfl⟩, rfl, fun e he => by cases he⟩
/-- Behind an image that was written. -/
theorem On.wrote {F : Fn} (h1 : F (imgN p ++ [126]) = Option.none) (h2 : F (imgN p) = some (frec (numB n b))) (h3 : F (logN p) = Option.none) (hn : n ≤ 1099511627776) (hb : b.length ≤ 900000) : On F p n b [] :=
  ⟨h1, .inr ⟨h2, hn, hb⟩, h3, fun e he => by cases he⟩
end
end Go.Proofs.YtnmfkfjeihjkeaaDoor
