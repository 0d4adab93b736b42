/- ledger: an image written, without a walk; the known case. -/
import Derived.Test.YtnmfkfjeihjkeaaDoorKlP
namespace Go.Proofs.YtnmfkfjeihjkeaaDoor
open Go.RowKit Go.Maps Go.WideMaps
set_option maxRecDepth 100000

section
variable {F : Fn} {B N r n l : Nat} {L : Fis} {b p dt x : List UInt8} {es : Tx} {o : Option (List UInt8)}
def wroteF (F : Fn) (p : List UInt8) (n : Nat) (b : List UInt8) : Fn := updF (updF F (imgN p) (some (frec (numB n b)))) (logN p) none
theorem HasL.repl (h : HasL F B N L) (h2 : p.length ≤ 20) (ha : F (imgN p ++ [126]) = none) (hn : n ≤ 1099511627777) (hb : b.length ≤ 1000000) (hr : B + (32 + b.length) ≤ r) (hN : N < 4096) :
    ∃ L', replD ⟨r, L, false, 0⟩ p n b = (⟨r, L', false, 0⟩, 0) ∧ HasL (wroteF F p n b) (B + (32 + b.length)) (N + 1) L' := by
  have hlen := numB_len n b hn hb
  obtain ⟨L1, e1, H1⟩ := h.save (r := r) (fu := false) (l := 0) (x := imgN p) (b := numB n b) (by simp [imgN]) (by simp [imgN]; omega) ha (by omega) hN (fun h => by cases h)
  obtain ⟨L2, e2, H2⟩ := (H1.anyx (logN p)).rm (r := r) (by simp [logN]) (by simp [logN]; omega)
  refine ⟨L2, ?_, H2.mono (by omega) (Nat.le_refl _)⟩
  unfold replD
  rw [e1, bindD_ok]
  exact e2
theorem HasL.replF (h : HasL F B N L) (h2 : p.length ≤ 20) (ha : F (imgN p ++ [126]) = none) (hn : n ≤ 1099511627777) (hb : b.length ≤ 1000000) (hr : B + (32 + b.length) ≤ r) (hN : N < 4096) :
    ∃ L' left e, replD ⟨r, L, true, l⟩ p n b = (⟨r, L', true, left⟩, e) ∧ ((e = 0 ∧ HasL (wroteF F p n b) (B + (32 + b.length)) (N + 1) L') ∨ (e = 9 ∧ HasL (updF F (imgN p) (some (frec (numB n b)))) (B + (32 + b.length)) (N + 1) L') ∨ (e = 9 ∧ HasX (imgN p ++ [126]) F (B + (32 + b.length)) (N + 1) L')) := by
  have hlen := numB_len n b hn hb
  have hi1 : 1 ≤ (imgN p).length := by simp [imgN]
  have hi2 : (imgN p).length ≤ 60 := by simp [imgN]; omega
  have hl1 : 1 ≤ (logN p).length := by simp [logN]
  have hl2 : (logN p).length ≤ 64 := by simp [logN]; omega
  unfold replD
  by_cases hl : l < 3
  · obtain ⟨L1, e1, H1⟩ := h.burnt (r := r) (l := l) (x := imgN p) (b := numB n b) hi1 hi2 ha (by omega) hN hl
    refine ⟨L1, 0, 9, by rw [e1, bindD_err (by simp)], .inr (.inr ⟨rfl, H1.rise, H1.get, ?_, H1.few⟩)⟩
    have := H1.sum
    omega
  obtain ⟨L1, e1, H1⟩ := h.save (r := r) (fu := true) (l := l) (x := imgN p) (b := numB n b) hi1 hi2 ha (by omega) hN (fun _ => by omega)
  have H1' := H1.mono (show B + (12 + (numB n b).length) ≤ B + (32 + b.length) by omega) (Nat.le_refl _)
  rw [e1, bindD_ok, show sub true l 3 = l - 3 from rfl]
  have hgl := H1.get (logN p)
  by_cases hx : updF F (imgN p) (some (frec (numB n b))) (logN p) = none
  · rw [hx] at hgl
    refine ⟨L1, l - 3, 0, ?_, .inl ⟨rfl, H1'.congr fun x => ?_⟩⟩
    · unfold rmT readD
      rw [show getF (⟨r, L1, true, l - 3⟩ : Ds).L (logN p) = none from hgl]
      simp
    · unfold wroteF
      by_cases hx2 : x = logN p
      · subst hx2; rw [hx]; simp [updF]
      · rw [updF_other hx2]
  obtain ⟨c, hc⟩ : ∃ c, updF F (imgN p) (some (frec (numB n b))) (logN p) = some c := by
    cases e : updF F (imgN p) (some (frec (numB n b))) (logN p) with
    | none => exact absurd e hx
    | some c => exact ⟨c, rfl⟩
  rw [hc] at hgl
  have hrm : rmT ⟨r, L1, true, l - 3⟩ (logN p) = eachD removeD ⟨r, L1, true, l - 3⟩ [logN p] := by
    unfold rmT readD
    rw [show getF (⟨r, L1, true, l - 3⟩ : Ds).L (logN p) = _ from hgl]
    simp
  rw [hrm]
  by_cases h3 : l = 3
  · refine ⟨L1, l - 3, 9, ?_, .inr (.inl ⟨rfl, H1'⟩)⟩
    have hb : begD ⟨r, L1, true, l - 3⟩ [logN p] = 9 := beg_dead rfl (by show l - 3 = 0; omega)
    have e : removeD ⟨r, L1, true, l - 3⟩ (logN p) = (⟨r, L1, true, l - 3⟩, 9) := by rw [removeD, onF_err _ (by rw [hb]; simp), hb]
    rw [eachD_err (by rw [e]; simp), e]
  · refine ⟨delF L1 (logN p), l - 3 - 1, 0, ?_, .inl ⟨rfl, (H1'.del (logN p))⟩⟩
    have hb : begD ⟨r, L1, true, l - 3⟩ [logN p] = 0 := beg_ok (fun _ => by show 1 ≤ l - 3; omega) (bad_one hl1 hl2)
    have e : removeD ⟨r, L1, true, l - 3⟩ (logN p) = (⟨r, delF L1 (logN p), true, l - 3 - 1⟩, 0) := by
      rw [removeD, onF_some _ hb hgl]
      rfl
    rw [eachD_ok (by rw [e]), e]
    rfl
end
/-- A Disk of a law's own, all of whose files last. -/
def Hi (w0 w : World) (bd r B N : Nat) (F : Fn) : Prop := ∃ L, Hold w0 w (pv bd) ⟨r, L, false, 0⟩ ∧ HasL F B N L
/-- And a Ledger on it. -/
def Li (w0 w : World) (bd g r B N : Nat) (F : Fn) (l : Lst) : Prop := ∃ L, Lh w0 w bd ⟨r, L, false, 0⟩ g l ∧ HasL F B N L ∧ On F l.p l.base l.data l.es ∧ l.dead = false
def layF (F : Fn) (l : Lst) (b : List UInt8) : Fn := updF F (logN l.p) (some (oldB F (logN l.p) ++ frec (numB (lastL5 l + 1) b)))
section
variable {w0 w wa : World} {g bd r B N n : Nat} {F : Fn} {l : Lst} {p b dt : List UInt8} {es : Tx} {y : Value} {V : Nat → Prop}
theorem Li.ext (H : Li w0 w bd g r B N F l) (hx : Ext w wa) : Li w0 wa bd g r B N F l := by
  obtain ⟨L, h1, h2⟩ := H
  exact ⟨L, h1.ext hx, h2⟩
theorem Li.hi (H : Li w0 w bd g r B N F l) : Hi w0 w bd r B N F := by
  obtain ⟨L, h1, h2, _⟩ := H
  exact ⟨L, h1.hold, h2⟩
theorem Li.xt (H : Li w0 w bd g r B N F l) : Ext w0 w := by
  obtain ⟨L, h1, _⟩ := H
  exact h1.2
theorem Hi.xt (H : Hi w0 w bd r B N F) : Ext w0 w := by
  obtain ⟨L, h1, _⟩ := H
  exact h1.xt
theorem Hi.ext (H : Hi w0 w bd r B N F) (hx : Ext w wa) : Hi w0 wa bd r B N F := by
  obtain ⟨L, h1, h2⟩ := H
  exact ⟨L, h1.ext hx, h2⟩
theorem li_open (H : Hi w0 w bd r B N F) (hN : Nib w0) (ho : On F p n dt es) (hp1 : 1 ≤ p.length) (hp : p.length ≤ 20) (hB : B ≤ 1000000) (hn : n + 1 + es.length ≤ 1099511627776) (hl : es.length ≤ 100000) :
    Calls Tryd.prog 34 #[pv bd, sv p] w fun e w' => ∃ g, e = .returned (.tuple #[pv g, ev 0]) ∧ Li w0 w' bd g r B (N + 1) F ⟨p, n, dt, es, false⟩ := by
  obtain ⟨L, h1, h2⟩ := H
  obtain ⟨L', q1, q2⟩ := ho.opens (r := r) h2 hp hB hn hl
  exact (lh_open h1 hN hp1 hp q1).mono fun e w' ⟨g, k1, k2⟩ => ⟨g, k1, L', k2, q2, ho, rfl⟩
theorem li_append (H : Li w0 w bd g r B N F l) (hx : Ext w wa) (hN : Nib w0) (hy : Bs wa V y b) (hV : ∀ k, V k → k < wa.heap.size ∧ (k < w0.heap.size ∨ w.heap.size ≤ k)) (hb : b.length ≤ 65536) (hn : lastL5 l + 1 ≤ 1099511627776) (hes : l.es.length + 1 ≤ 100000) (hp : l.p.length ≤ 20) (hr : B + (32 + b.length) ≤ r) (hN2 : N < 4096) :
    Calls Tryd.prog 35 #[pv g, y] wa fun e w' => e = .returned (.tuple #[.int .i64 ((lastL5 l + 1 : Nat) : Int), .int .i64 0]) ∧ Li w0 w' bd g r (B + (32 + b.length)) (N + 1) (layF F l b) (lappL l b) := by
  obtain ⟨L, h1, h2, h3, h4⟩ := H
  have hlen := numB_len (lastL5 l + 1) b (by omega) (by omega)
  obtain ⟨L', q1, q2⟩ := h2.lay (r := r) (p := l.p) (n := lastL5 l + 1) (b := b) hp (by rw [frec_len]; omega) hN2
  refine (lh_append h1 hx h4 hy hV hb hn hes q1 hN).mono fun e w' ⟨k1, k2⟩ => ⟨k1, L', k2, q2.mono (by rw [frec_len]; omega) (Nat.le_refl _), h3.lays (b := b) (by omega), h4⟩
theorem li_write (H : Li w0 w bd g r B N F l) (hx : Ext w wa) (hN : Nib w0) (hy : Bs wa V y b) (hV : ∀ k, V k → k < wa.heap.size ∧ (k < w0.heap.size ∨ w.heap.size ≤ k)) (hb : b.length ≤ 524288) (hn : n ≤ 1099511627776) (hln : lastL5 l ≤ n) (hp : l.p.length ≤ 20) (hr : B + (32 + b.length) ≤ r) (hN2 : N < 4096) :
    Calls Tryd.prog 36 #[pv g, .int .i64 (n : Int), y] wa fun e w' => e = .returned (.int .i64 0) ∧ Li w0 w' bd g r (B + (32 + b.length)) (N + 1) (wroteF F l.p n b) ⟨l.p, n, b, [], false⟩ := by
  obtain ⟨L, h1, h2, h3, h4⟩ := H
  obtain ⟨L', q1, q2⟩ := h2.repl (r := r) (p := l.p) (n := n) (b := b) hp h3.1 (by omega) (by omega) hr hN2
  refine (lh_write h1 hx h4 hy hV hb hn hln q1 hN).mono fun e w' ⟨k1, k2⟩ => ⟨k1, L', k2, q2, On.wrote ?_ ?_ ?_ hn (show b.length ≤ 900000 by omega), rfl⟩
  · unfold wroteF
    rw [updF_other (aside_ne_log _).symm, updF_other (aside_ne_img _).symm]
    exact h3.1
  · unfold wroteF
    rw [updF_other (img_ne_log _), updF_same]
  · unfold wroteF
    simp [updF]
theorem li_last (H : Li w0 w bd g r B N F l) :
    Calls Tryd.prog 37 #[pv g] w fun e w' => e = .returned (.int .i64 (lastL5 l : Nat)) ∧ ∃ k, w' = w.drewN k := by
  obtain ⟨L, h1, _⟩ := H
  exact lh_last h1
theorem li_base (H : Li w0 w bd g r B N F l) :
    Calls Tryd.prog 39 #[pv g] w fun e w' => ∃ u, e = .returned (.tuple #[.int .i64 (l.base : Nat), u]) ∧ Own w' 5 u (l.data.map bv) ∧ Fresh w.heap.size u ∧ Ext w w' := by
  obtain ⟨L, h1, _⟩ := H
  exact lh_base h1
theorem lit_V {w0 w : World} {o : Obj} (k : Nat) (hk : k = w.heap.size) : k < (w.alloc o).heap.size ∧ (k < w0.heap.size ∨ w.heap.size ≤ k) := by
  subst hk
  exact ⟨by simp, .inr (Nat.le_refl _)⟩
theorem lit_append (H : Li w0 w bd g r B N F l) (hN : Nib w0) (b : List UInt8) (fr : Nat × Nat) (hb : b.length ≤ 65536) (hn : lastL5 l + 1 ≤ 1099511627776) (hes : l.es.length + 1 ≤ 100000) (hp : l.p.length ≤ 20) (hr : B + (32 + b.length) ≤ r) (hN2 : N < 4096) :
    Calls Tryd.prog 35 #[pv g, .slice (some ⟨w.heap.size, 0, none⟩) b.length b.length] (w.alloc (.cells (b.map bv).toArray 5 fr)) fun e w' => e = .returned (.tuple #[.int .i64 ((lastL5 l + 1 : Nat) : Int), .int .i64 0]) ∧ Li w0 w' bd g r (B + (32 + b.length)) (N + 1) (layF F l b) (lappL l b) :=
  li_append H ((Mod.refl _ _).alloc _) hN (Bs.text w 5 b fr (by simp only [maxLen]; omega)) lit_V hb hn hes hp hr hN2
theorem lit_write (H : Li w0 w bd g r B N F l) (hN : Nib w0) (b : List UInt8) (fr : Nat × Nat) (hb : b.length ≤ 524288) (hn : n ≤ 1099511627776) (hln : lastL5 l ≤ n) (hp : l.p.length ≤ 20) (hr : B + (32 + b.length) ≤ r) (hN2 : N < 4096) :
    Calls Tryd.prog 36 #[pv g, .int .i64 (n : Int), .slice (some ⟨w.heap.size, 0, none⟩) b.length b.length] (w.alloc (.cells (b.map bv).toArray 5 fr)) fun e w' => e = .returned (.int .i64 0) ∧ Li w0 w' bd g r (B + (32 + b.length)) (N + 1) (wroteF F l.p n b) ⟨l.p, n, b, [], false⟩ :=
  li_write H ((Mod.refl _ _).alloc _) hN (Bs.text w 5 b fr (by simp only [maxLen]; omega)) lit_V hb hn hln hp hr hN2
theorem lit_app {m : Nat} {l' : Lst} (H : Li w0 w bd g r B N F l) (hN : Nib w0) (b : List UInt8) (fr : Nat × Nat) (hm : lastL5 l + 1 = m) (hl' : lappL l b = l') (hb : b.length ≤ 65536) (hn : m ≤ 1099511627776) (hes : l.es.length + 1 ≤ 100000) (hp : l.p.length ≤ 20) (hr : B + (32 + b.length) ≤ r) (hN2 : N < 4096) :
    Calls Tryd.prog 35 #[pv g, .slice (some ⟨w.heap.size, 0, none⟩) b.length b.length] (w.alloc (.cells (b.map bv).toArray 5 fr)) fun e w' => e = .returned (.tuple #[.int .i64 (m : Int), .int .i64 0]) ∧ Li w0 w' bd g r (B + (32 + b.length)) (N + 1) (layF F l b) l' := by
  subst hm
  subst hl'
  exact lit_append H hN b fr hb hn hes hp hr hN2
theorem li_lastE {m : Nat} (H : Li w0 w bd g r B N F l) (hm : lastL5 l = m) :
    Calls Tryd.prog 37 #[pv g] w fun e w' => e = .returned (.int .i64 (m : Nat)) ∧ ∃ k, w' = w.drewN k := hm ▸ li_last H
theorem li_baseE {m : Nat} {x : List UInt8} (H : Li w0 w bd g r B N F l) (hm : l.base = m) (hx : l.data = x) :
    Calls Tryd.prog 39 #[pv g] w fun e w' => ∃ u, e = .returned (.tuple #[.int .i64 (m : Nat), u]) ∧ Own w' 5 u (x.map bv) ∧ Fresh w.heap.size u ∧ Ext w w' := by
  subst hm
  subst hx
  exact li_base H
end
set_option maxHeartbeats 8000000 in
theorem known5_any {w : World} (hN : Nib w) : Calls Tryd.prog 33 #[] w fun e w' => e = .returned (.bool true) ∧ Ext w w' := by
  have kc := fun (w : World) (C : Array Value) (n c : Nat) => Lib.run_convert_bytes_const (P := Tryd.prog) w 32 5 C n c Tryd.underlying32 Tryd.underlying5
  go_enter Tryd.func33, Tryd.ntmps33
  go_wp2_with fail
  refine (new_hold (w0 := w) 65536 (by omega) (by omega) (Mod.refl _ _)).mono ?_
  rintro e w1 ⟨bd, rfl, H1⟩
  have hc := li_open (w0 := w) (p := [97]) (r := 65536) (bd := bd) ⟨[], H1, HasL.nil 0 0⟩ hN (On.none [97]) (by simp) (by simp) (by simp) (by simp) (by simp)
  clear H1
  go_wp2_with fail
  refine hc.mono ?_
  rintro e w2 ⟨g, rfl, H2⟩
  have hc1 := lit_app (m := 1) (l' := ⟨[97], 0, [], [[120]], false⟩) H2 hN [120] (1, 2) rfl rfl (by simp) (by simp) (by simp) (by simp) (by simp) (by simp)
  clear hc H2
  go_wp2_with fail
  refine hc1.mono ?_
  rintro e w3 ⟨rfl, H3⟩
  have hc2 := lit_write (n := 1) H3 hN [121] (1, 2) (by simp) (by simp) (by simp [lastL5]) (by simp) (by simp) (by simp)
  clear hc1 H3
  go_wp2_with fail
  refine hc2.mono ?_
  rintro e w4 ⟨rfl, H4⟩
  have hc3 := lit_app (m := 2) (l' := ⟨[97], 1, [121], [[122]], false⟩) H4 hN [122] (1, 2) rfl rfl (by simp) (by simp) (by simp) (by simp) (by simp) (by simp)
  clear hc2 H4
  go_wp2_with fail
  refine hc3.mono ?_
  rintro e w5 ⟨rfl, H5⟩
  have hc4 := li_baseE (m := 1) (x := [121]) H5 rfl rfl
  clear hc3
  go_wp2_with fail
  refine hc4.mono ?_
  rintro e w6 ⟨u, rfl, o6, f6, x6⟩
  have H6 := H5.ext x6
  have hcv := run_conv (P := Tryd.prog) (src := 32) (dst := 9) (e := 5) Tryd.underlying32 Tryd.underlying5 Tryd.underlying9 o6.sl
  have hc5 := li_lastE (m := 2) H6 rfl
  have y6 := H6.xt
  clear hc4 H5 H6 f6 x6 o6
  go_wp2_with fail
  refine hc5.mono ?_
  rintro e w7 ⟨rfl, k7, rfl⟩
  clear hc5
  go_wp2_with fail
  go_ret
  exact ⟨rfl, y6.drewN k7⟩
end Go.Proofs.YtnmfkfjeihjkeaaDoor
