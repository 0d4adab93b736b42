/- table: a writer that a call has made; Build. -/
import Derived.Test.YthohghnfiicndaaDoorTabC
import Derived.Test.YthohghnfiicndaaDoorTabD
import Derived.Test.YthohghnfiicndaaDoorTabE
namespace Go.Proofs.YthohghnfiicndaaDoor
open Go.RowKit
set_option maxRecDepth 100000

/-- A Writer at block g, made behind world w. -/
structure Wo (w : World) (g : Nat) (wx : World) (v : Value) (l : List UInt8) : Prop where
  it : Wr wx g v l
  fr : Fresh g v
  ex : Ext w wx
  lo : w.heap.size ≤ g
/-- What a call on it leaves: only the Writer has turned. -/
structure Wk (g : Nat) (wx : World) (v : Value) (w' : World) (v' : Value) : Prop where
  md : Mod (wrF g v) wx w'
  nx : ∀ k, k < wx.heap.size → ¬ wrF g v k → ¬ wrF g v' k
section
variable {w wx w' : World} {g : Nat} {v v' : Value} {l l' : List UInt8}
theorem Wo.lt (h : Wo w g wx v l) : g < wx.heap.size := h.it.blk.lt
theorem Wo.off (h : Wo w g wx v l) {k : Nat} (hk : wx.heap.size ≤ k) : ¬ wrF g v k := by
  rintro (e | e)
  · have := h.lt; omega
  · have := h.it.row.lt e; omega
theorem Wo.low (h : Wo w g wx v l) {k : Nat} (hk : k < g) : ¬ wrF g v k := by
  rintro (e | e)
  · omega
  · have := h.fr k e; omega
theorem Wo.ext (h : Wo w g wx v l) (hx : Ext wx w') : Wo w g w' v l := ⟨h.it.mod hx (fun h => h) (fun _ _ h => h), h.fr, ext_trans h.ex hx, h.lo⟩
theorem Wo.call {wk : World} (h : Wo w g wx v l) (hx : Ext wx wk) (r : Wr w' g v' l') (m : Mod (wrF g v) wk w') (n : Next wk.heap.size v v') : Wo w g w' v' l' :=
  ⟨r, n.fresh h.fr (by have := h.lt; have := hx.size; omega), (ext_trans h.ex hx).trans m (fun _ _ h => h) (fun k hk hF => by have := h.lo; exact h.low (show k < g by omega) hF), h.lo⟩
theorem Wk.of {wk : World} (hx : Ext wx wk) (m : Mod (wrF g v) wk w') (n : Next wk.heap.size v v') : Wk g wx v w' v' :=
  ⟨Mod.trans hx m (fun _ _ h => h.elim) (fun _ _ h => h), fun k hk hn => by
    have := hx.size
    rintro (e | e)
    · exact hn (.inl e)
    · exact hn (.inr (n.sub (by omega) e))⟩
theorem Wk.blk {b : Nat} {t : TypeId} {cs : Array Value} (h : Wk g wx v w' v') (hb : Blk wx b t cs) (hn : ¬ wrF g v b) : Blk w' b t cs ∧ ¬ wrF g v' b := ⟨hb.mod h.md hn, h.nx b hb.lt hn⟩
theorem Wk.own {e : TypeId} {y : Value} {xs : List Value} (h : Wk g wx v w' v') (hb : Own wx e y xs) (hn : ∀ k, own y k → ¬ wrF g v k) : Own w' e y xs ∧ ∀ k, own y k → ¬ wrF g v' k := ⟨hb.mod h.md hn, fun k hk => h.nx k (hb.lt hk) (hn k hk)⟩
theorem wo_begin (w : World) : Wo w w.heap.size (w.alloc (.cells #[.slice none 0 0] 56)) (.slice none 0 0) [] := ⟨⟨Blk.new w _ _, Own.nil _ _⟩, fresh_nil _ _ _, (Mod.refl _ w).alloc _, Nat.le_refl _⟩
theorem wo_num (h : Wo w g wx v l) (n : Int) (hl : l.length ≤ 100000000000) :
    Calls Tryd.prog 29 #[.pointer (some ⟨g, 0, none⟩), .slice (some ⟨wx.heap.size, 0, none⟩) 1 1] (wx.alloc (.cells #[.int .i64 n] 3)) fun e w' => e = .returned (.tuple #[]) ∧ ∃ v', Wo w g w' v' (l ++ enc7 (clamp n)) ∧ Wk g wx v w' v' := by
  have x1 : Ext wx (wx.alloc (.cells #[.int .i64 n] 3)) := (Mod.refl _ wx).alloc _
  have hy : Is (wx.alloc (.cells #[.int .i64 n] 3)) (fun k => k = wx.heap.size) (.slice (some ⟨wx.heap.size, 0, none⟩) 1 1) [n] := Sl.one wx 3 (.int .i64 n)
  refine (wnums_any (h.ext x1).it hy (fun k _ hk2 => by rw [hk2]; exact fun hh => h.off (Nat.le_refl _) hh) (by simp; omega)).mono ?_
  rintro e w2 ⟨rfl, v2, h2, m2, n2⟩
  have en : encs [n] = enc7 (clamp n) := by simp [encs]
  rw [en] at h2
  exact ⟨rfl, v2, h.call x1 h2 m2 n2, Wk.of x1 m2 n2⟩
theorem wo_row (h : Wo w g wx v l) {S : Nat → Prop} {y : Value} {p : List UInt8} (hy : Bs wx S y p) (hS : ∀ k, k < wx.heap.size → S k → ¬ wrF g v k) (hl : l.length + p.length ≤ 100000000000) :
    Calls Tryd.prog 31 #[.pointer (some ⟨g, 0, none⟩), .slice (some ⟨wx.heap.size, 0, none⟩) 1 1] (wx.alloc (.cells #[y] 24)) fun e w' => e = .returned (.tuple #[]) ∧ ∃ v', Wo w g w' v' (l ++ (enc7 p.length ++ p)) ∧ Wk g wx v w' v' := by
  have x1 : Ext wx (wx.alloc (.cells #[y] 24)) := (Mod.refl _ wx).alloc _
  have e7 := enc7_ten (n := p.length) (by omega)
  refine (wbytes_any (h.ext x1).it (Rw.one 24 hy) (fun k hk hk2 hF => ?_) (by simp [encr]; omega)).mono ?_
  · rcases hk2 with hk2 | hk2
    · by_cases hlt : k < wx.heap.size
      · exact hS k hlt hk2 hF
      · exact h.off (by omega) hF
    · exact h.off (by omega) hF
  rintro e w2 ⟨rfl, v2, h2, m2, n2⟩
  rw [encr_one_] at h2
  exact ⟨rfl, v2, h.call x1 h2 m2 n2, Wk.of x1 m2 n2⟩
end
theorem Own.at_ {w : World} {e : TypeId} {A : Option Addr} {n c : Nat} {xs : List Value} (h : Own w e (.slice A n c) xs) {k : Nat} (hk : k < xs.length) : ∃ ad, A = some ad ∧ w.cell? (ad.add k) = some xs[k] := by
  obtain ⟨A', c', hv, _, _, _, h5⟩ := h.sl
  injection hv with e1 e2 e3
  subst e1
  obtain ⟨ad, hA, _, hc⟩ := h5 k xs[k] (by simp [hk])
  exact ⟨ad, hA, hc⟩
theorem last_at {w : World} {S : Nat → Prop} {v : Value} {p : List Ce} (h : Cs w S v p) (hp : p ≠ []) : ∃ (ad : Addr) (c n : Nat), v = .slice (some ad) (n + 1) c ∧ p.length = n + 1 ∧
    w.cell? (ad.add (n * 4)) = some (sv (lastC p).key) ∧ w.cell? ⟨(ad.add (n * 4)).block, (ad.add (n * 4)).off + 1, none⟩ = some (sv (lastC p).val) ∧ w.cell? ⟨(ad.add (n * 4)).block, (ad.add (n * 4)).off + 2, none⟩ = some (.bool (lastC p).del) ∧ w.cell? ⟨(ad.add (n * 4)).block, (ad.add (n * 4)).off + 3, none⟩ = some (.int .i64 (lastC p).seq) := by
  have h2 : 0 < p.length := List.length_pos_iff.2 hp
  obtain ⟨A, c, rfl, h1, _, h3, h4⟩ := h.open_ cel_len
  obtain ⟨n, hn⟩ : ∃ n, p.length = n + 1 := ⟨p.length - 1, by omega⟩
  obtain ⟨ad, hA, _, c0, c1, c2, c3⟩ := Cs.at_ h4 (i := n) (by omega)
  subst hA
  unfold lastC
  rw [hn, Nat.add_sub_cancel, getD_c p (by omega)]
  exact ⟨ad, c, n, rfl, rfl, c0, c1, c2, c3⟩
theorem blks_snoc (Ls : List (List Ce)) {k : Nat} (h : k < Ls.length) : (Ls.take (k + 1)).flatMap blkE = (Ls.take k).flatMap blkE ++ blkE Ls[k] := by
  rw [List.take_succ_eq_append_getElem h, List.flatMap_append]
  simp
theorem blks_take (Ls : List (List Ce)) (k : Nat) : ((Ls.take k).flatMap blkE).length ≤ (Ls.flatMap blkE).length := by
  have : Ls.flatMap blkE = (Ls.take k).flatMap blkE ++ (Ls.drop k).flatMap blkE := by rw [← List.flatMap_append, List.take_append_drop]
  rw [this, List.length_append]; omega
theorem blk_lay (p : List Ce) (l : List UInt8) : l ++ (enc7 (lastC p).key.length ++ (lastC p).key) ++ enc7 (clamp (lastC p).seq) ++ (enc7 (encB p).length ++ encB p) = l ++ blkE p := by
  unfold blkE
  simp only [List.append_assoc]
theorem clamp_n (n : Nat) (h : n ≤ 4611686018427387904) : clamp ((n : Nat) : Int) = n := clamp_nat n h

set_option maxHeartbeats 16000000 in
theorem build_any {w : World} {S : Nat → Prop} {v : Value} {L : List Ce} (h : Cs w S v L) (hw : wC L ≤ 300000) (hN : Nib w) :
    Calls Tryd.prog 11 #[v] w fun e w' => ∃ v', e = .returned (.tuple #[v', .int .i64 (buildN L : Nat)]) ∧ Own w' 5 v' ((buildB L).map bv) ∧ Fresh w.heap.size v' ∧ Ext w w' := by
  have hlw := wC_len L
  have h0 := h
  obtain ⟨A, c, rfl, h1, h2, h3, h4⟩ := h.open_ cel_len
  have hc1 := check_any h0 (by omega)
  obtain ⟨B, hB⟩ : ∃ B, B = buildB L := ⟨_, rfl⟩
  rw [← hB]
  by_cases hz : buildN L = 0
  case neg =>
    have hBn : Hid (B = []) := Lib.hid (hB.trans (if_neg hz))
    have hb : ((buildN L : Int) != 0) = true := by rw [bne_iff_ne]; omega
    generalize buildN L = n at *
    clear hB h0 h4 hz
    go_enter Tryd.func11, Tryd.ntmps11
    go_wp2_with fail
    refine hc1.mono ?_
    rintro e w1 ⟨rfl, x1⟩
    clear hc1
    go_wp2_with fail
    go_ret2
    exact ⟨_, rfl, by rw [hBn.out]; exact Own.nil _ _, fresh_nil _ _ _, x1⟩
  obtain ⟨hne, hl4, hr⟩ := build_rise hz
  rw [hz] at hc1 ⊢
  have hBs : B = frec (bodyB L) := hB.trans (if_pos hz)
  have hbl := body_len hr (by omega)
  have hpl := split_len L
  have hc2 := fun (w1 : World) (x1 : Ext w w1) => split_any (h0.ext x1) hne (by omega)
  have hc3 := fun (w1 : World) (x1 : Ext w w1) => keys_any (h0.ext x1) (by omega)
  have hfl := @filB_len L
  have hkl := keysTo_len L L.length
  have hkm : ∀ l ∈ keysB L, l.length ≤ 5000 := fun l hl => by
    obtain ⟨c, hc, rfl⟩ := keysTo_mem (Nat.le_refl _) l hl
    have := ((riseN_zero hr).1 c hc).2.1
    omega
  have hpr : ∀ p ∈ splitB L, riseN p = 0 ∧ p ≠ [] ∧ wC p ≤ 300000 ∧ (lastC p).key.length ≤ 4096 ∧ (encB p).length ≤ 20000000 := fun p hp => by
    have a1 := split_rise hr hp
    have a2 := split_full L p hp
    have a3 := wC_part hp
    have a4 := (riseN_zero a1).1 _ (lastC_mem a2)
    have a5 := encB_le (riseN_zero a1).1
    have a6 := wC_len p
    exact ⟨a1, a2, by omega, a4.2.1, by omega⟩
  have hbk := fun k => blks_take (splitB L) k
  have hbs := fun k h => @blks_snoc (splitB L) k h
  have hbd : bodyB L = enc7 (splitB L).length ++ (splitB L).flatMap blkE ++ enc7 L.length ++ (enc7 (filB L).length ++ filB L) := by unfold bodyB; simp only [List.append_assoc]
  have hbf : ((splitB L).flatMap blkE).length ≤ (bodyB L).length := by rw [hbd]; simp only [List.length_append]; omega
  have hfd : filB L = mk (bn (keysB L).length) (keysB L) := rfl
  unfold keysB at hkm
  rw [show keysTo L L.length = keysB L from rfl] at hkl hkm
  generalize bodyB L = BD at *
  generalize filB L = FL at *
  generalize keysB L = KS at *
  generalize splitB L = PS at *
  replace hbd := Lib.hid hbd
  replace hfd := Lib.hid hfd
  replace hBs := Lib.hid hBs
  replace hpr := Lib.hid hpr
  replace hkm := Lib.hid hkm
  have en7 : (enc7 PS.length).length ≤ 10 := enc7_ten (by omega)
  have en8 : (enc7 L.length).length ≤ 10 := enc7_ten (by omega)
  have en9 : (enc7 FL.length).length ≤ 10 := enc7_ten (by omega)
  clear hB hz hne hr h0 h h4 h3
  go_enter Tryd.func11, Tryd.ntmps11
  go_wp2_with fail
  refine hc1.mono ?_
  rintro e w1 ⟨rfl, x1⟩
  clear hc1
  go_wp2_with fail
  refine (hc2 w1 x1).mono ?_
  rintro e w2 ⟨u, vs, rfl, o2, el1, f2, x2⟩
  have y2 := ext_trans x1 x2
  have el2 := el1.ext x2
  clear hc2 x1 x2 el1
  have hvl := el2.1
  obtain ⟨Au, cu, rfl⟩ := o2.shape
  rw [hvl] at o2 f2 ⊢
  have W0 := wo_begin w2
  obtain ⟨g, hg⟩ : ∃ g, g = w2.heap.size := ⟨_, rfl⟩
  obtain ⟨w3, hw3⟩ : ∃ w3, w3 = w2.alloc (.cells #[.slice none 0 0] 56) := ⟨_, rfl⟩
  rw [← hg, ← hw3] at W0
  go_upto_region 6 with fail
  rw [← hg, ← hw3]
  clear hw3
  replace hg := Lib.hid hg
  go_wp2_with fail
  refine (wo_num W0 (PS.length : Nat) (by simp)).mono ?_
  rintro e w4 ⟨rfl, v4, W4, -⟩
  rw [clamp_n _ (by omega), List.nil_append] at W4
  clear W0
  go_wp2_with fail
  go_loopw [25] (fun i wr => ∃ (k : Nat) (vw : Value), k ≤ PS.length ∧ i = .int .i64 k ∧ Wo w2 g wr vw (enc7 PS.length ++ (PS.take k).flatMap blkE)) (fun i _ => PS.length - (intOf i).toNat)
  case atStart => exact ⟨0, v4, Nat.zero_le _, rfl, by rw [List.take_zero, List.flatMap_nil, List.append_nil]; exact W4⟩
  case round =>
    clear W4
    obtain ⟨k, vw, hk, rfl, W⟩ := hrel
    have q := W.ex
    have hb1 := hbk k
    by_cases hlt : k < PS.length
    · have hbl : decide ((k : Int) < (PS.length : Int)) = true := dtrue (by omega)
      obtain ⟨ad, hA, c0⟩ := (o2.mod q (fun _ _ h => h)).at_ (k := k) (by omega)
      subst hA
      have hp := (el2.2 k vs[k] PS[k] (by simp [hvl, hlt]) (by simp [hlt])).ext q
      obtain ⟨r1, r2, r3, r4, r5⟩ := hpr.out _ (List.getElem_mem hlt)
      have hnx := hbs k hlt
      have hb2 := hbk (k + 1)
      rw [hnx, List.length_append] at hb2
      have hi0 : (0 : Int) ≤ (k : Int) := by omega
      have hi1 : (k : Int) < (PS.length : Int) := by omega
      generalize PS[k] = p at *
      generalize vs[k] = x at *
      have hce := encode_any hp (by omega)
      rw [r1, encR_zero r1] at hce
      replace hnx := Lib.hid hnx
      obtain ⟨Ax, cx, rfl⟩ := hp.shape
      go_wp2_with fail
      refine hce.mono ?_
      rintro e w5 ⟨v9, rfl, o9, f9, x5⟩
      have W5 := W.ext x5
      have n9 : ∀ k, own v9 k → ¬ wrF g vw k := fun k hk => W.off (f9 k hk)
      obtain ⟨a1, cc, n, hv, hpn, l0, l1, l2, l3⟩ := last_at (hp.ext x5) r2
      have hfin := blk_lay p (enc7 PS.length ++ (PS.take k).flatMap blkE)
      have hn3 : n ≤ 300000 := by have := wC_len p; omega
      have hic : (lastC p).key.length ≤ 4096 := r4
      injection hv with e1 e2 e3
      subst e1; subst e3
      rw [hpn]
      generalize lastC p = y at *
      have hi5 : IntKind.i64.wrap (n : Int) = (n : Int) := by rw [IntKind.wrap_i64]; omega
      have hn0 : (0 : Int) ≤ (n : Int) := by omega
      have hn1 : (n : Int) < (n : Int) + 1 := by omega
      clear hce x5 hp c0 W r1 r2 e2 hpn f9
      obtain ⟨wb, hwb⟩ : ∃ wb, wb = w5.alloc (.cells (car y) 37) := ⟨_, rfl⟩
      have xb : Ext w5 wb := by rw [hwb]; exact (Mod.refl _ w5).alloc _
      have B0 : Blk wb w5.heap.size 37 (car y) := by rw [hwb]; exact Blk.new w5 _ _
      have Wb := W5.ext xb
      have nB : ¬ wrF g vw w5.heap.size := W5.off (Nat.le_refl _)
      have ob := o9.mod xb (fun _ _ h => h)
      replace hfin := Lib.hid hfin
      replace hwb := Lib.hid hwb
      go_upto_region 14 with fail
      rw [← hwb.out]
      clear l0 l1 l2 l3 W5 o9 xb
      have d0 : wb.cell? ⟨w5.heap.size, 0, none⟩ = some (sv y.key) := Blk.cell B0 0
      go_wp2_with ((with_reducible show wpList _ _ _ (⟨some 45, _, _, _, _, _⟩ :: _) _ _); refine wp_tob Tryd.underlying9 Tryd.underlying24 Tryd.underlying5 (l := y.key) (by omega) rfl (.tmp 44) rfl rfl ?_; intro cp w6 k1 k2 k3; replace k3 := Lib.hid k3)
      refine (wo_row (Wb.ext k2) k1 (fun k _ hS hF => (Wb.off (Nat.le_of_eq hS.symm)) hF) (by simp only [List.length_append]; omega)).mono ?_
      rintro e w7 ⟨rfl, v7, W7, K7⟩
      obtain ⟨B7, nB7⟩ := K7.blk (B0.mod k2 (fun h => h)) nB
      obtain ⟨o7, n7⟩ := K7.own (ob.mod k2 (fun _ _ h => h)) n9
      clear d0 k1 k2 k3 Wb B0 nB ob n9 K7
      have d3 : w7.cell? ⟨w5.heap.size, 3, none⟩ = some (.int .i64 y.seq) := Blk.cell B7 3
      go_wp2_with fail
      refine (wo_num W7 y.seq (by simp only [List.length_append]; have := enc7_ten (n := y.key.length) (by omega); omega)).mono ?_
      rintro e w8 ⟨rfl, v8, W8, K8⟩
      obtain ⟨o8, n8⟩ := K8.own o7 n7
      clear d3 W7 B7 nB7 o7 n7 K8
      obtain ⟨A9, c9, rfl⟩ := o8.shape
      rw [List.length_map] at o8 n8 ⊢
      go_wp2_with fail
      refine (wo_row W8 o8.sl (fun k _ hS hF => n8 k hS hF) (by simp only [List.length_append]; have := enc7_ten (n := y.key.length) (by omega); have := enc7_ten (n := clamp y.seq) (clamp_le _); omega)).mono ?_
      rintro e w9 ⟨rfl, v10, W9, -⟩
      rw [hfin.out] at W9
      go_wp2_with fail
      exact ⟨⟨k + 1, v10, by omega, by go_num, by rw [hnx.out, ← List.append_assoc]; exact W9⟩, by simp [intOf] <;> omega⟩
    have hbl : decide ((k : Int) < (PS.length : Int)) = false := dfalse (by omega)
    obtain rfl : k = PS.length := by omega
    rw [List.take_length] at W
    clear hpr hb1 hk hlt hbk hbs hpl
    go_wp2_with fail
    refine (wo_num W (L.length : Nat) (by simp only [List.length_append]; omega)).mono ?_
    rintro e w5 ⟨rfl, v5, W5, -⟩
    rw [clamp_n _ (by omega)] at W5
    clear W
    have y5 := ext_trans y2 W5.ex
    go_wp2_with fail
    refine (hc3 w5 y5).mono ?_
    rintro e w6 ⟨v6, rfl, o6, f6, x6⟩
    have hmk := make_any o6.sl (by omega) hkm.out
    rw [← hfd.out] at hmk
    have W6 := W5.ext x6
    clear hc3 hkm
    go_wp2_with fail
    refine hmk.mono ?_
    rintro e w7 ⟨v7, rfl, o7, f7, x7⟩
    have W7 := W6.ext x7
    clear hmk o6 f6 W5
    obtain ⟨A7, c7, rfl⟩ := o7.shape
    rw [List.length_map] at o7 f7 ⊢
    go_wp2_with fail
    refine (wo_row W7 o7.sl (fun k _ hS hF => W6.off (f7 k hS) hF) (by simp only [List.length_append]; omega)).mono ?_
    rintro e w8 ⟨rfl, v8, W8, -⟩
    rw [← hbd.out] at W8
    clear W6 W7 o7 f7
    go_wp2_with fail
    refine (wout_any W8.it (by omega)).mono ?_
    rintro e w9 ⟨v9, rfl, o9, b9, x9, -⟩
    have y9 := ext_trans (ext_trans y2 W8.ex) x9
    obtain ⟨A9, c9, rfl⟩ := o9.shape
    rw [List.length_map] at o9 b9 ⊢
    have hRw := Rw.one 24 o9.sl
    have y10 : Ext w (w9.alloc (.cells #[.slice A9 BD.length c9] 24)) := y9.alloc _
    have hfe := fencode_any hRw (hN.mod y10 (fun h => h)) (by simp; omega)
    rw [List.flatten_singleton, ← hBs.out] at hfe
    go_wp2_with fail
    refine hfe.mono ?_
    rintro e w10 ⟨v10, rfl, o10, f10, x10⟩
    go_wp2_with fail
    go_ret2
    exact ⟨v10, rfl, o10, fun k hk => by have := f10 k hk; have := y10.size; omega, ext_trans y10 x10⟩
end Go.Proofs.YthohghnfiicndaaDoor
