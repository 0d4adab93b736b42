/- BerAlls: the walk. -/
import Derived.Test.YtcffefadagfdcaaBerW
import Derived.Test.YtcffefadagfdcaaBerG
namespace Go.Proofs.Ytcffefadagfdcaa
open Go.RowKit
set_option maxRecDepth 100000

theorem add_next (a : Addr) (i j : Nat) (hj : 0 < j) : a.add (i + j) = ⟨(a.add i).block, (a.add i).off + j, none⟩ := by
  unfold Addr.add
  by_cases hi : i = 0
  · subst hi; simp; omega
  · rw [if_neg (by omega), if_neg hi]; simp [Nat.add_assoc]
theorem Its.at_ {w : World} {e : TypeId} {A : Option Addr} {c : Nat} {L : List (UInt8 × List UInt8)} (h : Its w e (.slice A L.length c) L) {i : Nat} (hi : i < L.length) :
    ∃ ad x, A = some ad ∧ w.cell? (ad.add (i * 2)) = some (.int .u8 (L[i].1.toNat : Int)) ∧ w.cell? ⟨(ad.add (i * 2)).block, (ad.add (i * 2)).off + 1, none⟩ = some x ∧ Bs w (fun k => ¬ own (.slice A L.length c) k) x L[i].2 := by
  obtain ⟨xs, h1, h2⟩ := h
  obtain ⟨x, g1, g2, g3⟩ := h2 i L[i].1 L[i].2 (by rw [List.getElem?_eq_getElem hi])
  have hs := h1.slk
  obtain ⟨ad, e1, _, e2⟩ := hs.at_ (i := i) (j := 0) (by rw [Nat.add_zero]; exact g1)
  obtain ⟨ad', e3, _, e4⟩ := hs.at_ (i := i) (j := 1) g2
  rw [e1] at e3
  injection e3 with e3
  subst e3
  rw [add_next _ _ 1 (by omega)] at e4
  exact ⟨ad, x, e1, e2, e4, g3⟩
theorem balls_len (n : Nat) : ∀ (l : List UInt8) (acc : List (UInt8 × List UInt8)), (balls n l acc).1.length ≤ acc.length + n := by
  induction n with
  | zero => intro l acc; simp [balls]
  | succ n ih =>
    intro l acc
    unfold balls
    split
    · simp
    · split
      · have := ih (bnext l).2.2.1 (acc ++ [((bnext l).1, (bnext l).2.1)])
        simp at this
        omega
      · simp

set_option maxHeartbeats 8000000 in
theorem berAlls_walk {w : World} {v : Value} {l : List UInt8} (h : Bs w (fun _ => True) v l) (hz : l.length ≤ 140737488351232) :
    Calls Try.prog 9 #[v] w fun e w' => e = .returned (.bool true) ∧ Ext w w' := by
  have h0 := h
  obtain ⟨A, c, hv, h1, h2, h3, h4⟩ := h.open_
  subst hv
  by_cases hl : 2000 < l.length
  · have hb : decide ((2000 : Int) < (l.length : Int)) = true := by rw [decide_eq_true_eq]; omega
    go_enter Try.func9, Try.ntmps9
    go_wp2_with fail
    go_ret
    exact ⟨rfl, Mod.refl _ _⟩
  have hb : decide ((2000 : Int) < (l.length : Int)) = false := by rw [decide_eq_false_iff_not]; omega
  have oe := Own.empty w 5
  have xe : Ext w (w.alloc (.cells #[] 5)) := (Mod.refl _ w).alloc _
  have fe : Fresh w.heap.size (.slice (some ⟨w.heap.size, 0, none⟩) 0 0) := fun k hk => by have : w.heap.size = k := Option.some.inj hk; omega
  have hn := Lib.hid (show (([] : List Value).length + (l.map bv).length) * 1 ≤ 140737488355328 by simp; omega)
  have hz' := h0.ext xe
  go_enter Try.func9, Try.ntmps9
  go_wp2_with ((with_reducible show wpList _ _ _ (⟨some 14, _, _, _, _, _⟩ :: _) _ _); refine wp_app tyB oe hz' (bv_one _) rfl (.tmp 12) (.tmp 13) rfl rfl rfl hn.out ?_; intro va w1 k1 k2 k3)
  have x1 : Ext w w1 := ext_app0 xe fe k2
  have k1b : Bs w1 (own va) va l := k1.sl
  refine (alls_any k1b (by omega)).mono ?_
  rintro e w2 ⟨v2, rfl, i2, x2⟩
  replace x2 := ext_trans x1 x2
  go_wp2_with fail
  refine (ralls_any (h0.ext x2) (by omega)).mono ?_
  rintro e w3 ⟨v3, rfl, i3, x3⟩
  replace i2 := i2.ext x3
  replace x3 := ext_trans x2 x3
  have hbl := balls_len l.length l []
  obtain ⟨A2, c2, rfl⟩ := i2.shape
  obtain ⟨A3, c3, rfl⟩ := i3.shape
  generalize balls l.length l [] = r at *
  obtain ⟨L, er⟩ := r
  simp only [List.length_nil, Nat.zero_add] at *
  have hbe : ((er : Int) != (er : Int)) = false := by simp
  have hbl2 : ((L.length : Int) != (L.length : Int)) = false := by simp
  clear k1 k1b k2 k3 oe fe xe hz' h4 h3
  go_wp2_with fail
  go_loopw [7] (fun i wr => ∃ k : Nat, k ≤ L.length ∧ i = .int .i64 k ∧ Ext w3 wr) (fun i _ => L.length - (intOf i).toNat)
  case atStart => exact ⟨0, by omega, rfl, Mod.refl _ _⟩
  case round =>
    obtain ⟨k, hk, rfl, hxr⟩ := hrel
    by_cases hlt : k < L.length
    · have hbk : decide ((k : Int) < (L.length : Int)) = true := by rw [decide_eq_true_eq]; omega
      obtain ⟨ad, x, hA, c0, c1, c2⟩ := (i2.ext hxr).at_ hlt
      subst hA
      obtain ⟨ad', y, hA', d0, d1, d2⟩ := (i3.ext hxr).at_ hlt
      subst hA'
      generalize L[k] = z at *
      have hcv1 := run_convs (P := Try.prog) Try.underlying24 Try.underlying5 Try.underlying9 c2
      have hcv2 := run_convs (P := Try.prog) Try.underlying24 Try.underlying5 Try.underlying9 d2
      have hi0 : (0 : Int) ≤ (k : Int) := by omega
      have hi1 : (k : Int) < (L.length : Int) := by omega
      have hbt : ((z.1.toNat : Int) != (z.1.toNat : Int)) = false := by simp
      have hbs : (z.2 == z.2) = true := by simp
      have hdw : ∀ m, Ext w3 (wr.drewN m) := fun m => hxr.drewN m
      clear c2 d2 hbl2 hbe hb hn
      go_wp2_with fail
      go_quiet (fail)
      go_wp2_with fail
      exact ⟨⟨k + 1, by omega, by go_num, hdw _⟩, by simp [intOf] <;> omega⟩
    · have hbk : decide ((k : Int) < (L.length : Int)) = false := by rw [decide_eq_false_iff_not]; omega
      go_wp2_with fail
      refine known24_any.mono ?_
      rintro e wz ⟨rfl, xz⟩
      go_wp2_with fail
      go_ret
      exact ⟨rfl, ext_trans x3 (ext_trans hxr xz)⟩
end Go.Proofs.Ytcffefadagfdcaa
