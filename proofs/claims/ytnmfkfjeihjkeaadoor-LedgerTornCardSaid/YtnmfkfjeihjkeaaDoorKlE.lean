/- ledger: an image put where image and log were. -/
import Derived.Test.YtnmfkfjeihjkeaaDoorKlD
namespace Go.Proofs.YtnmfkfjeihjkeaaDoor
open Go.RowKit Go.Maps Go.WideMaps
set_option maxRecDepth 100000

def replD (d : Ds) (p : List UInt8) (n : Nat) (b : List UInt8) : Ds × Nat := bindD (saveD d (imgN p) (numB n b)) fun d1 => rmT d1 (logN p)
section
variable {T U V : Nat → Prop} {w w' : World} {g bd : Nat} {dv ew y : Value} {vs : List Value} {l : Lst} {d : Ds} {b : List UInt8} {n : Nat}
set_option maxHeartbeats 16000000 in
theorem repl_any (h : Dk T w (pv bd) d) (hl : LgAt U w g bd dv ew vs l) (sep : ∀ k, T k → ¬ U k) (hy : Bs w V y b) (hV : ∀ k, V k → k < w.heap.size) (hb : b.length ≤ 524288) (hn : n ≤ 1099511627777) (hN : Nib w) :
    Calls Tryd.prog 71 #[pv g, .int .i64 (n : Int), y] w fun e w' => e = .returned (.int .i64 ((replD d l.p n b).2 : Nat)) ∧ Dk (Grow T w) w' (pv bd) (replD d l.p n b).1 ∧ Mod T w w' := by
  have hblk : ∀ wj, Mod T w wj → Blk wj g 103 (lcells bd l dv ew) := fun wj m => hl.blk.mod m (fun hT => sep g hT hl.sg)
  have hcell : ∀ wj, Mod T w wj → wj.cell? ⟨g, 0, none⟩ = some (pv bd) := fun wj m => (hblk wj m).cell 0
  have hcc : ∀ {wj : World}, Ext w wj → wj.cell? ⟨g, 0, none⟩ = some (pv bd) := fun q => hcell _ (q.mono fun _ _ h => h.elim)
  have hlog : ∀ wj, Mod T w wj → Calls Tryd.prog 72 #[pv g] wj fun e w' => e = .returned (sv (logN l.p)) ∧ w' = wj := fun wj m => log_any (hblk wj m) hl.pl
  have himg : ∀ wj, Ext w wj → Calls Tryd.prog 66 #[pv g] wj fun e w' => e = .returned (sv (imgN l.p)) ∧ w' = wj := fun wj q => img_any (hblk wj (q.mono fun _ _ h => h.elim)) hl.pl
  obtain ⟨R, hR⟩ : ∃ R, R = replD d l.p n b := ⟨_, rfl⟩
  rw [← hR]
  unfold replD at hR
  replace hR := Lib.hid hR
  have hlen := numB_len n b hn (by omega)
  have q0 : Ext w w.drew := (Mod.refl _ w).drew
  have hnum : Calls Tryd.prog 99 #[.int .i64 (n : Int), y] w.drew fun e w' => ∃ u, e = .returned u ∧ Own w' 5 u ((numB n b).map bv) ∧ Ext w w' :=
    (numbered_any (hy.drewN 1) hV hn (by omega)).mono fun e w' ⟨u, q1, q2, _, q4⟩ => ⟨u, q1, q2, ext_trans q0 q4⟩
  have htl : (logN l.p).length ≤ 1000000 := by have := hl.pl; simp [logN]; omega
  have hil : (imgN l.p).length ≤ 1000000 := by have := hl.pl; simp [imgN]; omega
  have hsv : ∀ (wj : World) (u : Value), Ext w wj → Bs wj (own u) u (numB n b) → Calls Tryd.prog 15 #[pv bd, sv (imgN l.p), .slice (some ⟨wj.heap.size, 0, none⟩) 1 1] (wj.alloc (.cells #[u] 32)) fun e w' => e = .returned (.int .i64 ((saveD d (imgN l.p) (numB n b)).2 : Nat)) ∧ Dk (Grow T w) w' (pv bd) (saveD d (imgN l.p) (numB n b)).1 ∧ Mod T w w' := fun wj u q hu => by
    have xa : Ext w (wj.alloc (.cells #[u] 32)) := q.alloc _
    have := save_any (h.ext xa) (imgN l.p) hil (row_one hu) (hN.ext xa) (by simp; omega)
    rw [show ([numB n b] : Tx).flatten = numB n b by simp] at this
    exact this.mono fun e w' ⟨r1, r2, r3⟩ => ⟨r1, r2.mono fun k _ hk => hk.imp id fun hk => Nat.le_trans xa.size hk, (xa.mono (G := T) fun _ _ h => h.elim).then_ r3 fun _ _ h => h⟩
  clear hl hy hblk h
  generalize logN l.p = t at *
  generalize imgN l.p = i at *
  generalize numB n b = nb at *
  generalize saveD d i nb = r at *
  obtain ⟨d2, n2⟩ := r
  simp only at hsv
  go_enter Tryd.func71, Tryd.ntmps71
  go_wp2_with fail
  go_region_held3 (fun wx => wx.cell? ⟨g, 0, none⟩ = some (pv bd)) (first | exact hcc q0 | exact hcc q1 | exact hcc (q1.alloc _) | exact hkX)
    (first
      | (go_at_call 99; (with_reducible refine hnum.mono ?_); rintro e w1 ⟨u, rfl, o1, q1⟩; obtain ⟨Au, cu, hu⟩ := o1.shape; rw [List.length_map] at hu; have s1 := o1.sl; subst hu)
      | (go_at_call 66; (with_reducible refine (himg _ q0).mono ?_); rintro e wx ⟨rfl, rfl⟩)
      | (go_at_call 66; (with_reducible refine (himg _ q1).mono ?_); rintro e wx ⟨rfl, rfl⟩)
      | (go_at_call 66; (with_reducible refine (himg _ (q1.alloc _)).mono ?_); rintro e wx ⟨rfl, rfl⟩)
      | (go_at_call 15; (with_reducible refine (hsv _ _ q1 s1).mono ?_); rintro e w4 ⟨rfl, h4, m4⟩; have hkX := hcell _ m4))
  all_goals
    clear hsv hnum himg hcc s1 o1 q1 q0 hkX
    by_cases hn4 : n2 = 0
    case neg =>
      rw [bindD_err hn4] at hR
      have hb3 := n_ne0 hn4
      have hR2 := hR.out
      subst hR2
      clear hR
      go_wp2_with fail
      go_ret
      exact ⟨rfl, h4, m4⟩
    subst hn4
    rw [bindD_ok] at hR
    have hR2 := hR.out
    clear hR
    go_wp2_with fail
    have hz4 := m4.size
    have m0 : Mod T w w4.drew := m4.drew
    have hk0 := hcell _ m0
    have hc := lremove_any (h4.ext ((Mod.refl _ w4).drew)) t htl
    generalize rmT d2 t = r at hc hR2
    obtain ⟨d3, n3⟩ := r
    simp only at hc
    subst hR2
    have hfin : ∀ w5, Mod (Grow T w) w4.drew w5 → Mod T w w5 := fun w5 m => m0.trans m (fun _ _ h => h) (fun k hk h => h.elim id fun h => by omega)
    replace hfin := Lib.hid hfin
    go_region_held3 (fun wx => wx.cell? ⟨g, 0, none⟩ = some (pv bd)) (first | exact hk0 | exact hkX)
      (first
        | (go_at_call 72; (with_reducible refine (hlog _ m0).mono ?_); rintro e wx ⟨rfl, rfl⟩)
        | (go_at_call 65; (with_reducible refine hc.mono ?_); rintro e w5 ⟨rfl, h5, m5⟩; have hkX := hcell _ (hfin.out _ m5)))
    all_goals
      have hM5 := hfin.out _ m5
      clear hkX hk0 m0 m5 hc hfin
      go_wp2_with fail
      go_ret
      exact ⟨rfl, h5.mono fun k _ hk => hk.elim id fun hk => .inr (by have : w4.drew.heap.size = w4.heap.size := rfl; omega), hM5⟩
end
end Go.Proofs.YtnmfkfjeihjkeaaDoor
