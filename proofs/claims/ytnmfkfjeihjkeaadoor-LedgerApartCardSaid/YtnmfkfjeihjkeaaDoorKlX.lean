/- ledger: Drop. -/
import Derived.Test.YtnmfkfjeihjkeaaDoorKlT
namespace Go.Proofs.YtnmfkfjeihjkeaaDoor
open Go.RowKit Go.Maps Go.WideMaps
set_option maxRecDepth 100000

section
variable {T U V X Y : Nat → Prop} {w w' wa : World} {g bd : Nat} {dv ew y : Value} {vs : List Value} {l : Lst} {d d1 d2 d' : Ds} {b : List UInt8} {n : Nat}
theorem LDk.img (H : LDk X w bd d g l) : Calls Tryd.prog 66 #[pv g] w fun e w' => e = .returned (sv (imgN l.p)) ∧ w' = w := by
  obtain ⟨dv, ew, h⟩ := H.blk
  exact img_any h H.pl
/-- What is left of a Ledger that was dropped: its Disk. -/
theorem LDk.only (H : LDk X w bd d g l) (m : Mod (fun k => k = g) w w') : (∃ T, Dk T w' (pv bd) d ∧ ∀ k, T k → X k ∧ k < w'.heap.size) ∧ Mod X w w' := by
  obtain ⟨T, U, dv, ew, vs, h1, h2, h3, h4, h5⟩ := H
  exact ⟨⟨T, h1.mod m (fun k _ hk e => h3 k hk (e ▸ h2.sg)), fun k hk => ⟨(h4 k hk).1, Nat.lt_of_lt_of_le (h4 k hk).2 m.size⟩⟩, m.mono fun k _ e => e ▸ (h5 g h2.sg).1⟩
set_option maxHeartbeats 16000000 in
theorem drop5_any (H0 : LDk X w bd d g l) (hup : ∀ k, w.heap.size ≤ k → X k) (hdead : l.dead = false) (hr1 : rmT d (logN l.p) = (d1, 0)) (hr2 : rmT d1 (imgN l.p) = (d2, 0)) :
    Calls Tryd.prog 40 #[pv g] w fun e w' => e = .returned (.int .i64 0) ∧ (∃ T, Dk T w' (pv bd) d2 ∧ ∀ k, T k → X k ∧ k < w'.heap.size) ∧ Mod X w w' := by
  obtain ⟨T, U, dv, ew, vs, h1, hl, h3, h4, h5⟩ := H0
  have c5 : w.cell? ⟨g, 5, none⟩ = some (.bool false) := by have := hl.blk.cell 5; rw [this, ← hdead]; rfl
  have z5 : w.frozen? ⟨g, 5, none⟩ = false := hl.blk.frozen 5
  have he := wri_err (w := w) (w4 := w) h1 (fun k hk => ⟨.inl hk, (h4 k hk).2⟩) hl h3 h4 h5 (Mod.refl _ _)
  have htl := log_len hl.pl
  have hti := img_len hl.pl
  obtain ⟨tl, htl1⟩ : ∃ t, t = logN l.p := ⟨_, rfl⟩
  obtain ⟨ti, hti1⟩ : ∃ t, t = imgN l.p := ⟨_, rfl⟩
  rw [← htl1] at hr1 htl
  rw [← hti1] at hr2 hti
  replace htl1 := Lib.hid htl1
  replace hti1 := Lib.hid hti1
  replace he := Lib.hid he
  clear h1 hl h3 h4 h5
  go_enter Tryd.func40, Tryd.ntmps40
  go_upto_region 6 with fail
  obtain ⟨w1, hw1⟩ : ∃ w1, w1 = w.setCell ⟨g, 5, none⟩ (.bool true) := ⟨_, rfl⟩
  rw [← hw1]
  obtain ⟨H1, m1⟩ := he.out
  rw [← hw1] at H1 m1
  replace H1 : LDk X w1 bd d g { l with dead := true } := H1.mono fun k _ h => h.elim id fun h => hup k h
  have hz1 : w.heap.size ≤ w1.heap.size := m1.size
  have hupx : ∀ {wx : World}, w.heap.size ≤ wx.heap.size → ∀ k, wx.heap.size ≤ k → X k := fun h k hk => hup k (Nat.le_trans h hk)
  clear hw1 he c5 z5
  go_wp2_with fail
  have q1 : Ext w1 w1.drew := (Mod.refl _ w1).drew
  have hlog := (H1.ext q1).log
  rw [show logN ({ l with dead := true } : Lst).p = tl from htl1.out.symm] at hlog
  have hk0 := (H1.ext q1).d0
  have hct := ldk_call (d' := d1) H1 (hupx hz1) q1 fun T' _ hdk => by
    have := lremove_any hdk tl htl
    rw [hr1] at this
    exact this
  go_region_held3 (fun wx => wx.cell? ⟨g, 0, none⟩ = some (pv bd)) (first | exact hk0 | exact hkX)
    (first
      | (go_at_call 72; (with_reducible refine hlog.mono ?_); rintro e wx ⟨rfl, rfl⟩)
      | (go_at_call 65; (with_reducible refine hct.mono ?_); rintro e w2 ⟨rfl, H2, m2⟩; have hkX := H2.d0))
  have m2' : Mod X w w2 := m1.then_ m2 fun _ _ h => h
  have hz2 : w.heap.size ≤ w2.heap.size := m2'.size
  clear hkX hk0 hct hlog q1 m2 H1 m1
  go_wp2_with fail
  have q2 : Ext w2 w2.drew := (Mod.refl _ w2).drew
  have himg := (H2.ext q2).img
  rw [show imgN ({ l with dead := true } : Lst).p = ti from hti1.out.symm] at himg
  have hk0 := (H2.ext q2).d0
  have hct := ldk_call (d' := d2) H2 (hupx hz2) q2 fun T' _ hdk => by
    have := lremove_any hdk ti hti
    rw [hr2] at this
    exact this
  go_region_held3 (fun wx => wx.cell? ⟨g, 0, none⟩ = some (pv bd)) (first | exact hk0 | exact hkX)
    (first
      | (go_at_call 66; (with_reducible refine himg.mono ?_); rintro e wx ⟨rfl, rfl⟩)
      | (go_at_call 65; (with_reducible refine hct.mono ?_); rintro e w3 ⟨rfl, H3, m3⟩; have hkX := H3.d0))
  have m3' : Mod X w w3 := m2'.then_ m3 fun _ _ h => h
  have hfin : ∀ (u2 u3 u4 : Value), (∃ T, Dk T (((w3.setCell ⟨g, 2, none⟩ u2).setCell ⟨g, 3, none⟩ u3).setCell ⟨g, 4, none⟩ u4) (pv bd) d2 ∧ ∀ k, T k → X k ∧ k < (((w3.setCell ⟨g, 2, none⟩ u2).setCell ⟨g, 3, none⟩ u3).setCell ⟨g, 4, none⟩ u4).heap.size) ∧ Mod X w (((w3.setCell ⟨g, 2, none⟩ u2).setCell ⟨g, 3, none⟩ u3).setCell ⟨g, 4, none⟩ u4) := fun u2 u3 u4 => by
    obtain ⟨k1, k2⟩ := H3.only (((setg_mod w3 g 2 u2).then_ (setg_mod _ g 3 u3) fun _ _ h => h).then_ (setg_mod _ g 4 u4) fun _ _ h => h)
    exact ⟨k1, m3'.then_ k2 fun _ _ h => h⟩
  obtain ⟨dv3, ew3, hb3⟩ := H3.blk
  have b2 : w3.cell? ⟨g, 2, none⟩ = some (.int .i64 (l.base : Int)) := hb3.cell 2
  have b3 : w3.cell? ⟨g, 3, none⟩ = some dv3 := hb3.cell 3
  have b4 : w3.cell? ⟨g, 4, none⟩ = some ew3 := hb3.cell 4
  have f2 : w3.frozen? ⟨g, 2, none⟩ = false := hb3.frozen 2
  have f3 : w3.frozen? ⟨g, 3, none⟩ = false := hb3.frozen 3
  have f4 : w3.frozen? ⟨g, 4, none⟩ = false := hb3.frozen 4
  replace hfin := Lib.hid hfin
  clear hkX hk0 hct himg q2 m3 H2 H3 m2' m3' hb3 hupx hup
  go_wp2_with fail
  go_ret
  exact ⟨rfl, hfin.out _ _ _⟩
end
end Go.Proofs.YtnmfkfjeihjkeaaDoor
