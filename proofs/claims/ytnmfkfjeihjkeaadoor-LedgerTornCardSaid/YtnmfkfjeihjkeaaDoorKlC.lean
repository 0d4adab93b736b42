/- ledger: an entry's record laid. -/
import Derived.Test.YtnmfkfjeihjkeaaDoorKlB
namespace Go.Proofs.YtnmfkfjeihjkeaaDoor
open Go.RowKit Go.Maps Go.WideMaps
set_option maxRecDepth 100000

def layD (d : Ds) (p : List UInt8) (n : Nat) (b : List UInt8) : Ds × Nat := bindD (appendD d (logN p) [frec (numB n b)]) fun d1 => eachD syncD d1 [logN p]
theorem numB_len (n : Nat) (b : List UInt8) (hn : n ≤ 1099511627777) (hb : b.length ≤ 1000000) : (numB n b).length ≤ b.length + 20 := by
  have h1 := enc7_length 9 n (by omega)
  have h2 := enc7_length 9 b.length (by omega)
  simp only [numB, List.length_append]
  omega
section
variable {T U V : Nat → Prop} {w w' : World} {g bd : Nat} {dv ew y : Value} {vs : List Value} {l : Lst} {d : Ds} {b : List UInt8} {n : Nat}
set_option maxHeartbeats 8000000 in
theorem lay5_any (h : Dk T w (pv bd) d) (hl : LgAt U w g bd dv ew vs l) (sep : ∀ k, T k → ¬ U k) (hy : Bs w V y b) (hV : ∀ k, V k → k < w.heap.size) (hb : b.length ≤ 100000) (hn : n ≤ 1099511627777) (hN : Nib w) :
    Calls Tryd.prog 69 #[pv g, .int .i64 (n : Int), y] w fun e w' => e = .returned (.int .i64 ((layD d l.p n b).2 : Nat)) ∧ Dk (Grow T w) w' (pv bd) (layD d l.p n b).1 ∧ Mod T w w' := by
  have hblk : ∀ wj, Mod T w wj → Blk wj g 103 (lcells bd l dv ew) := fun wj m => hl.blk.mod m (fun hT => sep g hT hl.sg)
  have hcell : ∀ wj, Mod T w wj → wj.cell? ⟨g, 0, none⟩ = some (pv bd) := fun wj m => (hblk wj m).cell 0
  have hlog : ∀ wj, Mod T w wj → Calls Tryd.prog 72 #[pv g] wj fun e w' => e = .returned (sv (logN l.p)) ∧ w' = wj := fun wj m => log_any (hblk wj m) hl.pl
  obtain ⟨R, hR⟩ : ∃ R, R = layD d l.p n b := ⟨_, rfl⟩
  rw [← hR]
  unfold layD at hR
  replace hR := Lib.hid hR
  have hlen := numB_len n b hn (by omega)
  have hc := numbered_any hy hV hn (by omega)
  have htl : (logN l.p).length ≤ 1000000 := by have := hl.pl; simp [logN]; omega
  clear hl hy hblk
  generalize logN l.p = t at *
  generalize numB n b = nb at *
  go_enter Tryd.func69, Tryd.ntmps69
  go_wp2_with fail
  refine hc.mono ?_
  rintro e w1 ⟨u, rfl, o1, f1, x1⟩
  clear hc
  obtain ⟨Au, cu, hu⟩ := o1.shape
  rw [List.length_map] at hu
  have hce := encode_any (row_one o1.sl) (hN.ext (ext_trans x1 ((Mod.refl _ _).alloc _))) (by simp; omega)
  rw [show ([nb] : Tx).flatten = nb by simp] at hce
  have hz1 := x1.size
  subst hu
  go_wp2_with fail
  refine hce.mono ?_
  rintro e w2 ⟨u2, rfl, o2, f2, x2⟩
  have y2 : Ext w w2 := ext_trans (ext_trans x1 ((Mod.refl _ _).alloc _)) x2
  have H2 := Held.start h y2
  have hus : ∀ k, own u2 k → w.heap.size ≤ k ∧ k < w2.heap.size := fun k hk => ⟨by have := f2 k hk; simp at this; omega, o2.lt hk⟩
  obtain ⟨Av, cv, hv⟩ := o2.shape
  rw [List.length_map] at hv
  have b2 : Bs w2 (own u2) u2 (frec nb) := o2.sl
  have hw2 := y2.size
  clear hce h f1 f2 o1 o2 x1 x2 hz1
  generalize frec nb = fr at *
  subst hv
  go_wp2_with fail
  have xa : Ext w2 ((w2.alloc (.cells #[.slice Av fr.length cv] 32)).drew) := ((Mod.refl _ _).alloc _).drew
  have hrow := (row_one b2).mod ((Mod.refl (fun _ => False) (w2.alloc (.cells #[.slice Av fr.length cv] 32))).drew) (fun _ _ _ h => h)
  have hc := held_call H2 xa fun X hX hdk => append_any hdk t hrow (fun k hk => hk.elim (fun hk hu => off_it (wj := w2) (wa := w2) (S := T) hus k (hus k hk).2 hk (hX k hu)) (sep_name (Nat.le_refl _) hw2 hX k)) (by simp)
  generalize appendD d t [fr] = r at hR hc
  obtain ⟨d2, n2⟩ := r
  simp only at hc
  have mA : Mod T w ((w2.alloc (.cells #[.slice Av fr.length cv] 32)).drew) := (ext_trans y2 xa).mono fun _ _ h => h.elim
  have m0 : Mod T w w2.drew := (y2.mono fun _ _ h => h.elim : Mod T w w2).drew
  have hk0 := hcell _ m0
  have hkA := hcell _ mA
  go_region_held3 (fun wx => wx.cell? ⟨g, 0, none⟩ = some (pv bd)) (first | exact hk0 | exact hkA | exact hkX)
    (first
      | (go_at_call 72; (with_reducible refine (hlog _ mA).mono ?_); rintro e wx ⟨rfl, rfl⟩; have hkX := hkA)
      | (go_at_call 72; (with_reducible refine (hlog _ m0).mono ?_); rintro e wx ⟨rfl, rfl⟩; have hkX := hk0)
      | (go_at_call 26; (with_reducible refine hc.mono ?_); rintro e w4 ⟨rfl, H4, m4⟩; have hkX := hcell _ H4.mod))
  all_goals
    clear hkX hkA hk0 m0 mA m4 hc hrow xa b2 hus H2 y2
    have hz4 : w.heap.size ≤ w4.heap.size := H4.mod.size
    have H4' := Held.start (S := Grow T w) H4.dk (Mod.refl _ w4)
    have hM4 := H4.mod
    clear H4
    by_cases hn4 : n2 = 0
    case neg =>
      rw [bindD_err hn4] at hR
      have hb3 := n_ne0 hn4
      have hR2 := hR.out
      subst hR2
      clear hR
      have hd := H4'.dk
      go_wp2_with fail
      go_ret
      exact ⟨rfl, hd.mono fun k _ hk => hk.elim id fun hk => .inr (Nat.le_trans hz4 hk), hM4⟩
    subst hn4
    rw [bindD_ok] at hR
    have hR2 := hR.out
    clear hR
    go_wp2_with fail
    have xa : Ext w4 ((w4.alloc (.cells #[sv t] 9)).drew) := ((Mod.refl _ _).alloc _).drew
    have hnm := (one_name w4 t).mod ((Mod.refl (fun _ => False) (w4.alloc (.cells #[sv t] 9))).drew) (fun _ _ _ h => h)
    have hc := held_call H4' xa fun X hX hdk => Sync_any hdk hnm (sep_name (Nat.le_refl _) (Nat.le_refl _) hX)
    generalize eachD syncD d2 [t] = r at hc hR2
    obtain ⟨d3, n3⟩ := r
    simp only at hc
    subst hR2
    have mA : Mod T w ((w4.alloc (.cells #[sv t] 9)).drew) := hM4.then_ xa fun _ _ h => h.elim
    have m0 : Mod T w w4.drew := hM4.drew
    have hk0 := hcell _ m0
    have hkA := hcell _ mA
    have hfin : ∀ w5, Held (Grow T w) w4 w4 w5 (pv bd) d3 → Mod T w w5 := fun w5 H => hM4.trans H.mod (fun _ _ h => h) (fun k hk h => h.elim id fun h => by omega)
    replace hfin := Lib.hid hfin
    go_region_held3 (fun wx => wx.cell? ⟨g, 0, none⟩ = some (pv bd)) (first | exact hk0 | exact hkA | exact hkX)
      (first
        | (go_at_call 72; (with_reducible refine (hlog _ mA).mono ?_); rintro e wx ⟨rfl, rfl⟩; have hkX := hkA)
        | (go_at_call 72; (with_reducible refine (hlog _ m0).mono ?_); rintro e wx ⟨rfl, rfl⟩; have hkX := hk0)
        | (go_at_call 45; (with_reducible refine hc.mono ?_); rintro e w5 ⟨rfl, H5, m5⟩; have hkX := hcell _ (hfin.out _ H5)))
    all_goals
      have hd := H5.dk
      have hM5 := hfin.out _ H5
      clear hkX hkA hk0 m0 mA m5 hc xa H5 H4' hfin
      go_wp2_with fail
      go_ret
      exact ⟨rfl, hd.mono fun k _ hk => hk.elim id fun hk => .inr (Nat.le_trans hz4 hk), hM5⟩
end
end Go.Proofs.YtnmfkfjeihjkeaaDoor
