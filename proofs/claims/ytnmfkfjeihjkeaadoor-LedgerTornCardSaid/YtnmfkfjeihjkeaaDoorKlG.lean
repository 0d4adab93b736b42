/- ledger: the image read. -/
import Derived.Test.YtnmfkfjeihjkeaaDoorKlF
namespace Go.Proofs.YtnmfkfjeihjkeaaDoor
open Go.RowKit Go.Maps Go.WideMaps
set_option maxRecDepth 100000

section
variable {T U V X : Nat → Prop} {w w' : World} {g bd : Nat} {dv ew y : Value} {vs : List Value} {l : Lst} {d : Ds} {b : List UInt8} {n : Nat}
theorem img_len (h : l.p.length ≤ 20) : (imgN l.p).length ≤ 1000000 := by simp [imgN]; omega
theorem log_len (h : l.p.length ≤ 20) : (logN l.p).length ≤ 1000000 := by simp [logN]; omega
set_option maxHeartbeats 8000000 in
theorem rimg_none (h : Dk T w (pv bd) d) (hl : LgAt U w g bd dv ew vs l) (hN : Nib w) (he : loadD d (imgN l.p) = ([], 7)) :
    Calls Tryd.prog 67 #[pv g] w fun e w' => e = .returned (.int .i64 0) ∧ Ext w w' := by
  have hcc : ∀ {wj : World}, Ext w wj → wj.cell? ⟨g, 0, none⟩ = some (pv bd) := fun q => (hl.blk.mod q (fun h => h)).cell 0
  have q0 : Ext w w.drew := (Mod.refl _ w).drew
  have himg := img_any (hl.blk.mod q0 (fun h => h)) hl.pl
  have hld := load_any (h.ext q0) (imgN l.p) (img_len hl.pl) (hN.ext q0)
  rw [he] at hld
  clear h hl he
  generalize imgN l.p = i at *
  go_enter Tryd.func67, Tryd.ntmps67
  go_wp2_with fail
  go_region_held3 (fun wx => wx.cell? ⟨g, 0, none⟩ = some (pv bd)) (first | exact hcc q0 | exact hkX)
    (first
      | (go_at_call 66; (with_reducible refine himg.mono ?_); rintro e wx ⟨rfl, rfl⟩)
      | (go_at_call 17; (with_reducible refine hld.mono ?_); rintro e w4 ⟨u, rfl, o4, f4, q4⟩; have hkX := hcc (ext_trans q0 q4)))
  all_goals
    have x4 := ext_trans q0 q4
    clear hkX hcc himg hld o4 f4 q4
    go_wp2_with fail
    go_ret
    exact ⟨rfl, x4⟩
/-- An image that may be. -/
def Img (b : List UInt8) (n : Nat) (dt : List UInt8) : Prop := ∃ st1 st2, takeN (some b) = (n, st1) ∧ takeB st1 = (dt, st2) ∧ isWhole st2 = true ∧ n ≤ 1099511627776
theorem Img.numB (n : Nat) (p : List UInt8) (hn : n ≤ 1099511627776) (hp : p.length ≤ 1000000) : Img (Go.Proofs.YtnmfkfjeihjkeaaDoor.numB n p) n p := by
  refine ⟨some (enc7 p.length ++ p), some [], takeN_enc n (enc7 p.length ++ p) (by omega), ?_, rfl, hn⟩
  have := takeB_enc p [] (by omega)
  rwa [List.append_nil] at this
theorem rimg_fin {w2 w5 : World} {u : Value} {dt : List UInt8} (hl : LgAt U w g bd dv ew vs l) (hU : ∀ k, U k → X k ∧ k < w.heap.size) (q2 : Ext w w2) (hn : n ≤ 1099511627776) (hdt : dt.length ≤ 1000000) (o5 : Own w5 5 u (dt.map bv)) (f5 : Fresh w.heap.size u) (q5 : Mod (fun k => k = g) w w5)
    (hb : Blk w5 g 103 (lcells bd ⟨l.p, n, l.data, l.es, l.dead⟩ dv ew)) :
    LgAt (fun k => U k ∨ (w.heap.size ≤ k ∧ k < (w5.setCell ⟨g, 3, none⟩ u).heap.size)) (w5.setCell ⟨g, 3, none⟩ u) g bd u ew vs ⟨l.p, n, dt, l.es, l.dead⟩ ∧ Mod (fun k => k = g) w (w5.setCell ⟨g, 3, none⟩ u) := by
  have s7 : Mod (fun k => k = g) w5 (w5.setCell ⟨g, 3, none⟩ u) := setg_mod _ _ _ _
  have hz7 := s7.size
  have hz5 := q5.size
  have m7 := q5.then_ s7 fun _ _ h => h
  have hgl : g < w.heap.size := (hU g hl.sg).2
  have hbk : Blk (w5.setCell ⟨g, 3, none⟩ u) g 103 (lcells bd ⟨l.p, n, dt, l.es, l.dead⟩ u ew) := hb.set_ 3 u
  refine ⟨⟨.inl hl.sg, hbk, ?_, hl.ents.mod m7 (fun k hk e => (hl.entU k hk).2 e), fun k hk => ⟨.inl (hl.entU k hk).1, (hl.entU k hk).2⟩, hl.len, fun k x e hx he => ?_, hl.small, hl.pl, hn, hdt, hl.el⟩, m7⟩
  · exact (o5.mod s7 (fun k hk e => by have := f5 k hk; omega)).sl.mono fun k _ hk => ⟨.inr ⟨f5 k hk, by have := o5.lt hk; omega⟩, by have := f5 k hk; omega, fun h => by have := f5 k hk; have := (hU k (hl.entU k h).1).2; omega⟩
  · exact ((hl.els k x e hx he).mod m7 (fun k _ hs e => hs.2.1 e)).mono fun k _ hs => ⟨.inl hs.1, hs.2⟩
set_option maxHeartbeats 16000000 in
theorem rimg_some {dt : List UInt8} (h : Dk T w (pv bd) d) (hl : LgAt U w g bd dv ew vs l) (hU : ∀ k, U k → X k ∧ k < w.heap.size) (hN : Nib w) (he : loadD d (imgN l.p) = (b, 0)) (hb : b.length ≤ 1000000) (hi : Img b n dt) :
    Calls Tryd.prog 67 #[pv g] w fun e w' => e = .returned (.int .i64 0) ∧ (∃ u, LgAt (fun k => U k ∨ (w.heap.size ≤ k ∧ k < w'.heap.size)) w' g bd u ew vs ⟨l.p, n, dt, l.es, l.dead⟩) ∧ Mod (fun k => k = g) w w' := by
  have hcc : ∀ {wj : World}, Ext w wj → wj.cell? ⟨g, 0, none⟩ = some (pv bd) := fun q => (hl.blk.mod q (fun h => h)).cell 0
  have q0 : Ext w w.drew := (Mod.refl _ w).drew
  have himg := img_any (hl.blk.mod q0 (fun h => h)) hl.pl
  have hld := load_any (h.ext q0) (imgN l.p) (img_len hl.pl) (hN.ext q0)
  rw [he] at hld
  have hblk : ∀ {wj : World}, Ext w wj → Blk wj g 103 (lcells bd l dv ew) := fun q => hl.blk.mod q (fun h => h)
  have hgl : g < w.heap.size := (hU g hl.sg).2
  obtain ⟨st1, st2, hi1, hi2, hi3, hi4⟩ := hi
  have hs1 : (st1.getD []).length ≤ b.length := by
    have h2 := takeN_len (some b)
    rw [hi1] at h2
    exact h2
  have hdt : dt.length ≤ 1000000 := by
    have h1 := (takeB_len st1).2
    rw [hi2] at h1
    simp only at h1
    omega
  have hfin := fun (u : Value) (w5 : World) (o5 : Own w5 5 u (dt.map bv)) (f5 : Fresh w.heap.size u) (q5 : Mod (fun k => k = g) w w5) (hb : Blk w5 g 103 (lcells bd ⟨l.p, n, l.data, l.es, l.dead⟩ dv ew)) => rimg_fin (X := X) hl hU (Mod.refl _ w) hi4 hdt o5 f5 q5 hb
  replace hfin := Lib.hid hfin
  clear h hl he
  generalize imgN l.p = i at *
  go_enter Tryd.func67, Tryd.ntmps67
  go_wp2_with fail
  go_region_held3 (fun wx => wx.cell? ⟨g, 0, none⟩ = some (pv bd)) (first | exact hcc q0 | exact hkX)
    (first
      | (go_at_call 66; (with_reducible refine himg.mono ?_); rintro e wx ⟨rfl, rfl⟩)
      | (go_at_call 17; (with_reducible refine hld.mono ?_); rintro e w4 ⟨u, rfl, o4, f4, q4⟩; have hkX := hcc (ext_trans q0 q4)))
  all_goals
    have x4 := ext_trans q0 q4
    have hnr := newreader_any o4.sl (by omega)
    clear hkX hcc himg hld o4 f4 q4
    go_wp2_with fail
    refine hnr.mono ?_
    rintro e w5 ⟨br, v5, rfl, rd5, z5, z6, x5⟩
    have y5 := ext_trans x4 x5
    have hz4 := x4.size
    clear hnr x5
    have hnm := num_any rd5
    rw [hi1] at hnm
    simp only at hnm
    go_wp2_with fail
    refine hnm.mono ?_
    rintro e w6 ⟨v6, rfl, rd6, m6, z7⟩
    have y6 : Ext w w6 := y5.trans m6 (fun _ _ h => h) (fun k hk e => by omega)
    have hb6 := hblk y6
    have c2 : w6.cell? ⟨g, 2, none⟩ = some (.int .i64 (l.base : Int)) := hb6.cell 2
    have z2 : w6.frozen? ⟨g, 2, none⟩ = false := hb6.frozen 2
    have s6 : Mod (fun k => k = g) w6 (w6.setCell ⟨g, 2, none⟩ (.int .i64 (n : Nat))) := setg_mod _ _ _ _
    have rd7 := rd6.mod s6 (by omega) (fun k _ hk e => by omega)
    have hb7 : Blk (w6.setCell ⟨g, 2, none⟩ (.int .i64 (n : Nat))) g 103 (lcells bd ⟨l.p, n, l.data, l.es, l.dead⟩ dv ew) := hb6.set_ 2 _
    have hby := bytes_any rd7 (by omega)
    rw [hi2] at hby
    simp only at hby
    have y7 : Mod (fun k => k = g) w (w6.setCell ⟨g, 2, none⟩ (.int .i64 (n : Nat))) := y6.trans s6 (fun _ _ h => h.elim) (fun _ _ h => h)
    have hz8 := s6.size
    clear hnm rd5 rd6 m6 hb6 rd7 s6
    go_wp2_with fail
    refine hby.mono ?_
    rintro e w8 ⟨v8, u8, rfl, rd8, o8, f8, m8⟩
    clear hby
    have y8 : Mod (fun k => k = g) w w8 := y7.trans m8 (fun _ _ h => h) (fun k hk e => by omega)
    have hb8 := hb7.mod m8 (by omega)
    have hf := hfin.out u8 w8 o8 (f8.mono (by omega)) y8 hb8
    have e2 : w8.cell? ⟨g, 2, none⟩ = some (.int .i64 (n : Int)) := hb8.cell 2
    have e3 : w8.cell? ⟨g, 3, none⟩ = some dv := hb8.cell 3
    have z3 : w8.frozen? ⟨g, 3, none⟩ = false := hb8.frozen 3
    have s8 : Mod (fun k => k = g) w8 (w8.setCell ⟨g, 3, none⟩ u8) := setg_mod _ _ _ _
    have rd9 := rd8.mod s8 (by omega) (fun k _ hk e => by have := m8.size; omega)
    have hb9 : Blk (w8.setCell ⟨g, 3, none⟩ u8) g 103 (lcells bd ⟨l.p, n, l.data, l.es, l.dead⟩ u8 ew) := hb8.set_ 3 u8
    have hwh := whole_any rd9
    rw [hi3] at hwh
    have e9 : (w8.setCell ⟨g, 3, none⟩ u8).cell? ⟨g, 2, none⟩ = some (.int .i64 (n : Int)) := hb9.cell 2
    obtain ⟨A8, l8, c8, hu8⟩ : ∃ A n c, u8 = .slice A n c := (by obtain ⟨A, c, h⟩ := o8.shape; exact ⟨A, _, c, h⟩)
    replace hf := Lib.hid hf
    have hb4 : decide ((1099511627776 : Int) < (n : Int)) = false := dfalse (by omega)
    clear hfin hblk hb7 hb8 hb9 rd8 rd9 o8 f8 m8 s8 y7 y8 hi1 hi2
    subst hu8
    go_wp2_with fail
    refine hwh.mono ?_
    rintro e w9 ⟨rfl, rfl⟩
    go_wp2_with fail
    go_ret
    exact ⟨rfl, ⟨_, hf.out.1⟩, hf.out.2⟩
end
end Go.Proofs.YtnmfkfjeihjkeaaDoor
