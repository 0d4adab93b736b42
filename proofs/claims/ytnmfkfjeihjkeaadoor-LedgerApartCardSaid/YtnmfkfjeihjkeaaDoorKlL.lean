/- ledger: the log read. -/
import Derived.Test.YtnmfkfjeihjkeaaDoorKlI
namespace Go.Proofs.YtnmfkfjeihjkeaaDoor
open Go.RowKit Go.Maps Go.WideMaps
set_option maxRecDepth 100000

section
variable {T U V X : Nat → Prop} {w w' wa : World} {g bd : Nat} {dv ew y : Value} {vs : List Value} {l : Lst} {d d' : Ds} {b : List UInt8} {n : Nat}
theorem LDk.ext (H : LDk X w bd d g l) (hx : Ext w wa) : LDk X wa bd d g l := by
  obtain ⟨T, U, dv, ew, vs, h1, h2, h3, h4, h5⟩ := H
  exact ⟨T, U, dv, ew, vs, h1.ext hx, h2.ext hx, h3, fun k hk => ⟨(h4 k hk).1, Nat.lt_of_lt_of_le (h4 k hk).2 hx.size⟩, fun k hk => ⟨(h5 k hk).1, Nat.lt_of_lt_of_le (h5 k hk).2 hx.size⟩⟩
theorem LDk.blk (H : LDk X w bd d g l) : ∃ dv ew, Blk w g 103 (lcells bd l dv ew) := by
  obtain ⟨T, U, dv, ew, vs, h1, h2, h3, h4, h5⟩ := H
  exact ⟨dv, ew, h2.blk⟩
theorem LDk.pl (H : LDk X w bd d g l) : l.p.length ≤ 20 := by
  obtain ⟨T, U, dv, ew, vs, h1, h2, h3, h4, h5⟩ := H
  exact h2.pl
theorem LDk.d0 (H : LDk X w bd d g l) : w.cell? ⟨g, 0, none⟩ = some (pv bd) := by
  obtain ⟨dv, ew, h⟩ := H.blk
  exact h.cell 0
theorem LDk.log (H : LDk X w bd d g l) : Calls Tryd.prog 72 #[pv g] w fun e w' => e = .returned (sv (logN l.p)) ∧ w' = w := by
  obtain ⟨dv, ew, h⟩ := H.blk
  exact log_any h H.pl
theorem LDk.d4 (H : LDk X w bd d g l) : ∃ A c, w.cell? ⟨g, 4, none⟩ = some (.slice A l.es.length c) := by
  obtain ⟨T, U, dv, ew, vs, h1, h2, h3, h4, h5⟩ := H
  obtain ⟨A, c, h⟩ := h2.ents.shape
  have := h2.blk.cell 4
  rw [h, h2.len] at this
  exact ⟨A, c, this⟩
theorem ldk_call {P : Program} {f : FuncId} {args : Array Value} {E : Ending → Prop} (H : LDk X w bd d g l) (hup : ∀ k, w.heap.size ≤ k → X k) (hx : Ext w wa)
    (hc : ∀ T, (∀ k, T k → X k ∧ k < w.heap.size) → Dk T wa (pv bd) d → Calls P f args wa fun e w' => E e ∧ Dk (Grow T wa) w' (pv bd) d' ∧ Mod T wa w') :
    Calls P f args wa fun e w' => E e ∧ LDk X w' bd d' g l ∧ Mod X w w' := by
  obtain ⟨T, U, dv, ew, vs, h1, h2, h3, h4, h5⟩ := H
  refine (hc T h4 (h1.ext hx)).mono fun e w' ⟨q1, q2, q3⟩ => ⟨q1, ⟨_, U, dv, ew, vs, q2.cut, (h2.ext hx).mod q3 (fun k _ hk ht => h3 k ht hk), ?_, fun k hk => ⟨?_, hk.2⟩, fun k hk => ⟨(h5 k hk).1, ?_⟩⟩, (hx.mono fun _ _ h => h.elim : Mod X w wa).then_ q3 fun k _ ht => (h4 k ht).1⟩
  · rintro k ⟨hk, _⟩ hu
    rcases hk with hk | hk
    · exact h3 k hk hu
    · have h6 := (h5 k hu).2
      have := hx.size
      omega
  · rcases hk.1 with hk | hk
    · exact (h4 k hk).1
    · exact hup k (Nat.le_trans hx.size hk)
  · have h6 := (h5 k hk).2
    have := hx.size
    have := q3.size
    omega
theorem sepX {U : Nat → Prop} {w : World} (h : ∀ k, U k → X k ∧ k < w.heap.size) (k : Nat) (hk : k = w.heap.size) : ¬ U k := fun hu => by have := (h k hu).2; omega
set_option maxHeartbeats 8000000 in
theorem rlog_none (h : Dk T w (pv bd) d) (hl : LgAt U w g bd dv ew vs l) (he : readD d (logN l.p) = none) :
    Calls Tryd.prog 68 #[pv g] w fun e w' => e = .returned (.int .i64 0) ∧ Ext w w' := by
  have hcc : ∀ {wj : World}, Ext w wj → wj.cell? ⟨g, 0, none⟩ = some (pv bd) := fun q => (hl.blk.mod q (fun h => h)).cell 0
  have q0 : Ext w w.drew := (Mod.refl _ w).drew
  have hlog := log_any (hl.blk.mod q0 (fun h => h)) hl.pl
  have hld := read_any (h.ext q0) (logN l.p) (log_len hl.pl)
  rw [he, codeR_none] at hld
  clear h hl he
  generalize logN l.p = i at *
  go_enter Tryd.func68, Tryd.ntmps68
  go_wp2_with fail
  go_region_held3 (fun wx => wx.cell? ⟨g, 0, none⟩ = some (pv bd)) (first | exact hcc q0 | exact hkX)
    (first
      | (go_at_call 72; (with_reducible refine hlog.mono ?_); rintro e wx ⟨rfl, rfl⟩)
      | (go_at_call 31; (with_reducible refine hld.mono ?_); rintro e w4 ⟨u, rfl, o4, f4, q4⟩; have hkX := hcc (ext_trans q0 q4)))
  all_goals
    have x4 := ext_trans q0 q4
    clear hkX hcc hlog hld o4 f4 q4
    go_wp2_with fail
    go_ret
    exact ⟨rfl, x4⟩
end
end Go.Proofs.YtnmfkfjeihjkeaaDoor
namespace Go.Proofs.YtnmfkfjeihjkeaaDoor
open Go.RowKit Go.Maps Go.WideMaps
set_option maxRecDepth 100000

section
variable {T U V X : Nat → Prop} {w w' wa : World} {g bd m good : Nat} {dv ew y : Value} {vs : List Value} {l : Lst} {d d2 d' : Ds} {b : List UInt8} {ps : Tx}
theorem rlog_fin {w8 : World} {tv : Value} {es : Tx} {vs' : List Value} {B : Nat} (h : Dk T w (pv bd) d) (hl : LgAt U w g bd dv ew vs l) (sep : ∀ k, T k → ¬ U k) (hT : ∀ k, T k → X k ∧ k < w.heap.size) (hU : ∀ k, U k → X k ∧ k < w.heap.size) (hup : ∀ k, w.heap.size ≤ k → X k) (x8 : Ext w w8) (ho : Orw w8 B tv vs' es) (hB : w.heap.size ≤ B) (hes : es.length ≤ 100000) (hsm : ∀ e ∈ es, e.length ≤ 1000000) :
    LDk X (w8.setCell ⟨g, 4, none⟩ tv) bd d g { l with es := es } ∧ Mod X w (w8.setCell ⟨g, 4, none⟩ tv) := by
  have s9 : Mod (fun k => k = g) w8 (w8.setCell ⟨g, 4, none⟩ tv) := setg_mod _ _ _ _
  have m9 : Mod (fun k => k = g) w (w8.setCell ⟨g, 4, none⟩ tv) := x8.trans s9 (fun _ _ h => h.elim) (fun _ _ h => h)
  have hz8 := x8.size
  have hz9 := s9.size
  have hgl : g < w.heap.size := (hU g hl.sg).2
  have hbk : Blk (w8.setCell ⟨g, 4, none⟩ tv) g 103 (lcells bd { l with es := es } dv tv) := (hl.blk.mod x8 (fun h => h)).set_ 4 tv
  refine ⟨⟨T, fun k => U k ∨ (w.heap.size ≤ k ∧ k < (w8.setCell ⟨g, 4, none⟩ tv).heap.size), dv, tv, vs', h.mod m9 (fun k _ hk e => sep k hk (e ▸ hl.sg)), ?_, ?_, fun k hk => ⟨(hT k hk).1, by have := (hT k hk).2; omega⟩, ?_⟩, m9.mono fun k _ e => e ▸ (hU g hl.sg).1⟩
  · refine ⟨.inl hl.sg, hbk, ?_, ho.own.mod s9 (fun k hk e => by have := ho.fresh k hk; omega), fun k hk => ⟨.inr ⟨by have := ho.fresh k hk; omega, by have := ho.own.lt hk; omega⟩, by have := ho.fresh k hk; omega⟩, ho.len, fun k x e hx he => ?_, hsm, hl.pl, hl.bb, hl.dl, hes⟩
    · exact (hl.dat.mod m9 (fun k _ hs e => hs.2.1 e)).mono fun k _ hs => ⟨.inl hs.1, hs.2.1, fun hk => by have := ho.fresh k hk; have := (hU k hs.1).2; omega⟩
    · obtain ⟨q1, q2⟩ := ho.els k x e hx he
      exact (q1.mod s9 (fun k hk e => by have := q2 k hk; omega)).sl.mono fun k _ hk => ⟨.inr ⟨by have := q2 k hk; omega, by have := q1.lt hk; omega⟩, by have := q2 k hk; omega, fun hv => own_ne ho.own q1 (by decide) hv hk⟩
  · rintro k hk (h | h)
    · exact sep k hk h
    · have := (hT k hk).2; omega
  · rintro k (h | h)
    · exact ⟨(hU k h).1, by have := (hU k h).2; omega⟩
    · exact ⟨hup k h.1, h.2⟩
set_option maxHeartbeats 16000000 in
theorem rlog_some (h : Dk T w (pv bd) d) (hl : LgAt U w g bd dv ew vs l) (sep : ∀ k, T k → ¬ U k) (hT : ∀ k, T k → X k ∧ k < w.heap.size) (hU : ∀ k, U k → X k ∧ k < w.heap.size) (hup : ∀ k, w.heap.size ≤ k → X k) (hN : Nib w)
    (hr : readD d (logN l.p) = some b) (hbl : b.length ≤ 1000000) (hsc : scan b = (numd m ps, good)) (h1 : 1 ≤ m) (hm : m ≤ l.base + 1) (hmost : m + ps.length ≤ 1099511627776) (hps : ps.length ≤ 100000) (hp : ∀ p ∈ ps, p.length ≤ 900000)
    (hg : (good = b.length ∧ d2 = d) ∨ (good < b.length ∧ ∃ d1, truncD d (logN l.p) good = (d1, 0) ∧ eachD syncD d1 [logN l.p] = (d2, 0)))
    (he : (ps.drop (l.base + 1 - m) ≠ [] ∧ d' = d2) ∨ (ps.drop (l.base + 1 - m) = [] ∧ eachD removeD d2 [logN l.p] = (d', 0))) :
    Calls Tryd.prog 68 #[pv g] w fun e w' => e = .returned (.int .i64 0) ∧ LDk X w' bd d' g { l with es := ps.drop (l.base + 1 - m) } ∧ Mod X w w' := by
  have hcc : ∀ {wj : World}, Ext w wj → wj.cell? ⟨g, 0, none⟩ = some (pv bd) := fun q => (hl.blk.mod q (fun h => h)).cell 0
  have q0 : Ext w w.drew := (Mod.refl _ w).drew
  have hlog := log_any (hl.blk.mod q0 (fun h => h)) hl.pl
  have hld := read_any (h.ext q0) (logN l.p) (log_len hl.pl)
  rw [hr, codeR_some, getD_some] at hld
  have hblk : ∀ {wj : World}, Ext w wj → Blk wj g 103 (lcells bd l dv ew) := fun q => hl.blk.mod q (fun h => h)
  have hgl : g < w.heap.size := (hU g hl.sg).2
  have hbb := hl.bb
  obtain ⟨E, hE⟩ : ∃ E, E = ps.drop (l.base + 1 - m) := ⟨_, rfl⟩
  rw [← hE] at he ⊢
  have hel : E.length ≤ 100000 := by rw [hE, List.length_drop]; omega
  have hes : ∀ e ∈ E, e.length ≤ 1000000 := fun e h => by rw [hE] at h; have := hp e (List.mem_of_mem_drop h); omega
  have hfin := fun (w8 : World) (tv : Value) (vs' : List Value) (B : Nat) (x8 : Ext w w8) (ho : Orw w8 B tv vs' E) (hB : w.heap.size ≤ B) => rlog_fin h hl sep hT hU hup x8 ho hB hel hes
  replace hE := Lib.hid hE
  replace hfin := Lib.hid hfin
  have htl := log_len hl.pl
  clear h hl hr
  generalize htt : logN l.p = t at *
  replace htt := Lib.hid htt
  go_enter Tryd.func68, Tryd.ntmps68
  go_wp2_with fail
  go_region_held3 (fun wx => wx.cell? ⟨g, 0, none⟩ = some (pv bd)) (first | exact hcc q0 | exact hkX)
    (first
      | (go_at_call 72; (with_reducible refine hlog.mono ?_); rintro e wx ⟨rfl, rfl⟩)
      | (go_at_call 31; (with_reducible refine hld.mono ?_); rintro e w4 ⟨u, rfl, o4, f4, q4⟩; have hkX := hcc (ext_trans q0 q4)))
  have x4 := ext_trans q0 q4
  have hsn := scan_any o4.sl (hN.ext x4) hbl
  rw [hsc] at hsn
  simp only at hsn
  obtain ⟨Au, lu, cu, hu⟩ : ∃ A n c, u = .slice A n c := (by obtain ⟨A, c, h⟩ := o4.shape; exact ⟨A, _, c, h⟩)
  have hlu : lu = b.length := by have := o4.shape; obtain ⟨A, c, h⟩ := this; rw [hu] at h; injection h with _ h; rw [h, List.length_map]
  clear hkX hcc hlog hld o4 f4 q4
  subst hu
  subst hlu
  go_wp2_with fail
  refine hsn.mono ?_
  rintro e w5 ⟨v5, rfl, ⟨vr, hor⟩, x5⟩
  have y5 := ext_trans x4 x5
  clear hsn
  have c2 : w5.cell? ⟨g, 2, none⟩ = some (.int .i64 (l.base : Int)) := (hblk y5).cell 2
  go_wp2_with fail
  have xt : Ext w5 (w5.alloc (.cells #[.int .i64 (l.base : Int), .int .i64 0, .slice none 0 0] 133)) := (Mod.refl _ _).alloc _
  have hrw := (hor.rw.old).mod xt (fun _ _ _ h => h)
  have hce := each5_any (base := l.base) (Blk.new w5 _ _) hrw (fun k hk => ⟨Nat.lt_of_lt_of_le hk xt.size, Nat.ne_of_lt hk⟩) h1 hm hmost hps hp hbb
  have hz5 := y5.size
  have hzt := xt.size
  have yt := ext_trans y5 xt
  rw [← hE.out] at hce
  clear hor hrw xt c2 x5
  refine hce.mono ?_
  rintro e w6 ⟨rfl, ⟨ah, tv, vs6, tk6, ho6⟩, m6⟩
  have y6 : Ext w w6 := yt.trans m6 (fun _ _ h => h) (fun k hk e => by omega)
  have hf := hfin.out w6 tv vs6 _ y6 ho6 (Nat.le_trans hz5 hzt)
  obtain ⟨At, nt, ct, htv⟩ : ∃ A n c, tv = .slice A n c := (by obtain ⟨A, c, h⟩ := ho6.own.shape; exact ⟨A, _, c, h⟩)
  have t2 : w6.cell? ⟨w5.heap.size, 2, none⟩ = some tv := tk6.cell 2
  have hb6 := hblk y6
  have g4 : w6.cell? ⟨g, 4, none⟩ = some ew := hb6.cell 4
  have z4 : w6.frozen? ⟨g, 4, none⟩ = false := hb6.frozen 4
  have s9 : w6.heap.size ≤ (w6.setCell ⟨g, 4, none⟩ tv).heap.size := by simp [World.setCell]
  have hz6 := y6.size
  subst htv
  replace hf := Lib.hid hf
  clear hce tk6 ho6 m6 hfin hblk hb6 yt y5 y6 x4 q0 hE hsc
  go_upto_region 10 with fail
  obtain ⟨w9, hw9⟩ : ∃ w9, w9 = w6.setCell ⟨g, 4, none⟩ (.slice At nt ct) := ⟨_, rfl⟩
  rw [← hw9]
  obtain ⟨H9, m9⟩ := hf.out
  rw [← hw9] at H9 m9 s9
  have hz9 : w.heap.size ≤ w9.heap.size := by omega
  have hupx : ∀ {wx : World}, w.heap.size ≤ wx.heap.size → ∀ k, wx.heap.size ≤ k → X k := fun h k hk => hup k (Nat.le_trans h hk)
  clear hw9 hf
  rcases hg with ⟨hgd, rfl⟩ | ⟨hgd, d1, hg1, hg2⟩
  case' inl =>
    have hbg : decide ((good : Int) < (b.length : Int)) = false := dfalse (by omega)
    obtain ⟨A4, c4, e4⟩ := H9.d4
    have H12 := H9
    have m12 := m9
    have hz12 := hz9
    obtain ⟨w12, rfl⟩ : ∃ w12, w12 = w9 := ⟨_, rfl⟩
  case' inr =>
    have hbg : decide ((good : Int) < (b.length : Int)) = true := dtrue (by omega)
    go_wp2_with fail
    have q9 : Ext w9 w9.drew := (Mod.refl _ w9).drew
    have hlog := (H9.ext q9).log
    rw [htt.out] at hlog
    have hk0 := (H9.ext q9).d0
    have hct := ldk_call (d' := d1) H9 (hupx hz9) q9 fun T' _ hdk => by
      have := trunc_any hdk t (good : Int)
      rw [hg1] at this
      exact this
    go_region_held3 (fun wx => wx.cell? ⟨g, 0, none⟩ = some (pv bd)) (first | exact hk0 | exact hkX)
      (first
        | (go_at_call 72; (with_reducible refine hlog.mono ?_); rintro e wx ⟨rfl, rfl⟩)
        | (go_at_call 41; (with_reducible refine hct.mono ?_); rintro e w10 ⟨rfl, H10, m10⟩; have hkX := H10.d0))
    have hz10 : w.heap.size ≤ w10.heap.size := Nat.le_trans hz9 m10.size
    have m10' : Mod X w w10 := m9.then_ m10 fun _ _ h => h
    clear hkX hk0 hct hlog q9 m10 H9 m9
    go_wp2_with fail
    have q10 : Ext w10 ((w10.alloc (.cells #[sv t] 9)).drew) := ((Mod.refl _ _).alloc _).drew
    have r10 : Ext w10 w10.drew := (Mod.refl _ _).drew
    have hlog := (H10.ext r10).log
    rw [htt.out] at hlog
    have hlogA := (H10.ext q10).log
    rw [htt.out] at hlogA
    have hk0 := (H10.ext r10).d0
    have hkA := (H10.ext q10).d0
    have hcs := ldk_call (d' := d2) H10 (hupx hz10) q10 fun T' hT' hdk => by
      have := Sync_any hdk ((one_name w10 t).mod ((Mod.refl (fun _ => False) (w10.alloc (.cells #[sv t] 9))).drew) (fun _ _ _ h => h)) (sepX hT')
      rw [hg2] at this
      exact this
    go_region_held3 (fun wx => wx.cell? ⟨g, 0, none⟩ = some (pv bd)) (first | exact hk0 | exact hkA | exact hkX)
      (first
        | (go_at_call 72; (with_reducible refine hlog.mono ?_); rintro e wx ⟨rfl, rfl⟩; have hkX := hk0)
        | (go_at_call 72; (with_reducible refine hlogA.mono ?_); rintro e wx ⟨rfl, rfl⟩; have hkX := hkA)
        | (go_at_call 45; (with_reducible refine hcs.mono ?_); rintro e w12 ⟨rfl, H12, m12'⟩; have hkX := H12.d0))
    all_goals
      have hz12 : w.heap.size ≤ w12.heap.size := Nat.le_trans hz10 m12'.size
      have m12 : Mod X w w12 := m10'.then_ m12' fun _ _ h => h
      obtain ⟨A4, c4, e4⟩ := H12.d4
      clear hkX hk0 hkA hcs hlog hlogA q10 r10 m12' H10 m10'
  all_goals
    rcases he with ⟨hne, rfl⟩ | ⟨rfl, hrm⟩
    · have hnl : ((E.length : Int) == 0) = false := b_ne0 (fun h => hne (List.eq_nil_of_length_eq_zero h))
      have hnl2 : ¬ E.length = 0 := fun h => hne (List.eq_nil_of_length_eq_zero h)
      clear hne
      simp only at e4
      generalize E.length = ne at *
      go_wp2_with fail
      go_ret
      exact ⟨rfl, H12, m12⟩
    · simp only [List.length_nil] at e4
      go_wp2_with fail
      have q12 : Ext w12 ((w12.alloc (.cells #[sv t] 9)).drew) := ((Mod.refl _ _).alloc _).drew
      have r12 : Ext w12 w12.drew := (Mod.refl _ _).drew
      have hlog := (H12.ext r12).log
      rw [htt.out] at hlog
      have hlogA := (H12.ext q12).log
      rw [htt.out] at hlogA
      have hk0 := (H12.ext r12).d0
      have hkA := (H12.ext q12).d0
      have hcs := ldk_call (d' := d') H12 (hupx hz12) q12 fun T' hT' hdk => by
        have := Remove_any hdk ((one_name w12 t).mod ((Mod.refl (fun _ => False) (w12.alloc (.cells #[sv t] 9))).drew) (fun _ _ _ h => h)) (sepX hT')
        rw [hrm] at this
        exact this
      go_region_held3 (fun wx => wx.cell? ⟨g, 0, none⟩ = some (pv bd)) (first | exact hk0 | exact hkA | exact hkX)
        (first
          | (go_at_call 72; (with_reducible refine hlog.mono ?_); rintro e wx ⟨rfl, rfl⟩; have hkX := hk0)
          | (go_at_call 72; (with_reducible refine hlogA.mono ?_); rintro e wx ⟨rfl, rfl⟩; have hkX := hkA)
          | (go_at_call 44; (with_reducible refine hcs.mono ?_); rintro e w14 ⟨rfl, H14, m14⟩; have hkX := H14.d0))
      all_goals
        have m14' : Mod X w w14 := m12.then_ m14 fun _ _ h => h
        clear hkX hk0 hkA hcs hlog hlogA q12 r12 m14 H12 m12 e4
        go_wp2_with fail
        go_ret
        exact ⟨rfl, H14, m14'⟩
end
end Go.Proofs.YtnmfkfjeihjkeaaDoor
namespace Go.Proofs.YtnmfkfjeihjkeaaDoor
open Go.RowKit Go.Maps Go.WideMaps
set_option maxRecDepth 100000

section
variable {T U V X : Nat → Prop} {w w' wa : World} {g bd n : Nat} {dv ew y : Value} {vs : List Value} {l : Lst} {d d1 d' : Ds} {b dt p : List UInt8} {es : Tx}
def ImgD (d : Ds) (t : List UInt8) (n : Nat) (dt : List UInt8) : Prop := (loadD d t = ([], 7) ∧ n = 0 ∧ dt = []) ∨ ∃ b, loadD d t = (b, 0) ∧ b.length ≤ 1000000 ∧ Img b n dt
theorem rimg_any (h : Dk T w (pv bd) d) (hl : LgAt U w g bd dv ew vs l) (hU : ∀ k, U k → X k ∧ k < w.heap.size) (hN : Nib w) (hl0 : l.base = 0) (hd0 : l.data = []) (hi : ImgD d (imgN l.p) n dt) :
    Calls Tryd.prog 67 #[pv g] w fun e w' => e = .returned (.int .i64 0) ∧ (∃ U3 u, LgAt U3 w' g bd u ew vs ⟨l.p, n, dt, l.es, l.dead⟩ ∧ ∀ k, U3 k → U k ∨ (w.heap.size ≤ k ∧ k < w'.heap.size)) ∧ Mod (fun k => k = g) w w' := by
  rcases hi with ⟨h1, rfl, rfl⟩ | ⟨b, h1, h2, h3⟩
  · refine (rimg_none h hl hN h1).mono fun e w' ⟨q1, q2⟩ => ⟨q1, ⟨U, dv, ?_, fun k hk => .inl hk⟩, q2.mono fun _ _ h => h.elim⟩
    have := hl.ext q2
    obtain ⟨p, b, dt, es, dead⟩ := l
    simp only at hl0 hd0
    subst hl0
    subst hd0
    exact this
  · exact (rimg_some h hl hU hN h1 h2 h3).mono fun e w' ⟨q1, ⟨u, q2⟩, q3⟩ => ⟨q1, ⟨_, u, q2, fun k hk => hk⟩, q3⟩
def LogD (d : Ds) (t : List UInt8) (base : Nat) (es : Tx) (d' : Ds) : Prop :=
  (readD d t = none ∧ es = [] ∧ d' = d) ∨ ∃ b m good ps d2, readD d t = some b ∧ b.length ≤ 1000000 ∧ scan b = (numd m ps, good) ∧ 1 ≤ m ∧ m ≤ base + 1 ∧ m + ps.length ≤ 1099511627776 ∧ ps.length ≤ 100000 ∧ (∀ p ∈ ps, p.length ≤ 900000) ∧ es = ps.drop (base + 1 - m) ∧
    ((good = b.length ∧ d2 = d) ∨ (good < b.length ∧ ∃ d1, truncD d t good = (d1, 0) ∧ eachD syncD d1 [t] = (d2, 0))) ∧ ((es ≠ [] ∧ d' = d2) ∨ (es = [] ∧ eachD removeD d2 [t] = (d', 0)))
theorem rlog_any (h : Dk T w (pv bd) d) (hl : LgAt U w g bd dv ew vs l) (sep : ∀ k, T k → ¬ U k) (hT : ∀ k, T k → X k ∧ k < w.heap.size) (hU : ∀ k, U k → X k ∧ k < w.heap.size) (hup : ∀ k, w.heap.size ≤ k → X k) (hN : Nib w) (he : l.es = []) (hlog : LogD d (logN l.p) l.base es d') :
    Calls Tryd.prog 68 #[pv g] w fun e w' => e = .returned (.int .i64 0) ∧ LDk X w' bd d' g { l with es := es } ∧ Mod X w w' := by
  rcases hlog with ⟨h1, rfl, rfl⟩ | ⟨b, m, good, ps, d2, h1, h2, h3, h4, h5, h6, h7, h8, rfl, h9, h10⟩
  · refine (rlog_none h hl h1).mono fun e w' ⟨q1, q2⟩ => ⟨q1, ⟨T, U, dv, ew, vs, h.ext q2, ?_, sep, fun k hk => ⟨(hT k hk).1, Nat.lt_of_lt_of_le (hT k hk).2 q2.size⟩, fun k hk => ⟨(hU k hk).1, Nat.lt_of_lt_of_le (hU k hk).2 q2.size⟩⟩, q2.mono fun _ _ h => h.elim⟩
    have := hl.ext q2
    obtain ⟨p, b, dt, es, dead⟩ := l
    simp only at he
    subst he
    exact this
  · exact rlog_some h hl sep hT hU hup hN h1 h2 h3 h4 h5 h6 h7 h8 h9 h10
/-- What stands under a ledger's names is one. -/
def OpensD (d : Ds) (p : List UInt8) (d' : Ds) (n : Nat) (dt : List UInt8) (es : Tx) : Prop := ∃ d1, rmT d (imgN p ++ [126]) = (d1, 0) ∧ ImgD d1 (imgN p) n dt ∧ LogD d1 (logN p) n es d'
set_option maxHeartbeats 8000000 in
theorem lopen_any (h : Dk T w (pv bd) d) (hT : ∀ k, T k → X k ∧ k < w.heap.size) (hup : ∀ k, w.heap.size ≤ k → X k) (hN : Nib w) (hnX : ¬ X 0) (hp1 : 1 ≤ p.length) (hp : p.length ≤ 20) (ho : OpensD d p d' n dt es) :
    Calls Tryd.prog 34 #[pv bd, sv p] w fun e w' => ∃ g, e = .returned (.tuple #[pv g, ev 0]) ∧ w.heap.size ≤ g ∧ LDk X w' bd d' g ⟨p, n, dt, es, false⟩ ∧ Mod X w w' := by
  obtain ⟨d1, h1, h2, h3⟩ := ho
  have hsz := sv_size p
  have hb1 : decide ((p.length : Int) < 1) = false := dfalse (by omega)
  have hb2 : decide ((20 : Int) < (p.length : Int)) = false := dfalse (by omega)
  have hcat : ((⟨(imgN p).toArray⟩ : ByteArray) ++ ⟨#[126]⟩) = ⟨(imgN p ++ [126]).toArray⟩ := cat_data (imgN p) [126]
  have hil : (imgN p).length = p.length + 4 := by simp [imgN]
  have hno : ¬ 9223372036854775807 < (imgN p).length + 1 := by omega
  obtain ⟨wa, hwa⟩ : ∃ wa, wa = w.alloc (.cells #[pv bd, sv p, .int .i64 0, .slice none 0 0, .slice none 0 0, .bool false] 103) := ⟨_, rfl⟩
  have xa : Ext w wa := by rw [hwa]; exact (Mod.refl _ _).alloc _
  have hza : wa.heap.size = w.heap.size + 1 := by rw [hwa]; simp
  have hblk : Blk wa w.heap.size 103 (lcells bd ⟨p, 0, [], [], false⟩ (.slice none 0 0) (.slice none 0 0)) := by rw [hwa]; exact Blk.new _ _ _
  have hla : LgAt (fun k => k = w.heap.size) wa w.heap.size bd (.slice none 0 0) (.slice none 0 0) [] ⟨p, 0, [], [], false⟩ :=
    ⟨rfl, hblk, (Own.nil wa 5).sl.mono (fun k _ hk => by cases hk), Own.nil _ _, (fun k hk => by cases hk), rfl, (fun k x e hx => by simp at hx), (fun e he => by cases he), hp, by simp, by simp, by simp⟩
  have himg := img_any hblk (l := ⟨p, 0, [], [], false⟩) hp
  have hrm := lremove_any (h.ext xa) (imgN p ++ [126]) (by simp; omega)
  rw [h1] at hrm
  have hg0 : ∀ k, T k → k ≠ w.heap.size := fun k hk => by have := (hT k hk).2; omega
  have hNa := hN.ext xa
  clear h h1
  go_enter Tryd.func34, Tryd.ntmps34
  go_wp2_with fail
  rw [← hwa]
  clear hwa
  refine himg.mono ?_
  rintro e wx ⟨rfl, rfl⟩
  clear himg
  go_wp2_with fail
  refine hrm.mono ?_
  rintro e w2 ⟨rfl, k2, m2⟩
  have hz2 := m2.size
  have l2 := hla.mod m2 (fun k _ hu ht => hg0 k ht hu)
  have k2 := k2.cut
  have hT2 : ∀ k, (Grow T wx k ∧ k < w2.heap.size) → X k ∧ k < w2.heap.size := fun k hk => ⟨hk.1.elim (fun h => (hT k h).1) (fun h => hup k (by omega)), hk.2⟩
  have hN2 := hNa.mod m2 (fun h => hnX (hT _ h).1)
  have hri := rimg_any (X := X) k2 l2 (fun k hk => ⟨hup k (by omega), by omega⟩) hN2 rfl rfl h2
  have m2' : Mod X w w2 := xa.trans m2 (fun _ _ h => h.elim) (fun k _ h => (hT k h).1)
  clear hrm hla hblk
  go_wp2_with fail
  refine hri.mono ?_
  rintro e w3 ⟨rfl, ⟨U3, u3, l3, hU3⟩, m3⟩
  have hz3 := m3.size
  have m3' : Mod X w w3 := m2'.then_ m3 (fun k _ h => hup k (by omega))
  have k3 := k2.mod m3 (fun k _ hk e => by rcases hk.1 with h | h
                                           · exact hg0 k h e
                                           · omega)
  have hrl := rlog_any (X := X) k3 l3 (fun k hk hu => by
      have h3 := hk.2
      rcases hU3 k hu with e | e
      · rcases hk.1 with h | h
        · exact hg0 k h e
        · have : k = w.heap.size := e
          omega
      · omega) (fun k hk => ⟨(hT2 k hk).1, by have := hk.2; omega⟩) (fun k hu => by
      rcases hU3 k hu with e | e
      · exact ⟨hup k (by have : k = w.heap.size := e; omega), by have : k = w.heap.size := e; omega⟩
      · exact ⟨hup k (by omega), e.2⟩) (fun k hk => hup k (by omega)) (hN2.mod m3 (fun h => hnX (hup _ (by omega)))) rfl h3
  clear hri k2 k3 l2 l3 m2 m3
  go_wp2_with fail
  refine hrl.mono ?_
  rintro e w4 ⟨rfl, H4, m4⟩
  clear hrl
  have m4' : Mod X w w4 := m3'.then_ m4 (fun _ _ h => h)
  go_wp2_with fail
  go_ret2
  exact ⟨_, rfl, Nat.le_refl _, H4, m4'⟩
end
end Go.Proofs.YtnmfkfjeihjkeaaDoor
