/- level: bounds, the eldest. -/
import Derived.Test.YtmjkgibeljbloaaLvE
import Derived.Lib.MinMaxS
namespace Go.Proofs.Ytmjkgibeljbloaa
open Go.RowKit
set_option maxRecDepth 100000

/- THE LEAST FIRST, THE GREATEST LAST -/
def minT (a b : List UInt8) : List UInt8 := if Op.bytesLess b a then b else a
def maxT (a b : List UInt8) : List UInt8 := if Op.bytesLess a b then b else a
theorem run_minT {P : Program} (w : World) (ts : Array TypeId) (t : TypeId) (a b : List UInt8) : (Builtin.min_ ts t #[sv a, sv b]).run P w = .ok (sv (minT a b)) w := by
  have h := Lib.run_min_strs (P := P) w ts t (⟨a.toArray⟩ : ByteArray) (⟨b.toArray⟩ : ByteArray)
  refine h.trans ?_
  congr 1
  unfold Lib.minS minT
  have e : Op.bytesLess b a = decide (b < a) := Proofs.bytesLess_eq b a
  have e2 : Op.bytesLess a b = decide (a < b) := Proofs.bytesLess_eq a b
  show Value.string (if a < b ∨ a = b then _ else _) = sv _
  by_cases hab : a = b
  · subst hab
    rw [less_irr]
    simp
  · have := less_asym a b hab
    cases h1 : Op.bytesLess a b
    · rw [h1] at this e2
      have h2 : Op.bytesLess b a = true := by generalize Op.bytesLess b a = q at this ⊢; cases q; cases this; rfl
      have h4 : ¬ a < b := of_decide_eq_false e2.symm
      rw [if_neg (by rintro (h | h); exact h4 h; exact hab h), if_pos h2]
    · rw [h1] at this e2
      have h2 : Op.bytesLess b a = false := by generalize Op.bytesLess b a = q at this ⊢; cases q; rfl; cases this
      have h4 : a < b := of_decide_eq_true e2.symm
      rw [if_pos (.inl h4), if_neg (by rw [h2]; decide)]
theorem run_maxT {P : Program} (w : World) (ts : Array TypeId) (t : TypeId) (a b : List UInt8) : (Builtin.max_ ts t #[sv a, sv b]).run P w = .ok (sv (maxT a b)) w := by
  have h := Lib.run_max_strs (P := P) w ts t (⟨a.toArray⟩ : ByteArray) (⟨b.toArray⟩ : ByteArray)
  refine h.trans ?_
  congr 1
  unfold Lib.maxS maxT
  have e2 : Op.bytesLess a b = decide (a < b) := Proofs.bytesLess_eq a b
  show Value.string (if a < b then _ else _) = sv _
  cases h1 : Op.bytesLess a b
  · rw [h1] at e2
    rw [if_neg (of_decide_eq_false e2.symm), if_neg (by decide)]
  · rw [h1] at e2
    rw [if_pos (of_decide_eq_true e2.symm), if_pos rfl]
abbrev Tt := List UInt8
def bstep (p : Tt × Tt) (c : Fl) : Tt × Tt := (minT p.1 c.first, maxT p.2 c.last)
/-- The least First and the greatest Last. -/
def bnd (L : List Fl) : Tt × Tt := L.foldl bstep ((L.headD ⟨0, 0, 0, [], []⟩).first, (L.headD ⟨0, 0, 0, [], []⟩).last)
def bndK (L : List Fl) (k : Nat) : Tt × Tt := (L.take k).foldl bstep ((L.headD ⟨0, 0, 0, [], []⟩).first, (L.headD ⟨0, 0, 0, [], []⟩).last)
theorem bndK_next (L : List Fl) {k : Nat} (h : k < L.length) : bndK L (k + 1) = bstep (bndK L k) L[k] := by
  unfold bndK
  rw [List.take_succ_eq_append_getElem h, List.foldl_append]
  rfl
theorem bndK_all (L : List Fl) : bndK L L.length = bnd L := by unfold bndK bnd; rw [List.take_length]
theorem head_get {L : List Fl} (h : 0 < L.length) : L.headD ⟨0, 0, 0, [], []⟩ = L[0] := by
  cases L with
  | nil => simp at h
  | cons a L => rfl
set_option maxHeartbeats 8000000 in
theorem bounds_any {w : World} {S : Nat → Prop} {v : Value} {L : List Fl} (h : Fs w S v L) (hne : 0 < L.length) (hl : L.length ≤ 100000) :
    Calls Try.prog 33 #[v] w fun e w' => e = .returned (.tuple #[sv (bnd L).1, sv (bnd L).2]) ∧ Ext w w' := by
  obtain ⟨A, c, rfl, h1, h2, h3, h4⟩ := h.open_ fic_len
  clear h
  obtain ⟨ad, hA, _, c0, c1, c2, c3, c4⟩ := Fs.at_ h4 hne
  subst hA
  rw [show ad.add (0 * 5) = ad by rw [Nat.zero_mul]; unfold Addr.add; simp] at c0 c1 c2 c3 c4
  have hb0 := bndK_all L
  have hbn := fun k h => @bndK_next L k h
  have hst : bndK L 0 = (L[0].first, L[0].last) := by unfold bndK; rw [head_get hne]; rfl
  obtain ⟨R, hR⟩ : ∃ R, R = bnd L := ⟨_, rfl⟩
  rw [← hR] at hb0 ⊢
  replace hR := Lib.hid hR
  have hmin := fun wx ts t a b => run_minT (P := Try.prog) wx ts t a b
  have hmax := fun wx ts t a b => run_maxT (P := Try.prog) wx ts t a b
  obtain ⟨x0, hx0⟩ : ∃ x, x = L[0] := ⟨_, rfl⟩
  rw [← hx0] at c0 c1 c2 c3 c4 hst
  replace hx0 := Lib.hid hx0
  replace hb0 := Lib.hid hb0
  replace hst := Lib.hid hst
  have hln : (0 : Int) < (L.length : Int) := by omega
  go_enter Try.func33, Try.ntmps33
  go_wp2_with fail
  go_quiet (fail)
  go_wp2_with fail
  go_loopw [2, 3, 16] (fun s t i wr => ∃ (k : Nat), k ≤ L.length ∧ i = .int .i64 k ∧ s = sv (bndK L k).1 ∧ t = sv (bndK L k).2 ∧ Ext w wr) (fun _ _ i _ => L.length - (intOf i).toNat)
  case atStart => exact ⟨0, Nat.zero_le _, rfl, by rw [hst.out], by rw [hst.out], (Mod.refl _ w).drewN _⟩
  case round =>
    clear c0 c1 c2 c3 c4
    obtain ⟨k, hk, rfl, rfl, rfl, hx⟩ := hrel
    by_cases hlt : k < L.length
    case neg =>
      have hbl : decide ((k : Int) < (L.length : Int)) = false := dfalse (by omega)
      obtain rfl : k = L.length := by omega
      go_wp2_with fail
      go_ret2
      exact ⟨by rw [hb0.out]; rfl, hx⟩
    have hbl : decide ((k : Int) < (L.length : Int)) = true := dtrue (by omega)
    obtain ⟨ad', hA, _, c0, c1, c2, c3, c4⟩ := Fs.at_ (h4.ext hx) hlt
    cases hA
    have hsn := Lib.hid (hbn k hlt)
    have hi0 : (0 : Int) ≤ (k : Int) := by omega
    have hi1 : (k : Int) < (L.length : Int) := by omega
    clear hbn
    generalize L[k] = x at *
    generalize bndK L k = B at *
    obtain ⟨lo, hi⟩ := B
    have hbx : Ext wr (wr.alloc (.cells (fia x) 48)) := (Mod.refl _ wr).alloc _
    obtain ⟨z0, z1, z2, z3, z4⟩ := boxedF wr x
    obtain ⟨w3, hw3⟩ : ∃ w3, w3 = wr.alloc (.cells (fia x) 48) := ⟨_, rfl⟩
    rw [← hw3] at hbx z0 z1 z2 z3 z4
    have x3 := ext_trans hx hbx
    replace hw3 := Lib.hid hw3
    clear hx hbx
    go_upto_region 5 with fail
    rw [← hw3.out]
    clear hw3 c0 c1 c2 c3 c4
    go_wp2_with fail
    exact ⟨⟨k + 1, by omega, by go_num, by rw [hsn.out]; rfl, by rw [hsn.out]; rfl, x3⟩, by simp [intOf] <;> omega⟩

/- THE ELDEST -/
def cmpI (a b : Int) : Int := if a < b then -1 else if b < a then 1 else 0
theorem cmpI_lt (a b : Int) : decide (cmpI a b < 0) = decide (a < b) := by
  unfold cmpI
  by_cases h : a < b
  · simp [h]
  · by_cases h2 : b < a <;> simp [h, h2]
set_option maxHeartbeats 4000000 in
theorem isnan_any {w : World} (a : Int) : Calls Try.prog 68 #[.int .i64 a] w fun e w' => e = .returned (.bool false) ∧ w' = w := by
  have h : (a != a) = false := by simp
  go_enter Try.func68, Try.ntmps68
  go_wp2_with fail
  go_ret
  exact ⟨rfl, rfl⟩
set_option maxHeartbeats 4000000 in
theorem cmpint_any {w : World} (a b : Int) : Calls Try.prog 55 #[.int .i64 a, .int .i64 b] w fun e w' => e = .returned (.int .i64 (cmpI a b)) ∧ w' = w := by
  have n1 := fun wx => isnan_any (w := wx) a
  have n2 := fun wx => isnan_any (w := wx) b
  by_cases h1 : a < b
  · have q1 : decide (a < b) = true := dtrue h1
    have hR : Hid (cmpI a b = -1) := Lib.hid (if_pos h1)
    clear h1
    go_enter Try.func55, Try.ntmps55
    go_wp2_with fail
    refine (n1 _).mono ?_
    rintro e w' ⟨rfl, rfl⟩
    go_wp2_with fail
    refine (n2 _).mono ?_
    rintro e w' ⟨rfl, rfl⟩
    go_wp2_with fail
    go_ret
    exact ⟨by rw [hR.out]; rfl, rfl⟩
  have q1 : decide (a < b) = false := dfalse h1
  by_cases h2 : b < a
  · have q2 : decide (b < a) = true := dtrue h2
    have hR : Hid (cmpI a b = 1) := Lib.hid ((if_neg h1).trans (if_pos h2))
    clear h1 h2
    go_enter Try.func55, Try.ntmps55
    go_wp2_with fail
    refine (n1 _).mono ?_
    rintro e w' ⟨rfl, rfl⟩
    go_wp2_with fail
    refine (n2 _).mono ?_
    rintro e w' ⟨rfl, rfl⟩
    go_wp2_with fail
    go_ret
    exact ⟨by rw [hR.out]; rfl, rfl⟩
  have q2 : decide (b < a) = false := dfalse h2
  have hR : Hid (cmpI a b = 0) := Lib.hid ((if_neg h1).trans (if_neg h2))
  clear h1 h2
  go_enter Try.func55, Try.ntmps55
  go_wp2_with fail
  refine (n1 _).mono ?_
  rintro e w' ⟨rfl, rfl⟩
  go_wp2_with fail
  refine (n2 _).mono ?_
  rintro e w' ⟨rfl, rfl⟩
  go_wp2_with fail
  go_ret
  exact ⟨by rw [hR.out]; rfl, rfl⟩
set_option maxHeartbeats 4000000 in
/-- How the eldest is looked for. -/
theorem ecmp_any {w : World} (a b : Fl) : Calls Try.prog 59 #[.agg (fia a), .agg (fia b)] w fun e w' => e = .returned (.int .i64 (cmpI a.id b.id)) ∧ Ext w w' := by
  have hc := fun wx => cmpint_any (w := wx) a.id b.id
  obtain ⟨⟨c0, c1, c2, c3, c4⟩, ⟨d0, d1, d2, d3, d4⟩⟩ := boxedF2 w a b
  have hx : Ext w ((w.alloc (.cells (fia a) 48)).alloc (.cells (fia b) 48)) := ((Mod.refl _ w).alloc _).alloc _
  obtain ⟨w0, hw0⟩ : ∃ w0, w0 = (w.alloc (.cells (fia a) 48)).alloc (.cells (fia b) 48) := ⟨_, rfl⟩
  rw [← hw0] at c0 c1 c2 c3 c4 d0 d1 d2 d3 d4 hx
  replace hw0 := Lib.hid hw0
  go_enter Try.func59, Try.ntmps59
  go_upto_region 1 with fail
  rw [← hw0.out]
  go_wp2_with fail
  refine (hc _).mono ?_
  rintro e w' ⟨rfl, rfl⟩
  go_wp2_with fail
  go_ret
  exact ⟨rfl, hx⟩
def estep (m c : Fl) : Fl := if c.id < m.id then c else m
/-- The file of the least number. -/
def eld (L : List Fl) : Fl := L.foldl estep (L.headD ⟨0, 0, 0, [], []⟩)
def eldK (L : List Fl) (k : Nat) : Fl := (L.take k).foldl estep (L.headD ⟨0, 0, 0, [], []⟩)
theorem eldK_next (L : List Fl) {k : Nat} (h : k < L.length) : eldK L (k + 1) = estep (eldK L k) L[k] := by
  unfold eldK
  rw [List.take_succ_eq_append_getElem h, List.foldl_append]
  rfl
theorem eldK_all (L : List Fl) : eldK L L.length = eld L := by unfold eldK eld; rw [List.take_length]
theorem eldK_zero {L : List Fl} (h : 0 < L.length) : eldK L 0 = L[0] := by unfold eldK; rw [head_get h]; rfl
theorem eldK_one {L : List Fl} (h : 0 < L.length) : eldK L 1 = L[0] := by
  rw [eldK_next L h, eldK_zero h]
  unfold estep
  rw [if_neg (by omega)]
theorem set5 {w : World} {g : Nat} {t : TypeId} {c d : Fl} (B : Blk w g t (fia c)) :
    Blk (((((w.setCell ⟨g, 0, none⟩ (.int .i64 d.id)).setCell ⟨g, 1, none⟩ (.int .i64 d.lev)).setCell ⟨g, 2, none⟩ (.int .i64 d.size)).setCell ⟨g, 3, none⟩ (sv d.first)).setCell ⟨g, 4, none⟩ (sv d.last)) g t (fia d) ∧
    Mod (fun k => k = g) w (((((w.setCell ⟨g, 0, none⟩ (.int .i64 d.id)).setCell ⟨g, 1, none⟩ (.int .i64 d.lev)).setCell ⟨g, 2, none⟩ (.int .i64 d.size)).setCell ⟨g, 3, none⟩ (sv d.first)).setCell ⟨g, 4, none⟩ (sv d.last)) :=
  ⟨((((B.set_ 0 _).set_ 1 _).set_ 2 _).set_ 3 _).set_ 4 _, (((((Mod.refl (fun k => k = g) w).setCell (p := ⟨g, 0, none⟩) (fun _ => rfl) _).setCell (p := ⟨g, 1, none⟩) (fun _ => rfl) _).setCell (p := ⟨g, 2, none⟩) (fun _ => rfl) _).setCell (p := ⟨g, 3, none⟩) (fun _ => rfl) _).setCell (p := ⟨g, 4, none⟩) (fun _ => rfl) _⟩
abbrev fz : Fl := ⟨0, 0, 0, [], []⟩
set_option maxHeartbeats 16000000 in
theorem minfunc_any {w : World} {S : Nat → Prop} {v : Value} {L : List Fl} (h : Fs w S v L) (hne : 0 < L.length) (hl : L.length ≤ 100000) :
    Calls Try.prog 58 #[v, .func (.func 59) #[] #[]] w fun e w' => e = .returned (.agg (fia (eld L))) ∧ Ext w w' := by
  obtain ⟨A, c, rfl, h1, h2, h3, h4⟩ := h.open_ fic_len
  clear h
  obtain ⟨ad, hA, _, c0, c1, c2, c3, c4⟩ := Fs.at_ h4 hne
  subst hA
  rw [show ad.add (0 * 5) = ad by rw [Nat.zero_mul]; unfold Addr.add; simp] at c0 c1 c2 c3 c4
  have hb0 := eldK_all L
  have hbn := fun k h => @eldK_next L k h
  have hst := eldK_one hne
  obtain ⟨R, hR⟩ : ∃ R, R = eld L := ⟨_, rfl⟩
  rw [← hR] at hb0 ⊢
  clear hR
  obtain ⟨y, hy⟩ : ∃ x, x = L[0] := ⟨_, rfl⟩
  rw [← hy] at c0 c1 c2 c3 c4 hst
  clear hy
  have B0 : Blk (w.alloc (.cells #[.int .i64 0, .int .i64 0, .int .i64 0, .string ⟨#[]⟩, .string ⟨#[]⟩] 48)) w.heap.size 48 (fia fz) := Blk.new w _ _
  have x0 : Ext w (w.alloc (.cells #[.int .i64 0, .int .i64 0, .int .i64 0, .string ⟨#[]⟩, .string ⟨#[]⟩] 48)) := (Mod.refl _ w).alloc _
  obtain ⟨w0, hw0⟩ : ∃ w0, w0 = w.alloc (.cells #[.int .i64 0, .int .i64 0, .int .i64 0, .string ⟨#[]⟩, .string ⟨#[]⟩] 48) := ⟨_, rfl⟩
  rw [← hw0] at B0 x0
  have B1 : Blk (w0.alloc (.cells (fia y) 48)) w0.heap.size 48 (fia y) := Blk.new w0 _ _
  have x1 : Ext w0 (w0.alloc (.cells (fia y) 48)) := (Mod.refl _ w0).alloc _
  obtain ⟨w1, hw1⟩ : ∃ w1, w1 = w0.alloc (.cells (fia y) 48) := ⟨_, rfl⟩
  rw [← hw1] at B1 x1
  have B2 := B0.mod x1 (fun h => h)
  obtain ⟨g0, hg0⟩ : ∃ g, g = w.heap.size := ⟨_, rfl⟩
  obtain ⟨g1, hg1⟩ : ∃ g, g = w0.heap.size := ⟨_, rfl⟩
  rw [← hg1] at B1
  rw [← hg0] at B2 B0
  have hgg : g0 < g1 := by rw [hg1]; exact B0.lt
  have hgw : w.heap.size ≤ g0 := by rw [hg0]; exact Nat.le_refl _
  have c0' := ext_cell x0 c0
  have c1' := ext_cell x0 c1
  have c2' := ext_cell x0 c2
  have c3' := ext_cell x0 c3
  have c4' := ext_cell x0 c4
  replace hw0 := Lib.hid hw0
  replace hw1 := Lib.hid hw1
  replace hg0 := Lib.hid hg0
  replace hg1 := Lib.hid hg1
  replace hb0 := Lib.hid hb0
  rw [← hst] at B1
  replace hst := Lib.hid hst
  have y1 := ext_trans x0 x1
  have hln : decide ((L.length : Int) < 1) = false := dfalse (by omega)
  have hln' : decide (L.length < 1) = false := dfalse (by omega)
  have hli : (0 : Int) < (L.length : Int) := by omega
  clear B0 c0 c1 c2 c3 c4
  go_enter Try.func58, Try.ntmps58
  go_upto_region 1 with fail
  rw [← hw0.out, ← hg0.out]
  clear hw0 hg0
  go_upto_region 4 with fail
  rw [← hw1.out, ← hg1.out]
  clear hw1 hg1 c0' c1' c2' c3' c4' x0 x1
  go_wp2_with fail
  go_loopw [6] (fun i wr => ∃ (k : Nat), 1 ≤ k ∧ k ≤ L.length ∧ i = .int .i64 k ∧ Blk wr g1 48 (fia (eldK L k)) ∧ Blk wr g0 48 (fia fz) ∧ Ext w wr) (fun i _ => L.length - (intOf i).toNat)
  case atStart => exact ⟨1, Nat.le_refl _, by omega, rfl, B1, B2, y1⟩
  case round =>
    clear B1 B2 y1
    obtain ⟨k, hk1, hk, rfl, BM, BZ, hx⟩ := hrel
    by_cases hlt : k < L.length
    case neg =>
      have hbl : decide ((k : Int) < (L.length : Int)) = false := dfalse (by omega)
      have hbl' : decide (k < L.length) = false := dfalse (by omega)
      obtain rfl : k = L.length := by omega
      rw [hb0.out] at BM
      obtain ⟨c0, c1, c2, c3, c4⟩ := cell5 BM
      have fz0 := BZ.frozen 0
      have fz1 := BZ.frozen 1
      have fz2 := BZ.frozen 2
      have fz3 := BZ.frozen 3
      have fz4 := BZ.frozen 4
      obtain ⟨z0, z1, z2, z3, z4⟩ := cell5 BZ
      go_wp2_with fail
      refine bodyPost_ret (results_cell_row Try.results58 _ _ _ _ _ _ _ rfl (set5 (d := R) BZ).1 Try.underlying48 rfl (by kernel_rfl)) rfl ?_
      exact ⟨rfl, hx.trans (set5 (d := R) BZ).2 (fun _ _ h => h) (fun b hb h => by omega)⟩
    have hbl : decide ((k : Int) < (L.length : Int)) = true := dtrue (by omega)
    have hbl' : decide (k < L.length) = true := dtrue (by omega)
    have hat : ∀ {wx : World}, Ext w wx → wx.cell? (ad.add (k * 5)) = some (.int .i64 L[k].id) ∧ wx.cell? ⟨(ad.add (k * 5)).block, (ad.add (k * 5)).off + 1, none⟩ = some (.int .i64 L[k].lev) ∧ wx.cell? ⟨(ad.add (k * 5)).block, (ad.add (k * 5)).off + 2, none⟩ = some (.int .i64 L[k].size) ∧ wx.cell? ⟨(ad.add (k * 5)).block, (ad.add (k * 5)).off + 3, none⟩ = some (sv L[k].first) ∧ wx.cell? ⟨(ad.add (k * 5)).block, (ad.add (k * 5)).off + 4, none⟩ = some (sv L[k].last) := fun x => by
      obtain ⟨ad', hA, _, e0, e1, e2, e3, e4⟩ := Fs.at_ (h4.ext x) hlt
      cases hA
      exact ⟨e0, e1, e2, e3, e4⟩
    have hsn := hbn k hlt
    have hi0 : (0 : Int) ≤ (k : Int) := by omega
    have hi1 : (k : Int) < (L.length : Int) := by omega
    have hcmp := fun wx => ecmp_any (w := wx) L[k] (eldK L k)
    have hlt2 := cmpI_lt L[k].id (eldK L k).id
    have q0 : Ext wr wr.drew := (Mod.refl _ wr).drew
    obtain ⟨M2, hM2⟩ : ∃ M2, M2 = eldK L (k + 1) := ⟨_, rfl⟩
    rw [← hM2] at hsn
    replace hM2 := Lib.hid hM2
    clear hbn
    generalize L[k] = x at *
    generalize eldK L k = m at *
    have hbk : ∀ {wx : World}, Ext wr wx → wx.cell? (ad.add (k * 5)) = some (.int .i64 x.id) ∧ wx.cell? ⟨(ad.add (k * 5)).block, (ad.add (k * 5)).off + 1, none⟩ = some (.int .i64 x.lev) ∧ wx.cell? ⟨(ad.add (k * 5)).block, (ad.add (k * 5)).off + 2, none⟩ = some (.int .i64 x.size) ∧ wx.cell? ⟨(ad.add (k * 5)).block, (ad.add (k * 5)).off + 3, none⟩ = some (sv x.first) ∧ wx.cell? ⟨(ad.add (k * 5)).block, (ad.add (k * 5)).off + 4, none⟩ = some (sv x.last) ∧ wx.cell? ⟨g1, 0, none⟩ = some (.int .i64 m.id) ∧ wx.cell? ⟨g1, 1, none⟩ = some (.int .i64 m.lev) ∧ wx.cell? ⟨g1, 2, none⟩ = some (.int .i64 m.size) ∧ wx.cell? ⟨g1, 3, none⟩ = some (sv m.first) ∧ wx.cell? ⟨g1, 4, none⟩ = some (sv m.last) := fun xx => by
      obtain ⟨e0, e1, e2, e3, e4⟩ := hat (ext_trans hx xx)
      obtain ⟨d0, d1, d2, d3, d4⟩ := cell5 (BM.mod xx (fun h => h))
      exact ⟨e0, e1, e2, e3, e4, d0, d1, d2, d3, d4⟩
    go_wp2_with fail
    refine wp_region_held_drew (S := fun wx => wx.cell? (ad.add (k * 5)) = some (.int .i64 x.id) ∧ wx.cell? ⟨(ad.add (k * 5)).block, (ad.add (k * 5)).off + 1, none⟩ = some (.int .i64 x.lev) ∧ wx.cell? ⟨(ad.add (k * 5)).block, (ad.add (k * 5)).off + 2, none⟩ = some (.int .i64 x.size) ∧ wx.cell? ⟨(ad.add (k * 5)).block, (ad.add (k * 5)).off + 3, none⟩ = some (sv x.first) ∧ wx.cell? ⟨(ad.add (k * 5)).block, (ad.add (k * 5)).off + 4, none⟩ = some (sv x.last) ∧ wx.cell? ⟨g1, 0, none⟩ = some (.int .i64 m.id) ∧ wx.cell? ⟨g1, 1, none⟩ = some (.int .i64 m.lev) ∧ wx.cell? ⟨g1, 2, none⟩ = some (.int .i64 m.size) ∧ wx.cell? ⟨g1, 3, none⟩ = some (sv m.first) ∧ wx.cell? ⟨g1, 4, none⟩ = some (sv m.last)) (by kernel_rfl) (hbk q0) (fun hH => ?_)
    (refine wpAnyH_take (i := 0) (oi := ⟨_, _, _, _, _, _⟩) (v := ?tv1) rfl (by kernel_rfl) (by kernel_rfl) (by kernel_rfl) (fun _ _ _ h => h) (Or.inl ⟨by kernel_rfl, ?hy1⟩) hH ?rs1; (case hy1 => (intro wx hSw; (try dsimp only at hSw); go_simp; try with_reducible rfl)); try simp only [Act.put, List.setIfInBounds_toArray, List.set_cons_zero, List.set_cons_succ]; try simp only [List.getElem_toArray, List.getElem_cons_succ, List.getElem_cons_zero])
    (refine wpAnyH_take (i := 1) (oi := ⟨_, _, _, _, _, _⟩) (v := ?tv2) rfl (by kernel_rfl) (by kernel_rfl) (by kernel_rfl) (fun _ _ _ h => h) (Or.inl ⟨by kernel_rfl, ?hy2⟩) hH ?rs2; (case hy2 => (intro wx hSw; (try dsimp only at hSw); go_simp; try with_reducible rfl)); try simp only [Act.put, List.setIfInBounds_toArray, List.set_cons_zero, List.set_cons_succ]; try simp only [List.getElem_toArray, List.getElem_cons_succ, List.getElem_cons_zero])
    (refine wpAnyH_take (i := 2) (oi := ⟨_, _, _, _, _, _⟩) (v := ?tv3) rfl (by kernel_rfl) (by kernel_rfl) (by kernel_rfl) (fun _ _ _ h => h) (Or.inl ⟨by kernel_rfl, ?hy3⟩) hH ?rs3; (case hy3 => (intro wx hSw; (try dsimp only at hSw); go_simp; try with_reducible rfl)); try simp only [Act.put, List.setIfInBounds_toArray, List.set_cons_zero, List.set_cons_succ]; try simp only [List.getElem_toArray, List.getElem_cons_succ, List.getElem_cons_zero])
    (refine wpAnyH_take (i := 3) (oi := ⟨_, _, _, _, _, _⟩) (v := ?tv4) rfl (by kernel_rfl) (by kernel_rfl) (by kernel_rfl) (fun _ _ _ h => h) (Or.inl ⟨by kernel_rfl, ?hy4⟩) hH ?rs4; (case hy4 => (intro wx hSw; (try dsimp only at hSw); go_simp; try with_reducible rfl)); try simp only [Act.put, List.setIfInBounds_toArray, List.set_cons_zero, List.set_cons_succ]; try simp only [List.getElem_toArray, List.getElem_cons_succ, List.getElem_cons_zero])
    (refine wpAnyH_take (i := 4) (oi := ⟨_, _, _, _, _, _⟩) (v := ?tv5) rfl (by kernel_rfl) (by kernel_rfl) (by kernel_rfl) (fun _ _ _ h => h) (Or.inl ⟨by kernel_rfl, ?hy5⟩) hH ?rs5; (case hy5 => (intro wx hSw; (try dsimp only at hSw); go_simp; try with_reducible rfl)); try simp only [Act.put, List.setIfInBounds_toArray, List.set_cons_zero, List.set_cons_succ]; try simp only [List.getElem_toArray, List.getElem_cons_succ, List.getElem_cons_zero])
    (refine wpAnyH_take (i := 5) (oi := ⟨_, _, _, _, _, _⟩) (v := ?tv6) rfl (by kernel_rfl) (by kernel_rfl) (by kernel_rfl) (fun _ _ _ h => h) (Or.inl ⟨by kernel_rfl, ?hy6⟩) hH ?rs6; (case hy6 => (intro wx hSw; (try dsimp only at hSw); go_simp; try with_reducible rfl)); try simp only [Act.put, List.setIfInBounds_toArray, List.set_cons_zero, List.set_cons_succ]; try simp only [List.getElem_toArray, List.getElem_cons_succ, List.getElem_cons_zero])
    (refine wpAnyH_ready (rs := [6]) (by kernel_rfl) (by simp) ?_; refine AllReadyH.cons rfl (fun K hK => ?_) AllReadyH.nil; go_simp)
    refine (hcmp _).mono ?_
    rintro e wa ⟨rfl, xa⟩
    have q1 := ext_trans q0 xa
    (go_wp2_with fail; refine hK.out _ _ (hbk q1) (fun hH => ?_); clear hK K; try simp only [Act.put, List.setIfInBounds_toArray, List.set_cons_zero, List.set_cons_succ]; try simp only [List.getElem_toArray, List.getElem_cons_succ, List.getElem_cons_zero])
    (refine wpAnyH_take (i := 7) (oi := ⟨_, _, _, _, _, _⟩) (v := ?tv7) rfl (by kernel_rfl) (by kernel_rfl) (by kernel_rfl) (fun _ _ _ h => h) (Or.inl ⟨by kernel_rfl, ?hy7⟩) hH ?rs7; (case hy7 => (intro wx hSw; (try dsimp only at hSw); go_simp; try with_reducible rfl)); try simp only [Act.put, List.setIfInBounds_toArray, List.set_cons_zero, List.set_cons_succ]; try simp only [List.getElem_toArray, List.getElem_cons_succ, List.getElem_cons_zero])
    refine wpAnyH_done (by kernel_rfl) ?_ _
    have BM2 := BM.mod q1 (fun h => h)
    have BZ2 := BZ.mod q1 (fun h => h)
    have y2 := ext_trans hx q1
    obtain ⟨e0, e1, e2, e3, e4, d0, d1, d2, d3, d4⟩ := hbk q1
    clear hbk hat hcmp BM BZ
    by_cases hc : x.id < m.id
    · have hc2 : decide (x.id < m.id) = true := dtrue hc
      have hs2 : Hid (M2 = x) := Lib.hid (hsn.trans (if_pos hc))
      have fz0 := BM2.frozen 0
      have fz1 := BM2.frozen 1
      have fz2 := BM2.frozen 2
      have fz3 := BM2.frozen 3
      have fz4 := BM2.frozen 4
      clear hsn hlt2
      go_wp2_with fail
      have s5 := set5 (d := x) BM2
      exact ⟨⟨k + 1, by omega, by omega, by go_num, by rw [← hM2.out, hs2.out]; exact s5.1, BZ2.mod s5.2 (fun h => by omega), y2.trans s5.2 (fun _ _ h => h) (fun b hb h => by omega)⟩, by simp [intOf] <;> omega⟩
    · have hc2 : decide (x.id < m.id) = false := dfalse hc
      have hs2 : Hid (M2 = m) := Lib.hid (hsn.trans (if_neg hc))
      clear hsn hlt2
      go_wp2_with fail
      exact ⟨⟨k + 1, by omega, by omega, by go_num, by rw [← hM2.out, hs2.out]; exact BM2, BZ2, y2⟩, by simp [intOf] <;> omega⟩
set_option maxHeartbeats 16000000 in
theorem eldest_any {w : World} {S : Nat → Prop} {v : Value} {L : List Fl} (h : Fs w S v L) (hne : 0 < L.length) (hl : L.length ≤ 100000) :
    Calls Try.prog 35 #[v] w fun e w' => e = .returned (.agg (fia (eld L))) ∧ Ext w w' := by
  have B0 : Blk (w.alloc (.cells #[.int .i64 0, .int .i64 0, .int .i64 0, .string ⟨#[]⟩, .string ⟨#[]⟩] 48)) w.heap.size 48 (fia fz) := Blk.new w _ _
  have x0 : Ext w (w.alloc (.cells #[.int .i64 0, .int .i64 0, .int .i64 0, .string ⟨#[]⟩, .string ⟨#[]⟩] 48)) := (Mod.refl _ w).alloc _
  obtain ⟨w0, hw0⟩ : ∃ w0, w0 = w.alloc (.cells #[.int .i64 0, .int .i64 0, .int .i64 0, .string ⟨#[]⟩, .string ⟨#[]⟩] 48) := ⟨_, rfl⟩
  rw [← hw0] at B0 x0
  replace hw0 := Lib.hid hw0
  have hm := minfunc_any (h.ext x0) hne hl
  generalize eld L = R at *
  go_enter Try.func35, Try.ntmps35
  go_upto_region 1 with fail
  rw [← hw0.out]
  clear hw0
  go_wp2_with fail
  refine hm.mono ?_
  rintro e w' ⟨rfl, x1⟩
  have BZ := B0.mod x1 (fun h => h)
  have fz0 := BZ.frozen 0
  have fz1 := BZ.frozen 1
  have fz2 := BZ.frozen 2
  have fz3 := BZ.frozen 3
  have fz4 := BZ.frozen 4
  obtain ⟨z0, z1, z2, z3, z4⟩ := cell5 BZ
  go_wp2_with fail
  refine bodyPost_ret (results_cell_row Try.results35 _ _ _ _ _ _ _ rfl (set5 (d := R) BZ).1 Try.underlying48 rfl (by kernel_rfl)) rfl ?_
  exact ⟨rfl, (ext_trans x0 x1).trans (set5 (d := R) BZ).2 (fun _ _ h => h) (fun b hb h => by omega)⟩
end Go.Proofs.Ytmjkgibeljbloaa
