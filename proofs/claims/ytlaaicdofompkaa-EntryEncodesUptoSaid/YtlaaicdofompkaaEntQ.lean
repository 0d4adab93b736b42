/- entry: the law EntryBack. -/
import Derived.Test.YtlaaicdofompkaaEntP
namespace Go.Proofs.Ytlaaicdofompkaa
open Go.RowKit
set_option maxRecDepth 100000

theorem enc7_two {n : Nat} (h : n < 16384) : (enc7 n).length ≤ 2 := by
  by_cases h1 : n < 128
  · rw [enc7_lo h1]; exact Nat.le_succ 1
  · rw [enc7_hi h1, enc7_lo (by omega)]; exact Nat.le_refl _
theorem lb_two {l : List UInt8} (h : l.length < 16384) : (lb l).length ≤ 2 + l.length := by
  have := enc7_two h
  unfold lb; rw [List.length_append]; omega
theorem vals_tight : ∀ (vs : List (List UInt8)), (∀ v ∈ vs, v.length ≤ 256) → (vs.flatMap lb).length ≤ 258 * vs.length ∧ wV vs ≤ 257 * vs.length
  | [], _ => ⟨Nat.zero_le _, Nat.zero_le _⟩
  | v :: vs, h => by
    obtain ⟨h1, h2⟩ := vals_tight vs (fun x hx => h x (List.mem_cons_of_mem _ hx))
    have h3 := h v List.mem_cons_self
    have h4 := lb_two (l := v) (by omega)
    have e : wV (v :: vs) = 1 + v.length + wV vs := rfl
    rw [List.flatMap_cons, List.length_append, List.length_cons, e]
    constructor <;> omega
theorem avs_tight : ∀ (d : List Av), (∀ a ∈ d, okA a) → (d.flatMap avE).length ≤ 100 * d.length ∧ wD d ≤ 97 * d.length
  | [], _ => ⟨Nat.zero_le _, Nat.zero_le _⟩
  | a :: d, h => by
    obtain ⟨h1, h2⟩ := avs_tight d (fun x hx => h x (List.mem_cons_of_mem _ hx))
    obtain ⟨⟨_, h3, _⟩, _, h5⟩ := h a List.mem_cons_self
    have h6 := lb_two (l := a.1) (by omega)
    have h7 := lb_two (l := a.2) (by omega)
    have e : wD (a :: d) = 1 + a.1.length + a.2.length + wD d := rfl
    have e2 : (avE a).length = (lb a.1).length + (lb a.2).length := List.length_append
    rw [List.flatMap_cons, List.length_append, List.length_cons, e, e2]
    constructor <;> omega
theorem ats_tight : ∀ (d : List Att), (∀ a ∈ d, isAt a) → (d.flatMap atE).length ≤ 4164 * d.length ∧ wA d ≤ 4145 * d.length
  | [], _ => ⟨Nat.zero_le _, Nat.zero_le _⟩
  | a :: d, h => by
    obtain ⟨h1, h2⟩ := ats_tight d (fun x hx => h x (List.mem_cons_of_mem _ hx))
    obtain ⟨⟨_, h3, _⟩, _, h5, h8⟩ := h a List.mem_cons_self
    have h6 := lb_two (l := a.typ) (by omega)
    have h9 := vals_tight a.vals h8
    have h7 := enc7_two (n := a.vals.length) (by omega)
    have e : wA (a :: d) = 1 + a.typ.length + wV a.vals + wA d := rfl
    have e2 : (atE a).length = (lb a.typ).length + ((enc7 a.vals.length).length + (a.vals.flatMap lb).length) := by unfold atE; rw [List.length_append, List.length_append]
    rw [List.flatMap_cons, List.length_append, List.length_cons, e, e2]
    constructor <;> omega
theorem isE_tight {e : Ent} (h : isE e) : (encE e).length ≤ 100000 ∧ wE e ≤ 100000 := by
  obtain ⟨⟨h1, h2⟩, h3, h4⟩ := h
  have h5 := avs_tight e.dn h2
  have h6 := ats_tight e.ats h4
  have h7 := enc7_two (n := e.dn.length) (by omega)
  have h8 := enc7_two (n := e.ats.length) (by omega)
  unfold encE wE
  simp only [List.length_append]
  constructor <;> omega
theorem dec_enc {e : Ent} (h : isE e) : decE (encE e) = e ∧ decN (encE e) = 0 := by
  have hr := read_enc h
  have hg : goodE (encE e) := ⟨by rw [hr], by rw [hr]; exact h, by rw [hr]⟩
  unfold decE decN
  rw [if_pos hg, if_pos hg, hr]
  exact ⟨rfl, rfl⟩
theorem Rc.lit1 {α : Type} {f : α → List Value} {k : Nat} (hf : ∀ x, (f x).length = k) (w : World) (e : TypeId) (x : α) : Rc f k (w.alloc (.cells (f x).toArray e)) (fun b => b = w.heap.size) (.slice (some ⟨w.heap.size, 0, none⟩) 1 1) [x] := by
  have := SlK.one w e (f x) k (hf x)
  unfold Rc
  simpa using this
/-- A slice of texts of one's own, whatever they are. -/
def Txt (B : Nat) (w : World) (v : Value) (m : Nat) : Prop := ∃ A cap, v = .slice A m cap ∧ ∀ k, k < m → ∃ b cs, A = some ⟨b, 0, none⟩ ∧ B ≤ b ∧ Blk w b 9 cs ∧ m ≤ cs.size
theorem Txt.of {B : Nat} {w : World} {v : Value} {xs : List Value} (h : Own w 9 v xs) (hf : Fresh B v) : Txt B w v xs.length := by
  rcases h.2 with ⟨rfl, h0⟩ | ⟨g, cap, cur, rfl, _, hh, h1, _, h2, _⟩
  · exact ⟨none, 0, by rw [h0], fun k hk => by omega⟩
  · exact ⟨_, cap, rfl, fun k hk => ⟨g, cur, rfl, hf g rfl, hh, by omega⟩⟩
theorem Txt.mod {B m : Nat} {F : Nat → Prop} {w w' : World} {v : Value} (h : Txt B w v m) (hm : Mod F w w') (hn : ∀ b cs, Blk w b 9 cs → ¬ F b) : Txt B w' v m := by
  obtain ⟨A, cap, rfl, h1⟩ := h
  refine ⟨A, cap, rfl, fun k hk => ?_⟩
  obtain ⟨b, cs, e, h2, h3, h4⟩ := h1 k hk
  exact ⟨b, cs, e, h2, h3.mod hm (hn b cs h3), h4⟩
theorem Txt.set_ {B m b0 i : Nat} {w : World} {v u : Value} {cs0 : Array Value} (h : Txt B w v m) (hb : Blk w b0 9 cs0) : Txt B (w.setCell ⟨b0, i, none⟩ u) v m := by
  obtain ⟨A, cap, rfl, h1⟩ := h
  refine ⟨A, cap, rfl, fun k hk => ?_⟩
  obtain ⟨b, cs, e, h2, h3, h4⟩ := h1 k hk
  by_cases hbb : b = b0
  · subst hbb
    exact ⟨b, _, e, h2, h3.set_ i u, by simpa using h4⟩
  · exact ⟨b, cs, e, h2, h3.mod (setc_mod w b0 i u) hbb, h4⟩
/-- Attributes of one's own, whatever they are; the number of each one's values. -/
def Spl (B : Nat) (w : World) (v : Value) (L : List Att) : Prop := ∃ A cap, v = .slice A L.length cap ∧ ∀ (k : Nat) (hk : k < L.length), ∃ g cs y, A = some ⟨g, 0, none⟩ ∧ B ≤ g ∧ Blk w g 46 cs ∧ k * 2 + 1 < cs.size ∧ cs[k * 2 + 1]? = some y ∧ Txt B w y L[k].vals.length
theorem Spl.of {B : Nat} {w : World} {v : Value} {rs : List AtV} {L : List Att} (h : OAt w v rs L) (hf : Fresh B v) (hfe : ∀ r ∈ rs, Fresh B r.2) : Spl B w v L := by
  have hl := h.len
  have hrc := h.own.rc
  obtain ⟨A, c, hv, _, _, _, h4⟩ := hrc.open_ atc_len
  refine ⟨A, c, by rw [hv, hl], fun k hk => ?_⟩
  have hkr : k < rs.length := by omega
  obtain ⟨h5, h6⟩ := h.els k rs[k] L[k] (by rw [List.getElem?_eq_getElem hkr]) (by rw [List.getElem?_eq_getElem hk])
  have ht := Txt.of h6 (hfe _ (List.getElem_mem hkr))
  rw [List.length_map] at ht
  rcases h.own.2 with ⟨_, h0⟩ | ⟨g, cap, cur, hv2, _, hh, h1, _, h2, _⟩
  · omega
  · obtain ⟨ad, e1, _, c1⟩ := h4 k 1 _ hkr (by omega) rfl
    have e2 : A = some ⟨g, 0, none⟩ := by rw [hv] at hv2; injection hv2
    rw [e2] at e1
    injection e1 with e1
    have hB : Blk w g 46 cur := hh
    rw [← e1, add_lit, hB.cell] at c1
    exact ⟨g, cur, rs[k].2, e2, hf g (by rw [hv2]; rfl), hB, by omega, c1, ht⟩
theorem Spl.setT {B g i : Nat} {w : World} {v u : Value} {L : List Att} {cs : Array Value} (h : Spl B w v L) (hB : Blk w g 46 cs) : Spl B (w.setCell ⟨g, i * 2, none⟩ u) v L := by
  obtain ⟨A, cap, rfl, h1⟩ := h
  refine ⟨A, cap, rfl, fun k hk => ?_⟩
  obtain ⟨g', cs', y, e, h2, h3, h4, h5, h6⟩ := h1 k hk
  have ht := h6.mod (setc_mod w g (i * 2) u) (fun b cs' hb e => hb.ne_ hB (by decide) e)
  by_cases hgg : g' = g
  · subst hgg
    refine ⟨g', _, y, e, h2, h3.set_ (i * 2) u, by simpa using h4, ?_, ht⟩
    rw [Array.getElem?_setIfInBounds_ne (by omega)]
    exact h5
  · exact ⟨g', cs', y, e, h2, h3.mod (setc_mod w g (i * 2) u) hgg, h4, h5, ht⟩
theorem Spl.setV {B b i : Nat} {w : World} {v u : Value} {L : List Att} {cs : Array Value} (h : Spl B w v L) (hB : Blk w b 9 cs) : Spl B (w.setCell ⟨b, i, none⟩ u) v L := by
  obtain ⟨A, cap, rfl, h1⟩ := h
  refine ⟨A, cap, rfl, fun k hk => ?_⟩
  obtain ⟨g', cs', y, e, h2, h3, h4, h5, h6⟩ := h1 k hk
  exact ⟨g', cs', y, e, h2, h3.mod (setc_mod w b i u) (fun e => h3.ne_ hB (by decide) e), h4, h5, h6.set_ hB⟩
theorem Spl.ext {B : Nat} {w w' : World} {v : Value} {L : List Att} (h : Spl B w v L) (x : Ext w w') : Spl B w' v L := by
  obtain ⟨A, cap, rfl, h1⟩ := h
  refine ⟨A, cap, rfl, fun k hk => ?_⟩
  obtain ⟨g', cs', y, e, h2, h3, h4, h5, h6⟩ := h1 k hk
  exact ⟨g', cs', y, e, h2, h3.mod x (fun h => h), h4, h5, h6.mod x (fun _ _ _ h => h)⟩

set_option maxHeartbeats 8000000 in
theorem lback_any {w : World} {vd va : Value} {e : Ent} (hd : As w All vd e.dn) (ha : Ats w va e.ats) (hF : EFits e) : Calls Try.prog 5 #[.agg #[vd, va]] w fun e' w' => e' = .returned (.bool true) ∧ Ext w w' := by
  obtain ⟨A, c, hva, -⟩ := ha.open_
  obtain ⟨A0, c0, hvd⟩ := Rc.shape hd
  obtain ⟨n, hn⟩ : ∃ n, n = e.ats.length := ⟨_, rfl⟩
  obtain ⟨n0, hn0⟩ : ∃ n, n = e.dn.length := ⟨_, rfl⟩
  rw [← hn] at hva
  rw [← hn0] at hvd
  subst hva
  subst hvd
  obtain ⟨w1, hw1⟩ : ∃ x, x = w.alloc (.cells #[.slice A0 n0 c0, .slice A n c] 25) := ⟨_, rfl⟩
  obtain ⟨p, hp⟩ : ∃ p, p = w.heap.size := ⟨_, rfl⟩
  have x1 : Ext w w1 := by rw [hw1]; exact (Mod.refl _ w).alloc _
  have BP : Blk w1 p 25 #[.slice A0 n0 c0, .slice A n c] := by rw [hw1, hp]; exact Blk.new w _ _
  obtain ⟨w2, hw2⟩ : ∃ x, x = w1.alloc (.cells #[.slice A0 n0 c0, .slice A n c] 25) := ⟨_, rfl⟩
  obtain ⟨p2, hp2⟩ : ∃ p, p = w1.heap.size := ⟨_, rfl⟩
  have x2 : Ext w1 w2 := by rw [hw2]; exact (Mod.refl _ w1).alloc _
  have y2 := ext_trans x1 x2
  have hE : Ents w2 (.slice (some ⟨p2, 0, none⟩) 1 1) [e] := by
    refine ⟨[(.slice A0 n0 c0, .slice A n c)], ?_, rfl, fun k x e' hx he => ?_⟩
    · have h := Rc.lit1 enc2_len w1 25 ((.slice A0 n0 c0, .slice A n c) : EnV)
      rw [hw2, hp2]
      exact h.mono (fun _ _ _ => trivial)
    · cases k with
      | zero =>
        simp at hx he
        subst hx; subst he
        exact ⟨hd.ext y2, ha.ext y2⟩
      | succ k => simp at hx
  have hg := great20_any hE (by simp) (fun x hx => by rw [List.mem_singleton.1 hx]; exact hF)
  have hax := fun {wx : World} (x : Ext w wx) => And.intro (hd.ext x) (ha.ext x)
  replace hw1 := Lib.hid hw1
  replace hp := Lib.hid hp
  replace hw2 := Lib.hid hw2
  replace hp2 := Lib.hid hp2
  replace hn := Lib.hid hn
  replace hn0 := Lib.hid hn0
  have hpc : ∀ {wx : World}, Ext w1 wx → wx.cell? ⟨p, 0, none⟩ = some (.slice A0 n0 c0) ∧ wx.cell? ⟨p, 1, none⟩ = some (.slice A n c) := fun x => ⟨(BP.mod x (fun h => h)).cell 0, (BP.mod x (fun h => h)).cell 1⟩
  have p0 : w1.cell? ⟨p, 0, none⟩ = some (.slice A0 n0 c0) := BP.cell 0
  have p1 : w1.cell? ⟨p, 1, none⟩ = some (.slice A n c) := BP.cell 1
  clear hd ha hE
  go_enter Try.func5, Try.ntmps5
  go_upto_region 1 with fail
  rw [← hw1.out, ← hp.out]
  clear hw1 hp
  go_wp2_with fail
  rw [← hw2.out, ← hp2.out]
  refine hg.mono ?_
  rintro e' w3 ⟨⟨r, rfl, -⟩, x3⟩
  have y3 := ext_trans x2 x3
  have hIs := reis_fits (hax (ext_trans x1 y3)).1 (hax (ext_trans x1 y3)).2 hF
  have p03 : w3.cell? ⟨p, 0, none⟩ = some (.slice A0 n0 c0) := (hpc y3).1
  have p13 : w3.cell? ⟨p, 1, none⟩ = some (.slice A n c) := (hpc y3).2
  clear hg hw2 hp2 p0 p1 x2 x3 y2
  cases r
  case true =>
    go_wp2_with fail
    go_ret
    exact ⟨rfl, ext_trans x1 y3⟩
  by_cases hi : isE e
  case neg =>
    rw [decide_eq_false hi] at hIs
    go_wp2_with fail
    refine hIs.mono ?_
    rintro e' w4 ⟨rfl, x4⟩
    go_wp2_with fail
    go_ret
    exact ⟨rfl, ext_trans x1 (ext_trans y3 x4)⟩
  rw [decide_eq_true hi] at hIs
  obtain ⟨hl1, hwe⟩ := isE_tight hi
  obtain ⟨hde, hdn⟩ := dec_enc hi
  have hbE : bytesE e = encE e := if_pos hi
  have hcE : codeE e = 0 := if_pos hi
  go_wp2_with fail
  refine hIs.mono ?_
  rintro e' w4 ⟨rfl, x4⟩
  have y4 := ext_trans y3 x4
  have hEn := eenc_any (hax (ext_trans x1 y4)).1 (hax (ext_trans x1 y4)).2 (by omega)
  have hRn := fun {wx : World} (x : Ext w wx) => reenc_any (hax x).1 (hax x).2 (by omega)
  rw [hbE, hcE] at hEn
  rw [hbE, hcE] at hRn
  have p04 : w4.cell? ⟨p, 0, none⟩ = some (.slice A0 n0 c0) := (hpc y4).1
  have p14 : w4.cell? ⟨p, 1, none⟩ = some (.slice A n c) := (hpc y4).2
  generalize encE e = s at *
  clear hIs hi hbE hcE x4 p03 p13 y3
  go_wp2_with fail
  refine hEn.mono ?_
  rintro e' w5 ⟨rfl, x5⟩
  have y5 := ext_trans y4 x5
  have hDe := edec_any (w := w5) (s := s) (by omega)
  rw [hde, hdn] at hDe
  clear hEn p04 p14 x5 y4
  go_wp2_with fail
  refine hDe.mono ?_
  rintro e' w6 ⟨vb, vab, rfl, hbd, hba, x6⟩
  obtain ⟨B, d, hv2, -⟩ := hba.open_
  obtain ⟨B0, d0, hv1⟩ := Rc.shape hbd
  rw [← hn.out] at hv2
  rw [← hn0.out] at hv1
  subst hv1
  subst hv2
  obtain ⟨w7, hw7⟩ : ∃ x, x = w6.alloc (.cells #[.slice B0 n0 d0, .slice B n d] 25) := ⟨_, rfl⟩
  obtain ⟨g5, hg5⟩ : ∃ g, g = w6.heap.size := ⟨_, rfl⟩
  have x7 : Ext w6 w7 := by rw [hw7]; exact (Mod.refl _ w6).alloc _
  have B5 : Blk w7 g5 25 #[.slice B0 n0 d0, .slice B n d] := by rw [hw7, hg5]; exact Blk.new w6 _ _
  have y7 := ext_trans y5 (ext_trans x6 x7)
  have hbd7 := hbd.ext x7
  have hba7 := hba.ext x7
  have hOw := own20_any (hax (ext_trans x1 y7)).1 (hax (ext_trans x1 y7)).2 hF
  have p07 : w7.cell? ⟨p, 0, none⟩ = some (.slice A0 n0 c0) := (hpc y7).1
  have p17 : w7.cell? ⟨p, 1, none⟩ = some (.slice A n c) := (hpc y7).2
  replace hw7 := Lib.hid hw7
  replace hg5 := Lib.hid hg5
  clear hDe hbd hba x6 x7 y5
  go_upto_region 5 with fail
  rw [← hw7.out, ← hg5.out]
  clear hw7 hg5
  go_wp2_with fail
  refine hOw.mono ?_
  rintro e' w8 ⟨vd', va', rs, rfl, od, oa, fd, fa, fe, x8⟩
  have hS8 := Spl.of oa fa fe
  obtain ⟨A3, c3, hv3⟩ := OwnR.shape od
  obtain ⟨A4, c4, hv4, -⟩ := hS8
  have hS8 := Spl.of oa fa fe
  rw [← hn.out] at hv4
  rw [← hn0.out] at hv3
  subst hv3
  subst hv4
  obtain ⟨w9, hw9⟩ : ∃ x, x = w8.alloc (.cells #[.slice A3 n0 c3, .slice A4 n c4] 25) := ⟨_, rfl⟩
  obtain ⟨g7, hg7⟩ : ∃ g, g = w8.heap.size := ⟨_, rfl⟩
  have x9 : Ext w8 w9 := by rw [hw9]; exact (Mod.refl _ w8).alloc _
  have B7 : Blk w9 g7 25 #[.slice A3 n0 c3, .slice A4 n c4] := by rw [hw9, hg7]; exact Blk.new w8 _ _
  have hS9 := hS8.ext x9
  have x79 := ext_trans x8 x9
  have hb7 : w7.heap.size ≤ g7 := by rw [hg7]; exact x8.size
  obtain ⟨b7, hb7e⟩ : ∃ b, b = w7.heap.size := ⟨_, rfl⟩
  rw [← hb7e] at hS9
  have hgl := hF.len
  have hN : n ≤ 9223372036854775806 := by have := hn.out; omega
  have hfm := hF.els
  replace hw9 := Lib.hid hw9
  replace hg7 := Lib.hid hg7
  replace hb7e := Lib.hid hb7e
  clear hOw od oa fd fa fe x8 x9 hS8 p07 p17 hb7
  go_upto_region 6 with fail
  rw [← hw9.out, ← hg7.out]
  clear hw9 hg7
  go_wp2_with fail
  go_loopw [8] (fun i wr => ∃ k : Nat, k ≤ n ∧ i = .int .i64 k ∧ Ext w7 wr ∧ Blk wr g7 25 #[.slice A3 n0 c3, .slice A4 n c4] ∧ Spl b7 wr (.slice A4 n c4) e.ats) (fun i _ => n - (intOf i).toNat)
  case atStart => exact ⟨0, Nat.zero_le _, rfl, x79, B7, hS9⟩
  case round =>
    clear x79 B7 hS9
    obtain ⟨k, hk, rfl, hx, B7, hS⟩ := hrel
    have g71 : wr.cell? ⟨g7, 1, none⟩ = some (.slice A4 n c4) := B7.cell 1
    by_cases hlt : k < n
    case neg =>
      have hbl : decide ((k : Int) < (n : Int)) = false := dfalse (by omega)
      have hbn : decide (k < n) = false := dfalse (by omega)
      have zx := ext_trans y7 hx
      have p0 : wr.cell? ⟨p, 0, none⟩ = some (.slice A0 n0 c0) := (hpc zx).1
      have p1 : wr.cell? ⟨p, 1, none⟩ = some (.slice A n c) := (hpc zx).2
      have hRr := hRn (ext_trans x1 zx)
      clear hS B7
      go_wp2_with fail
      refine hRr.mono ?_
      rintro e' w10 ⟨rfl, x10⟩
      have zy := ext_trans zx x10
      have q0 : w10.cell? ⟨p, 0, none⟩ = some (.slice A0 n0 c0) := (hpc zy).1
      have q1 : w10.cell? ⟨p, 1, none⟩ = some (.slice A n c) := (hpc zy).2
      have x70 := ext_trans hx x10
      have g50 : w10.cell? ⟨g5, 0, none⟩ = some (.slice B0 n0 d0) := (B5.mod x70 (fun h => h)).cell 0
      have g51 : w10.cell? ⟨g5, 1, none⟩ = some (.slice B n d) := (B5.mod x70 (fun h => h)).cell 1
      have hSm := rsame20_any (a := e) (b := e) (hax (ext_trans x1 zy)).1 (hax (ext_trans x1 zy)).2 (hbd7.ext x70) (hba7.ext x70) (by omega) (by omega)
      rw [sameE_refl] at hSm
      have q5 : (((0 : Nat) : Int) == 0) = true := rfl
      have hq : (s == s) = true := beq_self_eq_true s
      have hkn := fun wx => known20_any (w := wx)
      clear hRr p0 p1 g71 hRn hax hpc
      go_wp2_with fail
      refine hSm.mono ?_
      rintro e' w11 ⟨rfl, x11⟩
      have hk11 := hkn w11
      clear hkn hSm
      go_wp2_with fail
      refine hk11.mono ?_
      rintro e' w12 ⟨rfl, x12⟩
      go_wp2_with fail
      go_ret
      exact ⟨rfl, ext_trans (ext_trans x1 zy) (ext_trans x11 x12)⟩
    have hbl : decide ((k : Int) < (n : Int)) = true := dtrue (by omega)
    have hbn : decide (k < n) = true := dtrue (by omega)
    have hi0 : (0 : Int) ≤ (k : Int) := by omega
    have hi1 : (k : Int) < (n : Int) := by omega
    have l1 : k < e.ats.length := by have := hn.out; omega
    obtain ⟨A5, c5, hv5, hat⟩ := id hS
    obtain ⟨g, cs, y, hA, hgB, hB, hsz, hcy, hT⟩ := hat k l1
    injection hv5 with hv5 _ hv6
    subst hv5
    subst hv6
    obtain ⟨ad, had⟩ : ∃ a : Addr, a = ⟨g, 0, none⟩ := ⟨_, rfl⟩
    rw [← had] at hA
    subst hA
    have hadk : ad.add (k * 2) = ⟨g, k * 2, none⟩ := by rw [had, add_lit]
    have hcs : cs[k * 2]? = some (cs[k * 2]'(by omega)) := Array.getElem?_eq_getElem (by omega)
    generalize cs[k * 2]'(by omega) = u0 at hcs
    have o0 : wr.cell? (ad.add (k * 2)) = some u0 := by rw [hadk, hB.cell]; exact hcs
    have fz : wr.frozen? (ad.add (k * 2)) = false := by rw [hadk]; exact hB.frozen _
    obtain ⟨u, hu⟩ : ∃ u : Value, u = .string ⟨#[115, 112, 111, 105, 108, 116]⟩ := ⟨_, rfl⟩
    have hvl := (hfm _ (List.getElem_mem l1)).2.1
    obtain ⟨m, hm⟩ : ∃ m, m = e.ats[k].vals.length := ⟨_, rfl⟩
    rw [← hm] at hvl hT
    have hM : m ≤ 9223372036854775806 := by omega
    obtain ⟨w10, hw10⟩ : ∃ x, x = wr.setCell (ad.add (k * 2)) (.string ⟨#[115, 112, 111, 105, 108, 116]⟩) := ⟨_, rfl⟩
    have e10 : w10 = wr.setCell ⟨g, k * 2, none⟩ u := by rw [hw10, hadk, hu]
    have hgne : g7 ≠ g := B7.ne_ hB (by decide)
    have hx10 : Ext w7 w10 := by
      rw [e10]
      exact hx.trans (setc_mod wr g (k * 2) u) (fun _ _ h => h) (fun b hb h => by have := hb7e.out; omega)
    have B10 : Blk w10 g7 25 #[.slice A3 n0 c3, .slice (some ad) n c4] := by rw [e10]; exact B7.mod (setc_mod wr g (k * 2) u) hgne
    have hS10 : Spl b7 w10 (.slice (some ad) n c4) e.ats := by rw [e10]; exact hS.setT hB
    replace hw10 := Lib.hid hw10
    clear hat hS hT hcy hsz hB hadk had e10 hgne
    replace hm := Lib.hid hm
    go_upto_region 10 with fail
    rw [← hw10.out]
    clear hw10 o0 fz g71 hcs
    go_wp2_with fail
    go_loopw [9] (fun i wx => ∃ j : Nat, j ≤ m ∧ i = .int .i64 j ∧ Ext w7 wx ∧ Blk wx g7 25 #[.slice A3 n0 c3, .slice (some ad) n c4] ∧ Spl b7 wx (.slice (some ad) n c4) e.ats) (fun i _ => m - (intOf i).toNat)
    case atStart => exact ⟨0, Nat.zero_le _, rfl, hx10, B10, hS10⟩
    case round =>
      clear hx B7 hx10 B10 hS10
      obtain ⟨j, hj, rfl, hx, B7, hS⟩ := hrel
      have g71 : wr.cell? ⟨g7, 1, none⟩ = some (.slice (some ad) n c4) := B7.cell 1
      obtain ⟨A5, c5, hv5, hat⟩ := id hS
      obtain ⟨g, cs, y, hA, hgB, hB, hsz, hcy, hT⟩ := hat k l1
      injection hv5 with hv5 _ _
      rw [← hv5] at hA
      injection hA with had
      have hadk : ad.add (k * 2) = ⟨g, k * 2, none⟩ := by rw [had, add_lit]
      rw [← hm.out] at hT
      obtain ⟨Ay, cy, rfl, hty⟩ := hT
      have o1 : wr.cell? ⟨(ad.add (k * 2)).block, (ad.add (k * 2)).off + 1, none⟩ = some (.slice Ay m cy) := by rw [hadk]; exact (hB.cell (k * 2 + 1)).trans hcy
      clear hat hcy hsz hadk had hv5 hB
      by_cases hlt2 : j < m
      case neg =>
        have hbl2 : decide ((j : Int) < (m : Int)) = false := dfalse (by omega)
        have hbn2 : decide (j < m) = false := dfalse (by omega)
        go_wp2_with fail
        exact ⟨⟨k + 1, by omega, by go_num, hx, B7, hS⟩, by simp [intOf] <;> omega⟩
      have hbl2 : decide ((j : Int) < (m : Int)) = true := dtrue (by omega)
      have hbn2 : decide (j < m) = true := dtrue (by omega)
      have hj0 : (0 : Int) ≤ (j : Int) := by omega
      have hj1 : (j : Int) < (m : Int) := by omega
      obtain ⟨b, cb, hAb, hbB, hBb, hmb⟩ := hty j hlt2
      obtain ⟨bd, hbd⟩ : ∃ a : Addr, a = ⟨b, 0, none⟩ := ⟨_, rfl⟩
      rw [← hbd] at hAb
      subst hAb
      have hbdj : bd.add j = ⟨b, j, none⟩ := by rw [hbd, add_lit]
      have hcs : cb[j]? = some (cb[j]'(by omega)) := Array.getElem?_eq_getElem (by omega)
      generalize cb[j]'(by omega) = u1 at hcs
      have o2 : wr.cell? (bd.add j) = some u1 := by rw [hbdj, hBb.cell]; exact hcs
      have fz : wr.frozen? (bd.add j) = false := by rw [hbdj]; exact hBb.frozen _
      have hgne : g7 ≠ b := B7.ne_ hBb (by decide)
      have hx10 : ∀ u, Ext w7 (wr.setCell (bd.add j) u) := fun u => by
        rw [hbdj]
        exact hx.trans (setc_mod wr b j u) (fun _ _ h => h) (fun k hk h => by have := hb7e.out; omega)
      have B10 : ∀ u, Blk (wr.setCell (bd.add j) u) g7 25 #[.slice A3 n0 c3, .slice (some ad) n c4] := fun u => by rw [hbdj]; exact B7.mod (setc_mod wr b j u) hgne
      have hS10 : ∀ u, Spl b7 (wr.setCell (bd.add j) u) (.slice (some ad) n c4) e.ats := fun u => by rw [hbdj]; exact hS.setV hBb
      clear hbdj hbd hBb hcs hty hS B7 hx hmb
      go_wp2_with fail
      exact ⟨⟨j + 1, by omega, by go_num, hx10 _, B10 _, hS10 _⟩, by simp [intOf] <;> omega⟩
end Go.Proofs.Ytlaaicdofompkaa
