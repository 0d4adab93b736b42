/- level: Decode: the program's. -/
import Derived.Test.YtmjkgibeljbloaaLvQ
import Derived.Test.YtmjkgibeljbloaaLvE
namespace Go.Proofs.Ytmjkgibeljbloaa
open Go.RowKit
set_option maxRecDepth 100000

theorem results_cell_row2 {P : Program} {fn : Func} {p u : Tmp} {ty : TypeId} (h : fn.results = #[.cell p ty, .tmp u]) (tmps : Array Value) (w : World) (g : Nat) (t : TypeId) (cs : Array Value) (fr : Nat × Nat) (d : TypeDesc)
    (hp : tmps.getD p undef = .pointer (some ⟨g, 0, none⟩)) (hg : w.heap[g]? = some (.cells cs t fr))
    (hu : P.underlying ty = some d) (hd : (match d with | .struct _ | .array _ _ => true | _ => false) = true) (hi : (P.info? ty).map (·.size) = some cs.size) :
    (results fn tmps).run P w = .ok (.tuple #[.agg cs, tmps.getD u undef]) w := by
  have hp' : tmps[p]?.getD undef = .pointer (some ⟨g, 0, none⟩) := by simpa using hp
  rw [results_cell_tmp h]
  simp [hp', asAddr, Result.andThen, run_loadVar_row w g t ty cs fr d hg hu hd hi]
theorem set2_mod (w : World) (g : Nat) (p q : Value) : Mod (fun k => k = g) w ((w.setCell ⟨g, 0, none⟩ p).setCell ⟨g, 1, none⟩ q) := ((Mod.refl (fun k => k = g) w).setCell (p := ⟨g, 0, none⟩) (fun _ => rfl) p).setCell (p := ⟨g, 1, none⟩) (fun _ => rfl) q
theorem setc_mod (w : World) (g j : Nat) (p : Value) : Mod (fun k => k = g) w (w.setCell ⟨g, j, none⟩ p) := (Mod.refl (fun k => k = g) w).setCell (p := ⟨g, j, none⟩) (fun _ => rfl) p
theorem ownR_ne_blk {α : Type} {f : α → List Value} {n : Nat} {w : World} {e t : TypeId} {v : Value} {L : List α} {b : Nat} {cs : Array Value} (h : OwnR f n w e v L) (hb : Blk w b t cs) (hne : e ≠ t) {k : Nat} (hk : own v k) : k ≠ b := by
  rcases h.2 with ⟨rfl, _⟩ | ⟨g, cap, cur, rfl, _, hh, _⟩
  · cases hk
  · rintro rfl
    have hg : g = k := Option.some.inj hk
    subst hg
    have hc : w.heap[g]? = some (.cells cs t (0, 0)) := hb
    rw [hh] at hc
    injection hc with hc
    injection hc with _ hc
    exact hne hc
/-- A Reader, a version that is being read, how many files there are to be. -/
structure Dv (w : World) (s br gv gn : Nat) (wx : World) (vr : Value) (st : St) (nx nn : Int) (vf : Value) (L : List Fl) : Prop where
  r : Rd wx br (fun k => k = s) vr st
  v : Blk wx gv 24 #[.int .i64 nx, vf]
  n : Blk wx gn 3 #[.int .i64 nn]
  o : OwnF wx vf L
  ex : Ext w wx
  lo : w.heap.size ≤ s
  sb : s < br
  bv : br < gv
  vn : gv < gn
  fr : Fresh (gn + 1) vf
section
variable {w wx w' : World} {s br gv gn : Nat} {vr vr' vf vf' : Value} {st st' : St} {nx nn : Int} {L : List Fl} {F : Nat → Prop}
theorem Dv.upd (h : Dv w s br gv gn wx vr st nx nn vf L) (r : Rd w' br (fun k => k = s) vr' st') (m : Mod F wx w') (hF : ∀ k, k < wx.heap.size → F k → k = br ∨ (gn < k ∧ ¬ own vf k)) : Dv w s br gv gn w' vr' st' nx nn vf L where
  r := r
  v := by
    have := h.v.lt
    exact h.v.mod m (fun hb => by have := h.bv; have := h.vn; rcases hF _ (by omega) hb with h1 | ⟨h1, _⟩ <;> omega)
  n := by
    have := h.n.lt
    exact h.n.mod m (fun hb => by have := h.bv; have := h.vn; rcases hF _ (by omega) hb with h1 | ⟨h1, _⟩ <;> omega)
  o := h.o.mod m (fun k hk ho => by
    rcases hF k (h.o.lt hk) ho with h1 | ⟨_, h1⟩
    · have := h.fr k hk; have := h.bv; have := h.vn; omega
    · exact h1 hk)
  ex := h.ex.trans m (fun _ _ h => h) (fun k hk ho => by
    have h9 := h.ex.size
    have := h.lo; have := h.sb; have := h.bv; have := h.vn
    rcases hF k (by omega) ho with h1 | ⟨h1, _⟩ <;> omega)
  lo := h.lo
  sb := h.sb
  bv := h.bv
  vn := h.vn
  fr := h.fr
theorem Dv.ext (h : Dv w s br gv gn wx vr st nx nn vf L) (m : Ext wx w') : Dv w s br gv gn w' vr st nx nn vf L :=
  h.upd (h.r.mod m (fun h => h) (fun _ _ _ h => h)) m (fun _ _ h => h.elim)
theorem Dv.call (h : Dv w s br gv gn wx vr st nx nn vf L) (r : Rd w' br (fun k => k = s) vr' st') (m : Mod (fun k => k = br) wx w') : Dv w s br gv gn w' vr' st' nx nn vf L :=
  h.upd r m (fun _ _ h => .inl h)
/-- Something else was written, behind it. -/
theorem Dv.far (h : Dv w s br gv gn wx vr st nx nn vf L) (m : Mod F wx w') (hF : ∀ k, k < wx.heap.size → F k → gn < k ∧ ¬ own vf k) : Dv w s br gv gn w' vr st nx nn vf L :=
  h.upd (h.r.mod m (fun hb => by have := hF _ h.r.blk.lt hb; have := h.bv; have := h.vn; omega) (fun k hk e ho => by subst e; have := hF _ hk ho; have := h.bv; have := h.vn; have := h.sb; omega)) m (fun k hk ho => .inr (hF k hk ho))
/-- A file more. -/
theorem Dv.add {f : Fl} (h : Dv w s br gv gn wx vr st nx nn vf L) (k1 : OwnF w' vf' (L ++ [f])) (k2 : Mod (own vf) wx w') (k3 : Next wx.heap.size vf vf') : Dv w s br gv gn (w'.setCell ⟨gv, 1, none⟩ vf') vr st nx nn vf' (L ++ [f]) := by
  have hv := h.v.mod k2 (fun ho => ownR_ne_blk h.o h.v (by decide) ho rfl)
  have hn := h.n.mod k2 (fun ho => ownR_ne_blk h.o h.n (by decide) ho rfl)
  have hfr : Fresh (gn + 1) vf' := k3.fresh h.fr (by have := h.n.lt; omega)
  have sm := setc_mod w' gv 1 vf'
  have hr := h.r.mod k2 (fun ho => by have := h.fr _ ho; have := h.bv; have := h.vn; omega) (fun k hk e ho => by subst e; have := h.fr _ ho; have := h.bv; have := h.vn; have := h.sb; omega)
  exact ⟨hr.mod sm (fun e => by have := h.bv; omega) (fun k hk e e2 => by have := h.bv; have := h.sb; omega), hv.set_ 1 _, hn.far (p := ⟨gv, 1, none⟩) (by have := h.vn; show gn ≠ gv; omega) _,
    k1.mod sm (fun k hk e => ownR_ne_blk k1 hv (by decide) hk e), (h.ex.trans k2 (fun _ _ h => h) (fun k hk ho => by have := h.fr _ ho; have := h.lo; have := h.sb; have := h.bv; have := h.vn; omega)).trans sm (fun _ _ h => h) (fun k hk e => by have := h.lo; have := h.sb; have := h.bv; omega),
    h.lo, h.sb, h.bv, h.vn, hfr⟩
end
theorem bytesV_yes {n : Int} {L : List Fl} (h : isV n L) : bytesV n L = encV n L ∧ codeV n L = 0 := ⟨if_pos h, if_pos h⟩
/-- What the last look asks. -/
theorem look_good {b : List UInt8} {nx : Int} {L : List Fl} {st : St} (h : readV b = ((nx, L), st)) : (goodV b → isWhole st = true ∧ codeV nx L = 0 ∧ bytesV nx L = b ∧ st = some []) ∧ (codeV nx L = 0 → bytesV nx L = b → goodV b) := by
  constructor
  · intro hg
    have hw := good_whole hg
    have h1 := hg.1
    have h2 := hg.2
    rw [h] at h1 h2 hw
    obtain ⟨e1, e2⟩ := bytesV_yes h1
    exact ⟨(whole_iff st).2 hw, e2, e1.trans h2, hw⟩
  · intro hc hb
    by_cases hv : isV nx L
    · unfold goodV
      rw [h]
      exact ⟨hv, (bytesV_yes hv).1.symm.trans hb⟩
    · unfold codeV at hc
      rw [if_neg hv] at hc
      cases hc
theorem ownF_shape {w : World} {v : Value} {L : List Fl} (h : OwnF w v L) : ∃ A c, v = .slice A L.length c := OwnK.shape h

set_option maxHeartbeats 64000000 in
theorem decode_any {w : World} {S : Nat → Prop} {v : Value} {b : List UInt8} (h : Bs w S v b) (hs : b.length ≤ 900000) :
    Calls Try.prog 19 #[v] w fun e w' => ∃ vf, e = .returned (.tuple #[.agg #[.int .i64 (decV b).1, vf], .int .i64 (decC b : Nat)]) ∧ OwnF w' vf (decV b).2 ∧ Ext w w' := by
  obtain ⟨w1, hw1⟩ : ∃ w1, w1 = w.alloc (.cells #[.int .i64 0, .slice none 0 0] 24) := ⟨_, rfl⟩
  have x1 : Ext w w1 := by rw [hw1]; exact (Mod.refl _ w).alloc _
  have BR : Blk w1 w.heap.size 24 #[.int .i64 0, .slice none 0 0] := by rw [hw1]; exact Blk.new w _ _
  obtain ⟨gr, hgr⟩ : ∃ gr, gr = w.heap.size := ⟨_, rfl⟩
  rw [← hgr] at BR
  have hgw : w.heap.size ≤ gr := by rw [hgr]; exact Nat.le_refl _
  replace hw1 := Lib.hid hw1
  replace hgr := Lib.hid hgr
  have hb1 := h.mod x1 (fun _ _ _ h => h)
  go_enter Try.func19, Try.ntmps19
  go_upto_region 1 with fail
  rw [← hw1.out, ← hgr.out]
  clear hw1 hgr
  go_wp2_with fail
  refine (newreader_any hb1 (by omega)).mono ?_
  rintro e w3 ⟨br, v3, rfl, r3, hr1, hr2, x3⟩
  have hgs : gr < w1.heap.size := BR.lt
  obtain ⟨s, hse⟩ : ∃ s, s = w1.heap.size := ⟨_, rfl⟩
  rw [← hse] at r3 hr1 hgs
  have hlo : w1.heap.size ≤ s := by rw [hse]; exact Nat.le_refl _
  clear hse
  obtain ⟨w4, hw4⟩ : ∃ w4, w4 = w3.alloc (.cells #[.int .i64 0, .slice none 0 0] 24) := ⟨_, rfl⟩
  have x4 : Ext w3 w4 := by rw [hw4]; exact (Mod.refl _ w3).alloc _
  have BV : Blk w4 w3.heap.size 24 #[.int .i64 0, .slice none 0 0] := by rw [hw4]; exact Blk.new w3 _ _
  obtain ⟨gv, hgv⟩ : ∃ g, g = w3.heap.size := ⟨_, rfl⟩
  rw [← hgv] at BV
  have hbv : br < gv := by omega
  replace hw4 := Lib.hid hw4
  replace hgv := Lib.hid hgv
  obtain ⟨w5, hw5⟩ : ∃ w5, w5 = w4.alloc (.cells #[.int .i64 0] 3) := ⟨_, rfl⟩
  have x5 : Ext w4 w5 := by rw [hw5]; exact (Mod.refl _ w4).alloc _
  have BN : Blk w5 w4.heap.size 3 #[.int .i64 0] := by rw [hw5]; exact Blk.new w4 _ _
  obtain ⟨gn, hgn⟩ : ∃ g, g = w4.heap.size := ⟨_, rfl⟩
  rw [← hgn] at BN
  have hvn : gv < gn := by rw [hgn]; exact BV.lt
  replace hw5 := Lib.hid hw5
  replace hgn := Lib.hid hgn
  have K5 : Dv w1 s br gv gn w5 v3 (some b) 0 0 (.slice none 0 0) [] :=
    ⟨r3.mod (ext_trans x4 x5) (fun h => h) (fun _ _ _ h => h), BV.mod x5 (fun h => h), BN, OwnF.nil _, ext_trans x3 (ext_trans x4 x5), hlo, hr1, hbv, hvn, fresh_nil _ _ _⟩
  clear r3 x3 x4 x5 BV BN hr1 hr2 hbv hvn hlo hb1
  go_upto_region 3 with fail
  rw [← hw4.out, ← hgv.out]
  clear hw4 hgv
  go_upto_region 4 with fail
  rw [← hw5.out, ← hgn.out]
  clear hw5 hgn
  have x6 : Ext w5 (w5.alloc (.cells #[.pointer (some ⟨gv, 0, none⟩), .pointer (some ⟨gn, 0, none⟩)] 77)) := (Mod.refl _ w5).alloc _
  have hnum := rdnums_v (S := fun k => k = s) (K5.ext x6).r (K5.ext x6).v (K5.ext x6).n (Sl.lit w5 77 [.pointer (some ⟨gv, 0, none⟩), .pointer (some ⟨gn, 0, none⟩)] (by simp [maxLen]))
    (fun k _ e h => by subst e; have h1 := K5.r.blk.lt; have h2 := K5.v.lt; have h3 := K5.n.lt; omega) (fun k e => by subst e; have := K5.sb; have := K5.bv; have := K5.vn; omega) (by have := K5.bv; omega) (by have := K5.bv; have := K5.vn; omega) (by have := K5.vn; omega)
  go_wp2_with fail
  refine hnum.mono ?_
  rintro e w7 ⟨rfl, v7, r7, bv7, bn7, m7⟩
  have x7 : Ext w1 w7 := (K5.ext x6).ex.trans m7 (fun _ _ h => h) (fun k hk h => by have := K5.lo; have := K5.sb; have := K5.bv; have := K5.vn; omega)
  have hnB : (takeN (takeN (some b)).2).1 ≤ 4611686018427387904 := takeN_le' _
  have hw0 := takeN_w (takeN (some b)).2
  have hw00 := takeN_w (some b)
  have e3 : mS (some b) = b.length + 1 := rfl
  obtain ⟨X, hX⟩ : ∃ X, X = rdFs (takeN (takeN (some b)).2).1 (takeN (takeN (some b)).2).2 [] := ⟨_, rfl⟩
  have hread : Hid (readV b = (((((takeN (some b)).1 : Nat) : Int), X.1), X.2)) := Lib.hid (by unfold readV; rw [hX])
  have K7 : Dv w1 s br gv gn w7 v7 (takeN (takeN (some b)).2).2 (takeN (some b)).1 (takeN (takeN (some b)).2).1 (.slice none 0 0) [] :=
    ⟨r7, bv7, bn7, OwnF.nil _, x7, K5.lo, K5.sb, K5.bv, K5.vn, fresh_nil _ _ _⟩
  clear K5 x6 hnum r7 bv7 bn7 m7 x7
  generalize (takeN (takeN (some b)).2).2 = s0 at *
  generalize (takeN (takeN (some b)).2).1 = N at *
  obtain ⟨NX, hNX⟩ : ∃ NX : Int, NX = ((takeN (some b)).1 : Nat) := ⟨_, rfl⟩
  rw [← hNX] at hread K7
  replace hX := Lib.hid hX.symm
  clear hNX
  have hms : mS s0 ≤ b.length + 1 := by omega
  clear hw0 hw00 e3
  go_wp2_with fail
  go_loopw [7] (fun i wr => ∃ (j m : Nat) (st : St) (vr vf : Value) (L : List Fl), i = .int .i64 j ∧ j + m = N ∧ Hid (rdFs m st L = X) ∧ Dv w1 s br gv gn wr vr st NX N vf L ∧ wF L + mS st ≤ b.length + 1) (fun i _ => N - (intOf i).toNat)
  case atStart => exact ⟨0, N, s0, v7, _, [], rfl, by omega, hX, K7, by show 0 + mS s0 ≤ _; omega⟩
  case round =>
    clear K7 hX hms
    obtain ⟨j, m, st, vr, vf, L, rfl, hjm, hrun, K, hsz⟩ := hrel
    have hgo := good_any K.r
    have cn : wr.cell? ⟨gn, 0, none⟩ = some (.int .i64 N) := K.n.cell 0
    by_cases hst : 0 < m ∧ st.isSome = true
    case pos =>
      obtain ⟨h0, hs1⟩ := hst
      obtain ⟨l, rfl⟩ : ∃ l, st = some l := by cases st with | none => cases hs1 | some l => exact ⟨l, rfl⟩
      obtain ⟨m, rfl⟩ : ∃ j, m = j + 1 := ⟨m - 1, by omega⟩
      have hb0 : decide ((j : Int) < (N : Int)) = true := dtrue (by omega)
      have hb0' : decide (j < N) = true := dtrue (by omega)
      have hrun2 : Hid (rdFs m (takeF (some l)).2 (L ++ [(takeF (some l)).1]) = X) := hrun
      have hfw := takeF_w l
      have hws : wF (L ++ [(takeF (some l)).1]) + mS (takeF (some l)).2 ≤ b.length + 1 := by rw [wF_snoc1]; omega
      have hsl : ∀ t : St, (t.getD []).length ≤ mS t := fun t => by cases t with | none => exact Nat.zero_le _ | some l => exact Nat.le_succ _
      have hm1 := takeN_w (some l)
      have hm2 := takeN_w (takeN (some l)).2
      have hm3 := takeN_w (takeN (takeN (some l)).2).2
      have hm4 := takeB_w0 (takeN (takeN (takeN (some l)).2).2).2
      have hl3 := hsl (takeN (takeN (takeN (some l)).2).2).2
      have hl4 := hsl (takeB (takeN (takeN (takeN (some l)).2).2).2).2
      have hT : (takeF (some l)).1 = ⟨((takeN (some l)).1 : Nat), ((takeN (takeN (some l)).2).1 : Nat), ((takeN (takeN (takeN (some l)).2).2).1 : Nat), (takeB (takeN (takeN (takeN (some l)).2).2).2).1, (takeB (takeB (takeN (takeN (takeN (some l)).2).2).2).2).1⟩ := rfl
      have hT2 : (takeF (some l)).2 = (takeB (takeB (takeN (takeN (takeN (some l)).2).2).2).2).2 := rfl
      have hLl : L.length ≤ b.length := by have := wF_len L; have e1 : mS (some l) = l.length + 1 := rfl; omega
      clear hrun hs1 hsl
      simp only [Option.isSome_some] at hgo
      obtain ⟨w6, hw6⟩ : ∃ w6, w6 = wr.alloc (.cells #[.int .i64 0, .int .i64 0, .int .i64 0, .string ⟨#[]⟩, .string ⟨#[]⟩] 48) := ⟨_, rfl⟩
      have x6 : Ext wr w6 := by rw [hw6]; exact (Mod.refl _ wr).alloc _
      have BF : Blk w6 wr.heap.size 48 #[.int .i64 0, .int .i64 0, .int .i64 0, .string ⟨#[]⟩, .string ⟨#[]⟩] := by rw [hw6]; exact Blk.new wr _ _
      obtain ⟨gf, hgf⟩ : ∃ g, g = wr.heap.size := ⟨_, rfl⟩
      rw [← hgf] at BF
      have hgfn : gn < gf := by rw [hgf]; exact K.n.lt
      have hgfo : ¬ own vf gf := fun ho => by have := K.o.lt ho; omega
      have K6 := K.ext x6
      replace hw6 := Lib.hid hw6
      replace hgf := Lib.hid hgf
      clear K x6
      go_wp2_with fail
      refine hgo.mono ?_
      rintro e w8 ⟨rfl, rfl⟩
      clear hgo cn
      go_upto_region 9 with fail
      rw [← hw6.out, ← hgf.out]
      clear hw6 hgf
      have x7 : Ext w6 (w6.alloc (.cells #[.pointer (some ⟨gf, 0, none⟩), .pointer (some ⟨gf, 1, none⟩), .pointer (some ⟨gf, 2, none⟩)] 77)) := (Mod.refl _ w6).alloc _
      have hbr : br < gf := by have := K6.bv; have := K6.vn; omega
      have hnum := rdnums_f (S := fun k => k = s) (K6.ext x7).r (BF.mod x7 (fun h => h)) (Sl.lit w6 77 [.pointer (some ⟨gf, 0, none⟩), .pointer (some ⟨gf, 1, none⟩), .pointer (some ⟨gf, 2, none⟩)] (by simp [maxLen]))
        (fun k _ e h => by subst e; have h1 := K6.r.blk.lt; have h2 := BF.lt; omega) (fun k e => by subst e; have := K6.sb; omega) (by omega)
      go_wp2_with fail
      refine hnum.mono ?_
      rintro e w9 ⟨rfl, v9, r9, B9, m9⟩
      have K9 := (K6.ext x7).upd r9 m9 (fun k _ h => h.imp id fun h => by rw [h]; exact ⟨hgfn, hgfo⟩)
      clear K6 x7 BF hnum r9 m9
      have hc1 := bytes_any K9.r (by omega)
      go_wp2_with fail
      refine hc1.mono ?_
      rintro e w10 ⟨v10, u10, rfl, r10, o10, f10, m10⟩
      have K10 := K9.call r10 m10
      have B10 := B9.mod m10 (by omega)
      have hcv := run_conv (P := Try.prog) Try.underlying26 Try.underlying5 Try.underlying9 o10.sl
      clear hc1 K9 B9 r10 m10 o10 f10
      have fz3 := B10.frozen 3
      have z3 : _ = some _ := Blk.cell B10 3
      have sm := setc_mod w10 gf 3 (sv (takeB (takeN (takeN (takeN (some l)).2).2).2).1)
      have K11 := K10.far sm (fun k _ h => by rw [h]; exact ⟨hgfn, hgfo⟩)
      have B11 := B10.set_ 3 (sv (takeB (takeN (takeN (takeN (some l)).2).2).2).1)
      obtain ⟨w11, hw11⟩ : ∃ w11, w11 = w10.setCell ⟨gf, 3, none⟩ (sv (takeB (takeN (takeN (takeN (some l)).2).2).2).1) := ⟨_, rfl⟩
      rw [← hw11] at K11 B11
      replace hw11 := Lib.hid hw11
      clear sm K10 B10
      go_upto_region 11 with fail
      rw [← hw11.out]
      clear hw11 hcv fz3 z3
      have hc2 := bytes_any K11.r (by omega)
      go_wp2_with fail
      refine hc2.mono ?_
      rintro e w12 ⟨v12, u12, rfl, r12, o12, f12, m12⟩
      have K12 := K11.call r12 m12
      have B12 := B11.mod m12 (by omega)
      have hcv := run_conv (P := Try.prog) Try.underlying26 Try.underlying5 Try.underlying9 o12.sl
      clear hc2 K11 B11 r12 m12 o12 f12
      have fz4 := B12.frozen 4
      have z4 : _ = some _ := Blk.cell B12 4
      have sm := setc_mod w12 gf 4 (sv (takeB (takeB (takeN (takeN (takeN (some l)).2).2).2).2).1)
      have K13 := K12.far sm (fun k _ h => by rw [h]; exact ⟨hgfn, hgfo⟩)
      have B13 := B12.set_ 4 (sv (takeB (takeB (takeN (takeN (takeN (some l)).2).2).2).2).1)
      obtain ⟨w13, hw13⟩ : ∃ w13, w13 = w12.setCell ⟨gf, 4, none⟩ (sv (takeB (takeB (takeN (takeN (takeN (some l)).2).2).2).2).1) := ⟨_, rfl⟩
      rw [← hw13] at K13 B13
      replace hw13 := Lib.hid hw13
      clear sm K12 B12
      go_upto_region 12 with fail
      rw [← hw13.out]
      clear hw13 hcv fz4 z4
      rw [← hT2] at K13
      have B14 : Blk w13 gf 48 (fia (takeF (some l)).1) := B13
      clear B13 hT hT2 hm1 hm2 hm3 hm4 hl3 hl4 hfw
      generalize (takeF (some l)).1 = x at *
      generalize (takeF (some l)).2 = st2 at *
      obtain ⟨z0, z1, z2, z3, z4⟩ := cell5 B14
      obtain ⟨Af, cf, rfl⟩ := ownF_shape K13.o
      have c1 : _ = some (Value.slice Af L.length cf) := K13.v.cell 1
      have hn : (L.length + 1) * 56 ≤ 140737488355328 := by omega
      go_wp2_with ((with_reducible show wpList _ _ _ (⟨some 44, _, _, _, _, _⟩ :: _) _ _); refine wp_appR tyF fic_len (x := x) K13.o rfl (fic_ok _) hn rfl (.tmp 41) (.tmp 43) rfl rfl rfl ?_; intro va wa ka1 ka2 ka3; obtain ⟨A9, n9, c9, rfl⟩ : ∃ A n c, va = Value.slice A n c := (by obtain ⟨A, c, h⟩ := ka1.shape; exact ⟨A, _, c, h⟩); have hva := K13.v.mod ka2 (fun ho => ownR_ne_blk K13.o K13.v (by decide) ho rfl); have q1 : wa.cell? ⟨gv, 1, none⟩ = some (Value.slice Af L.length cf) := hva.cell 1; have q2 := hva.frozen 1)
      exact ⟨⟨j + 1, m, st2, v12, _, L ++ [x], by go_num, by omega, hrun2, K13.add ka1 ka2 ka3, hws⟩, by simp [intOf] <;> omega⟩
    have hXe : Hid (X = (L, st)) := Lib.hid (by
      rw [← hrun.out]
      cases m with
      | zero => rfl
      | succ m => cases st with
        | none => rfl
        | some l => exact absurd ⟨Nat.succ_pos _, rfl⟩ hst)
    have hlk := look_good (b := b) (nx := NX) (L := L) (st := st) (by rw [hread.out, hXe.out])
    have hmf : MFits L := mfits_of (by omega)
    have hen := encode_any (n := NX) K.o.rc hmf
    obtain ⟨Af, cf, rfl⟩ := ownF_shape K.o
    have c0 : wr.cell? ⟨gv, 0, none⟩ = some (.int .i64 NX) := K.v.cell 0
    have c1 : wr.cell? ⟨gv, 1, none⟩ = some (Value.slice Af L.length cf) := K.v.cell 1
    have hLg : goodV b → (decV b) = (NX, L) ∧ decC b = 0 := fun hg => by
      unfold decV decC
      rw [if_pos hg, if_pos hg, hread.out, hXe.out]
      exact ⟨rfl, rfl⟩
    have hLn : ¬ goodV b → (decV b) = (0, []) ∧ decC b = 3 := fun hg => by
      unfold decV decC
      rw [if_neg hg, if_neg hg]
      exact ⟨rfl, rfl⟩
    clear hrun hread hXe hmf
    by_cases h0 : 0 < m
    case' pos =>
      have hsn : st.isSome = false := by
        cases h : st.isSome with
        | false => rfl
        | true => exact absurd ⟨h0, h⟩ hst
      rw [hsn] at hgo
      have hb0 : decide ((j : Int) < (N : Int)) = true := dtrue (by omega)
      have hb0' : decide (j < N) = true := dtrue (by omega)
      clear hst
      go_wp2_with fail
      refine hgo.mono ?_
      rintro e w6 ⟨rfl, rfl⟩
      clear hgo hsn
      go_wp2_with fail
    case' neg =>
      have hb0 : decide ((j : Int) < (N : Int)) = false := dfalse (by omega)
      have hb0' : decide (j < N) = false := dfalse (by omega)
      clear hst hgo
      go_wp2_with fail
    all_goals
      refine hen.mono ?_
      rintro e w8 ⟨v8, rfl, o8, f8, x8⟩
      have K8 := K.ext x8
      have hwh := whole_any K8.r
      have B8 := BR.mod K8.ex (fun h => h)
      have heq := equal_any o8.sl (h.mod (ext_trans x1 K8.ex) (fun _ _ _ h => h))
      clear hen K x8 c0 c1 hb0 hb0' h0 cn o8 f8
      go_wp2_with fail
      refine hwh.mono ?_
      rintro e w9 ⟨rfl, rfl⟩
      clear hwh
      have f0 := Blk.frozen B8 0
      have f1 := Blk.frozen B8 1
      have p0 : _ = some (Value.int .i64 0) := Blk.cell B8 0
      have p1 : _ = some (Value.slice none 0 0) := Blk.cell B8 1
      have c0 : w9.cell? ⟨gv, 0, none⟩ = some (.int .i64 NX) := K8.v.cell 0
      have c1 : w9.cell? ⟨gv, 1, none⟩ = some (Value.slice Af L.length cf) := K8.v.cell 1
      have hgl : gr < gn + 1 := by have := K8.lo; have := K8.sb; have := K8.bv; have := K8.vn; omega
      have fin : ∀ p q, Ext w ((w9.setCell ⟨gr, 0, none⟩ p).setCell ⟨gr, 1, none⟩ q) := fun p q => (ext_trans x1 K8.ex).trans (set2_mod w9 gr p q) (fun _ _ h => h) (fun k hk e => by omega)
      have hof : ∀ p q, OwnF ((w9.setCell ⟨gr, 0, none⟩ p).setCell ⟨gr, 1, none⟩ q) (Value.slice Af L.length cf) L := fun p q => OwnR.mod K8.o (set2_mod w9 gr p q) (fun k hk e => by have := K8.fr k hk; omega)
      obtain ⟨W, hW⟩ : ∃ W, W = isWhole st := ⟨_, rfl⟩
      rw [← hW] at hlk ⊢
      replace hW := Lib.hid hW
      generalize codeV NX L = CE at *
      generalize bytesV NX L = BE at *
      have R5 := fun p q => (B8.set_ 0 p).set_ 1 q
      by_cases hg : goodV b
      · obtain ⟨g1, g2, g3, -⟩ := hlk.1 hg
        obtain ⟨hdE, hdN⟩ := hLg hg
        rw [dtrue g3] at heq
        rw [g1, g2]
        have q5 : (((0 : Nat) : Int) != 0) = false := rfl
        replace hdE := Lib.hid hdE
        replace hdN := Lib.hid hdN
        clear hlk hg g1 g2 g3 hLg hLn
        go_wp2_with fail
        refine heq.mono ?_
        rintro e wq ⟨rfl, rfl⟩
        go_wp2_with fail
        refine bodyPost_ret (results_cell_row2 Try.results19 _ _ _ _ _ _ _ rfl (R5 (.int .i64 NX) (Value.slice Af L.length cf)) Try.underlying24 rfl (by kernel_rfl)) rfl ?_
        exact ⟨_, by rw [hdN.out, hdE.out]; rfl, by rw [hdE.out]; exact hof _ _, fin _ _⟩
      obtain ⟨hdE, hdN⟩ := hLn hg
      replace hdE := Lib.hid hdE
      replace hdN := Lib.hid hdN
      have hcs : W = false ∨ (W = true ∧ CE ≠ 0) ∨ (W = true ∧ CE = 0 ∧ BE ≠ b) := by
        cases W with
        | false => exact .inl rfl
        | true =>
          by_cases he : CE = 0
          · exact .inr (.inr ⟨rfl, he, fun h => hg (hlk.2 he h)⟩)
          · exact .inr (.inl ⟨rfl, he⟩)
      clear hg hlk hLg hLn
      rcases hcs with q1 | ⟨q1, q2⟩ | ⟨q1, q2, q3⟩
      case' inl => rw [q1]; clear q1 heq; go_wp2_with fail
      case' inr.inl => (rw [q1]; (have q5 : ((CE : Int) != 0) = true := by rw [bne_iff_ne]; omega); clear q1 q2 heq; go_wp2_with fail)
      case' inr.inr => (rw [q1, q2]; rw [dfalse q3] at heq; (have q5 : (((0 : Nat) : Int) != 0) = false := rfl); clear q1 q2 q3; go_wp2_with fail; refine heq.mono ?_; rintro e wq ⟨rfl, rfl⟩; go_wp2_with fail)
      all_goals refine bodyPost_ret (results_cell_row2 Try.results19 _ _ _ _ _ _ _ rfl (R5 (.int .i64 0) (.slice none 0 0)) Try.underlying24 rfl (by kernel_rfl)) rfl ?_
      all_goals exact ⟨_, by rw [hdN.out, hdE.out]; rfl, by rw [hdE.out]; exact OwnF.nil _, fin _ _⟩
end Go.Proofs.Ytmjkgibeljbloaa
