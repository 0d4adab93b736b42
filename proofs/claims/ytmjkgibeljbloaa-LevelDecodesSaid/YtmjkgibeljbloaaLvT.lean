/- level: Decode: the document's; the law Decodes. -/
import Derived.Test.YtmjkgibeljbloaaLvS
namespace Go.Proofs.Ytmjkgibeljbloaa
open Go.RowKit
set_option maxRecDepth 100000

/-- The document's Reader, a version that is being read. -/
structure De (w : World) (T : Nat → Prop) (br gv : Nat) (wx : World) (vr : Value) (st : St) (nx : Int) (vf : Value) (L : List Fl) : Prop where
  r : Rr wx br T vr st
  v : Blk wx gv 24 #[.int .i64 nx, vf]
  o : OwnF wx vf L
  ex : Ext w wx
  lo : w.heap.size ≤ br
  tl : ∀ k, T k → k < br
  bv : br < gv
  fr : Fresh (gv + 1) vf
section
variable {w wx w' : World} {T : Nat → Prop} {br gv : Nat} {vr vr' vf vf' : Value} {st st' : St} {nx : Int} {L : List Fl} {F : Nat → Prop}
theorem De.upd (h : De w T br gv wx vr st nx vf L) (r : Rr w' br T vr' st') (m : Mod F wx w') (hF : ∀ k, k < wx.heap.size → F k → k = br ∨ (gv < k ∧ ¬ own vf k)) : De w T br gv w' vr' st' nx vf L where
  r := r
  v := by
    have := h.v.lt
    exact h.v.mod m (fun hb => by have := h.bv; rcases hF _ (by omega) hb with h1 | ⟨h1, _⟩ <;> omega)
  o := h.o.mod m (fun k hk ho => by
    rcases hF k (h.o.lt hk) ho with h1 | ⟨_, h1⟩
    · have := h.fr k hk; have := h.bv; omega
    · exact h1 hk)
  ex := h.ex.trans m (fun _ _ h => h) (fun k hk ho => by
    have h9 := h.ex.size
    have := h.lo; have := h.bv
    rcases hF k (by omega) ho with h1 | ⟨h1, _⟩ <;> omega)
  lo := h.lo
  tl := h.tl
  bv := h.bv
  fr := h.fr
theorem De.ext (h : De w T br gv wx vr st nx vf L) (m : Ext wx w') : De w T br gv w' vr st nx vf L :=
  h.upd (h.r.mod m (fun h => h) (fun _ _ _ h => h)) m (fun _ _ h => h.elim)
theorem De.call (h : De w T br gv wx vr st nx vf L) (r : Rr w' br T vr' st') (m : Mod (fun k => k = br) wx w') : De w T br gv w' vr' st' nx vf L :=
  h.upd r m (fun _ _ h => .inl h)
theorem De.far (h : De w T br gv wx vr st nx vf L) (m : Mod F wx w') (hF : ∀ k, k < wx.heap.size → F k → gv < k ∧ ¬ own vf k) : De w T br gv w' vr st nx vf L :=
  h.upd (h.r.mod m (fun hb => by have := hF _ h.r.blk.lt hb; have := h.bv; omega) (fun k hk e ho => by have := hF _ hk ho; have := h.bv; have := h.tl k e; omega)) m (fun k hk ho => .inr (hF k hk ho))
theorem De.add {f : Fl} (h : De w T br gv wx vr st nx vf L) (k1 : OwnF w' vf' (L ++ [f])) (k2 : Mod (own vf) wx w') (k3 : Next wx.heap.size vf vf') : De w T br gv (w'.setCell ⟨gv, 1, none⟩ vf') vr st nx vf' (L ++ [f]) := by
  have hv := h.v.mod k2 (fun ho => ownR_ne_blk h.o h.v (by decide) ho rfl)
  have hfr : Fresh (gv + 1) vf' := k3.fresh h.fr (by have := h.v.lt; omega)
  have sm := setc_mod w' gv 1 vf'
  have hr := h.r.mod k2 (fun ho => by have := h.fr _ ho; have := h.bv; omega) (fun k hk e ho => by have := h.fr _ ho; have := h.bv; have := h.tl k e; omega)
  exact ⟨hr.mod sm (fun e => by have := h.bv; omega) (fun k hk e e2 => by have := h.bv; have := h.tl k e; omega), hv.set_ 1 _,
    k1.mod sm (fun k hk e => ownR_ne_blk k1 hv (by decide) hk e), (h.ex.trans k2 (fun _ _ h => h) (fun k hk ho => by have := h.fr _ ho; have := h.lo; have := h.bv; omega)).trans sm (fun _ _ h => h) (fun k hk e => by have := h.lo; have := h.bv; omega),
    h.lo, h.tl, h.bv, hfr⟩
end

set_option maxHeartbeats 64000000 in
theorem rdecode_any {w : World} {S : Nat → Prop} {v : Value} {b : List UInt8} (h : Bs w S v b) (hs : b.length ≤ 900000) :
    Calls Try.prog 20 #[v] w fun e w' => ∃ vf, e = .returned (.tuple #[.agg #[.int .i64 (decV b).1, vf], .int .i64 (decC b : Nat)]) ∧ OwnF w' vf (decV b).2 ∧ Ext w w' := by
  obtain ⟨w1, hw1⟩ : ∃ w1, w1 = w.alloc (.cells #[.int .i64 0, .slice none 0 0] 24) := ⟨_, rfl⟩
  have x1 : Ext w w1 := by rw [hw1]; exact (Mod.refl _ w).alloc _
  have BR : Blk w1 w.heap.size 24 #[.int .i64 0, .slice none 0 0] := by rw [hw1]; exact Blk.new w _ _
  obtain ⟨gr, hgr⟩ : ∃ gr, gr = w.heap.size := ⟨_, rfl⟩
  rw [← hgr] at BR
  have hgw : w.heap.size ≤ gr := by rw [hgr]; exact Nat.le_refl _
  have hgs : gr < w1.heap.size := BR.lt
  have h0 : Bs w (fun k => k < w.heap.size) v b := h.mono fun k hk _ => hk
  have hb1 := h0.mod x1 (fun _ _ _ h => h)
  replace hw1 := Lib.hid hw1
  replace hgr := Lib.hid hgr
  obtain ⟨A0, c0, hv0, -⟩ := h.open_
  obtain ⟨w2, hw2⟩ : ∃ w2, w2 = w1.alloc (.cells #[v, .bool false] 81) := ⟨_, rfl⟩
  have x2 : Ext w1 w2 := by rw [hw2]; exact (Mod.refl _ w1).alloc _
  have B2 : Blk w2 w1.heap.size 81 #[v, .bool false] := by rw [hw2]; exact Blk.new w1 _ _
  obtain ⟨br, hbr⟩ : ∃ g, g = w1.heap.size := ⟨_, rfl⟩
  rw [← hbr] at B2
  have hlo : w1.heap.size ≤ br := by rw [hbr]; exact Nat.le_refl _
  have hwb : w.heap.size ≤ br := by have := x1.size; omega
  have r2 : Rr w2 br (fun k => k < w.heap.size) v (some b) := ⟨B2, hb1.mod x2 (fun _ _ _ h => h), by omega⟩
  subst hv0
  replace hw2 := Lib.hid hw2
  replace hbr := Lib.hid hbr
  clear B2 hb1 h0
  go_enter Try.func20, Try.ntmps20
  go_upto_region 1 with fail
  rw [← hw1.out, ← hgr.out]
  clear hw1 hgr
  go_upto_region 2 with fail
  rw [← hw2.out, ← hbr.out]
  clear hw2 hbr
  go_wp2_with fail
  have hsz0 : ((some b : St).getD []).length ≤ 140737488355328 := by show b.length ≤ _; omega
  refine (rrnum_any r2 hsz0).mono ?_
  rintro e w3 ⟨v3, rfl, r3, m3⟩
  have x3 : Ext w1 w3 := x2.trans m3 (fun _ _ h => h) (fun k hk h => by omega)
  have hbrl : br < w3.heap.size := r3.blk.lt
  have hw00 := takeN_w (some b)
  have hw0 := takeN_w (takeN (some b)).2
  have e3 : mS (some b) = b.length + 1 := rfl
  have hsl : ∀ t : St, (t.getD []).length ≤ mS t := fun t => by cases t with | none => exact Nat.zero_le _ | some l => exact Nat.le_succ _
  have hs1 := hsl (takeN (some b)).2
  have hnB : (takeN (takeN (some b)).2).1 ≤ 4611686018427387904 := takeN_le' _
  obtain ⟨X, hX⟩ : ∃ X, X = rdFs (takeN (takeN (some b)).2).1 (takeN (takeN (some b)).2).2 [] := ⟨_, rfl⟩
  have hread : Hid (readV b = (((((takeN (some b)).1 : Nat) : Int), X.1), X.2)) := Lib.hid (by unfold readV; rw [hX])
  obtain ⟨NX, hNX⟩ : ∃ NX : Int, NX = ((takeN (some b)).1 : Nat) := ⟨_, rfl⟩
  rw [← hNX] at hread ⊢
  clear hNX r2 x2 m3
  obtain ⟨w4, hw4⟩ : ∃ w4, w4 = w3.alloc (.cells #[.int .i64 NX, .slice none 0 0] 24) := ⟨_, rfl⟩
  have x4 : Ext w3 w4 := by rw [hw4]; exact (Mod.refl _ w3).alloc _
  have BV : Blk w4 w3.heap.size 24 #[.int .i64 NX, .slice none 0 0] := by rw [hw4]; exact Blk.new w3 _ _
  obtain ⟨gv, hgv⟩ : ∃ g, g = w3.heap.size := ⟨_, rfl⟩
  rw [← hgv] at BV
  have hbv : br < gv := by omega
  replace hw4 := Lib.hid hw4
  replace hgv := Lib.hid hgv
  have K4 : De w1 (fun k => k < w.heap.size) br gv w4 v3 (takeN (some b)).2 NX (.slice none 0 0) [] :=
    ⟨r3.mod x4 (fun h => h) (fun _ _ _ h => h), BV, OwnF.nil _, ext_trans x3 x4, hlo, fun k hk => by omega, hbv, fresh_nil _ _ _⟩
  clear r3 x3 x4 BV hbrl
  go_upto_region 3 with fail
  rw [← hw4.out, ← hgv.out]
  clear hw4 hgv
  go_wp2_with fail
  refine (rrnum_any K4.r (by omega)).mono ?_
  rintro e w7 ⟨v7, rfl, r7, m7⟩
  have K7 := K4.call r7 m7
  clear K4 r7 m7
  generalize (takeN (takeN (some b)).2).2 = s0 at *
  generalize (takeN (takeN (some b)).2).1 = N at *
  replace hX := Lib.hid hX.symm
  have hms : mS s0 ≤ b.length + 1 := by omega
  clear hw0 hw00 e3 hs1
  go_wp2_with fail
  go_loopw [7] (fun i wr => ∃ (j m : Nat) (st : St) (vr vf : Value) (L : List Fl), i = .int .i64 j ∧ j + m = N ∧ Hid (rdFs m st L = X) ∧ De w1 (fun k => k < w.heap.size) br gv wr vr st NX vf L ∧ wF L + mS st ≤ b.length + 1) (fun i _ => N - (intOf i).toNat)
  case atStart => exact ⟨0, N, s0, v7, _, [], rfl, by omega, hX, K7, by show 0 + mS s0 ≤ _; omega⟩
  case round =>
    clear K7 hX hms
    obtain ⟨j, m, st, vr, vf, L, rfl, hjm, hrun, K, hsz⟩ := hrel
    have cn : wr.cell? ⟨br, 1, none⟩ = some (.bool st.isNone) := K.r.blk.cell 1
    by_cases hst : 0 < m ∧ st.isSome = true
    case pos =>
      obtain ⟨h0, hs1⟩ := hst
      obtain ⟨l, rfl⟩ : ∃ l, st = some l := by cases st with | none => cases hs1 | some l => exact ⟨l, rfl⟩
      obtain ⟨m, rfl⟩ : ∃ j, m = j + 1 := ⟨m - 1, by omega⟩
      have hb0 : decide ((j : Int) < (N : Int)) = true := dtrue (by omega)
      have hb0' : decide (j < N) = true := dtrue (by omega)
      have hrun2 : Hid (rdFs m (takeF (some l)).2 (L ++ [(takeF (some l)).1]) = X) := hrun
      have hfw := takeF_w l
      have hws : wF (L ++ [(takeF (some l)).1]) + mS (takeF (some l)).2 ≤ b.length + 1 := by rw [wF_snoc1]; omega
      have hm1 := takeN_w (some l)
      have hm2 := takeN_w (takeN (some l)).2
      have hm3 := takeN_w (takeN (takeN (some l)).2).2
      have hm4 := takeB_w0 (takeN (takeN (takeN (some l)).2).2).2
      have hl0 := hsl (some l)
      have hl1 := hsl (takeN (some l)).2
      have hl2 := hsl (takeN (takeN (some l)).2).2
      have hl3 := hsl (takeN (takeN (takeN (some l)).2).2).2
      have hl4 := hsl (takeB (takeN (takeN (takeN (some l)).2).2).2).2
      have hT2 : (takeF (some l)).2 = (takeB (takeB (takeN (takeN (takeN (some l)).2).2).2).2).2 := rfl
      have hLl : L.length ≤ b.length := by have := wF_len L; have e1 : mS (some l) = l.length + 1 := rfl; omega
      clear hrun hs1 hsl
      simp only [Option.isNone_some] at cn
      go_wp2_with fail
      refine (rrnum_any K.r (by omega)).mono ?_
      rintro e wa ⟨va1, rfl, ra, ma⟩
      have Ka := K.call ra ma
      clear K ra ma cn
      go_wp2_with fail
      refine (rrnum_any Ka.r (by omega)).mono ?_
      rintro e wb ⟨vb1, rfl, rb, mb⟩
      have Kb := Ka.call rb mb
      clear Ka rb mb
      go_wp2_with fail
      refine (rrnum_any Kb.r (by omega)).mono ?_
      rintro e wc ⟨vc1, rfl, rc, mc⟩
      have Kc := Kb.call rc mc
      clear Kb rc mc
      obtain ⟨w6, hw6⟩ : ∃ w6, w6 = wc.alloc (.cells #[.int .i64 (takeN (some l)).1, .int .i64 (takeN (takeN (some l)).2).1, .int .i64 (takeN (takeN (takeN (some l)).2).2).1, .string ⟨#[]⟩, .string ⟨#[]⟩] 48) := ⟨_, rfl⟩
      have x6 : Ext wc w6 := by rw [hw6]; exact (Mod.refl _ wc).alloc _
      have BF : Blk w6 wc.heap.size 48 #[.int .i64 (takeN (some l)).1, .int .i64 (takeN (takeN (some l)).2).1, .int .i64 (takeN (takeN (takeN (some l)).2).2).1, .string ⟨#[]⟩, .string ⟨#[]⟩] := by rw [hw6]; exact Blk.new wc _ _
      obtain ⟨gf, hgf⟩ : ∃ g, g = wc.heap.size := ⟨_, rfl⟩
      rw [← hgf] at BF
      have hgfn : gv < gf := by rw [hgf]; exact Kc.v.lt
      have hgfo : ¬ own vf gf := fun ho => by have := Kc.o.lt ho; omega
      have K9 := Kc.ext x6
      have hbrf : br < gf := by have := Kc.bv; omega
      replace hw6 := Lib.hid hw6
      replace hgf := Lib.hid hgf
      clear Kc x6
      go_upto_region 8 with fail
      rw [← hw6.out, ← hgf.out]
      clear hw6 hgf
      have hc1 := rrbytes_any K9.r (by omega)
      go_wp2_with fail
      refine hc1.mono ?_
      rintro e w10 ⟨v10, u10, rfl, r10, o10, f10, m10⟩
      have K10 := K9.call r10 m10
      have B10 := BF.mod m10 (by omega)
      have hcv := run_conv (P := Try.prog) Try.underlying26 Try.underlying5 Try.underlying9 o10.sl
      clear hc1 K9 BF r10 m10 o10 f10
      have fz3 := B10.frozen 3
      have z3 : _ = some _ := Blk.cell B10 3
      have sm := setc_mod w10 gf 3 (sv (takeB (takeN (takeN (takeN (some l)).2).2).2).1)
      have K11 := K10.far sm (fun k _ h => by rw [h]; exact ⟨hgfn, hgfo⟩)
      have B11 := B10.set_ 3 (sv (takeB (takeN (takeN (takeN (some l)).2).2).2).1)
      obtain ⟨w11, hw11⟩ : ∃ w11, w11 = w10.setCell ⟨gf, 3, none⟩ (sv (takeB (takeN (takeN (takeN (some l)).2).2).2).1) := ⟨_, rfl⟩
      rw [← hw11] at K11 B11
      replace hw11 := Lib.hid hw11
      clear sm K10 B10
      go_upto_region 9 with fail
      rw [← hw11.out]
      clear hw11 hcv fz3 z3
      have hc2 := rrbytes_any K11.r (by omega)
      go_wp2_with fail
      refine hc2.mono ?_
      rintro e w12 ⟨v12, u12, rfl, r12, o12, f12, m12⟩
      have K12 := K11.call r12 m12
      have B12 := B11.mod m12 (by omega)
      have hcv := run_conv (P := Try.prog) Try.underlying26 Try.underlying5 Try.underlying9 o12.sl
      clear hc2 K11 B11 r12 m12 o12 f12
      have fz4 := B12.frozen 4
      have z4 : _ = some _ := Blk.cell B12 4
      have sm := setc_mod w12 gf 4 (sv (takeB (takeB (takeN (takeN (takeN (some l)).2).2).2).2).1)
      have K13 := K12.far sm (fun k _ h => by rw [h]; exact ⟨hgfn, hgfo⟩)
      have B13 := B12.set_ 4 (sv (takeB (takeB (takeN (takeN (takeN (some l)).2).2).2).2).1)
      obtain ⟨w13, hw13⟩ : ∃ w13, w13 = w12.setCell ⟨gf, 4, none⟩ (sv (takeB (takeB (takeN (takeN (takeN (some l)).2).2).2).2).1) := ⟨_, rfl⟩
      rw [← hw13] at K13 B13
      replace hw13 := Lib.hid hw13
      clear sm K12 B12
      go_upto_region 10 with fail
      rw [← hw13.out]
      clear hw13 hcv fz4 z4
      rw [← hT2] at K13
      have B14 : Blk w13 gf 48 (fia (takeF (some l)).1) := B13
      clear B13 hT2 hm1 hm2 hm3 hm4 hl0 hl1 hl2 hl3 hl4 hfw
      generalize (takeF (some l)).1 = x at *
      generalize (takeF (some l)).2 = st2 at *
      obtain ⟨z0, z1, z2, z3, z4⟩ := cell5 B14
      obtain ⟨Af, cf, rfl⟩ := ownF_shape K13.o
      have c1 : _ = some (Value.slice Af L.length cf) := K13.v.cell 1
      have hn : (L.length + 1) * 56 ≤ 140737488355328 := by omega
      go_wp2_with ((with_reducible show wpList _ _ _ (⟨some 50, _, _, _, _, _⟩ :: _) _ _); refine wp_appR tyF fic_len (x := x) K13.o rfl (fic_ok _) hn rfl (.tmp 47) (.tmp 49) rfl rfl rfl ?_; intro va wa ka1 ka2 ka3; obtain ⟨A9, n9, c9, rfl⟩ : ∃ A n c, va = Value.slice A n c := (by obtain ⟨A, c, h⟩ := ka1.shape; exact ⟨A, _, c, h⟩); have hva := K13.v.mod ka2 (fun ho => ownR_ne_blk K13.o K13.v (by decide) ho rfl); have q1 : wa.cell? ⟨gv, 1, none⟩ = some (Value.slice Af L.length cf) := hva.cell 1; have q2 := hva.frozen 1)
      exact ⟨⟨j + 1, m, st2, v12, _, L ++ [x], by go_num, by omega, hrun2, K13.add ka1 ka2 ka3, hws⟩, by simp [intOf] <;> omega⟩
    have hXe : Hid (X = (L, st)) := Lib.hid (by
      rw [← hrun.out]
      cases m with
      | zero => rfl
      | succ m => cases st with
        | none => rfl
        | some l => exact absurd ⟨Nat.succ_pos _, rfl⟩ hst)
    have hlk := look_good (b := b) (nx := NX) (L := L) (st := st) (by rw [hread.out, hXe.out])
    have hmf : MFits L := mfits_of (by omega)
    have hen := rencode_any (n := NX) K.o.rc hmf
    obtain ⟨Af, cf, rfl⟩ := ownF_shape K.o
    have c0 : wr.cell? ⟨gv, 0, none⟩ = some (.int .i64 NX) := K.v.cell 0
    have c1 : wr.cell? ⟨gv, 1, none⟩ = some (Value.slice Af L.length cf) := K.v.cell 1
    have hLg : goodV b → (decV b) = (NX, L) ∧ decC b = 0 := fun hg => by
      unfold decV decC
      rw [if_pos hg, if_pos hg, hread.out, hXe.out]
      exact ⟨rfl, rfl⟩
    have hLn : ¬ goodV b → (decV b) = (0, []) ∧ decC b = 3 := fun hg => by
      unfold decV decC
      rw [if_neg hg, if_neg hg]
      exact ⟨rfl, rfl⟩
    clear hrun hread hXe hmf hsl
    by_cases h0 : 0 < m
    case' pos =>
      have hsn : st.isNone = true := by
        cases st with
        | none => rfl
        | some l => exact absurd ⟨h0, rfl⟩ hst
      rw [hsn] at cn
      have hb0 : decide ((j : Int) < (N : Int)) = true := dtrue (by omega)
      have hb0' : decide (j < N) = true := dtrue (by omega)
      clear hst hsn
      go_wp2_with fail
    case' neg =>
      have hb0 : decide ((j : Int) < (N : Int)) = false := dfalse (by omega)
      have hb0' : decide (j < N) = false := dfalse (by omega)
      clear hst
      go_wp2_with fail
    all_goals
      refine hen.mono ?_
      rintro e w9 ⟨v8, rfl, o8, f8, x8⟩
      have K8 := K.ext x8
      have B8 := BR.mod K8.ex (fun h => h)
      have cv1 := run_conv (P := Try.prog) Try.underlying26 Try.underlying5 Try.underlying9 o8.sl
      have cv2 := run_conv (P := Try.prog) Try.underlying26 Try.underlying5 Try.underlying9 (h.mod (ext_trans x1 K8.ex) (fun _ _ _ h => h))
      clear hen K x8 c0 c1 hb0 hb0' h0 cn o8 f8
      have ce : w9.cell? ⟨br, 1, none⟩ = some (.bool st.isNone) := K8.r.blk.cell 1
      have f0 := Blk.frozen B8 0
      have f1 := Blk.frozen B8 1
      have p0 : _ = some (Value.int .i64 0) := Blk.cell B8 0
      have p1 : _ = some (Value.slice none 0 0) := Blk.cell B8 1
      have c0 : w9.cell? ⟨gv, 0, none⟩ = some (.int .i64 NX) := K8.v.cell 0
      have c1 : w9.cell? ⟨gv, 1, none⟩ = some (Value.slice Af L.length cf) := K8.v.cell 1
      have hgl : gr < gv + 1 := by have := K8.lo; have := K8.bv; omega
      have fin : ∀ p q, Ext w ((w9.setCell ⟨gr, 0, none⟩ p).setCell ⟨gr, 1, none⟩ q) := fun p q => (ext_trans x1 K8.ex).trans (set2_mod w9 gr p q) (fun _ _ h => h) (fun k hk e => by omega)
      have hof : ∀ p q, OwnF ((w9.setCell ⟨gr, 0, none⟩ p).setCell ⟨gr, 1, none⟩ q) (Value.slice Af L.length cf) L := fun p q => OwnR.mod K8.o (set2_mod w9 gr p q) (fun k hk e => by have := K8.fr k hk; omega)
      clear K8
      generalize codeV NX L = CE at *
      generalize bytesV NX L = BE at *
      have R5 := fun p q => (B8.set_ 0 p).set_ 1 q
      clear B8
      by_cases hg : goodV b
      · obtain ⟨-, g2, g3, g4⟩ := hlk.1 hg
        obtain ⟨hdE, hdN⟩ := hLg hg
        rw [g4] at ce
        simp only [Option.isNone_some] at ce
        rw [g3] at cv1
        rw [g2]
        have q5 : (((0 : Nat) : Int) != 0) = false := rfl
        have q6 : (b == b) = true := beq_self_eq_true b
        have q7 : (b != b) = false := by simp
        replace hdE := Lib.hid hdE
        replace hdN := Lib.hid hdN
        clear hlk hg g2 g3 g4 hLg hLn
        go_wp2_with fail
        refine bodyPost_ret (results_cell_row2 Try.results20 _ _ _ _ _ _ _ rfl (R5 (.int .i64 NX) (Value.slice Af L.length cf)) Try.underlying24 rfl (by kernel_rfl)) rfl ?_
        exact ⟨_, by rw [hdN.out, hdE.out]; rfl, by rw [hdE.out]; exact hof _ _, fin _ _⟩
      obtain ⟨hdE, hdN⟩ := hLn hg
      replace hdE := Lib.hid hdE
      replace hdN := Lib.hid hdN
      have hcs : st.isNone = true ∨ (st.isNone = false ∧ CE ≠ 0) ∨ (st.isNone = false ∧ CE = 0 ∧ BE ≠ b) := by
        cases st with
        | none => exact .inl rfl
        | some l =>
          by_cases he : CE = 0
          · exact .inr (.inr ⟨rfl, he, fun h => hg (hlk.2 he h)⟩)
          · exact .inr (.inl ⟨rfl, he⟩)
      clear hg hlk hLg hLn
      rcases hcs with q1 | ⟨q1, q2⟩ | ⟨q1, q2, q3⟩
      case' inl => rw [q1] at ce; clear q1; go_wp2_with fail
      case' inr.inl => (rw [q1] at ce; (have q5 : ((CE : Int) != 0) = true := by rw [bne_iff_ne]; omega); clear q1 q2; go_wp2_with fail)
      case' inr.inr => (rw [q1] at ce; rw [q2]; (have q4 : (BE != b) = true := bne_iff_ne.2 q3); (have q6 : (BE == b) = false := beq_eq_false_iff_ne.2 q3); (have q5 : (((0 : Nat) : Int) != 0) = false := rfl); clear q1 q2 q3; go_wp2_with fail)
      all_goals refine bodyPost_ret (results_cell_row2 Try.results20 _ _ _ _ _ _ _ rfl (R5 (.int .i64 0) (.slice none 0 0)) Try.underlying24 rfl (by kernel_rfl)) rfl ?_
      all_goals exact ⟨_, by rw [hdN.out, hdE.out]; rfl, by rw [hdE.out]; exact OwnF.nil _, fin _ _⟩

set_option maxHeartbeats 32000000 in
theorem ldecodes_any {w : World} {S : Nat → Prop} {v : Value} {b : List UInt8} (h : Bs w S v b) :
    Calls Try.prog 4 #[v] w fun e w' => e = .returned (.bool true) ∧ Ext w w' := by
  obtain ⟨A, c, rfl, h1, h2, h3, h4⟩ := h.open_
  have hkn := known11_any
  by_cases hl : b.length ≤ 2000
  case neg =>
    have q1 : decide ((2000 : Int) < (b.length : Int)) = true := dtrue (by omega)
    have q1' : decide (2000 < b.length) = true := dtrue (by omega)
    go_enter Try.func4, Try.ntmps4
    go_wp2_with fail
    go_ret
    exact ⟨rfl, Mod.refl _ _⟩
  have q1 : decide ((2000 : Int) < (b.length : Int)) = false := dfalse (by omega)
  have q1' : decide (2000 < b.length) = false := dfalse (by omega)
  have oE := Own.empty w 5
  have x0 : Ext w (w.alloc (.cells #[] 5)) := (Mod.refl _ w).alloc _
  have fE : Fresh w.heap.size (.slice (some ⟨w.heap.size, 0, none⟩) 0 0) := fun k hk => by have : w.heap.size = k := Option.some.inj hk; omega
  have hb0 := h.ext x0
  go_enter Try.func4, Try.ntmps4
  go_wp2_with ((with_reducible show wpList _ _ _ (⟨some 13, _, _, _, _, _⟩ :: _) _ _); refine wp_app tyB oE hb0 (bv_one _) rfl (.tmp 11) (.tmp 12) rfl rfl rfl (by simp only [List.length_nil, List.length_map]; omega) ?_; intro va wa ka1 ka2 ka3)
  rw [List.nil_append] at ka1
  have y1 : Ext w wa := x0.trans ka2 (fun _ _ h => h) (fun k hk ho => by have := fE k ho; omega)
  refine (decode_any ka1.sl (by omega)).mono ?_
  rintro e w4 ⟨v4, rfl, o4, x4⟩
  obtain ⟨A4, c4, rfl⟩ := ownF_shape o4
  have y4 := ext_trans y1 x4
  have hrd := fun {wx : World} (x : Ext w wx) => rdecode_any (h.ext x) (by omega)
  generalize decC b = CE at *
  generalize decV b = V at *
  obtain ⟨n, L⟩ := V
  simp only at o4 hrd ⊢
  clear ka1 ka2 ka3 x4 y1 oE fE x0 hb0
  have x5 : Ext w4 (w4.alloc (.cells #[.int .i64 n, .slice A4 L.length c4] 24)) := (Mod.refl _ w4).alloc _
  have B5 := Blk.new w4 24 #[.int .i64 n, .slice A4 L.length c4]
  obtain ⟨w5, hw5⟩ : ∃ w5, w5 = w4.alloc (.cells #[.int .i64 n, .slice A4 L.length c4] 24) := ⟨_, rfl⟩
  rw [← hw5] at x5 B5
  obtain ⟨g5, hg5⟩ : ∃ g, g = w4.heap.size := ⟨_, rfl⟩
  rw [← hg5] at B5
  replace hw5 := Lib.hid hw5
  replace hg5 := Lib.hid hg5
  have y5 := ext_trans y4 x5
  have o5 := OwnR.ext o4 x5
  clear o4 x5 y4
  go_upto_region 4 with fail
  rw [← hw5.out, ← hg5.out]
  clear hw5 hg5
  go_wp2_with fail
  refine (hrd y5).mono ?_
  rintro e w6 ⟨v6, rfl, o6, x6⟩
  obtain ⟨A6, c6, rfl⟩ := ownF_shape o6
  have y6 := ext_trans y5 x6
  have x7 : Ext w6 (w6.alloc (.cells #[.int .i64 n, .slice A6 L.length c6] 24)) := (Mod.refl _ w6).alloc _
  have B7 := Blk.new w6 24 #[.int .i64 n, .slice A6 L.length c6]
  obtain ⟨w7, hw7⟩ : ∃ w7, w7 = w6.alloc (.cells #[.int .i64 n, .slice A6 L.length c6] 24) := ⟨_, rfl⟩
  rw [← hw7] at x7 B7
  obtain ⟨g7, hg7⟩ : ∃ g, g = w6.heap.size := ⟨_, rfl⟩
  rw [← hg7] at B7
  have hsa := same_any (n := n) (OwnR.ext o5 (ext_trans x6 x7)).rc (OwnR.ext o6 x7).rc
  have y7 := ext_trans y6 x7
  have B57 := B5.mod (ext_trans x6 x7) (fun h => h)
  have c0 : w7.cell? ⟨g5, 0, none⟩ = some (.int .i64 n) := B57.cell 0
  have c1 : w7.cell? ⟨g5, 1, none⟩ = some (.slice A4 L.length c4) := B57.cell 1
  have d0 : w7.cell? ⟨g7, 0, none⟩ = some (.int .i64 n) := B7.cell 0
  have d1 : w7.cell? ⟨g7, 1, none⟩ = some (.slice A6 L.length c6) := B7.cell 1
  have q3 : ((CE : Int) == (CE : Int)) = true := beq_self_eq_true _
  replace hw7 := Lib.hid hw7
  replace hg7 := Lib.hid hg7
  clear hrd o5 o6 x6 x7 B5 B7 B57 y5 y6
  go_upto_region 5 with fail
  rw [← hw7.out, ← hg7.out]
  clear hw7 hg7
  go_wp2_with fail
  refine hsa.mono ?_
  rintro e w8 ⟨rfl, x8⟩
  go_wp2_with fail
  refine (hkn _).mono ?_
  rintro e w9 ⟨rfl, x9⟩
  go_wp2_with fail
  go_ret
  exact ⟨rfl, ext_trans y7 (ext_trans x8 x9)⟩
end Go.Proofs.Ytmjkgibeljbloaa
