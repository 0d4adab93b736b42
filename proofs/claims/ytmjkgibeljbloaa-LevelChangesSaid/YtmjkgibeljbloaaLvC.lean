/- level: whether a version may be: the program's. -/
import Derived.Test.YtmjkgibeljbloaaLvB
import Derived.Maps.OwnOps
import Derived.Maps.OwnSet
import Derived.WalkArith
namespace Go.Proofs.Ytmjkgibeljbloaa
open Go.RowKit Go.Maps Go.WideMaps
set_option maxRecDepth 100000

/-- File k is as it must be there. -/
def okAt (n : Int) (L : List Fl) (k : Nat) : Prop := ∃ hk : k < L.length, fitF L[k] n ∧ (∀ h0 : 0 < k, riseF (L[k - 1]'(by omega)) L[k]) ∧ ∀ j (hj : j < k), (L[j]'(by omega)).id ≠ L[k].id
/-- P11.1: a version may be. -/
def isV (n : Int) (L : List Fl) : Prop := 1 ≤ n ∧ n ≤ 1099511627776 ∧ L.length ≤ 1024 ∧ ∀ k, k < L.length → okAt n L k
noncomputable instance (n : Int) (L : List Fl) : Decidable (isV n L) := Classical.propDecidable _

theorem keyI : Keyed Try.prog 3 := int_keyed Try.underlying3
theorem zeroU (w : World) : (zeroValue 72).run Try.prog w = .ok (.agg #[]) w := by kernel_rfl
theorem run_makeMapN {P : Program} {t a b : TypeId} (ht : P.underlying t = some (.map a b)) (w : World) (k : IntKind) (n : Nat) : (Instr.makeMap t (some (.int k (n : Int)))).run P w = .ok (.map (some w.heap.size)) (w.alloc (.map #[] 0)) := by
  simp [Instr.makeMap, run_underlying ht, asInt, Result.andThen]
  rfl
abbrev SetI (w : World) (b n : Nat) (D : DataW Unit) : Prop := w.ownsMap Try.prog 3 unitElem b n D
theorem ownsMap_mod {H : Type} {P : Program} {k : TypeId} {R : Value → Option (DataW H × List MemPlace)} {w w' : World} {b n : Nat} {D : DataW H} {F : Nat → Prop} (h : w.ownsMap P k R b n D) (hm : Mod F w w') (hn : ¬ F b) : w'.ownsMap P k R b n D := by
  have hlt := h.lt
  obtain ⟨es, clock, hb, F, hs, hD⟩ := h
  exact ⟨es, clock, (hm.block b hlt hn).trans hb, F, hs, hD⟩
/-- It is the set of the numbers of the first k files. -/
def IdsOk (L : List Fl) (k : Nat) (D : DataW Unit) : Prop := IsMap D ∧ ∀ x : Int, has D (.int .i64 x) = true ↔ ∃ c ∈ L.take k, c.id = x
theorem idsOk_none (L : List Fl) : IdsOk L 0 (.map []) := ⟨isMap_empty, fun x => by simp [has_eq]⟩
theorem IdsOk.put {L : List Fl} {k : Nat} {D : DataW Unit} (h : IdsOk L k D) (hk : k < L.length) : IdsOk L (k + 1) (D.put (.int .i64 L[k].id) (.agg [])) := by
  refine ⟨h.1.put _ _, fun y => ?_⟩
  rw [List.take_succ_eq_append_getElem hk]
  by_cases e : y = L[k].id
  · subst e
    rw [has_put_same h.1 (k := .int .i64 L[k].id) trivial]
    exact ⟨fun _ => ⟨L[k], List.mem_append_right _ (List.mem_singleton.2 rfl), rfl⟩, fun _ => rfl⟩
  · rw [has_put_other (fun e2 => e (by injection e2)), h.2]
    constructor
    · rintro ⟨c, hc, rfl⟩; exact ⟨c, List.mem_append_left _ hc, rfl⟩
    · rintro ⟨c, hc, rfl⟩
      rcases List.mem_append.1 hc with hc | hc
      · exact ⟨c, hc, rfl⟩
      · rw [List.mem_singleton.1 hc] at e
        exact absurd rfl e
theorem keyOf_iv (x : Int) (h : -9223372036854775808 ≤ x ∧ x ≤ 9223372036854775807) : keyOf Try.prog 3 (.int .i64 x) = some (.int .i64 x) := keyOf_int_mk Try.underlying3 (WalkArith.wf_i64 h)

set_option maxHeartbeats 32000000 in
theorem is_any {w : World} {S : Nat → Prop} {vf : Value} {n : Int} {L : List Fl} (h : Fs w S vf L) (hf : MFits L) :
    Calls Try.prog 15 #[.agg #[.int .i64 n, vf]] w fun e w' => e = .returned (.bool (decide (isV n L))) ∧ Ext w w' := by
  have hlen := hf.2
  obtain ⟨A, c, rfl, h1, h2, h3, h4⟩ := h.open_ fic_len
  clear h
  obtain ⟨R, hR⟩ : ∃ R, R = decide (isV n L) := ⟨_, rfl⟩
  rw [← hR]
  have B0 : Blk (w.alloc (.cells #[.int .i64 n, .slice A L.length c] 24)) w.heap.size 24 #[.int .i64 n, .slice A L.length c] := Blk.new w _ _
  have x0 : Ext w (w.alloc (.cells #[.int .i64 n, .slice A L.length c] 24)) := (Mod.refl _ w).alloc _
  obtain ⟨w0, hw0⟩ : ∃ w0, w0 = w.alloc (.cells #[.int .i64 n, .slice A L.length c] 24) := ⟨_, rfl⟩
  rw [← hw0] at B0 x0
  replace hw0 := Lib.hid hw0
  have h4 := h4.ext x0
  have b0 : w0.cell? ⟨w.heap.size, 0, none⟩ = some (.int .i64 n) := B0.cell 0
  have b1 : w0.cell? ⟨w.heap.size, 1, none⟩ = some (.slice A L.length c) := B0.cell 1
  by_cases n1 : 1 ≤ n
  case neg =>
    have q1 : decide (n < (1 : Int)) = true := dtrue (by omega)
    have hE : Hid (R = false) := Lib.hid (by rw [hR]; exact dfalse fun h => n1 h.1)
    clear hR n1
    go_enter Try.func15, Try.ntmps15
    go_upto_region 1 with fail
    rw [← hw0.out]
    go_wp2_with fail
    go_ret
    exact ⟨by rw [hE.out]; rfl, x0⟩
  have q1 : decide (n < (1 : Int)) = false := dfalse (by omega)
  by_cases n2 : n ≤ 1099511627776
  case neg =>
    have q2 : decide ((1099511627776 : Int) < n) = true := dtrue (by omega)
    have hE : Hid (R = false) := Lib.hid (by rw [hR]; exact dfalse fun h => n2 h.2.1)
    clear hR n1 n2
    go_enter Try.func15, Try.ntmps15
    go_upto_region 1 with fail
    rw [← hw0.out]
    go_wp2_with fail
    go_ret
    exact ⟨by rw [hE.out]; rfl, x0⟩
  have q2 : decide ((1099511627776 : Int) < n) = false := dfalse (by omega)
  by_cases n3 : L.length ≤ 1024
  case neg =>
    have q3 : decide ((1024 : Int) < (L.length : Int)) = true := dtrue (by omega)
    have q3' : decide (1024 < L.length) = true := dtrue (by omega)
    have hE : Hid (R = false) := Lib.hid (by rw [hR]; exact dfalse fun h => n3 h.2.2.1)
    clear hR n1 n2 n3
    go_enter Try.func15, Try.ntmps15
    go_upto_region 1 with fail
    rw [← hw0.out]
    go_wp2_with fail
    go_ret
    exact ⟨by rw [hE.out]; rfl, x0⟩
  have q3 : decide ((1024 : Int) < (L.length : Int)) = false := dfalse (by omega)
  have q3' : decide (1024 < L.length) = false := dfalse (by omega)
  have hbad : ∀ k, k < L.length → ¬ okAt n L k → R = false := fun k hk hb => by rw [hR]; exact dfalse fun h => hb (h.2.2.2 k hk)
  have hgood : (∀ k, k < L.length → okAt n L k) → R = true := fun hg => by rw [hR]; exact dtrue ⟨n1, n2, n3, hg⟩
  have hle : ∀ x : Fl, fitF x n → -9223372036854775808 ≤ x.id ∧ x.id ≤ 9223372036854775807 := fun x hx => ⟨by have := hx.1; omega, by have := hx.2.1; omega⟩
  replace hbad := Lib.hid hbad
  replace hgood := Lib.hid hgood
  clear hR n1 n2
  have hmm := fun wx => run_makeMapN Try.underlying69 wx .i64 L.length
  have M0 : SetI (w0.alloc (.map #[] 0)) w0.heap.size 0 (.map []) := World.ownsMap_made _ _ _ _
  have x1 : Ext w0 (w0.alloc (.map #[] 0)) := (Mod.refl _ w0).alloc _
  have hb0 : ∀ {wx : World}, Ext w0 wx → wx.cell? ⟨w.heap.size, 0, none⟩ = some (.int .i64 n) ∧ wx.cell? ⟨w.heap.size, 1, none⟩ = some (.slice A L.length c) := fun x => ⟨ext_cell x b0, ext_cell x b1⟩
  obtain ⟨b2, b3⟩ := hb0 x1
  clear B0
  go_enter Try.func15, Try.ntmps15
  go_upto_region 1 with fail
  rw [← hw0.out]
  clear hw0
  go_wp2_with fail
  go_loopw [29] (fun i wr => ∃ (k : Nat) (D : DataW Unit), k ≤ L.length ∧ i = .int .i64 k ∧ SetI wr w0.heap.size k D ∧ Hid (IdsOk L k D) ∧ Hid (∀ j, j < k → okAt n L j) ∧ Ext w0 wr) (fun i _ => L.length - (intOf i).toNat)
  case atStart => exact ⟨0, _, Nat.zero_le _, rfl, M0, Lib.hid (idsOk_none L), Lib.hid (fun j hj => absurd hj (Nat.not_lt_zero _)), x1⟩
  case round =>
    clear M0 x1 hmm b0 b1 b2 b3 q1 q2 q3 q3'
    obtain ⟨k, D, hk, rfl, hM, hids, hal, hx⟩ := hrel
    by_cases hlt : k < L.length
    case neg =>
      have hbl : decide ((k : Int) < (L.length : Int)) = false := dfalse (by omega)
      have hE := Lib.hid (hgood.out fun j hj => hal.out j (by omega))
      clear hbad hgood hids hal
      go_wp2_with fail
      go_ret
      exact ⟨by rw [hE.out]; rfl, ext_trans x0 hx⟩
    have hbl : decide ((k : Int) < (L.length : Int)) = true := dtrue (by omega)
    have hat : ∀ {wx : World}, Ext w0 wx → ∃ ad, A = some ad ∧ wx.cell? (ad.add (k * 5)) = some (.int .i64 L[k].id) ∧ wx.cell? ⟨(ad.add (k * 5)).block, (ad.add (k * 5)).off + 1, none⟩ = some (.int .i64 L[k].lev) ∧ wx.cell? ⟨(ad.add (k * 5)).block, (ad.add (k * 5)).off + 2, none⟩ = some (.int .i64 L[k].size) ∧ wx.cell? ⟨(ad.add (k * 5)).block, (ad.add (k * 5)).off + 3, none⟩ = some (sv L[k].first) ∧ wx.cell? ⟨(ad.add (k * 5)).block, (ad.add (k * 5)).off + 4, none⟩ = some (sv L[k].last) := fun x => by
      obtain ⟨ad, hA, _, e0, e1, e2, e3, e4⟩ := Fs.at_ (h4.ext x) hlt
      exact ⟨ad, hA, e0, e1, e2, e3, e4⟩
    obtain ⟨ad, hA, c0, c1, c2, c3, c4⟩ := hat hx
    subst hA
    have hi0 : (0 : Int) ≤ (k : Int) := by omega
    have hi1 : (k : Int) < (L.length : Int) := by omega
    have hff : FFits L[k] := hf.1 _ (List.getElem_mem _)
    obtain ⟨K, hK⟩ : ∃ K : Prop, K = okAt n L k := ⟨_, rfl⟩
    have hKd : K ↔ fitF L[k] n ∧ (∀ h0 : 0 < k, riseF (L[k - 1]'(by omega)) L[k]) ∧ ¬ ∃ c ∈ L.take k, c.id = L[k].id := by
      rw [hK]
      constructor
      · rintro ⟨_, a1, a2, a3⟩
        refine ⟨a1, a2, ?_⟩
        rintro ⟨c, hc, he⟩
        obtain ⟨j, hj, rfl⟩ := List.getElem_of_mem hc
        rw [List.length_take] at hj
        rw [List.getElem_take] at he
        exact a3 j (by omega) he
      · rintro ⟨a1, a2, a3⟩
        exact ⟨hlt, a1, a2, fun j hj he => a3 ⟨L[j], List.mem_iff_getElem.2 ⟨j, by rw [List.length_take]; omega, by rw [List.getElem_take]⟩, he⟩⟩
    have hKbad : ¬ K → R = false := fun hn => hbad.out k hlt (by rw [← hK]; exact hn)
    have hKgood : K → Hid (∀ j, j < k + 1 → okAt n L j) := fun hg => Lib.hid fun j hj => by
      by_cases e : j = k
      · subst e; rw [← hK]; exact hg
      · exact hal.out j (by omega)
    have hhas : has D (.int .i64 L[k].id) = true ↔ ∃ c ∈ L.take k, c.id = L[k].id := hids.out.2 _
    have hids2 := Lib.hid (hids.out.put hlt)
    obtain ⟨T, hT⟩ : ∃ T : Prop, T = ∃ c ∈ L.take k, c.id = L[k].id := ⟨_, rfl⟩
    rw [← hT] at hhas hKd
    obtain ⟨G, hG⟩ : ∃ G : Prop, G = ∀ j, j < k + 1 → okAt n L j := ⟨_, rfl⟩
    rw [← hG] at hKgood
    replace hG := Lib.hid hG
    clear hK hT
    have hbx : Ext wr (wr.alloc (.cells (fia L[k]) 48)) := (Mod.refl _ wr).alloc _
    have hBF := Blk.new wr 48 (fia L[k])
    obtain ⟨w3, hw3⟩ : ∃ w3, w3 = wr.alloc (.cells (fia L[k]) 48) := ⟨_, rfl⟩
    rw [← hw3] at hbx hBF
    have x3 := ext_trans hx hbx
    have M3 := ownsMap_mod hM hbx (fun h => h)
    replace hw3 := Lib.hid hw3
    have hfits := fun wx => fits_any (w := wx) L[k] n hff
    clear hids hal hgood hbad hM hbx
    have hbk : ∀ {wx : World}, Ext w3 wx → wx.cell? ⟨w.heap.size, 0, none⟩ = some (.int .i64 n) ∧ wx.cell? ⟨w.heap.size, 1, none⟩ = some (.slice (some ad) L.length c) ∧ wx.cell? ⟨wr.heap.size, 0, none⟩ = some (.int .i64 L[k].id) ∧ wx.cell? ⟨wr.heap.size, 1, none⟩ = some (.int .i64 L[k].lev) ∧ wx.cell? ⟨wr.heap.size, 2, none⟩ = some (.int .i64 L[k].size) ∧ wx.cell? ⟨wr.heap.size, 3, none⟩ = some (sv L[k].first) ∧ wx.cell? ⟨wr.heap.size, 4, none⟩ = some (sv L[k].last) := fun x => by
      have B := hBF.mod x (fun h => h)
      exact ⟨(hb0 (ext_trans x3 x)).1, (hb0 (ext_trans x3 x)).2, B.cell 0, B.cell 1, B.cell 2, B.cell 3, B.cell 4⟩
    have hkn : k < 9223372036854775807 := by omega
    have q0 : Ext w3 w3.drew := (Mod.refl _ w3).drew
    by_cases hft : fitF L[k] n
    case neg =>
      have hE := Lib.hid (hKbad fun h => hft (hKd.1 h).1)
      simp only [dfalse hft] at hfits
      clear hKd hKbad hKgood hhas hids2 hle M3 h4
      generalize L[k] = x at *
      go_upto_region 7 with fail
      rw [← hw3.out]
      go_wp2_with fail
      refine wp_region_held_drew (S := fun wx => wx.cell? ⟨w.heap.size, 0, none⟩ = some (.int .i64 n) ∧ wx.cell? ⟨w.heap.size, 1, none⟩ = some (.slice (some ad) L.length c) ∧ wx.cell? ⟨wr.heap.size, 0, none⟩ = some (.int .i64 x.id) ∧ wx.cell? ⟨wr.heap.size, 1, none⟩ = some (.int .i64 x.lev) ∧ wx.cell? ⟨wr.heap.size, 2, none⟩ = some (.int .i64 x.size) ∧ wx.cell? ⟨wr.heap.size, 3, none⟩ = some (sv x.first) ∧ wx.cell? ⟨wr.heap.size, 4, none⟩ = some (sv x.last)) (by kernel_rfl) (hbk q0) (fun hH => ?_)
      (refine wpAnyH_take (i := 0) (oi := ⟨_, _, _, _, _, _⟩) (v := ?tv1) rfl (by kernel_rfl) (by kernel_rfl) (by kernel_rfl) (fun _ _ _ h => h) (Or.inl ⟨by kernel_rfl, ?hy1⟩) hH ?rs1; (case hy1 => (intro wx hSw; (try dsimp only at hSw); go_simp; try with_reducible rfl)); try simp only [Act.put, List.setIfInBounds_toArray, List.set_cons_zero, List.set_cons_succ]; try simp only [List.getElem_toArray, List.getElem_cons_succ, List.getElem_cons_zero])
      (refine wpAnyH_take (i := 1) (oi := ⟨_, _, _, _, _, _⟩) (v := ?tv2) rfl (by kernel_rfl) (by kernel_rfl) (by kernel_rfl) (fun _ _ _ h => h) (Or.inl ⟨by kernel_rfl, ?hy2⟩) hH ?rs2; (case hy2 => (intro wx hSw; (try dsimp only at hSw); go_simp; try with_reducible rfl)); try simp only [Act.put, List.setIfInBounds_toArray, List.set_cons_zero, List.set_cons_succ]; try simp only [List.getElem_toArray, List.getElem_cons_succ, List.getElem_cons_zero])
      (refine wpAnyH_take (i := 2) (oi := ⟨_, _, _, _, _, _⟩) (v := ?tv3) rfl (by kernel_rfl) (by kernel_rfl) (by kernel_rfl) (fun _ _ _ h => h) (Or.inl ⟨by kernel_rfl, ?hy3⟩) hH ?rs3; (case hy3 => (intro wx hSw; (try dsimp only at hSw); go_simp; try with_reducible rfl)); try simp only [Act.put, List.setIfInBounds_toArray, List.set_cons_zero, List.set_cons_succ]; try simp only [List.getElem_toArray, List.getElem_cons_succ, List.getElem_cons_zero])
      (refine wpAnyH_ready (rs := [3]) (by kernel_rfl) (by simp) ?_; refine AllReadyH.cons rfl (fun K hK => ?_) AllReadyH.nil; go_simp)
      refine (hfits _).mono ?_
      rintro e wa ⟨rfl, xa⟩
      have q1 := ext_trans q0 xa
      (go_wp2_with fail; refine hK.out _ _ (hbk q1) (fun hH => ?_); clear hK K; try simp only [Act.put, List.setIfInBounds_toArray, List.set_cons_zero, List.set_cons_succ]; try simp only [List.getElem_toArray, List.getElem_cons_succ, List.getElem_cons_zero])
      (refine wpAnyH_take (i := 4) (oi := ⟨_, _, _, _, _, _⟩) (v := ?tv4) rfl (by kernel_rfl) (by kernel_rfl) (by kernel_rfl) (fun _ _ _ h => h) (Or.inl ⟨by kernel_rfl, ?hy4⟩) hH ?rs4; (case hy4 => (intro wx hSw; (try dsimp only at hSw); go_simp; try with_reducible rfl)); try simp only [Act.put, List.setIfInBounds_toArray, List.set_cons_zero, List.set_cons_succ]; try simp only [List.getElem_toArray, List.getElem_cons_succ, List.getElem_cons_zero])
      (refine wpAnyH_take (i := 5) (oi := ⟨_, _, _, _, _, _⟩) (v := ?tv5) rfl (by kernel_rfl) (by kernel_rfl) (by kernel_rfl) (fun _ _ _ h => h) (Or.inl ⟨by kernel_rfl, ?hy5⟩) hH ?rs5; (case hy5 => (intro wx hSw; (try dsimp only at hSw); go_simp; try with_reducible rfl)); try simp only [Act.put, List.setIfInBounds_toArray, List.set_cons_zero, List.set_cons_succ]; try simp only [List.getElem_toArray, List.getElem_cons_succ, List.getElem_cons_zero])
      (refine wpAnyH_take (i := 6) (v := undef) rfl (by kernel_rfl) (by kernel_rfl) (by kernel_rfl) (fun _ _ _ h => h) (Or.inr ⟨by kernel_rfl, rfl⟩) hH ?rs6; try simp only [Act.put, List.setIfInBounds_toArray, List.set_cons_zero, List.set_cons_succ]; try simp only [List.getElem_toArray, List.getElem_cons_succ, List.getElem_cons_zero])
      (refine wpAnyH_take (i := 7) (v := undef) rfl (by kernel_rfl) (by kernel_rfl) (by kernel_rfl) (fun _ _ _ h => h) (Or.inr ⟨by kernel_rfl, rfl⟩) hH ?rs7; try simp only [Act.put, List.setIfInBounds_toArray, List.set_cons_zero, List.set_cons_succ]; try simp only [List.getElem_toArray, List.getElem_cons_succ, List.getElem_cons_zero])
      (refine wpAnyH_take (i := 8) (v := undef) rfl (by kernel_rfl) (by kernel_rfl) (by kernel_rfl) (fun _ _ _ h => h) (Or.inr ⟨by kernel_rfl, rfl⟩) hH ?rs8; try simp only [Act.put, List.setIfInBounds_toArray, List.set_cons_zero, List.set_cons_succ]; try simp only [List.getElem_toArray, List.getElem_cons_succ, List.getElem_cons_zero])
      (refine wpAnyH_take (i := 9) (v := undef) rfl (by kernel_rfl) (by kernel_rfl) (by kernel_rfl) (fun _ _ _ h => h) (Or.inr ⟨by kernel_rfl, rfl⟩) hH ?rs9; try simp only [Act.put, List.setIfInBounds_toArray, List.set_cons_zero, List.set_cons_succ]; try simp only [List.getElem_toArray, List.getElem_cons_succ, List.getElem_cons_zero])
      (refine wpAnyH_take (i := 10) (v := undef) rfl (by kernel_rfl) (by kernel_rfl) (by kernel_rfl) (fun _ _ _ h => h) (Or.inr ⟨by kernel_rfl, rfl⟩) hH ?rs10; try simp only [Act.put, List.setIfInBounds_toArray, List.set_cons_zero, List.set_cons_succ]; try simp only [List.getElem_toArray, List.getElem_cons_succ, List.getElem_cons_zero])
      (refine wpAnyH_take (i := 11) (v := undef) rfl (by kernel_rfl) (by kernel_rfl) (by kernel_rfl) (fun _ _ _ h => h) (Or.inr ⟨by kernel_rfl, rfl⟩) hH ?rs11; try simp only [Act.put, List.setIfInBounds_toArray, List.set_cons_zero, List.set_cons_succ]; try simp only [List.getElem_toArray, List.getElem_cons_succ, List.getElem_cons_zero])
      (refine wpAnyH_take (i := 12) (v := undef) rfl (by kernel_rfl) (by kernel_rfl) (by kernel_rfl) (fun _ _ _ h => h) (Or.inr ⟨by kernel_rfl, rfl⟩) hH ?rs12; try simp only [Act.put, List.setIfInBounds_toArray, List.set_cons_zero, List.set_cons_succ]; try simp only [List.getElem_toArray, List.getElem_cons_succ, List.getElem_cons_zero])
      (refine wpAnyH_take (i := 13) (v := undef) rfl (by kernel_rfl) (by kernel_rfl) (by kernel_rfl) (fun _ _ _ h => h) (Or.inr ⟨by kernel_rfl, rfl⟩) hH ?rs13; try simp only [Act.put, List.setIfInBounds_toArray, List.set_cons_zero, List.set_cons_succ]; try simp only [List.getElem_toArray, List.getElem_cons_succ, List.getElem_cons_zero])
      (refine wpAnyH_take (i := 14) (v := undef) rfl (by kernel_rfl) (by kernel_rfl) (by kernel_rfl) (fun _ _ _ h => h) (Or.inr ⟨by kernel_rfl, rfl⟩) hH ?rs14; try simp only [Act.put, List.setIfInBounds_toArray, List.set_cons_zero, List.set_cons_succ]; try simp only [List.getElem_toArray, List.getElem_cons_succ, List.getElem_cons_zero])
      (refine wpAnyH_take (i := 15) (v := undef) rfl (by kernel_rfl) (by kernel_rfl) (by kernel_rfl) (fun _ _ _ h => h) (Or.inr ⟨by kernel_rfl, rfl⟩) hH ?rs15; try simp only [Act.put, List.setIfInBounds_toArray, List.set_cons_zero, List.set_cons_succ]; try simp only [List.getElem_toArray, List.getElem_cons_succ, List.getElem_cons_zero])
      (refine wpAnyH_take (i := 16) (v := undef) rfl (by kernel_rfl) (by kernel_rfl) (by kernel_rfl) (fun _ _ _ h => h) (Or.inr ⟨by kernel_rfl, rfl⟩) hH ?rs16; try simp only [Act.put, List.setIfInBounds_toArray, List.set_cons_zero, List.set_cons_succ]; try simp only [List.getElem_toArray, List.getElem_cons_succ, List.getElem_cons_zero])
      (refine wpAnyH_take (i := 17) (v := undef) rfl (by kernel_rfl) (by kernel_rfl) (by kernel_rfl) (fun _ _ _ h => h) (Or.inr ⟨by kernel_rfl, rfl⟩) hH ?rs17; try simp only [Act.put, List.setIfInBounds_toArray, List.set_cons_zero, List.set_cons_succ]; try simp only [List.getElem_toArray, List.getElem_cons_succ, List.getElem_cons_zero])
      (refine wpAnyH_take (i := 18) (v := undef) rfl (by kernel_rfl) (by kernel_rfl) (by kernel_rfl) (fun _ _ _ h => h) (Or.inr ⟨by kernel_rfl, rfl⟩) hH ?rs18; try simp only [Act.put, List.setIfInBounds_toArray, List.set_cons_zero, List.set_cons_succ]; try simp only [List.getElem_toArray, List.getElem_cons_succ, List.getElem_cons_zero])
      (refine wpAnyH_take (i := 19) (oi := ⟨_, _, _, _, _, _⟩) (v := ?tv19) rfl (by kernel_rfl) (by kernel_rfl) (by kernel_rfl) (fun _ _ _ h => h) (Or.inl ⟨by kernel_rfl, ?hy19⟩) hH ?rs19; (case hy19 => (intro wx hSw; (try dsimp only at hSw); go_simp; try with_reducible rfl)); try simp only [Act.put, List.setIfInBounds_toArray, List.set_cons_zero, List.set_cons_succ]; try simp only [List.getElem_toArray, List.getElem_cons_succ, List.getElem_cons_zero])
      refine wpAnyH_done (by kernel_rfl) ?_ _
      go_wp2_with fail
      go_ret
      exact ⟨by rw [hE.out]; rfl, ext_trans x0 (ext_trans x3 q1)⟩
    have hid := hle _ hft
    have hkey := keyOf_iv L[k].id hid
    simp only [dtrue hft] at hfits
    clear hle hid
    by_cases hk0 : k = 0
    case pos =>
      have hg0 : decide ((0 : Int) < (k : Int)) = false := dfalse (by omega)
      have hg0' : decide (0 < k) = false := dfalse (by omega)
      have hKd3 : K ↔ ¬ T := hKd.trans ⟨fun h => h.2.2, fun h => ⟨hft, fun h0 => absurd h0 (by omega), h⟩⟩
      clear hKd hk0 hft h4
      generalize L[k] = x at *
      go_upto_region 7 with fail
      rw [← hw3.out]
      go_wp2_with fail
      refine wp_region_held_drew (S := fun wx => wx.cell? ⟨w.heap.size, 0, none⟩ = some (.int .i64 n) ∧ wx.cell? ⟨w.heap.size, 1, none⟩ = some (.slice (some ad) L.length c) ∧ wx.cell? ⟨wr.heap.size, 0, none⟩ = some (.int .i64 x.id) ∧ wx.cell? ⟨wr.heap.size, 1, none⟩ = some (.int .i64 x.lev) ∧ wx.cell? ⟨wr.heap.size, 2, none⟩ = some (.int .i64 x.size) ∧ wx.cell? ⟨wr.heap.size, 3, none⟩ = some (sv x.first) ∧ wx.cell? ⟨wr.heap.size, 4, none⟩ = some (sv x.last)) (by kernel_rfl) (hbk q0) (fun hH => ?_)
      (refine wpAnyH_take (i := 0) (oi := ⟨_, _, _, _, _, _⟩) (v := ?tv20) rfl (by kernel_rfl) (by kernel_rfl) (by kernel_rfl) (fun _ _ _ h => h) (Or.inl ⟨by kernel_rfl, ?hy20⟩) hH ?rs20; (case hy20 => (intro wx hSw; (try dsimp only at hSw); go_simp; try with_reducible rfl)); try simp only [Act.put, List.setIfInBounds_toArray, List.set_cons_zero, List.set_cons_succ]; try simp only [List.getElem_toArray, List.getElem_cons_succ, List.getElem_cons_zero])
      (refine wpAnyH_take (i := 1) (oi := ⟨_, _, _, _, _, _⟩) (v := ?tv21) rfl (by kernel_rfl) (by kernel_rfl) (by kernel_rfl) (fun _ _ _ h => h) (Or.inl ⟨by kernel_rfl, ?hy21⟩) hH ?rs21; (case hy21 => (intro wx hSw; (try dsimp only at hSw); go_simp; try with_reducible rfl)); try simp only [Act.put, List.setIfInBounds_toArray, List.set_cons_zero, List.set_cons_succ]; try simp only [List.getElem_toArray, List.getElem_cons_succ, List.getElem_cons_zero])
      (refine wpAnyH_take (i := 2) (oi := ⟨_, _, _, _, _, _⟩) (v := ?tv22) rfl (by kernel_rfl) (by kernel_rfl) (by kernel_rfl) (fun _ _ _ h => h) (Or.inl ⟨by kernel_rfl, ?hy22⟩) hH ?rs22; (case hy22 => (intro wx hSw; (try dsimp only at hSw); go_simp; try with_reducible rfl)); try simp only [Act.put, List.setIfInBounds_toArray, List.set_cons_zero, List.set_cons_succ]; try simp only [List.getElem_toArray, List.getElem_cons_succ, List.getElem_cons_zero])
      (refine wpAnyH_ready (rs := [3]) (by kernel_rfl) (by simp) ?_; refine AllReadyH.cons rfl (fun K hK => ?_) AllReadyH.nil; go_simp)
      refine (hfits _).mono ?_
      rintro e wa ⟨rfl, xa⟩
      have q1 := ext_trans q0 xa
      (go_wp2_with fail; refine hK.out _ _ (hbk q1) (fun hH => ?_); clear hK K; try simp only [Act.put, List.setIfInBounds_toArray, List.set_cons_zero, List.set_cons_succ]; try simp only [List.getElem_toArray, List.getElem_cons_succ, List.getElem_cons_zero])
      (refine wpAnyH_take (i := 4) (oi := ⟨_, _, _, _, _, _⟩) (v := ?tv23) rfl (by kernel_rfl) (by kernel_rfl) (by kernel_rfl) (fun _ _ _ h => h) (Or.inl ⟨by kernel_rfl, ?hy23⟩) hH ?rs23; (case hy23 => (intro wx hSw; (try dsimp only at hSw); go_simp; try with_reducible rfl)); try simp only [Act.put, List.setIfInBounds_toArray, List.set_cons_zero, List.set_cons_succ]; try simp only [List.getElem_toArray, List.getElem_cons_succ, List.getElem_cons_zero])
      (refine wpAnyH_take (i := 5) (oi := ⟨_, _, _, _, _, _⟩) (v := ?tv24) rfl (by kernel_rfl) (by kernel_rfl) (by kernel_rfl) (fun _ _ _ h => h) (Or.inl ⟨by kernel_rfl, ?hy24⟩) hH ?rs24; (case hy24 => (intro wx hSw; (try dsimp only at hSw); go_simp; try with_reducible rfl)); try simp only [Act.put, List.setIfInBounds_toArray, List.set_cons_zero, List.set_cons_succ]; try simp only [List.getElem_toArray, List.getElem_cons_succ, List.getElem_cons_zero])
      (refine wpAnyH_take (i := 6) (oi := ⟨_, _, _, _, _, _⟩) (v := ?tv25) rfl (by kernel_rfl) (by kernel_rfl) (by kernel_rfl) (fun _ _ _ h => h) (Or.inl ⟨by kernel_rfl, ?hy25⟩) hH ?rs25; (case hy25 => (intro wx hSw; (try dsimp only at hSw); go_simp; try with_reducible rfl)); try simp only [Act.put, List.setIfInBounds_toArray, List.set_cons_zero, List.set_cons_succ]; try simp only [List.getElem_toArray, List.getElem_cons_succ, List.getElem_cons_zero])
      (refine wpAnyH_take (i := 7) (oi := ⟨_, _, _, _, _, _⟩) (v := ?tv26) rfl (by kernel_rfl) (by kernel_rfl) (by kernel_rfl) (fun _ _ _ h => h) (Or.inl ⟨by kernel_rfl, ?hy26⟩) hH ?rs26; (case hy26 => (intro wx hSw; (try dsimp only at hSw); go_simp; try with_reducible rfl)); try simp only [Act.put, List.setIfInBounds_toArray, List.set_cons_zero, List.set_cons_succ]; try simp only [List.getElem_toArray, List.getElem_cons_succ, List.getElem_cons_zero])
      (refine wpAnyH_take (i := 8) (oi := ⟨_, _, _, _, _, _⟩) (v := ?tv27) rfl (by kernel_rfl) (by kernel_rfl) (by kernel_rfl) (fun _ _ _ h => h) (Or.inl ⟨by kernel_rfl, ?hy27⟩) hH ?rs27; (case hy27 => (intro wx hSw; (try dsimp only at hSw); go_simp; try with_reducible rfl)); try simp only [Act.put, List.setIfInBounds_toArray, List.set_cons_zero, List.set_cons_succ]; try simp only [List.getElem_toArray, List.getElem_cons_succ, List.getElem_cons_zero])
      (refine wpAnyH_take (i := 9) (v := undef) rfl (by kernel_rfl) (by kernel_rfl) (by kernel_rfl) (fun _ _ _ h => h) (Or.inr ⟨by kernel_rfl, rfl⟩) hH ?rs28; try simp only [Act.put, List.setIfInBounds_toArray, List.set_cons_zero, List.set_cons_succ]; try simp only [List.getElem_toArray, List.getElem_cons_succ, List.getElem_cons_zero])
      (refine wpAnyH_take (i := 10) (v := undef) rfl (by kernel_rfl) (by kernel_rfl) (by kernel_rfl) (fun _ _ _ h => h) (Or.inr ⟨by kernel_rfl, rfl⟩) hH ?rs29; try simp only [Act.put, List.setIfInBounds_toArray, List.set_cons_zero, List.set_cons_succ]; try simp only [List.getElem_toArray, List.getElem_cons_succ, List.getElem_cons_zero])
      (refine wpAnyH_take (i := 11) (v := undef) rfl (by kernel_rfl) (by kernel_rfl) (by kernel_rfl) (fun _ _ _ h => h) (Or.inr ⟨by kernel_rfl, rfl⟩) hH ?rs30; try simp only [Act.put, List.setIfInBounds_toArray, List.set_cons_zero, List.set_cons_succ]; try simp only [List.getElem_toArray, List.getElem_cons_succ, List.getElem_cons_zero])
      (refine wpAnyH_take (i := 12) (v := undef) rfl (by kernel_rfl) (by kernel_rfl) (by kernel_rfl) (fun _ _ _ h => h) (Or.inr ⟨by kernel_rfl, rfl⟩) hH ?rs31; try simp only [Act.put, List.setIfInBounds_toArray, List.set_cons_zero, List.set_cons_succ]; try simp only [List.getElem_toArray, List.getElem_cons_succ, List.getElem_cons_zero])
      (refine wpAnyH_take (i := 13) (v := undef) rfl (by kernel_rfl) (by kernel_rfl) (by kernel_rfl) (fun _ _ _ h => h) (Or.inr ⟨by kernel_rfl, rfl⟩) hH ?rs32; try simp only [Act.put, List.setIfInBounds_toArray, List.set_cons_zero, List.set_cons_succ]; try simp only [List.getElem_toArray, List.getElem_cons_succ, List.getElem_cons_zero])
      (refine wpAnyH_take (i := 14) (v := undef) rfl (by kernel_rfl) (by kernel_rfl) (by kernel_rfl) (fun _ _ _ h => h) (Or.inr ⟨by kernel_rfl, rfl⟩) hH ?rs33; try simp only [Act.put, List.setIfInBounds_toArray, List.set_cons_zero, List.set_cons_succ]; try simp only [List.getElem_toArray, List.getElem_cons_succ, List.getElem_cons_zero])
      (refine wpAnyH_take (i := 15) (v := undef) rfl (by kernel_rfl) (by kernel_rfl) (by kernel_rfl) (fun _ _ _ h => h) (Or.inr ⟨by kernel_rfl, rfl⟩) hH ?rs34; try simp only [Act.put, List.setIfInBounds_toArray, List.set_cons_zero, List.set_cons_succ]; try simp only [List.getElem_toArray, List.getElem_cons_succ, List.getElem_cons_zero])
      (refine wpAnyH_take (i := 16) (v := undef) rfl (by kernel_rfl) (by kernel_rfl) (by kernel_rfl) (fun _ _ _ h => h) (Or.inr ⟨by kernel_rfl, rfl⟩) hH ?rs35; try simp only [Act.put, List.setIfInBounds_toArray, List.set_cons_zero, List.set_cons_succ]; try simp only [List.getElem_toArray, List.getElem_cons_succ, List.getElem_cons_zero])
      (refine wpAnyH_take (i := 17) (v := undef) rfl (by kernel_rfl) (by kernel_rfl) (by kernel_rfl) (fun _ _ _ h => h) (Or.inr ⟨by kernel_rfl, rfl⟩) hH ?rs36; try simp only [Act.put, List.setIfInBounds_toArray, List.set_cons_zero, List.set_cons_succ]; try simp only [List.getElem_toArray, List.getElem_cons_succ, List.getElem_cons_zero])
      (refine wpAnyH_take (i := 18) (oi := ⟨_, _, _, _, _, _⟩) (v := ?tv37) rfl (by kernel_rfl) (by kernel_rfl) (by kernel_rfl) (fun _ _ _ h => h) (Or.inl ⟨by kernel_rfl, ?hy37⟩) hH ?rs37; (case hy37 => (intro wx hSw; (try dsimp only at hSw); go_simp; try with_reducible rfl)); try simp only [Act.put, List.setIfInBounds_toArray, List.set_cons_zero, List.set_cons_succ]; try simp only [List.getElem_toArray, List.getElem_cons_succ, List.getElem_cons_zero])
      (refine wpAnyH_take (i := 19) (oi := ⟨_, _, _, _, _, _⟩) (v := ?tv38) rfl (by kernel_rfl) (by kernel_rfl) (by kernel_rfl) (fun _ _ _ h => h) (Or.inl ⟨by kernel_rfl, ?hy38⟩) hH ?rs38; (case hy38 => (intro wx hSw; (try dsimp only at hSw); go_simp; try with_reducible rfl)); try simp only [Act.put, List.setIfInBounds_toArray, List.set_cons_zero, List.set_cons_succ]; try simp only [List.getElem_toArray, List.getElem_cons_succ, List.getElem_cons_zero])
      refine wpAnyH_done (by kernel_rfl) ?_ _
      have x4 := ext_trans x3 q1
      have M4 := ownsMap_mod M3 q1 (fun h => h)
      obtain ⟨-, -, d0, -⟩ := hbk q1
      have x5 : Ext wa (wa.alloc (.cells #[] 72)) := (Mod.refl _ wa).alloc _
      obtain ⟨w5, hw5⟩ : ∃ w5, w5 = wa.alloc (.cells #[] 72) := ⟨_, rfl⟩
      rw [← hw5] at x5
      replace hw5 := Lib.hid hw5
      have M5 := ownsMap_mod M4 x5 (fun h => h)
      have y5 := ext_trans x4 x5
      have d5 := ext_cell x5 d0
      clear hbk hfits x3 M3 hBF
      by_cases ht : T
      case pos =>
        have hh := hhas.2 ht
        have hE := Lib.hid (hKbad fun h => hKd3.1 h ht)
        clear hKd3 hKbad hKgood hhas hids2
        go_upto_region 10 with (at_lookup; refine wpList_lookup_own_unit _ rfl _ _ 69 rfl 3 72 keyI Try.underlying69 (zeroU _) w0.heap.size k _ rfl M4 _ _ rfl hkey ?_; rw [hh])
        rw [← hw5.out]
        go_wp2_with fail
        go_ret
        exact ⟨by rw [hE.out]; rfl, ext_trans x0 y5⟩
      have hh : has D (.int .i64 x.id) = false := by
        cases he : has D (.int .i64 x.id) with
        | false => rfl
        | true => exact absurd (hhas.1 he) ht
      have hG2 := hKgood (hKd3.2 ht)
      clear hKd3 hKbad hKgood hhas ht
      go_upto_region 10 with (at_lookup; refine wpList_lookup_own_unit _ rfl _ _ 69 rfl 3 72 keyI Try.underlying69 (zeroU _) w0.heap.size k _ rfl M4 _ _ rfl hkey ?_; rw [hh])
      rw [← hw5.out]
      go_wp2_with (at_mapUpdate; refine wpList_mapUpdate_own _ rfl _ _ _ 69 rfl 3 72 keyI Try.underlying69 _ w0.heap.size k _ rfl M5 (by unfold maxLen; omega) _ _ _ rfl rfl hkey _ [] unitElem_mk ?_; intro w6 M6 g6)
      have x6 : Ext w0 w6 := y5.trans (Mod.of_grown (F := fun b => b = w0.heap.size) g6 (fun b hb => by injection hb with hb; exact hb.symm)) (fun _ _ h => h) (fun b hb h => by omega)
      exact ⟨⟨k + 1, _, by omega, by go_num, M6, hids2, by rw [← hG.out]; exact hG2, x6⟩, by simp [intOf] <;> omega⟩
    obtain ⟨j, rfl⟩ : ∃ j, k = j + 1 := ⟨k - 1, by omega⟩
    have hg0 : decide ((0 : Int) < (j : Int) + 1) = true := dtrue (by omega)
    have hg0' : decide (0 < j + 1) = true := dtrue (by omega)
    have hj : j < L.length := by omega
    have hbj : ∀ {wx : World}, Ext w3 wx → wx.cell? (ad.add (j * 5)) = some (.int .i64 L[j].id) ∧ wx.cell? ⟨(ad.add (j * 5)).block, (ad.add (j * 5)).off + 1, none⟩ = some (.int .i64 L[j].lev) ∧ wx.cell? ⟨(ad.add (j * 5)).block, (ad.add (j * 5)).off + 2, none⟩ = some (.int .i64 L[j].size) ∧ wx.cell? ⟨(ad.add (j * 5)).block, (ad.add (j * 5)).off + 3, none⟩ = some (sv L[j].first) ∧ wx.cell? ⟨(ad.add (j * 5)).block, (ad.add (j * 5)).off + 4, none⟩ = some (sv L[j].last) := fun x => by
      obtain ⟨ad', hA, _, e0, e1, e2, e3, e4⟩ := Fs.at_ (h4.ext (ext_trans x3 x)) hj
      cases hA
      exact ⟨e0, e1, e2, e3, e4⟩
    have hbk2 : ∀ {wx : World}, Ext w3 wx → wx.cell? ⟨w.heap.size, 0, none⟩ = some (.int .i64 n) ∧ wx.cell? ⟨w.heap.size, 1, none⟩ = some (.slice (some ad) L.length c) ∧ wx.cell? (ad.add (j * 5)) = some (.int .i64 L[j].id) ∧ wx.cell? ⟨(ad.add (j * 5)).block, (ad.add (j * 5)).off + 1, none⟩ = some (.int .i64 L[j].lev) ∧ wx.cell? ⟨(ad.add (j * 5)).block, (ad.add (j * 5)).off + 2, none⟩ = some (.int .i64 L[j].size) ∧ wx.cell? ⟨(ad.add (j * 5)).block, (ad.add (j * 5)).off + 3, none⟩ = some (sv L[j].first) ∧ wx.cell? ⟨(ad.add (j * 5)).block, (ad.add (j * 5)).off + 4, none⟩ = some (sv L[j].last) ∧ wx.cell? ⟨wr.heap.size, 0, none⟩ = some (.int .i64 L[j + 1].id) ∧ wx.cell? ⟨wr.heap.size, 1, none⟩ = some (.int .i64 L[j + 1].lev) ∧ wx.cell? ⟨wr.heap.size, 2, none⟩ = some (.int .i64 L[j + 1].size) ∧ wx.cell? ⟨wr.heap.size, 3, none⟩ = some (sv L[j + 1].first) ∧ wx.cell? ⟨wr.heap.size, 4, none⟩ = some (sv L[j + 1].last) := fun x => by
      obtain ⟨e0, e1, e2, e3, e4⟩ := hbj x
      obtain ⟨a0, a1, a2⟩ := hbk x
      exact ⟨a0, a1, e0, e1, e2, e3, e4, a2⟩
    have hrise := fun wx => rise_any (w := wx) L[j] L[j + 1]
    have hKd2 : K ↔ riseF L[j] L[j + 1] ∧ ¬ T := hKd.trans ⟨fun h => ⟨h.2.1 (by omega), h.2.2⟩, fun h => ⟨hft, fun _ => h.1, h.2⟩⟩
    have hi2 : (0 : Int) ≤ (j : Int) := by omega
    have hi3 : (j : Int) < (L.length : Int) := by omega
    have hi4 : (j : Int) + 1 < (L.length : Int) := by omega
    have hi6 : (0 : Int) ≤ (j : Int) + 1 := by omega
    have hi5 : IntKind.i64.wrap (j : Int) = (j : Int) := by rw [IntKind.wrap_i64]; omega
    clear hKd hk0 hft h4 hbj
    by_cases hrs : riseF L[j] L[j + 1]
    case neg =>
      have hE := Lib.hid (hKbad fun h => hrs (hKd2.1 h).1)
      simp only [dfalse hrs] at hrise
      clear hKd2 hKbad hKgood hhas hids2 M3 hrs
      generalize L[j + 1] = x at *
      generalize L[j] = y at *
      go_upto_region 7 with fail
      rw [← hw3.out]
      go_wp2_with fail
      refine wp_region_held_drew (S := fun wx => wx.cell? ⟨w.heap.size, 0, none⟩ = some (.int .i64 n) ∧ wx.cell? ⟨w.heap.size, 1, none⟩ = some (.slice (some ad) L.length c) ∧ wx.cell? (ad.add (j * 5)) = some (.int .i64 y.id) ∧ wx.cell? ⟨(ad.add (j * 5)).block, (ad.add (j * 5)).off + 1, none⟩ = some (.int .i64 y.lev) ∧ wx.cell? ⟨(ad.add (j * 5)).block, (ad.add (j * 5)).off + 2, none⟩ = some (.int .i64 y.size) ∧ wx.cell? ⟨(ad.add (j * 5)).block, (ad.add (j * 5)).off + 3, none⟩ = some (sv y.first) ∧ wx.cell? ⟨(ad.add (j * 5)).block, (ad.add (j * 5)).off + 4, none⟩ = some (sv y.last) ∧ wx.cell? ⟨wr.heap.size, 0, none⟩ = some (.int .i64 x.id) ∧ wx.cell? ⟨wr.heap.size, 1, none⟩ = some (.int .i64 x.lev) ∧ wx.cell? ⟨wr.heap.size, 2, none⟩ = some (.int .i64 x.size) ∧ wx.cell? ⟨wr.heap.size, 3, none⟩ = some (sv x.first) ∧ wx.cell? ⟨wr.heap.size, 4, none⟩ = some (sv x.last)) (by kernel_rfl) (hbk2 q0) (fun hH => ?_)
      (refine wpAnyH_take (i := 0) (oi := ⟨_, _, _, _, _, _⟩) (v := ?tv39) rfl (by kernel_rfl) (by kernel_rfl) (by kernel_rfl) (fun _ _ _ h => h) (Or.inl ⟨by kernel_rfl, ?hy39⟩) hH ?rs39; (case hy39 => (intro wx hSw; (try dsimp only at hSw); go_simp; try with_reducible rfl)); try simp only [Act.put, List.setIfInBounds_toArray, List.set_cons_zero, List.set_cons_succ]; try simp only [List.getElem_toArray, List.getElem_cons_succ, List.getElem_cons_zero])
      (refine wpAnyH_take (i := 1) (oi := ⟨_, _, _, _, _, _⟩) (v := ?tv40) rfl (by kernel_rfl) (by kernel_rfl) (by kernel_rfl) (fun _ _ _ h => h) (Or.inl ⟨by kernel_rfl, ?hy40⟩) hH ?rs40; (case hy40 => (intro wx hSw; (try dsimp only at hSw); go_simp; try with_reducible rfl)); try simp only [Act.put, List.setIfInBounds_toArray, List.set_cons_zero, List.set_cons_succ]; try simp only [List.getElem_toArray, List.getElem_cons_succ, List.getElem_cons_zero])
      (refine wpAnyH_take (i := 2) (oi := ⟨_, _, _, _, _, _⟩) (v := ?tv41) rfl (by kernel_rfl) (by kernel_rfl) (by kernel_rfl) (fun _ _ _ h => h) (Or.inl ⟨by kernel_rfl, ?hy41⟩) hH ?rs41; (case hy41 => (intro wx hSw; (try dsimp only at hSw); go_simp; try with_reducible rfl)); try simp only [Act.put, List.setIfInBounds_toArray, List.set_cons_zero, List.set_cons_succ]; try simp only [List.getElem_toArray, List.getElem_cons_succ, List.getElem_cons_zero])
      (refine wpAnyH_ready (rs := [3]) (by kernel_rfl) (by simp) ?_; refine AllReadyH.cons rfl (fun K hK => ?_) AllReadyH.nil; go_simp)
      refine (hfits _).mono ?_
      rintro e wa ⟨rfl, xa⟩
      have q1 := ext_trans q0 xa
      (go_wp2_with fail; refine hK.out _ _ (hbk2 q1) (fun hH => ?_); clear hK K; try simp only [Act.put, List.setIfInBounds_toArray, List.set_cons_zero, List.set_cons_succ]; try simp only [List.getElem_toArray, List.getElem_cons_succ, List.getElem_cons_zero])
      (refine wpAnyH_take (i := 4) (oi := ⟨_, _, _, _, _, _⟩) (v := ?tv42) rfl (by kernel_rfl) (by kernel_rfl) (by kernel_rfl) (fun _ _ _ h => h) (Or.inl ⟨by kernel_rfl, ?hy42⟩) hH ?rs42; (case hy42 => (intro wx hSw; (try dsimp only at hSw); go_simp; try with_reducible rfl)); try simp only [Act.put, List.setIfInBounds_toArray, List.set_cons_zero, List.set_cons_succ]; try simp only [List.getElem_toArray, List.getElem_cons_succ, List.getElem_cons_zero])
      (refine wpAnyH_take (i := 5) (oi := ⟨_, _, _, _, _, _⟩) (v := ?tv43) rfl (by kernel_rfl) (by kernel_rfl) (by kernel_rfl) (fun _ _ _ h => h) (Or.inl ⟨by kernel_rfl, ?hy43⟩) hH ?rs43; (case hy43 => (intro wx hSw; (try dsimp only at hSw); go_simp; try with_reducible rfl)); try simp only [Act.put, List.setIfInBounds_toArray, List.set_cons_zero, List.set_cons_succ]; try simp only [List.getElem_toArray, List.getElem_cons_succ, List.getElem_cons_zero])
      (refine wpAnyH_take (i := 6) (oi := ⟨_, _, _, _, _, _⟩) (v := ?tv44) rfl (by kernel_rfl) (by kernel_rfl) (by kernel_rfl) (fun _ _ _ h => h) (Or.inl ⟨by kernel_rfl, ?hy44⟩) hH ?rs44; (case hy44 => (intro wx hSw; (try dsimp only at hSw); go_simp; try with_reducible rfl)); try simp only [Act.put, List.setIfInBounds_toArray, List.set_cons_zero, List.set_cons_succ]; try simp only [List.getElem_toArray, List.getElem_cons_succ, List.getElem_cons_zero])
      (refine wpAnyH_take (i := 7) (oi := ⟨_, _, _, _, _, _⟩) (v := ?tv45) rfl (by kernel_rfl) (by kernel_rfl) (by kernel_rfl) (fun _ _ _ h => h) (Or.inl ⟨by kernel_rfl, ?hy45⟩) hH ?rs45; (case hy45 => (intro wx hSw; (try dsimp only at hSw); go_simp; try with_reducible rfl)); try simp only [Act.put, List.setIfInBounds_toArray, List.set_cons_zero, List.set_cons_succ]; try simp only [List.getElem_toArray, List.getElem_cons_succ, List.getElem_cons_zero])
      (refine wpAnyH_take (i := 8) (oi := ⟨_, _, _, _, _, _⟩) (v := ?tv46) rfl (by kernel_rfl) (by kernel_rfl) (by kernel_rfl) (fun _ _ _ h => h) (Or.inl ⟨by kernel_rfl, ?hy46⟩) hH ?rs46; (case hy46 => (intro wx hSw; (try dsimp only at hSw); go_simp; try with_reducible rfl)); try simp only [Act.put, List.setIfInBounds_toArray, List.set_cons_zero, List.set_cons_succ]; try simp only [List.getElem_toArray, List.getElem_cons_succ, List.getElem_cons_zero])
      (refine wpAnyH_take (i := 9) (oi := ⟨_, _, _, _, _, _⟩) (v := ?tv47) rfl (by kernel_rfl) (by kernel_rfl) (by kernel_rfl) (fun _ _ _ h => h) (Or.inl ⟨by kernel_rfl, ?hy47⟩) hH ?rs47; (case hy47 => (intro wx hSw; (try dsimp only at hSw); go_simp; try with_reducible rfl)); try simp only [Act.put, List.setIfInBounds_toArray, List.set_cons_zero, List.set_cons_succ]; try simp only [List.getElem_toArray, List.getElem_cons_succ, List.getElem_cons_zero])
      (refine wpAnyH_take (i := 10) (oi := ⟨_, _, _, _, _, _⟩) (v := ?tv48) rfl (by kernel_rfl) (by kernel_rfl) (by kernel_rfl) (fun _ _ _ h => h) (Or.inl ⟨by kernel_rfl, ?hy48⟩) hH ?rs48; (case hy48 => (intro wx hSw; (try dsimp only at hSw); go_simp; try with_reducible rfl)); try simp only [Act.put, List.setIfInBounds_toArray, List.set_cons_zero, List.set_cons_succ]; try simp only [List.getElem_toArray, List.getElem_cons_succ, List.getElem_cons_zero])
      (refine wpAnyH_take (i := 11) (oi := ⟨_, _, _, _, _, _⟩) (v := ?tv49) rfl (by kernel_rfl) (by kernel_rfl) (by kernel_rfl) (fun _ _ _ h => h) (Or.inl ⟨by kernel_rfl, ?hy49⟩) hH ?rs49; (case hy49 => (intro wx hSw; (try dsimp only at hSw); go_simp; try with_reducible rfl)); try simp only [Act.put, List.setIfInBounds_toArray, List.set_cons_zero, List.set_cons_succ]; try simp only [List.getElem_toArray, List.getElem_cons_succ, List.getElem_cons_zero])
      (refine wpAnyH_take (i := 12) (oi := ⟨_, _, _, _, _, _⟩) (v := ?tv50) rfl (by kernel_rfl) (by kernel_rfl) (by kernel_rfl) (fun _ _ _ h => h) (Or.inl ⟨by kernel_rfl, ?hy50⟩) hH ?rs50; (case hy50 => (intro wx hSw; (try dsimp only at hSw); go_simp; try with_reducible rfl)); try simp only [Act.put, List.setIfInBounds_toArray, List.set_cons_zero, List.set_cons_succ]; try simp only [List.getElem_toArray, List.getElem_cons_succ, List.getElem_cons_zero])
      (refine wpAnyH_take (i := 13) (oi := ⟨_, _, _, _, _, _⟩) (v := ?tv51) rfl (by kernel_rfl) (by kernel_rfl) (by kernel_rfl) (fun _ _ _ h => h) (Or.inl ⟨by kernel_rfl, ?hy51⟩) hH ?rs51; (case hy51 => (intro wx hSw; (try dsimp only at hSw); go_simp; try with_reducible rfl)); try simp only [Act.put, List.setIfInBounds_toArray, List.set_cons_zero, List.set_cons_succ]; try simp only [List.getElem_toArray, List.getElem_cons_succ, List.getElem_cons_zero])
      (refine wpAnyH_take (i := 14) (oi := ⟨_, _, _, _, _, _⟩) (v := ?tv52) rfl (by kernel_rfl) (by kernel_rfl) (by kernel_rfl) (fun _ _ _ h => h) (Or.inl ⟨by kernel_rfl, ?hy52⟩) hH ?rs52; (case hy52 => (intro wx hSw; (try dsimp only at hSw); go_simp; try with_reducible rfl)); try simp only [Act.put, List.setIfInBounds_toArray, List.set_cons_zero, List.set_cons_succ]; try simp only [List.getElem_toArray, List.getElem_cons_succ, List.getElem_cons_zero])
      (refine wpAnyH_take (i := 15) (oi := ⟨_, _, _, _, _, _⟩) (v := ?tv53) rfl (by kernel_rfl) (by kernel_rfl) (by kernel_rfl) (fun _ _ _ h => h) (Or.inl ⟨by kernel_rfl, ?hy53⟩) hH ?rs53; (case hy53 => (intro wx hSw; (try dsimp only at hSw); go_simp; try with_reducible rfl)); try simp only [Act.put, List.setIfInBounds_toArray, List.set_cons_zero, List.set_cons_succ]; try simp only [List.getElem_toArray, List.getElem_cons_succ, List.getElem_cons_zero])
      (refine wpAnyH_ready (rs := [16]) (by kernel_rfl) (by simp) ?_; refine AllReadyH.cons rfl (fun K hK => ?_) AllReadyH.nil; go_simp)
      refine (hrise _).mono ?_
      rintro e wb ⟨rfl, xb⟩
      have q2 := ext_trans q1 xb
      (go_wp2_with fail; refine hK.out _ _ (hbk2 q2) (fun hH => ?_); clear hK K; try simp only [Act.put, List.setIfInBounds_toArray, List.set_cons_zero, List.set_cons_succ]; try simp only [List.getElem_toArray, List.getElem_cons_succ, List.getElem_cons_zero])
      (refine wpAnyH_take (i := 17) (oi := ⟨_, _, _, _, _, _⟩) (v := ?tv54) rfl (by kernel_rfl) (by kernel_rfl) (by kernel_rfl) (fun _ _ _ h => h) (Or.inl ⟨by kernel_rfl, ?hy54⟩) hH ?rs54; (case hy54 => (intro wx hSw; (try dsimp only at hSw); go_simp; try with_reducible rfl)); try simp only [Act.put, List.setIfInBounds_toArray, List.set_cons_zero, List.set_cons_succ]; try simp only [List.getElem_toArray, List.getElem_cons_succ, List.getElem_cons_zero])
      (refine wpAnyH_take (i := 18) (oi := ⟨_, _, _, _, _, _⟩) (v := ?tv55) rfl (by kernel_rfl) (by kernel_rfl) (by kernel_rfl) (fun _ _ _ h => h) (Or.inl ⟨by kernel_rfl, ?hy55⟩) hH ?rs55; (case hy55 => (intro wx hSw; (try dsimp only at hSw); go_simp; try with_reducible rfl)); try simp only [Act.put, List.setIfInBounds_toArray, List.set_cons_zero, List.set_cons_succ]; try simp only [List.getElem_toArray, List.getElem_cons_succ, List.getElem_cons_zero])
      (refine wpAnyH_take (i := 19) (oi := ⟨_, _, _, _, _, _⟩) (v := ?tv56) rfl (by kernel_rfl) (by kernel_rfl) (by kernel_rfl) (fun _ _ _ h => h) (Or.inl ⟨by kernel_rfl, ?hy56⟩) hH ?rs56; (case hy56 => (intro wx hSw; (try dsimp only at hSw); go_simp; try with_reducible rfl)); try simp only [Act.put, List.setIfInBounds_toArray, List.set_cons_zero, List.set_cons_succ]; try simp only [List.getElem_toArray, List.getElem_cons_succ, List.getElem_cons_zero])
      refine wpAnyH_done (by kernel_rfl) ?_ _
      go_wp2_with fail
      go_ret
      exact ⟨by rw [hE.out]; rfl, ext_trans x0 (ext_trans x3 q2)⟩
    have hKd3 : K ↔ ¬ T := hKd2.trans ⟨fun h => h.2, fun h => ⟨hrs, h⟩⟩
    simp only [dtrue hrs] at hrise
    clear hKd2 hrs
    generalize L[j + 1] = x at *
    generalize L[j] = y at *
    go_upto_region 7 with fail
    rw [← hw3.out]
    go_wp2_with fail
    refine wp_region_held_drew (S := fun wx => wx.cell? ⟨w.heap.size, 0, none⟩ = some (.int .i64 n) ∧ wx.cell? ⟨w.heap.size, 1, none⟩ = some (.slice (some ad) L.length c) ∧ wx.cell? (ad.add (j * 5)) = some (.int .i64 y.id) ∧ wx.cell? ⟨(ad.add (j * 5)).block, (ad.add (j * 5)).off + 1, none⟩ = some (.int .i64 y.lev) ∧ wx.cell? ⟨(ad.add (j * 5)).block, (ad.add (j * 5)).off + 2, none⟩ = some (.int .i64 y.size) ∧ wx.cell? ⟨(ad.add (j * 5)).block, (ad.add (j * 5)).off + 3, none⟩ = some (sv y.first) ∧ wx.cell? ⟨(ad.add (j * 5)).block, (ad.add (j * 5)).off + 4, none⟩ = some (sv y.last) ∧ wx.cell? ⟨wr.heap.size, 0, none⟩ = some (.int .i64 x.id) ∧ wx.cell? ⟨wr.heap.size, 1, none⟩ = some (.int .i64 x.lev) ∧ wx.cell? ⟨wr.heap.size, 2, none⟩ = some (.int .i64 x.size) ∧ wx.cell? ⟨wr.heap.size, 3, none⟩ = some (sv x.first) ∧ wx.cell? ⟨wr.heap.size, 4, none⟩ = some (sv x.last)) (by kernel_rfl) (hbk2 q0) (fun hH => ?_)
    (refine wpAnyH_take (i := 0) (oi := ⟨_, _, _, _, _, _⟩) (v := ?tv57) rfl (by kernel_rfl) (by kernel_rfl) (by kernel_rfl) (fun _ _ _ h => h) (Or.inl ⟨by kernel_rfl, ?hy57⟩) hH ?rs57; (case hy57 => (intro wx hSw; (try dsimp only at hSw); go_simp; try with_reducible rfl)); try simp only [Act.put, List.setIfInBounds_toArray, List.set_cons_zero, List.set_cons_succ]; try simp only [List.getElem_toArray, List.getElem_cons_succ, List.getElem_cons_zero])
    (refine wpAnyH_take (i := 1) (oi := ⟨_, _, _, _, _, _⟩) (v := ?tv58) rfl (by kernel_rfl) (by kernel_rfl) (by kernel_rfl) (fun _ _ _ h => h) (Or.inl ⟨by kernel_rfl, ?hy58⟩) hH ?rs58; (case hy58 => (intro wx hSw; (try dsimp only at hSw); go_simp; try with_reducible rfl)); try simp only [Act.put, List.setIfInBounds_toArray, List.set_cons_zero, List.set_cons_succ]; try simp only [List.getElem_toArray, List.getElem_cons_succ, List.getElem_cons_zero])
    (refine wpAnyH_take (i := 2) (oi := ⟨_, _, _, _, _, _⟩) (v := ?tv59) rfl (by kernel_rfl) (by kernel_rfl) (by kernel_rfl) (fun _ _ _ h => h) (Or.inl ⟨by kernel_rfl, ?hy59⟩) hH ?rs59; (case hy59 => (intro wx hSw; (try dsimp only at hSw); go_simp; try with_reducible rfl)); try simp only [Act.put, List.setIfInBounds_toArray, List.set_cons_zero, List.set_cons_succ]; try simp only [List.getElem_toArray, List.getElem_cons_succ, List.getElem_cons_zero])
    (refine wpAnyH_ready (rs := [3]) (by kernel_rfl) (by simp) ?_; refine AllReadyH.cons rfl (fun K hK => ?_) AllReadyH.nil; go_simp)
    refine (hfits _).mono ?_
    rintro e wa ⟨rfl, xa⟩
    have q1 := ext_trans q0 xa
    (go_wp2_with fail; refine hK.out _ _ (hbk2 q1) (fun hH => ?_); clear hK K; try simp only [Act.put, List.setIfInBounds_toArray, List.set_cons_zero, List.set_cons_succ]; try simp only [List.getElem_toArray, List.getElem_cons_succ, List.getElem_cons_zero])
    (refine wpAnyH_take (i := 4) (oi := ⟨_, _, _, _, _, _⟩) (v := ?tv60) rfl (by kernel_rfl) (by kernel_rfl) (by kernel_rfl) (fun _ _ _ h => h) (Or.inl ⟨by kernel_rfl, ?hy60⟩) hH ?rs60; (case hy60 => (intro wx hSw; (try dsimp only at hSw); go_simp; try with_reducible rfl)); try simp only [Act.put, List.setIfInBounds_toArray, List.set_cons_zero, List.set_cons_succ]; try simp only [List.getElem_toArray, List.getElem_cons_succ, List.getElem_cons_zero])
    (refine wpAnyH_take (i := 5) (oi := ⟨_, _, _, _, _, _⟩) (v := ?tv61) rfl (by kernel_rfl) (by kernel_rfl) (by kernel_rfl) (fun _ _ _ h => h) (Or.inl ⟨by kernel_rfl, ?hy61⟩) hH ?rs61; (case hy61 => (intro wx hSw; (try dsimp only at hSw); go_simp; try with_reducible rfl)); try simp only [Act.put, List.setIfInBounds_toArray, List.set_cons_zero, List.set_cons_succ]; try simp only [List.getElem_toArray, List.getElem_cons_succ, List.getElem_cons_zero])
    (refine wpAnyH_take (i := 6) (oi := ⟨_, _, _, _, _, _⟩) (v := ?tv62) rfl (by kernel_rfl) (by kernel_rfl) (by kernel_rfl) (fun _ _ _ h => h) (Or.inl ⟨by kernel_rfl, ?hy62⟩) hH ?rs62; (case hy62 => (intro wx hSw; (try dsimp only at hSw); go_simp; try with_reducible rfl)); try simp only [Act.put, List.setIfInBounds_toArray, List.set_cons_zero, List.set_cons_succ]; try simp only [List.getElem_toArray, List.getElem_cons_succ, List.getElem_cons_zero])
    (refine wpAnyH_take (i := 7) (oi := ⟨_, _, _, _, _, _⟩) (v := ?tv63) rfl (by kernel_rfl) (by kernel_rfl) (by kernel_rfl) (fun _ _ _ h => h) (Or.inl ⟨by kernel_rfl, ?hy63⟩) hH ?rs63; (case hy63 => (intro wx hSw; (try dsimp only at hSw); go_simp; try with_reducible rfl)); try simp only [Act.put, List.setIfInBounds_toArray, List.set_cons_zero, List.set_cons_succ]; try simp only [List.getElem_toArray, List.getElem_cons_succ, List.getElem_cons_zero])
    (refine wpAnyH_take (i := 8) (oi := ⟨_, _, _, _, _, _⟩) (v := ?tv64) rfl (by kernel_rfl) (by kernel_rfl) (by kernel_rfl) (fun _ _ _ h => h) (Or.inl ⟨by kernel_rfl, ?hy64⟩) hH ?rs64; (case hy64 => (intro wx hSw; (try dsimp only at hSw); go_simp; try with_reducible rfl)); try simp only [Act.put, List.setIfInBounds_toArray, List.set_cons_zero, List.set_cons_succ]; try simp only [List.getElem_toArray, List.getElem_cons_succ, List.getElem_cons_zero])
    (refine wpAnyH_take (i := 9) (oi := ⟨_, _, _, _, _, _⟩) (v := ?tv65) rfl (by kernel_rfl) (by kernel_rfl) (by kernel_rfl) (fun _ _ _ h => h) (Or.inl ⟨by kernel_rfl, ?hy65⟩) hH ?rs65; (case hy65 => (intro wx hSw; (try dsimp only at hSw); go_simp; try with_reducible rfl)); try simp only [Act.put, List.setIfInBounds_toArray, List.set_cons_zero, List.set_cons_succ]; try simp only [List.getElem_toArray, List.getElem_cons_succ, List.getElem_cons_zero])
    (refine wpAnyH_take (i := 10) (oi := ⟨_, _, _, _, _, _⟩) (v := ?tv66) rfl (by kernel_rfl) (by kernel_rfl) (by kernel_rfl) (fun _ _ _ h => h) (Or.inl ⟨by kernel_rfl, ?hy66⟩) hH ?rs66; (case hy66 => (intro wx hSw; (try dsimp only at hSw); go_simp; try with_reducible rfl)); try simp only [Act.put, List.setIfInBounds_toArray, List.set_cons_zero, List.set_cons_succ]; try simp only [List.getElem_toArray, List.getElem_cons_succ, List.getElem_cons_zero])
    (refine wpAnyH_take (i := 11) (oi := ⟨_, _, _, _, _, _⟩) (v := ?tv67) rfl (by kernel_rfl) (by kernel_rfl) (by kernel_rfl) (fun _ _ _ h => h) (Or.inl ⟨by kernel_rfl, ?hy67⟩) hH ?rs67; (case hy67 => (intro wx hSw; (try dsimp only at hSw); go_simp; try with_reducible rfl)); try simp only [Act.put, List.setIfInBounds_toArray, List.set_cons_zero, List.set_cons_succ]; try simp only [List.getElem_toArray, List.getElem_cons_succ, List.getElem_cons_zero])
    (refine wpAnyH_take (i := 12) (oi := ⟨_, _, _, _, _, _⟩) (v := ?tv68) rfl (by kernel_rfl) (by kernel_rfl) (by kernel_rfl) (fun _ _ _ h => h) (Or.inl ⟨by kernel_rfl, ?hy68⟩) hH ?rs68; (case hy68 => (intro wx hSw; (try dsimp only at hSw); go_simp; try with_reducible rfl)); try simp only [Act.put, List.setIfInBounds_toArray, List.set_cons_zero, List.set_cons_succ]; try simp only [List.getElem_toArray, List.getElem_cons_succ, List.getElem_cons_zero])
    (refine wpAnyH_take (i := 13) (oi := ⟨_, _, _, _, _, _⟩) (v := ?tv69) rfl (by kernel_rfl) (by kernel_rfl) (by kernel_rfl) (fun _ _ _ h => h) (Or.inl ⟨by kernel_rfl, ?hy69⟩) hH ?rs69; (case hy69 => (intro wx hSw; (try dsimp only at hSw); go_simp; try with_reducible rfl)); try simp only [Act.put, List.setIfInBounds_toArray, List.set_cons_zero, List.set_cons_succ]; try simp only [List.getElem_toArray, List.getElem_cons_succ, List.getElem_cons_zero])
    (refine wpAnyH_take (i := 14) (oi := ⟨_, _, _, _, _, _⟩) (v := ?tv70) rfl (by kernel_rfl) (by kernel_rfl) (by kernel_rfl) (fun _ _ _ h => h) (Or.inl ⟨by kernel_rfl, ?hy70⟩) hH ?rs70; (case hy70 => (intro wx hSw; (try dsimp only at hSw); go_simp; try with_reducible rfl)); try simp only [Act.put, List.setIfInBounds_toArray, List.set_cons_zero, List.set_cons_succ]; try simp only [List.getElem_toArray, List.getElem_cons_succ, List.getElem_cons_zero])
    (refine wpAnyH_take (i := 15) (oi := ⟨_, _, _, _, _, _⟩) (v := ?tv71) rfl (by kernel_rfl) (by kernel_rfl) (by kernel_rfl) (fun _ _ _ h => h) (Or.inl ⟨by kernel_rfl, ?hy71⟩) hH ?rs71; (case hy71 => (intro wx hSw; (try dsimp only at hSw); go_simp; try with_reducible rfl)); try simp only [Act.put, List.setIfInBounds_toArray, List.set_cons_zero, List.set_cons_succ]; try simp only [List.getElem_toArray, List.getElem_cons_succ, List.getElem_cons_zero])
    (refine wpAnyH_ready (rs := [16]) (by kernel_rfl) (by simp) ?_; refine AllReadyH.cons rfl (fun K hK => ?_) AllReadyH.nil; go_simp)
    refine (hrise _).mono ?_
    rintro e wb ⟨rfl, xb⟩
    have q2 := ext_trans q1 xb
    (go_wp2_with fail; refine hK.out _ _ (hbk2 q2) (fun hH => ?_); clear hK K; try simp only [Act.put, List.setIfInBounds_toArray, List.set_cons_zero, List.set_cons_succ]; try simp only [List.getElem_toArray, List.getElem_cons_succ, List.getElem_cons_zero])
    (refine wpAnyH_take (i := 17) (oi := ⟨_, _, _, _, _, _⟩) (v := ?tv72) rfl (by kernel_rfl) (by kernel_rfl) (by kernel_rfl) (fun _ _ _ h => h) (Or.inl ⟨by kernel_rfl, ?hy72⟩) hH ?rs72; (case hy72 => (intro wx hSw; (try dsimp only at hSw); go_simp; try with_reducible rfl)); try simp only [Act.put, List.setIfInBounds_toArray, List.set_cons_zero, List.set_cons_succ]; try simp only [List.getElem_toArray, List.getElem_cons_succ, List.getElem_cons_zero])
    (refine wpAnyH_take (i := 18) (oi := ⟨_, _, _, _, _, _⟩) (v := ?tv73) rfl (by kernel_rfl) (by kernel_rfl) (by kernel_rfl) (fun _ _ _ h => h) (Or.inl ⟨by kernel_rfl, ?hy73⟩) hH ?rs73; (case hy73 => (intro wx hSw; (try dsimp only at hSw); go_simp; try with_reducible rfl)); try simp only [Act.put, List.setIfInBounds_toArray, List.set_cons_zero, List.set_cons_succ]; try simp only [List.getElem_toArray, List.getElem_cons_succ, List.getElem_cons_zero])
    (refine wpAnyH_take (i := 19) (oi := ⟨_, _, _, _, _, _⟩) (v := ?tv74) rfl (by kernel_rfl) (by kernel_rfl) (by kernel_rfl) (fun _ _ _ h => h) (Or.inl ⟨by kernel_rfl, ?hy74⟩) hH ?rs74; (case hy74 => (intro wx hSw; (try dsimp only at hSw); go_simp; try with_reducible rfl)); try simp only [Act.put, List.setIfInBounds_toArray, List.set_cons_zero, List.set_cons_succ]; try simp only [List.getElem_toArray, List.getElem_cons_succ, List.getElem_cons_zero])
    refine wpAnyH_done (by kernel_rfl) ?_ _
    have x4 := ext_trans x3 q2
    have M4 := ownsMap_mod M3 q2 (fun h => h)
    obtain ⟨-, -, d0, -⟩ := hbk q2
    have x5 : Ext wb (wb.alloc (.cells #[] 72)) := (Mod.refl _ wb).alloc _
    obtain ⟨w5, hw5⟩ : ∃ w5, w5 = wb.alloc (.cells #[] 72) := ⟨_, rfl⟩
    rw [← hw5] at x5
    replace hw5 := Lib.hid hw5
    have M5 := ownsMap_mod M4 x5 (fun h => h)
    have y5 := ext_trans x4 x5
    have d5 := ext_cell x5 d0
    clear hbk hbk2 hrise hfits x3 M3 hBF
    by_cases ht : T
    case pos =>
      have hh := hhas.2 ht
      have hE := Lib.hid (hKbad fun h => hKd3.1 h ht)
      clear hKd3 hKbad hKgood hhas hids2
      go_upto_region 10 with (at_lookup; refine wpList_lookup_own_unit _ rfl _ _ 69 rfl 3 72 keyI Try.underlying69 (zeroU _) w0.heap.size (j + 1) _ rfl M4 _ _ rfl hkey ?_; rw [hh])
      rw [← hw5.out]
      go_wp2_with fail
      go_ret
      exact ⟨by rw [hE.out]; rfl, ext_trans x0 y5⟩
    have hh : has D (.int .i64 x.id) = false := by
      cases he : has D (.int .i64 x.id) with
      | false => rfl
      | true => exact absurd (hhas.1 he) ht
    have hG2 := hKgood (hKd3.2 ht)
    clear hKd3 hKbad hKgood hhas ht
    go_upto_region 10 with (at_lookup; refine wpList_lookup_own_unit _ rfl _ _ 69 rfl 3 72 keyI Try.underlying69 (zeroU _) w0.heap.size (j + 1) _ rfl M4 _ _ rfl hkey ?_; rw [hh])
    rw [← hw5.out]
    go_wp2_with (at_mapUpdate; refine wpList_mapUpdate_own _ rfl _ _ _ 69 rfl 3 72 keyI Try.underlying69 _ w0.heap.size (j + 1) _ rfl M5 (by unfold maxLen; omega) _ _ _ rfl rfl hkey _ [] unitElem_mk ?_; intro w6 M6 g6)
    have x6 : Ext w0 w6 := y5.trans (Mod.of_grown (F := fun b => b = w0.heap.size) g6 (fun b hb => by injection hb with hb; exact hb.symm)) (fun _ _ h => h) (fun b hb h => by omega)
    exact ⟨⟨j + 1 + 1, _, by omega, by go_num, M6, hids2, by rw [← hG.out]; exact hG2, x6⟩, by simp [intOf] <;> omega⟩
end Go.Proofs.Ytmjkgibeljbloaa
