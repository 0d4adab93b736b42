/- the document's Disk: a file turned; Sync, Truncate. -/
import Derived.Test.YtnmfkfjeihjkeaaRdC
import Derived.Test.YtnmfkfjeihjkeaaRegA
namespace Go.Proofs.Ytnmfkfjeihjkeaa
open Go.RowKit Go.Maps Go.WideMaps
set_option maxRecDepth 100000

theorem posF_self {L : Fis} (hr : Rise L) {i : Nat} (hi : i < L.length) : posF L L[i].name = i := by
  symm
  have hp : L.Pairwise fun a b => Op.bytesLess a.name b.name = true := List.pairwise_map.1 hr
  exact posF_unique (Nat.le_of_lt hi) (fun j hj h => List.pairwise_iff_getElem.1 hp j i hj hi h) (fun _ => less_irr _)
section
variable {S T F : Nat → Prop} {w w' : World} {bd : Nat} {vL v : Value} {A : List (Fi × Value)} {d : Ds}
/-- A file turned. -/
theorem RdAt.turn (h : RdAt S w bd vL A d) {S' T : Nat → Prop} {i : Nat} (hi : i < A.length) {f' : Fi} {v' : Value} (hn : f'.name = A[i].1.name) (hm : Mod F w w') (hF : ∀ k, k < w.heap.size → F k → own vL k)
    (hrow : OwnR fiv 3 w' fileT vL (A.set i (f', v'))) (hb : Bs w' T v' f'.b) (hT : ∀ k, k < w'.heap.size → T k → S' k ∧ k ≠ bd ∧ ¬ own vL k) (hS : ∀ k, S k → S' k) (hl : f'.last ≤ f'.b.length) (hroom : sumB d.L + f'.b.length ≤ d.room + A[i].1.b.length) :
    RdAt S' w' bd vL (A.set i (f', v')) { d with L := putF d.L f' } := by
  have hil : i < d.L.length := by rw [← h.len]; exact hi
  have hfi := h.fst hi
  have hget : getF d.L f'.name = some A[i].1 := by rw [hn, hfi]; exact getF_of_mem h.rise (List.getElem_mem hil)
  have hpos : posF d.L f'.name = i := by rw [hn, hfi]; exact posF_self h.rise hil
  have hput : putF d.L f' = d.L.set i f' := by rw [putF_set h.rise hget, hpos]
  obtain ⟨s1, s2⟩ := sumB_putF (f := f') h.rise
  rw [hget] at s1 s2
  simp only [lenB, one] at s1 s2
  refine ⟨hS _ h.sd, h.blk.mod hm fun hF' => (h.ro bd (hF _ h.blk.lt hF')).2 rfl, hrow, fun k hk => ⟨hS k (h.ro k hk).1, (h.ro k hk).2⟩, by rw [List.map_set, h.nm, hput], fun a ha => ?_, rise_putF h.rise, fun f hf => ?_, ?_, h.most, ?_, h.lf⟩
  · rcases List.mem_or_eq_of_mem_set ha with ha | rfl
    · exact ((h.fb a ha).mod hm fun k hk hs hF' => hs.2.2 (hF k hk hF')).mono fun k _ hs => ⟨hS k hs.1, hs.2⟩
    · exact hb.mono hT
  · rcases (mem_putF h.rise f).1 hf with rfl | ⟨h1, _⟩
    · exact hl
    · exact h.fl f h1
  · show sumB (putF d.L f') ≤ d.room
    omega
  · show (putF d.L f').length ≤ 4096
    have := h.few
    omega
theorem RdAt.found (h : RdAt S w bd vL A d) {x : List UInt8} {f : Fi} (hx : getF d.L x = some f) : ∃ (n : Nat) (v' : Value) (hi : n < A.length), n = posF d.L x ∧ A[n] = (f, v') ∧ Bs w (fun k => S k ∧ k ≠ bd ∧ ¬ own vL k) v' f.b := by
  have hps := posF_some h.rise hx
  obtain ⟨hil, hli⟩ := List.getElem?_eq_some_iff.1 hps
  have hi : posF d.L x < A.length := by rw [h.len]; exact hil
  have h1 := h.fst hi
  rw [hli] at h1
  refine ⟨_, A[posF d.L x].2, hi, rfl, ?_, ?_⟩
  · rw [← h1]
  · have := h.fb _ (List.getElem_mem hi)
    rw [h1] at this
    exact this
theorem fresh_new {B g n c : Nat} (h : B ≤ g) : Fresh B (.slice (some ⟨g, 0, none⟩) n c) := fun k hk => by have : g = k := Option.some.inj hk; omega
theorem len_of_mem {L : Fis} (hr : Rise L) {f : Fi} (hf : f ∈ L) : f.b.length ≤ sumB L := by
  have := sumB_delF (x := f.name) hr
  rw [getF_of_mem hr hf] at this
  simp only [lenB] at this
  omega
theorem RdAt.rd (h : RdAt S w bd vL A d) : Rd S w (pv bd) d := ⟨bd, vL, A, rfl, h⟩
set_option maxHeartbeats 8000000 in
theorem rsync_any (h : Rd S w v d) (x : List UInt8) :
    Calls Try.prog 28 #[v, sv x] w fun e w' => e = .returned (ev (syncD d x).2) ∧ Rd (Grow S w) w' v (syncD d x).1 ∧ Mod S w w' := by
  obtain ⟨bd, vL, A, rfl, h⟩ := h
  have xa : Ext w (w.alloc (.cells #[sv x] 9)) := (Mod.refl _ _).alloc _
  have hcm := rmay_any (h.mod xa (fun _ _ _ h => h)) (one_name w x) (by simp)
  by_cases hb : begD d [x] = 0
  case neg =>
    have hn := n_ne0 hb
    have hd := h.rd
    rw [syncD, onF_err _ hb]
    clear h hb
    generalize begD d [x] = n at *
    go_enter Try.func28, Try.ntmps28
    go_wp2_with fail
    refine hcm.mono ?_
    rintro e w1 ⟨rfl, x1⟩
    clear hcm
    go_wp2_with fail
    go_ret
    exact ⟨rfl, (hd.ext (ext_trans xa x1)).grow w, (ext_trans xa x1).mono fun _ _ h => h.elim⟩
  rw [hb] at hcm
  have hcs := fun (w' : World) (x1 : Ext w w') => spot_any (h.mod x1 (fun _ _ _ h => h)) x
  cases hx : getF d.L x with
  | none =>
    have hd := h.rd
    rw [syncD, onF_none _ hb hx]
    rw [hx] at hcs
    clear h hb hx
    generalize posF d.L x = n at *
    go_enter Try.func28, Try.ntmps28
    go_wp2_with fail
    refine hcm.mono ?_
    rintro e w1 ⟨rfl, x1⟩
    clear hcm
    replace hcs := hcs _ (ext_trans xa x1)
    go_wp2_with fail
    refine hcs.mono ?_
    rintro e w2 ⟨rfl, x2⟩
    clear hcs
    go_wp2_with fail
    go_ret
    exact ⟨rfl, (hd.ext (ext_trans (ext_trans xa x1) x2)).grow w, (ext_trans (ext_trans xa x1) x2).mono fun _ _ h => h.elim⟩
  | some f =>
    obtain ⟨n, vb, hiA, hn, hA, hvi⟩ := h.found hx
    obtain rfl := getF_name hx
    rw [syncD, onF_some _ hb hx]
    rw [hx, ← hn] at hcs
    have hlf := begD_left hb
    have hlen := h.len
    have hfl := h.fl f (getF_mem hx)
    clear hb hx hn
    have c1 : w.cell? ⟨bd, 1, none⟩ = some vL := h.blk.cell 1
    obtain ⟨ad, c, rfl, p1, p2, p3⟩ := h.at_
    obtain ⟨p, rfl⟩ := p3 (by omega)
    clear p3
    have hfew := h.few
    obtain ⟨B, cb, rfl, e1, e2, e3, e4⟩ := hvi.open_
    have hat := fun (w' : World) (x1 : Ext w w') => (h.row.ext x1).at3 (i := n) hiA
    rw [hA] at hat
    go_enter Try.func28, Try.ntmps28
    go_wp2_with fail
    refine hcm.mono ?_
    rintro e w1 ⟨rfl, x1⟩
    clear hcm
    replace hcs := hcs _ (ext_trans xa x1)
    go_wp2_with fail
    refine hcs.mono ?_
    rintro e w2 ⟨rfl, x2⟩
    have y2 := ext_trans (ext_trans xa x1) x2
    clear hcs xa x1 x2
    have d1 : w2.cell? ⟨bd, 1, none⟩ = some (.slice (some p) d.L.length c) := (y2.cell (lt_of_cell c1) (fun h => h)).trans c1
    obtain ⟨r1, r2, r3, r4, r5, r6⟩ := hat _ y2
    have hi0 : (0 : Int) ≤ (n : Int) := by omega
    have hi1 : (n : Int) < (d.L.length : Int) := by omega
    have r62 := r6 2
    have r61 := r6 1
    have hzs := y2.size
    have h2 := h.mod y2 (fun _ _ _ h => h)
    obtain ⟨k1, k2⟩ := h2.row.set3 hiA (j := 2) (u := .int .i64 (f.b.length : Int)) (a' := (⟨f.name, f.b, f.b.length⟩, .slice B f.b.length cb)) (by omega) (by rw [hA]; rfl)
    have m3 := k2.drew
    have h3 := h2.turn (S' := S) hiA (f' := ⟨f.name, f.b, f.b.length⟩) (v' := .slice B f.b.length cb) (by rw [hA]) m3 (fun k _ hk => hk ▸ r2) (k1.ext (Mod.refl _ _).drew) (T := fun k => S k ∧ k ≠ bd ∧ ¬ own (.slice (some p) d.L.length c) k) ((hvi.mod y2 (fun _ _ _ h => h)).mod m3 fun k _ hs e => hs.2.2 (e ▸ r2)) (fun _ _ h => h) (fun _ h => h) (Nat.le_refl _) (by rw [hA]; exact Nat.add_le_add_right h.room _)
    have hcd := did_any h3
    have hSd := h.sd
    have hSp := (h.ro _ r2).1
    clear hat r6 c1 h h2 h3 k1 hvi hA e4
    go_wp2_with fail
    go_region
    go_wp2_with fail
    refine hcd.mono ?_
    rintro e w4 ⟨rfl, h4, m4⟩
    clear hcd
    go_wp2_with fail
    go_ret
    exact ⟨rfl, h4.rd.grow w, ((y2.mono (G := S) fun _ _ h => h.elim).then_ m3 fun k _ hk => hk ▸ hSp).then_ m4 fun k _ hk => hk ▸ hSd⟩
end
end Go.Proofs.Ytnmfkfjeihjkeaa
namespace Go.Proofs.Ytnmfkfjeihjkeaa
open Go.RowKit Go.Maps Go.WideMaps
set_option maxRecDepth 100000

section
variable {S T F : Nat → Prop} {w w' : World} {bd : Nat} {vL v : Value} {A : List (Fi × Value)} {d : Ds}
set_option maxHeartbeats 8000000 in
theorem rtrunc_any (h : Rd S w v d) (x : List UInt8) (m : Int) (hm0 : -9223372036854775808 ≤ m ∧ m ≤ 9223372036854775807) :
    Calls Try.prog 30 #[v, sv x, .int .i64 m] w fun e w' => e = .returned (ev (truncD d x m).2) ∧ Rd (Grow S w) w' v (truncD d x m).1 ∧ Mod S w w' := by
  obtain ⟨bd, vL, A, rfl, h⟩ := h
  have xa : Ext w (w.alloc (.cells #[sv x] 9)) := (Mod.refl _ _).alloc _
  have hcm := rmay_any (h.mod xa (fun _ _ _ h => h)) (one_name w x) (by simp)
  by_cases hb : begD d [x] = 0
  case neg =>
    have hn := n_ne0 hb
    have hd := h.rd
    rw [truncD, onF_err _ hb]
    clear h hb
    generalize begD d [x] = n at *
    go_enter Try.func30, Try.ntmps30
    go_wp2_with fail
    refine hcm.mono ?_
    rintro e w1 ⟨rfl, x1⟩
    clear hcm
    go_wp2_with fail
    go_ret
    exact ⟨rfl, (hd.ext (ext_trans xa x1)).grow w, (ext_trans xa x1).mono fun _ _ h => h.elim⟩
  rw [hb] at hcm
  have hcs := fun (w' : World) (x1 : Ext w w') => spot_any (h.mod x1 (fun _ _ _ h => h)) x
  cases hx : getF d.L x with
  | none =>
    have hd := h.rd
    rw [truncD, onF_none _ hb hx]
    rw [hx] at hcs
    clear h hb hx
    generalize posF d.L x = n at *
    go_enter Try.func30, Try.ntmps30
    go_wp2_with fail
    refine hcm.mono ?_
    rintro e w1 ⟨rfl, x1⟩
    clear hcm
    replace hcs := hcs _ (ext_trans xa x1)
    go_wp2_with fail
    refine hcs.mono ?_
    rintro e w2 ⟨rfl, x2⟩
    clear hcs
    go_wp2_with fail
    go_ret
    exact ⟨rfl, (hd.ext (ext_trans (ext_trans xa x1) x2)).grow w, (ext_trans (ext_trans xa x1) x2).mono fun _ _ h => h.elim⟩
  | some f =>
    obtain ⟨n, vb, hiA, hn, hA, hvi⟩ := h.found hx
    obtain rfl := getF_name hx
    rw [truncD, onF_some _ hb hx]
    have hroom := h.room
    have hmost := h.most
    have hbl := len_of_mem h.rise (getF_mem hx)
    obtain ⟨R, hR⟩ : ∃ R, R = (if m < 0 ∨ (f.b.length : Int) < m then (d, 1) else (doneD { d with L := putF d.L (cutF f m.toNat) }, 0) : Ds × Nat) := ⟨_, rfl⟩
    rw [← hR]
    replace hR := Lib.hid hR
    rw [hx, ← hn] at hcs
    have hlf := begD_left hb
    have hlen := h.len
    have hfl := h.fl f (getF_mem hx)
    clear hb hx hn
    have c1 : w.cell? ⟨bd, 1, none⟩ = some vL := h.blk.cell 1
    obtain ⟨ad, c, rfl, p1, p2, p3⟩ := h.at_
    obtain ⟨p, rfl⟩ := p3 (by omega)
    clear p3
    have hfew := h.few
    obtain ⟨B, cb, rfl, e1, e2, e3, e4⟩ := hvi.open_
    have hat := fun (w' : World) (x1 : Ext w w') => (h.row.ext x1).at3 (i := n) hiA
    rw [hA] at hat
    go_enter Try.func30, Try.ntmps30
    go_wp2_with fail
    refine hcm.mono ?_
    rintro e w1 ⟨rfl, x1⟩
    clear hcm
    replace hcs := hcs _ (ext_trans xa x1)
    go_wp2_with fail
    refine hcs.mono ?_
    rintro e w2 ⟨rfl, x2⟩
    have y2 := ext_trans (ext_trans xa x1) x2
    clear hcs xa x1 x2
    have d1 : w2.cell? ⟨bd, 1, none⟩ = some (.slice (some p) d.L.length c) := (y2.cell (lt_of_cell c1) (fun h => h)).trans c1
    obtain ⟨r1, r2, r3, r4, r5, r6⟩ := hat _ y2
    have hi0 : (0 : Int) ≤ (n : Int) := by omega
    have hi1 : (n : Int) < (d.L.length : Int) := by omega
    have r62 := r6 2
    have r61 := r6 1
    have hzs := y2.size
    have h2 := h.mod y2 (fun _ _ _ h => h)
    by_cases hbad : m < 0 ∨ (f.b.length : Int) < m
    · have hd := h2.rd
      have hR2 := hR.out
      rw [if_pos hbad] at hR2
      subst hR2
      have hbb : decide (m < 0) = true ∨ (decide (m < 0) = false ∧ decide ((f.b.length : Int) < m) = true) := by
        by_cases h0 : m < 0
        · exact .inl (dtrue h0)
        · exact .inr ⟨dfalse h0, dtrue (hbad.resolve_left h0)⟩
      clear hat r6 c1 h h2 hvi hA e4 hbad hR
      rcases hbb with hb1 | ⟨hb1, hb2⟩
      · go_wp2_with fail
        go_ret
        exact ⟨rfl, hd.grow w, y2.mono fun _ _ h => h.elim⟩
      · go_wp2_with fail
        go_ret
        exact ⟨rfl, hd.grow w, y2.mono fun _ _ h => h.elim⟩
    obtain ⟨k, rfl⟩ : ∃ k : Nat, m = (k : Int) := ⟨m.toNat, by omega⟩
    have hR2 := hR.out
    rw [if_neg hbad, Int.toNat_natCast] at hR2
    subst hR2
    clear hR
    have hk : k ≤ f.b.length := by omega
    have hb1 : decide ((k : Int) < 0) = false := dfalse (by omega)
    have hb2 : decide ((f.b.length : Int) < (k : Int)) = false := dfalse (by omega)
    clear hbad hm0
    go_wp2_with fail
    have hcc : ∀ {wx : World}, Ext w2 wx → wx.cell? ⟨bd, 1, none⟩ = some (.slice (some p) d.L.length c) ∧ wx.cell? ⟨(p.add (n * 3)).block, (p.add (n * 3)).off + 1, none⟩ = some (.slice B f.b.length cb) ∧ wx.frozen? ⟨(p.add (n * 3)).block, (p.add (n * 3)).off + 1, none⟩ = false := fun q => by
      obtain ⟨_, _, _, t4, _, t6⟩ := hat _ (ext_trans y2 q)
      exact ⟨((ext_trans y2 q).cell (lt_of_cell c1) (fun h => h)).trans c1, t4, t6 1⟩
    have q0 : Ext w2 w2.drew := (Mod.refl _ w2).drew
    have oE := (Own.empty w2 5).mod ((Mod.refl (fun _ => False) (w2.alloc (.cells #[] 5))).drew) (fun _ _ h => h)
    have fE : Fresh w2.heap.size (.slice (some ⟨w2.heap.size, 0, none⟩) 0 0) := fresh_new (Nat.le_refl _)
    have qE : Ext w2 ((w2.alloc (.cells #[] 5)).drew) := ((Mod.refl _ _).alloc _).drew
    have rE := Bs.begin (hvi.mod (ext_trans y2 qE) (fun _ _ _ h => h)) hk
    have n1 : (([] : List Value).length + ((f.b.take k).map bv).length) * 1 ≤ 140737488355328 := by rw [List.length_map, List.length_nil, List.length_take]; omega
    have hi2 : (0 : Int) ≤ (k : Int) := by omega
    have hi3 : (k : Int) ≤ (cb : Int) := by omega
    have hi4 : (k : Int) ≤ (f.b.length : Int) := by omega
    obtain ⟨d1', r4', r6'⟩ := hcc q0
    have r4a : ((w2.alloc (.cells #[] 5)).drew).cell? ⟨(p.add (n * 3)).block, (p.add (n * 3)).off + 1, none⟩ = some (.slice B f.b.length cb) := (hcc qE).2.1
    have hne : bd ≠ (p.add (n * 3)).block := fun e => (h.ro _ r2).2 (by rw [e, block_of_add])
    have hlast : ∀ {wx : World} (u : Value), Ext w2 wx → (wx.setCell ⟨(p.add (n * 3)).block, (p.add (n * 3)).off + 1, none⟩ u).cell? ⟨bd, 1, none⟩ = some (.slice (some p) d.L.length c) := fun u q => by
      exact (World.cell?_setCell_far _ _ _ _ (Ne.symm hne)).trans (hcc q).1
    refine wp_region_held_drew (S := fun wx => wx.cell? ⟨bd, 1, none⟩ = some (.slice (some p) d.L.length c)) (by kernel_rfl) (hcc q0).1 (fun hH => ?_)
    (refine wpAnyH_take (i := 0) (v := ?tv1) rfl (by kernel_rfl) (by kernel_rfl) (by kernel_rfl) (fun _ _ _ h => h) (Or.inl ⟨by kernel_rfl, ?hy1⟩) hH ?rs1; case hy1 => (intro wx hSw; (try dsimp only at hSw); go_simp; try with_reducible rfl); try simp only [Act.put, List.setIfInBounds_toArray, List.set_cons_zero, List.set_cons_succ])
    (refine wpAnyH_take (i := 1) (v := ?tv2) rfl (by kernel_rfl) (by kernel_rfl) (by kernel_rfl) (fun _ _ _ h => h) (Or.inl ⟨by kernel_rfl, ?hy2⟩) hH ?rs2; case hy2 => (intro wx hSw; (try dsimp only at hSw); go_simp; try with_reducible rfl); try simp only [Act.put, List.setIfInBounds_toArray, List.set_cons_zero, List.set_cons_succ])
    (refine wpAnyH_take (i := 2) (v := ?tv3) rfl (by kernel_rfl) (by kernel_rfl) (by kernel_rfl) (fun _ _ _ h => h) (Or.inl ⟨by kernel_rfl, ?hy3⟩) hH ?rs3; case hy3 => (intro wx hSw; (try dsimp only at hSw); go_simp; try with_reducible rfl); try simp only [Act.put, List.setIfInBounds_toArray, List.set_cons_zero, List.set_cons_succ])
    (refine wpAnyH_take (i := 3) (v := ?tv4) rfl (by kernel_rfl) (by kernel_rfl) (by kernel_rfl) (fun _ _ _ h => h) (Or.inl ⟨by kernel_rfl, ?hy4⟩) hH ?rs4; case hy4 => (intro wx hSw; (try dsimp only at hSw); go_simp; try with_reducible rfl); try simp only [Act.put, List.setIfInBounds_toArray, List.set_cons_zero, List.set_cons_succ])
    (refine wpAnyH_take (i := 4) (v := ?tv5) rfl (by kernel_rfl) (by kernel_rfl) (by kernel_rfl) (fun _ _ _ h => h) (Or.inl ⟨by kernel_rfl, ?hy5⟩) hH ?rs5; case hy5 => (intro wx hSw; (try dsimp only at hSw); go_simp; try with_reducible rfl); try simp only [Act.put, List.setIfInBounds_toArray, List.set_cons_zero, List.set_cons_succ])
    (refine wpAnyH_take (i := 6) (v := ?tv6) rfl (by kernel_rfl) (by kernel_rfl) (by kernel_rfl) (fun _ _ _ h => h) (Or.inl ⟨by kernel_rfl, ?hy6⟩) hH ?rs6; case hy6 => (intro wx hSw; (try dsimp only at hSw); go_simp; try with_reducible rfl); try simp only [Act.put, List.setIfInBounds_toArray, List.set_cons_zero, List.set_cons_succ])
    (refine wpAnyH_take (i := 7) (v := ?tv7) rfl (by kernel_rfl) (by kernel_rfl) (by kernel_rfl) (fun _ _ _ h => h) (Or.inl ⟨by kernel_rfl, ?hy7⟩) hH ?rs7; case hy7 => (intro wx hSw; (try dsimp only at hSw); go_simp; try with_reducible rfl); try simp only [Act.put, List.setIfInBounds_toArray, List.set_cons_zero, List.set_cons_succ])
    (refine wpAnyH_take (i := 8) (v := ?tv8) rfl (by kernel_rfl) (by kernel_rfl) (by kernel_rfl) (fun _ _ _ h => h) (Or.inl ⟨by kernel_rfl, ?hy8⟩) hH ?rs8; case hy8 => (intro wx hSw; (try dsimp only at hSw); go_simp; try with_reducible rfl); try simp only [Act.put, List.setIfInBounds_toArray, List.set_cons_zero, List.set_cons_succ])
    (refine wpAnyH_take (i := 9) (v := ?tv9) rfl (by kernel_rfl) (by kernel_rfl) (by kernel_rfl) (fun _ _ _ h => h) (Or.inl ⟨by kernel_rfl, ?hy9⟩) hH ?rs9; case hy9 => (intro wx hSw; (try dsimp only at hSw); go_simp; try with_reducible rfl); try simp only [Act.put, List.setIfInBounds_toArray, List.set_cons_zero, List.set_cons_succ])
    (refine wpAnyH_take (i := 10) (v := ?tv10) rfl (by kernel_rfl) (by kernel_rfl) (by kernel_rfl) (fun _ _ _ h => h) (Or.inl ⟨by kernel_rfl, ?hy10⟩) hH ?rs10; case hy10 => (intro wx hSw; (try dsimp only at hSw); go_simp; try with_reducible rfl); try simp only [Act.put, List.setIfInBounds_toArray, List.set_cons_zero, List.set_cons_succ])
    (refine wpAnyH_take (i := 11) (v := ?tv11) rfl (by kernel_rfl) (by kernel_rfl) (by kernel_rfl) (fun _ _ _ h => h) (Or.inl ⟨by kernel_rfl, ?hy11⟩) hH ?rs11; case hy11 => (intro wx hSw; (try dsimp only at hSw); go_simp; try with_reducible rfl); try simp only [Act.put, List.setIfInBounds_toArray, List.set_cons_zero, List.set_cons_succ])
    (refine wpAnyH_take (i := 12) (v := ?tv12) rfl (by kernel_rfl) (by kernel_rfl) (by kernel_rfl) (fun _ _ _ h => h) (Or.inl ⟨by kernel_rfl, ?hy12⟩) hH ?rs12; case hy12 => (intro wx hSw; (try dsimp only at hSw); go_simp; try with_reducible rfl); try simp only [Act.put, List.setIfInBounds_toArray, List.set_cons_zero, List.set_cons_succ])
    (refine wpAnyH_take (i := 14) (v := ?tv13) rfl (by kernel_rfl) (by kernel_rfl) (by kernel_rfl) (fun _ _ _ h => h) (Or.inl ⟨by kernel_rfl, ?hy13⟩) hH ?rs13; case hy13 => (intro wx hSw; (try dsimp only at hSw); go_simp; try with_reducible rfl); try simp only [Act.put, List.setIfInBounds_toArray, List.set_cons_zero, List.set_cons_succ])
    refine wpAnyH_ready (rs := [5, 13]) (by kernel_rfl) (by simp) ?_
    refine AllReadyH.cons rfl (fun K hK => ?_) (AllReadyH.cons rfl (fun K hK => ?_) AllReadyH.nil)
    case' refine_1 =>
      go_simp
      (go_wp2_with fail; refine hK.out _ _ ((hcc qE).1) (fun hH => ?_); clear hK K; try simp only [Act.put, List.setIfInBounds_toArray, List.set_cons_zero, List.set_cons_succ])
      (refine wpAnyH_ready (rs := [13]) (by kernel_rfl) (by simp) ?_; refine AllReadyH.cons rfl (fun K hK => ?_) AllReadyH.nil)
      go_simp
      (go_wp2_with fail; refine hK.out _ _ (hH) (fun hH => ?_); clear hK K; try simp only [Act.put, List.setIfInBounds_toArray, List.set_cons_zero, List.set_cons_succ])
      (refine wpAnyH_take (i := 15) (v := ?tv14) rfl (by kernel_rfl) (by kernel_rfl) (by kernel_rfl) (fun _ _ _ h => h) (Or.inl ⟨by kernel_rfl, ?hy14⟩) hH ?rs14; case hy14 => (intro wx hSw; (try dsimp only at hSw); go_simp; try with_reducible rfl); try simp only [Act.put, List.setIfInBounds_toArray, List.set_cons_zero, List.set_cons_succ])
      (refine wpAnyH_ready (rs := [16]) (by kernel_rfl) (by simp) ?_; refine AllReadyH.cons rfl (fun K hK => ?_) AllReadyH.nil; refine step_app 56 tyB oE rE (bv_one _) n1 rfl rfl (.tmp 45) (.tmp 55) rfl rfl rfl ?_; intro va wa ka1 ka2 ka3; have q1 := ext_app0 qE fE ka2; obtain ⟨Av, cv, rfl⟩ := ka1.shape; obtain ⟨j1, j2, j3⟩ := hcc q1; refine hK.out _ _ j1 (fun hH => ?_); clear hK K; try simp only [Act.put, List.setIfInBounds_toArray, List.set_cons_zero, List.set_cons_succ])
      (refine wpAnyH_take (i := 17) (v := ?tv15) rfl (by kernel_rfl) (by kernel_rfl) (by kernel_rfl) (fun _ _ _ h => h) (Or.inl ⟨by kernel_rfl, ?hy15⟩) hH ?rs15; case hy15 => (intro wx hSw; (try dsimp only at hSw); go_simp; try with_reducible rfl); try simp only [Act.put, List.setIfInBounds_toArray, List.set_cons_zero, List.set_cons_succ])
      (refine wpAnyH_take (i := 18) (v := ?tv16) rfl (by kernel_rfl) (by kernel_rfl) (by kernel_rfl) (fun _ _ _ h => h) (Or.inl ⟨by kernel_rfl, ?hy16⟩) hH ?rs16; case hy16 => (intro wx hSw; (try dsimp only at hSw); go_simp; try with_reducible rfl); try simp only [Act.put, List.setIfInBounds_toArray, List.set_cons_zero, List.set_cons_succ])
      (refine wpAnyH_ready (rs := [19]) (by kernel_rfl) (by simp) ?_; refine AllReadyH.cons rfl (fun K hK => ?_) AllReadyH.nil)
      go_simp
      (go_wp2_with fail; refine hK.out _ _ (hlast _ q1) (fun hH => ?_); clear hK K; try simp only [Act.put, List.setIfInBounds_toArray, List.set_cons_zero, List.set_cons_succ])
      refine wpAnyH_done (by kernel_rfl) ?_ _
    case' refine_2 =>
      go_simp
      (go_wp2_with fail; refine hK.out _ _ (hH) (fun hH => ?_); clear hK K; try simp only [Act.put, List.setIfInBounds_toArray, List.set_cons_zero, List.set_cons_succ])
      (refine wpAnyH_take (i := 15) (v := ?tv17) rfl (by kernel_rfl) (by kernel_rfl) (by kernel_rfl) (fun _ _ _ h => h) (Or.inl ⟨by kernel_rfl, ?hy17⟩) hH ?rs17; case hy17 => (intro wx hSw; (try dsimp only at hSw); go_simp; try with_reducible rfl); try simp only [Act.put, List.setIfInBounds_toArray, List.set_cons_zero, List.set_cons_succ])
      (refine wpAnyH_ready (rs := [5]) (by kernel_rfl) (by simp) ?_; refine AllReadyH.cons rfl (fun K hK => ?_) AllReadyH.nil)
      go_simp
      (go_wp2_with fail; refine hK.out _ _ ((hcc qE).1) (fun hH => ?_); clear hK K; try simp only [Act.put, List.setIfInBounds_toArray, List.set_cons_zero, List.set_cons_succ])
      (refine wpAnyH_ready (rs := [16]) (by kernel_rfl) (by simp) ?_; refine AllReadyH.cons rfl (fun K hK => ?_) AllReadyH.nil; refine step_app 56 tyB oE rE (bv_one _) n1 rfl rfl (.tmp 45) (.tmp 55) rfl rfl rfl ?_; intro va wa ka1 ka2 ka3; have q1 := ext_app0 qE fE ka2; obtain ⟨Av, cv, rfl⟩ := ka1.shape; obtain ⟨j1, j2, j3⟩ := hcc q1; refine hK.out _ _ j1 (fun hH => ?_); clear hK K; try simp only [Act.put, List.setIfInBounds_toArray, List.set_cons_zero, List.set_cons_succ])
      (refine wpAnyH_take (i := 17) (v := ?tv18) rfl (by kernel_rfl) (by kernel_rfl) (by kernel_rfl) (fun _ _ _ h => h) (Or.inl ⟨by kernel_rfl, ?hy18⟩) hH ?rs18; case hy18 => (intro wx hSw; (try dsimp only at hSw); go_simp; try with_reducible rfl); try simp only [Act.put, List.setIfInBounds_toArray, List.set_cons_zero, List.set_cons_succ])
      (refine wpAnyH_take (i := 18) (v := ?tv19) rfl (by kernel_rfl) (by kernel_rfl) (by kernel_rfl) (fun _ _ _ h => h) (Or.inl ⟨by kernel_rfl, ?hy19⟩) hH ?rs19; case hy19 => (intro wx hSw; (try dsimp only at hSw); go_simp; try with_reducible rfl); try simp only [Act.put, List.setIfInBounds_toArray, List.set_cons_zero, List.set_cons_succ])
      (refine wpAnyH_ready (rs := [19]) (by kernel_rfl) (by simp) ?_; refine AllReadyH.cons rfl (fun K hK => ?_) AllReadyH.nil)
      go_simp
      (go_wp2_with fail; refine hK.out _ _ (hlast _ q1) (fun hH => ?_); clear hK K; try simp only [Act.put, List.setIfInBounds_toArray, List.set_cons_zero, List.set_cons_succ])
      refine wpAnyH_done (by kernel_rfl) ?_ _
    all_goals
      have ka : Own wa 5 (.slice Av k cv) ((f.b.take k).map bv) := by
        have h9 := ka1
        rw [List.nil_append] at h9
        have e : ((f.b.take k).map bv).length = k := by rw [List.length_map, List.length_take]; omega
        rw [e] at h9
        exact h9
      have kf : Fresh w2.heap.size (.slice Av k cv) := by
        have h9 := ka3.fresh fE qE.size
        have e : (([] : List Value) ++ (f.b.take k).map bv).length = k := by rw [List.nil_append, List.length_map, List.length_take]; omega
        rw [e] at h9
        exact h9
      have hw := h2.mod q1 (fun _ _ _ h => h)
      obtain ⟨k1, k2⟩ := hw.row.set3 hiA (j := 1) (u := .slice Av k cv) (a' := (f, .slice Av k cv)) (by omega) (by rw [hA]; rfl)
      obtain ⟨w4, hw4⟩ : ∃ w4, w4 = wa.setCell ⟨(p.add (n * 3)).block, (p.add (n * 3)).off + 1, none⟩ (.slice Av k cv) := ⟨_, rfl⟩
      rw [← hw4] at k1 k2 hH ⊢
      have hiA2 : n < (A.set n (f, Value.slice Av k cv)).length := by rw [List.length_set]; exact hiA
      obtain ⟨t1, t2, t3, t4, t5, t6⟩ := k1.at3 (i := n) hiA2
      rw [List.getElem_set_self] at t3 t4 t5
      have t62 := t6 2
      obtain ⟨M, hM, hM2⟩ : ∃ M : Nat, M = min f.last k ∧ ((f.last ≤ k ∧ M = f.last) ∨ (k < f.last ∧ M = k)) := ⟨_, rfl, by omega⟩
      obtain ⟨k3, k4⟩ := k1.set3 hiA2 (j := 2) (u := .int .i64 (M : Int)) (a' := (⟨f.name, f.b.take k, M⟩, .slice Av k cv)) (by omega) (by rw [List.getElem_set_self]; rfl)
      rw [List.set_set] at k3
      have hwz := q1.size
      have m5 : Mod (fun k => k = p.block) wa ((w4.setCell ⟨(p.add (n * 3)).block, (p.add (n * 3)).off + 2, none⟩ (.int .i64 (M : Int))).drew) := (k2.then_ k4 fun _ _ h => h).drew
      have h5 := hw.turn (S' := Grow S w) hiA (f' := ⟨f.name, f.b.take k, M⟩) (v' := .slice Av k cv) (by rw [hA]) m5 (fun k _ hk => hk ▸ r2) (k3.ext (Mod.refl _ _).drew) (T := fun j => w2.heap.size ≤ j) ((ka.mod m5 (fun j hj e => by have := kf j hj; omega)).sl.mono fun j _ hj => kf j hj) (fun j _ hj => ⟨.inr (by omega), by have := h.blk.lt; omega, fun hv => by have := h2.row.lt hv; omega⟩) (fun _ h => .inl h) (by simp only [List.length_take]; omega) (by rw [hA]; simp only [List.length_take]; have := h.room; omega)
      have hcd := did_any h5
      have hSd := h.sd
      have hSp := (h.ro _ r2).1
      have mA : Mod S w ((w4.setCell ⟨(p.add (n * 3)).block, (p.add (n * 3)).off + 2, none⟩ (.int .i64 (M : Int))).drew) := ((ext_trans y2 q1).mono (G := S) fun _ _ h => h.elim).then_ m5 fun j _ hj => hj ▸ hSp
      clear hat r6 c1 h h2 hvi hA e4 hlast hcc k1 k2 k3 k4 m5 h5 hw ka ka1 ka2 ka3 kf oE fE qE rE n1 q0 q1 r4a r4' r6' d1' j1 j2 j3 hw4 t6 t1 t2 r1 r2 r3 r4 r5 r62 r61 y2
      have hcut : Hid (cutF f k = ⟨f.name, f.b.take k, M⟩) := Lib.hid (by rw [hM])
      clear hM
      rcases hM2 with ⟨g1, g2⟩ | ⟨g1, g2⟩
      all_goals
        subst g2
        go_wp2_with fail
        go_region
        go_wp2_with fail
        refine hcd.mono ?_
        rintro e w7 ⟨rfl, h7, m7⟩
        clear hcd
        go_wp2_with fail
        go_ret
        refine ⟨rfl, ?_, mA.then_ m7 fun j _ hj => hj ▸ hSd⟩
        rw [hcut.out]
        exact h7.rd
end
end Go.Proofs.Ytnmfkfjeihjkeaa
