/- level: a short row that is sorted already stays; Order. -/
import Derived.Test.YtmjkgibeljbloaaLvU
namespace Go.Proofs.Ytmjkgibeljbloaa
open Go.RowKit
set_option maxRecDepth 100000

set_option maxHeartbeats 4000000 in
theorem ocmp_any {w : World} (a b : Fl) : Calls Try.prog 54 #[.agg (fia a), .agg (fia b)] w fun e w' => e = .returned (.int .i64 (cmpI a.lev b.lev)) ∧ Ext w w' := by
  have hc := fun wx => cmpint_any (w := wx) a.lev b.lev
  obtain ⟨⟨c0, c1, c2, c3, c4⟩, ⟨d0, d1, d2, d3, d4⟩⟩ := boxedF2 w a b
  have hx : Ext w ((w.alloc (.cells (fia a) 48)).alloc (.cells (fia b) 48)) := ((Mod.refl _ w).alloc _).alloc _
  obtain ⟨w0, hw0⟩ : ∃ w0, w0 = (w.alloc (.cells (fia a) 48)).alloc (.cells (fia b) 48) := ⟨_, rfl⟩
  rw [← hw0] at c0 c1 c2 c3 c4 d0 d1 d2 d3 d4 hx
  replace hw0 := Lib.hid hw0
  go_enter Try.func54, Try.ntmps54
  go_upto_region 1 with fail
  rw [← hw0.out]
  go_wp2_with fail
  refine (hc _).mono ?_
  rintro e w' ⟨rfl, rfl⟩
  go_wp2_with fail
  go_ret
  exact ⟨rfl, hx⟩
abbrev oFn : Value := .func (.func 54) #[] #[]
def upL (M : List Fl) : Prop := ∀ j (hj : j + 1 < M.length), (M[j]'(by omega)).lev ≤ M[j + 1].lev

set_option maxHeartbeats 16000000 in
theorem ins_any {w : World} {S : Nat → Prop} {v : Value} {M : List Fl} (h : Fs w S v M) (hs : upL M) (hl : M.length ≤ 19) :
    Calls Try.prog 70 #[v, .int .i64 0, .int .i64 (M.length : Nat), oFn] w fun e w' => e = .returned (.tuple #[]) ∧ Ext w w' := by
  obtain ⟨A, c, rfl, h1, h2, h3, h4⟩ := h.open_ fic_len
  clear h
  replace hs := Lib.hid hs
  go_enter Try.func70, Try.ntmps70
  go_wp2_with fail
  go_loopw [8] (fun i wr => ∃ (k : Nat), 1 ≤ k ∧ k ≤ M.length + 1 ∧ i = .int .i64 k ∧ Ext w wr) (fun i _ => M.length + 1 - (intOf i).toNat)
  case atStart => exact ⟨1, Nat.le_refl _, by omega, rfl, Mod.refl _ _⟩
  case round =>
    obtain ⟨k, hk1, hk, rfl, hx⟩ := hrel
    by_cases hlt : k < M.length
    case neg =>
      have hbl : decide ((k : Int) < (M.length : Int)) = false := dfalse (by omega)
      have hbl' : decide (k < M.length) = false := dfalse hlt
      go_wp2_with fail
      go_end0
      exact ⟨rfl, hx⟩
    have hbl : decide ((k : Int) < (M.length : Int)) = true := dtrue (by omega)
    have hbl' : decide (k < M.length) = true := dtrue hlt
    obtain ⟨j, rfl⟩ : ∃ j, k = j + 1 := ⟨k - 1, by omega⟩
    go_wp2_with fail
    go_loopw [9] (fun i wz => i = .int .i64 ((j + 1 : Nat) : Int) ∧ Ext w wz) (fun _ _ => 0)
    case atStart => exact ⟨rfl, hx⟩
    case round =>
      clear hx
      obtain ⟨rfl, hx⟩ := hrel
      have hj : j < M.length := by omega
      have hle := hs.out j hlt
      have hg0 : decide ((0 : Int) < (j : Int) + 1) = true := dtrue (by omega)
      have hg0' : decide (0 < j + 1) = true := dtrue (by omega)
      have hat : ∀ {wx : World}, Ext w wx → ∃ ad, A = some ad ∧ wx.cell? (ad.add ((j + 1) * 5)) = some (.int .i64 M[j + 1].id) ∧ wx.cell? ⟨(ad.add ((j + 1) * 5)).block, (ad.add ((j + 1) * 5)).off + 1, none⟩ = some (.int .i64 M[j + 1].lev) ∧ wx.cell? ⟨(ad.add ((j + 1) * 5)).block, (ad.add ((j + 1) * 5)).off + 2, none⟩ = some (.int .i64 M[j + 1].size) ∧ wx.cell? ⟨(ad.add ((j + 1) * 5)).block, (ad.add ((j + 1) * 5)).off + 3, none⟩ = some (sv M[j + 1].first) ∧ wx.cell? ⟨(ad.add ((j + 1) * 5)).block, (ad.add ((j + 1) * 5)).off + 4, none⟩ = some (sv M[j + 1].last) ∧ wx.cell? (ad.add (j * 5)) = some (.int .i64 M[j].id) ∧ wx.cell? ⟨(ad.add (j * 5)).block, (ad.add (j * 5)).off + 1, none⟩ = some (.int .i64 M[j].lev) ∧ wx.cell? ⟨(ad.add (j * 5)).block, (ad.add (j * 5)).off + 2, none⟩ = some (.int .i64 M[j].size) ∧ wx.cell? ⟨(ad.add (j * 5)).block, (ad.add (j * 5)).off + 3, none⟩ = some (sv M[j].first) ∧ wx.cell? ⟨(ad.add (j * 5)).block, (ad.add (j * 5)).off + 4, none⟩ = some (sv M[j].last) := fun x => by
        obtain ⟨ad, hA, _, e0, e1, e2, e3, e4⟩ := Fs.at_ (h4.ext x) hlt
        obtain ⟨ad', hA', _, d0, d1, d2, d3, d4⟩ := Fs.at_ (h4.ext x) hj
        rw [hA] at hA'
        cases hA'
        exact ⟨ad, hA, e0, e1, e2, e3, e4, d0, d1, d2, d3, d4⟩
      obtain ⟨ad, hA, -⟩ := hat hx
      subst hA
      have hbk : ∀ {wx : World}, Ext w wx → wx.cell? (ad.add ((j + 1) * 5)) = some (.int .i64 M[j + 1].id) ∧ wx.cell? ⟨(ad.add ((j + 1) * 5)).block, (ad.add ((j + 1) * 5)).off + 1, none⟩ = some (.int .i64 M[j + 1].lev) ∧ wx.cell? ⟨(ad.add ((j + 1) * 5)).block, (ad.add ((j + 1) * 5)).off + 2, none⟩ = some (.int .i64 M[j + 1].size) ∧ wx.cell? ⟨(ad.add ((j + 1) * 5)).block, (ad.add ((j + 1) * 5)).off + 3, none⟩ = some (sv M[j + 1].first) ∧ wx.cell? ⟨(ad.add ((j + 1) * 5)).block, (ad.add ((j + 1) * 5)).off + 4, none⟩ = some (sv M[j + 1].last) ∧ wx.cell? (ad.add (j * 5)) = some (.int .i64 M[j].id) ∧ wx.cell? ⟨(ad.add (j * 5)).block, (ad.add (j * 5)).off + 1, none⟩ = some (.int .i64 M[j].lev) ∧ wx.cell? ⟨(ad.add (j * 5)).block, (ad.add (j * 5)).off + 2, none⟩ = some (.int .i64 M[j].size) ∧ wx.cell? ⟨(ad.add (j * 5)).block, (ad.add (j * 5)).off + 3, none⟩ = some (sv M[j].first) ∧ wx.cell? ⟨(ad.add (j * 5)).block, (ad.add (j * 5)).off + 4, none⟩ = some (sv M[j].last) := fun x => by
        obtain ⟨ad', hA, e⟩ := hat x
        cases hA
        exact e
      have hi0 : (0 : Int) ≤ (j : Int) := by omega
      have hi1 : (j : Int) < (M.length : Int) := by omega
      have hi2 : (j : Int) + 1 < (M.length : Int) := by omega
      have hi3 : (0 : Int) ≤ (j : Int) + 1 := by omega
      have hi5 : IntKind.i64.wrap (j : Int) = (j : Int) := by rw [IntKind.wrap_i64]; omega
      have hcmp := fun wx => ocmp_any (w := wx) M[j + 1] M[j]
      have hlt2 := cmpI_lt M[j + 1].lev M[j].lev
      clear hat
      generalize M[j + 1] = x at *
      generalize M[j] = y at *
      have hlt3 : decide (cmpI x.lev y.lev < 0) = false := hlt2.trans (dfalse (by omega))
      have q0 : Ext w wr.drew := hx.drew
      clear hlt2 hs hle
      go_wp2_with fail
      refine wp_region_held_drew (S := fun wx => wx.cell? (ad.add ((j + 1) * 5)) = some (.int .i64 x.id) ∧ wx.cell? ⟨(ad.add ((j + 1) * 5)).block, (ad.add ((j + 1) * 5)).off + 1, none⟩ = some (.int .i64 x.lev) ∧ wx.cell? ⟨(ad.add ((j + 1) * 5)).block, (ad.add ((j + 1) * 5)).off + 2, none⟩ = some (.int .i64 x.size) ∧ wx.cell? ⟨(ad.add ((j + 1) * 5)).block, (ad.add ((j + 1) * 5)).off + 3, none⟩ = some (sv x.first) ∧ wx.cell? ⟨(ad.add ((j + 1) * 5)).block, (ad.add ((j + 1) * 5)).off + 4, none⟩ = some (sv x.last) ∧ wx.cell? (ad.add (j * 5)) = some (.int .i64 y.id) ∧ wx.cell? ⟨(ad.add (j * 5)).block, (ad.add (j * 5)).off + 1, none⟩ = some (.int .i64 y.lev) ∧ wx.cell? ⟨(ad.add (j * 5)).block, (ad.add (j * 5)).off + 2, none⟩ = some (.int .i64 y.size) ∧ wx.cell? ⟨(ad.add (j * 5)).block, (ad.add (j * 5)).off + 3, none⟩ = some (sv y.first) ∧ wx.cell? ⟨(ad.add (j * 5)).block, (ad.add (j * 5)).off + 4, none⟩ = some (sv y.last)) (by kernel_rfl) (hbk q0) (fun hH => ?_)
      (refine wpAnyH_take (i := 0) (oi := ⟨_, _, _, _, _, _⟩) (v := ?tv1) rfl (by kernel_rfl) (by kernel_rfl) (by kernel_rfl) (fun _ _ _ h => h) (Or.inl ⟨by kernel_rfl, ?hy1⟩) hH ?rs1; (case hy1 => (intro wx hSw; (try dsimp only at hSw); go_simp; try with_reducible rfl)); try simp only [Act.put, List.setIfInBounds_toArray, List.set_cons_zero, List.set_cons_succ]; try simp only [List.getElem_toArray, List.getElem_cons_succ, List.getElem_cons_zero])
      (refine wpAnyH_take (i := 1) (oi := ⟨_, _, _, _, _, _⟩) (v := ?tv2) rfl (by kernel_rfl) (by kernel_rfl) (by kernel_rfl) (fun _ _ _ h => h) (Or.inl ⟨by kernel_rfl, ?hy2⟩) hH ?rs2; (case hy2 => (intro wx hSw; (try dsimp only at hSw); go_simp; try with_reducible rfl)); try simp only [Act.put, List.setIfInBounds_toArray, List.set_cons_zero, List.set_cons_succ]; try simp only [List.getElem_toArray, List.getElem_cons_succ, List.getElem_cons_zero])
      (refine wpAnyH_take (i := 2) (oi := ⟨_, _, _, _, _, _⟩) (v := ?tv3) rfl (by kernel_rfl) (by kernel_rfl) (by kernel_rfl) (fun _ _ _ h => h) (Or.inl ⟨by kernel_rfl, ?hy3⟩) hH ?rs3; (case hy3 => (intro wx hSw; (try dsimp only at hSw); go_simp; try with_reducible rfl)); try simp only [Act.put, List.setIfInBounds_toArray, List.set_cons_zero, List.set_cons_succ]; try simp only [List.getElem_toArray, List.getElem_cons_succ, List.getElem_cons_zero])
      (refine wpAnyH_take (i := 3) (oi := ⟨_, _, _, _, _, _⟩) (v := ?tv4) rfl (by kernel_rfl) (by kernel_rfl) (by kernel_rfl) (fun _ _ _ h => h) (Or.inl ⟨by kernel_rfl, ?hy4⟩) hH ?rs4; (case hy4 => (intro wx hSw; (try dsimp only at hSw); go_simp; try with_reducible rfl)); try simp only [Act.put, List.setIfInBounds_toArray, List.set_cons_zero, List.set_cons_succ]; try simp only [List.getElem_toArray, List.getElem_cons_succ, List.getElem_cons_zero])
      (refine wpAnyH_take (i := 4) (oi := ⟨_, _, _, _, _, _⟩) (v := ?tv5) rfl (by kernel_rfl) (by kernel_rfl) (by kernel_rfl) (fun _ _ _ h => h) (Or.inl ⟨by kernel_rfl, ?hy5⟩) hH ?rs5; (case hy5 => (intro wx hSw; (try dsimp only at hSw); go_simp; try with_reducible rfl)); try simp only [Act.put, List.setIfInBounds_toArray, List.set_cons_zero, List.set_cons_succ]; try simp only [List.getElem_toArray, List.getElem_cons_succ, List.getElem_cons_zero])
      (refine wpAnyH_take (i := 5) (oi := ⟨_, _, _, _, _, _⟩) (v := ?tv6) rfl (by kernel_rfl) (by kernel_rfl) (by kernel_rfl) (fun _ _ _ h => h) (Or.inl ⟨by kernel_rfl, ?hy6⟩) hH ?rs6; (case hy6 => (intro wx hSw; (try dsimp only at hSw); go_simp; try with_reducible rfl)); try simp only [Act.put, List.setIfInBounds_toArray, List.set_cons_zero, List.set_cons_succ]; try simp only [List.getElem_toArray, List.getElem_cons_succ, List.getElem_cons_zero])
      (refine wpAnyH_take (i := 6) (oi := ⟨_, _, _, _, _, _⟩) (v := ?tv7) rfl (by kernel_rfl) (by kernel_rfl) (by kernel_rfl) (fun _ _ _ h => h) (Or.inl ⟨by kernel_rfl, ?hy7⟩) hH ?rs7; (case hy7 => (intro wx hSw; (try dsimp only at hSw); go_simp; try with_reducible rfl)); try simp only [Act.put, List.setIfInBounds_toArray, List.set_cons_zero, List.set_cons_succ]; try simp only [List.getElem_toArray, List.getElem_cons_succ, List.getElem_cons_zero])
      (refine wpAnyH_take (i := 7) (oi := ⟨_, _, _, _, _, _⟩) (v := ?tv8) rfl (by kernel_rfl) (by kernel_rfl) (by kernel_rfl) (fun _ _ _ h => h) (Or.inl ⟨by kernel_rfl, ?hy8⟩) hH ?rs8; (case hy8 => (intro wx hSw; (try dsimp only at hSw); go_simp; try with_reducible rfl)); try simp only [Act.put, List.setIfInBounds_toArray, List.set_cons_zero, List.set_cons_succ]; try simp only [List.getElem_toArray, List.getElem_cons_succ, List.getElem_cons_zero])
      (refine wpAnyH_take (i := 8) (oi := ⟨_, _, _, _, _, _⟩) (v := ?tv9) rfl (by kernel_rfl) (by kernel_rfl) (by kernel_rfl) (fun _ _ _ h => h) (Or.inl ⟨by kernel_rfl, ?hy9⟩) hH ?rs9; (case hy9 => (intro wx hSw; (try dsimp only at hSw); go_simp; try with_reducible rfl)); try simp only [Act.put, List.setIfInBounds_toArray, List.set_cons_zero, List.set_cons_succ]; try simp only [List.getElem_toArray, List.getElem_cons_succ, List.getElem_cons_zero])
      (refine wpAnyH_take (i := 9) (oi := ⟨_, _, _, _, _, _⟩) (v := ?tv10) rfl (by kernel_rfl) (by kernel_rfl) (by kernel_rfl) (fun _ _ _ h => h) (Or.inl ⟨by kernel_rfl, ?hy10⟩) hH ?rs10; (case hy10 => (intro wx hSw; (try dsimp only at hSw); go_simp; try with_reducible rfl)); try simp only [Act.put, List.setIfInBounds_toArray, List.set_cons_zero, List.set_cons_succ]; try simp only [List.getElem_toArray, List.getElem_cons_succ, List.getElem_cons_zero])
      (refine wpAnyH_take (i := 10) (oi := ⟨_, _, _, _, _, _⟩) (v := ?tv11) rfl (by kernel_rfl) (by kernel_rfl) (by kernel_rfl) (fun _ _ _ h => h) (Or.inl ⟨by kernel_rfl, ?hy11⟩) hH ?rs11; (case hy11 => (intro wx hSw; (try dsimp only at hSw); go_simp; try with_reducible rfl)); try simp only [Act.put, List.setIfInBounds_toArray, List.set_cons_zero, List.set_cons_succ]; try simp only [List.getElem_toArray, List.getElem_cons_succ, List.getElem_cons_zero])
      (refine wpAnyH_take (i := 11) (oi := ⟨_, _, _, _, _, _⟩) (v := ?tv12) rfl (by kernel_rfl) (by kernel_rfl) (by kernel_rfl) (fun _ _ _ h => h) (Or.inl ⟨by kernel_rfl, ?hy12⟩) hH ?rs12; (case hy12 => (intro wx hSw; (try dsimp only at hSw); go_simp; try with_reducible rfl)); try simp only [Act.put, List.setIfInBounds_toArray, List.set_cons_zero, List.set_cons_succ]; try simp only [List.getElem_toArray, List.getElem_cons_succ, List.getElem_cons_zero])
      (refine wpAnyH_take (i := 12) (oi := ⟨_, _, _, _, _, _⟩) (v := ?tv13) rfl (by kernel_rfl) (by kernel_rfl) (by kernel_rfl) (fun _ _ _ h => h) (Or.inl ⟨by kernel_rfl, ?hy13⟩) hH ?rs13; (case hy13 => (intro wx hSw; (try dsimp only at hSw); go_simp; try with_reducible rfl)); try simp only [Act.put, List.setIfInBounds_toArray, List.set_cons_zero, List.set_cons_succ]; try simp only [List.getElem_toArray, List.getElem_cons_succ, List.getElem_cons_zero])
      (refine wpAnyH_take (i := 13) (oi := ⟨_, _, _, _, _, _⟩) (v := ?tv14) rfl (by kernel_rfl) (by kernel_rfl) (by kernel_rfl) (fun _ _ _ h => h) (Or.inl ⟨by kernel_rfl, ?hy14⟩) hH ?rs14; (case hy14 => (intro wx hSw; (try dsimp only at hSw); go_simp; try with_reducible rfl)); try simp only [Act.put, List.setIfInBounds_toArray, List.set_cons_zero, List.set_cons_succ]; try simp only [List.getElem_toArray, List.getElem_cons_succ, List.getElem_cons_zero])
      (refine wpAnyH_ready (rs := [14]) (by kernel_rfl) (by simp) ?_; refine AllReadyH.cons rfl (fun K hK => ?_) AllReadyH.nil; go_simp)
      refine (hcmp _).mono ?_
      rintro e wa ⟨rfl, xa⟩
      have q1 := ext_trans q0 xa
      (go_wp2_with fail; refine hK.out _ _ (hbk q1) (fun hH => ?_); clear hK K; try simp only [Act.put, List.setIfInBounds_toArray, List.set_cons_zero, List.set_cons_succ]; try simp only [List.getElem_toArray, List.getElem_cons_succ, List.getElem_cons_zero])
      (refine wpAnyH_take (i := 15) (oi := ⟨_, _, _, _, _, _⟩) (v := ?tv15) rfl (by kernel_rfl) (by kernel_rfl) (by kernel_rfl) (fun _ _ _ h => h) (Or.inl ⟨by kernel_rfl, ?hy15⟩) hH ?rs15; (case hy15 => (intro wx hSw; (try dsimp only at hSw); go_simp; try with_reducible rfl)); try simp only [Act.put, List.setIfInBounds_toArray, List.set_cons_zero, List.set_cons_succ]; try simp only [List.getElem_toArray, List.getElem_cons_succ, List.getElem_cons_zero])
      (refine wpAnyH_take (i := 16) (oi := ⟨_, _, _, _, _, _⟩) (v := ?tv16) rfl (by kernel_rfl) (by kernel_rfl) (by kernel_rfl) (fun _ _ _ h => h) (Or.inl ⟨by kernel_rfl, ?hy16⟩) hH ?rs16; (case hy16 => (intro wx hSw; (try dsimp only at hSw); go_simp; try with_reducible rfl)); try simp only [Act.put, List.setIfInBounds_toArray, List.set_cons_zero, List.set_cons_succ]; try simp only [List.getElem_toArray, List.getElem_cons_succ, List.getElem_cons_zero])
      refine wpAnyH_done (by kernel_rfl) ?_ _
      go_wp2_with fail
      exact ⟨⟨j + 1 + 1, by omega, by omega, by go_num, q1⟩, by simp [intOf] <;> omega⟩
set_option maxHeartbeats 16000000 in
theorem stable_any {w : World} {S : Nat → Prop} {v : Value} {M : List Fl} (h : Fs w S v M) (hs : upL M) (hl : M.length ≤ 19) :
    Calls Try.prog 66 #[v, .int .i64 (M.length : Nat), oFn] w fun e w' => e = .returned (.tuple #[]) ∧ Ext w w' := by
  have hin := ins_any h hs hl
  have q1 : decide ((20 : Int) ≤ (M.length : Int)) = false := dfalse (by omega)
  have q1' : decide (20 ≤ M.length) = false := dfalse (by omega)
  have q2 : decide ((20 : Int) < (M.length : Int)) = false := dfalse (by omega)
  have q2' : decide (20 < M.length) = false := dfalse (by omega)
  go_enter Try.func66, Try.ntmps66
  go_wp2_with fail
  go_loopw [7, 8] (fun i j wr => i = .int .i64 0 ∧ j = .int .i64 20 ∧ wr = w) (fun _ _ _ => 0)
  case atStart => exact ⟨rfl, rfl, rfl⟩
  case round =>
    obtain ⟨rfl, rfl, rfl⟩ := hrel
    go_wp2_with fail
    refine hin.mono ?_
    rintro e w1 ⟨rfl, x1⟩
    go_wp2_with fail
    go_loopw [6] (fun i wr => i = .int .i64 20 ∧ wr = w1) (fun _ _ => 0)
    case atStart => exact ⟨rfl, rfl⟩
    case round =>
      obtain ⟨rfl, rfl⟩ := hrel
      go_wp2_with fail
      go_end0
      exact ⟨rfl, x1⟩
set_option maxHeartbeats 4000000 in
theorem sortst_any {w : World} {S : Nat → Prop} {v : Value} {M : List Fl} (h : Fs w S v M) (hs : upL M) (hl : M.length ≤ 19) :
    Calls Try.prog 50 #[v, oFn] w fun e w' => e = .returned (.tuple #[]) ∧ Ext w w' := by
  have hin := stable_any h hs hl
  obtain ⟨A, c, rfl⟩ := h.shape
  go_enter Try.func50, Try.ntmps50
  go_wp2_with fail
  refine hin.mono ?_
  rintro e w1 ⟨rfl, x1⟩
  go_wp2_with fail
  go_end0
  exact ⟨rfl, x1⟩
end Go.Proofs.Ytmjkgibeljbloaa
