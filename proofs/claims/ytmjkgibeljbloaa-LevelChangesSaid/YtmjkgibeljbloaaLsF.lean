/- sorting files: a single file behind a row. -/
import Derived.Test.YtmjkgibeljbloaaLsE
namespace Go.Proofs.Ytmjkgibeljbloaa
open Go.RowKit
set_option maxRecDepth 100000

theorem at_A {X Z A : List Fl} {y : Fl} {a u : Nat} (ha : a = X.length) (h : a ≤ u) (hu : u - a < A.length) : (X ++ A ++ y :: Z)[u]? = A[u - a]? := by
  rw [List.append_assoc, List.getElem?_append_right (by omega), ← ha, List.getElem?_append_left hu]
set_option maxHeartbeats 32000000 in
theorem merge2_any {w : World} {g n c a m b : Nat} {X A Z : List Fl} {y : Fl} (h : OwnF w (slF g n c) (X ++ A ++ y :: Z)) (hn : n = (X ++ A ++ y :: Z).length) (hl : n ≤ 1000000)
    (ha : a = X.length) (hm : m = a + A.length) (hb : b = m + 1) (hA2 : 2 ≤ A.length) (hA : Srt A) :
    Calls Try.prog 71 #[slF g n c, .int .i64 (a : Nat), .int .i64 (m : Nat), .int .i64 (b : Nat), cF] w fun e w' => e = .returned (.tuple #[]) ∧ ∃ S, S.Perm (y :: A) ∧ Srt S ∧ OwnF w' (slF g n c) (X ++ S ++ Z) ∧ Mod (fun k => k = g) w w' := by
  have hn' : b + Z.length = n := by rw [hn]; simp only [List.length_append, List.length_cons]; omega
  have u0 : IntKind.i64.wrap ((m : Int) - (a : Int)) = ((m - a : Nat) : Int) := by rw [IntKind.wrap_i64]; omega
  have u0' : (m : Int) - (a : Int) = ((m - a : Nat) : Int) := by omega
  obtain ⟨da, hda⟩ : ∃ da, da = m - a := ⟨_, rfl⟩
  rw [← hda] at u0 u0'
  have ud : ((da : Int) == 1) = false := by rw [beq_eq_false_iff_ne]; omega
  have ud' : (da == 1) = false := by rw [beq_eq_false_iff_ne]; omega
  have u1 : IntKind.i64.wrap ((b : Int) - (m : Int)) = 1 := by rw [IntKind.wrap_i64]; omega
  have u1' : (b : Int) - (m : Int) = 1 := by omega
  replace hda := Lib.hid hda
  obtain ⟨D, hD⟩ : ∃ D, D = X ++ A ++ y :: Z := ⟨_, rfl⟩
  rw [← hD] at h hn
  obtain ⟨Q, hQ⟩ : ∃ Q : Nat → Prop, Q = fun c => ∃ z, D[c]? = some z ∧ ¬ aheadF y z := ⟨_, rfl⟩
  have hdn : Dn Q a m := by
    intro u v k1 k2 k3 k4
    rw [hQ] at k4 ⊢
    obtain ⟨z, hz, az⟩ := k4
    have hv : v - a < A.length := by omega
    have hu : u - a < A.length := by omega
    rw [hD, at_A (a := a) (by omega) (by omega) hv] at hz
    obtain ⟨_, rfl⟩ := List.getElem?_eq_some_iff.1 hz
    refine ⟨A[u - a], ?_, fun hc => az (hA.behind (i := u - a) (by omega) hv hc)⟩
    rw [hD, at_A (a := a) (by omega) (by omega) hu]
    exact List.getElem?_eq_getElem hu
  have hbn : m < n := by omega
  have han : a ≤ m := by omega
  have hxa : Hid (D[m]? = some y) := Lib.hid (by rw [hD, hm, ha, ← List.length_append, List.getElem?_append_right (Nat.le_refl _), Nat.sub_self]; rfl)
  have hDn : Hid (D.length = n) := Lib.hid hn.symm
  have iA : IntKind.i64.wrap (m : Int) = (m : Int) := by rw [IntKind.wrap_i64]; omega
  have a0 : (0 : Int) ≤ (m : Int) := by omega
  have a1 : (m : Int) < (n : Int) := by omega
  replace hQ := Lib.hid hQ
  replace hD := Lib.hid hD
  replace ha := Lib.hid ha
  replace hm := Lib.hid hm
  replace hb := Lib.hid hb
  replace hn' := Lib.hid hn'
  replace hA2 := Lib.hid hA2
  clear hn
  go_enter Try.func71, Try.ntmps71
  go_wp2_with fail
  go_loopw [14, 15] (fun iv jv wr => ∃ (i j : Nat), iv = .int .i64 i ∧ jv = .int .i64 j ∧ Hid (Hv Q a m i j) ∧ Ext w wr) (fun i j _ => (intOf j).toNat - (intOf i).toNat)
  case atStart => exact ⟨a, m, rfl, rfl, Lib.hid (Hv.start Q han), Mod.refl _ _⟩
  case round =>
    obtain ⟨i, j, rfl, rfl, hbs, hx⟩ := hrel
    have k1 := hbs.out.l1
    have k2 := hbs.out.l2
    have k3 := hbs.out.l3
    by_cases hij : i < j
    case pos =>
      have hbl : decide ((i : Int) < (j : Int)) = true := dtrue (by omega)
      have hbl' : decide (i < j) = true := dtrue hij
      obtain ⟨hh, hhv⟩ : ∃ hh, hh = (i + j) / 2 := ⟨_, rfl⟩
      have hh1 : i ≤ hh := by omega
      have hh2 : hh < j := by omega
      have v1 : IntKind.i64.wrap ((i : Int) + (j : Int)) = ((i + j : Nat) : Int) := by rw [IntKind.wrap_i64]; omega
      have v1' : (i : Int) + (j : Int) = ((i + j : Nat) : Int) := by omega
      have v2 : IntKind.u64.wrap ((i + j : Nat) : Int) = ((i + j : Nat) : Int) := by rw [IntKind.wrap_u64]; omega
      have v3 : ((i + j : Nat) : Int) / 2 = (hh : Int) := by omega
      have v4 : IntKind.i64.wrap (hh : Int) = (hh : Int) := by rw [IntKind.wrap_i64]; omega
      have h0 : (0 : Int) ≤ (hh : Int) := by omega
      have h1 : (hh : Int) < (n : Int) := by omega
      generalize hij2 : i + j = ij at *
      replace hhv := Lib.hid hhv
      replace hij2 := Lib.hid hij2
      have v5 : IntKind.i64.wrap ((hh : Int) + 1) = ((hh + 1 : Nat) : Int) := by rw [IntKind.wrap_i64]; omega
      have v5' : (hh : Int) + 1 = ((hh + 1 : Nat) : Int) := by omega
      obtain ⟨h2, hh3⟩ : ∃ h2, h2 = hh + 1 := ⟨_, rfl⟩
      rw [← hh3] at v5 v5'
      have hd1 : j - h2 < j - i := by omega
      have hd2 : hh - i < j - i := by omega
      have hlh : hh < D.length := by have := hDn.out; omega
      obtain ⟨z, hz⟩ : ∃ z, D[hh]? = some z := ⟨D[hh], List.getElem?_eq_getElem hlh⟩
      have hq : Q hh ↔ ¬ aheadF y z := by
        rw [hQ.out]
        constructor
        · rintro ⟨z', hz', k⟩; rw [hz] at hz'; cases hz'; exact k
        · exact fun k => ⟨z, hz, k⟩
      have hbk : ∀ {wx : World}, Ext wr wx → wx.cell? ⟨g, m * 5, none⟩ = some (.int .i64 y.id) ∧ wx.cell? ⟨g, m * 5 + 1, none⟩ = some (.int .i64 y.lev) ∧ wx.cell? ⟨g, m * 5 + 2, none⟩ = some (.int .i64 y.size) ∧ wx.cell? ⟨g, m * 5 + 3, none⟩ = some (sv y.first) ∧ wx.cell? ⟨g, m * 5 + 4, none⟩ = some (sv y.last) ∧ wx.cell? ⟨g, hh * 5, none⟩ = some (.int .i64 z.id) ∧ wx.cell? ⟨g, hh * 5 + 1, none⟩ = some (.int .i64 z.lev) ∧ wx.cell? ⟨g, hh * 5 + 2, none⟩ = some (.int .i64 z.size) ∧ wx.cell? ⟨g, hh * 5 + 3, none⟩ = some (sv z.first) ∧ wx.cell? ⟨g, hh * 5 + 4, none⟩ = some (sv z.last) := by
        intro wx hxx
        have o : OwnF wx (slF g n c) D := OwnR.ext h (ext_trans hx hxx)
        obtain ⟨c0, c1, c2, c3, c4⟩ := OwnF.cellsp o hxa.out
        obtain ⟨d0, d1, d2, d3, d4⟩ := OwnF.cellsp o hz
        exact ⟨c0, c1, c2, c3, c4, d0, d1, d2, d3, d4⟩
      have hcmp := fun wx => order_any (w := wx) y z
      have hlt2 := ordI_lt y z
      have hr0 : Ext wr wr.drew := (Mod.refl _ wr).drew
      replace hh3 := Lib.hid hh3
      by_cases hah : aheadF y z
      case pos =>
        have hlt3 : decide (ordI y z < 0) = true := hlt2.trans (dtrue hah)
        have hb2 := Lib.hid (hbs.out.down hdn hh1 hh2 (fun k => hq.1 k hah))
        clear hlt2 hah hq hbs
        go_wp2_with fail
        refine wp_region_held_drew (S := fun wx => wx.cell? ⟨g, m * 5, none⟩ = some (.int .i64 y.id) ∧ wx.cell? ⟨g, m * 5 + 1, none⟩ = some (.int .i64 y.lev) ∧ wx.cell? ⟨g, m * 5 + 2, none⟩ = some (.int .i64 y.size) ∧ wx.cell? ⟨g, m * 5 + 3, none⟩ = some (sv y.first) ∧ wx.cell? ⟨g, m * 5 + 4, none⟩ = some (sv y.last) ∧ wx.cell? ⟨g, hh * 5, none⟩ = some (.int .i64 z.id) ∧ wx.cell? ⟨g, hh * 5 + 1, none⟩ = some (.int .i64 z.lev) ∧ wx.cell? ⟨g, hh * 5 + 2, none⟩ = some (.int .i64 z.size) ∧ wx.cell? ⟨g, hh * 5 + 3, none⟩ = some (sv z.first) ∧ wx.cell? ⟨g, hh * 5 + 4, none⟩ = some (sv z.last)) (by kernel_rfl) (hbk hr0) (fun hH => ?_)
        (refine wpAnyH_take (i := 0) (oi := ⟨_, _, _, _, _, _⟩) (v := ?tv1) rfl (by kernel_rfl) (by kernel_rfl) (by kernel_rfl) (fun _ _ _ h => h) (Or.inl ⟨by kernel_rfl, ?hy1⟩) hH ?rs1; (case hy1 => (intro wx hSw; (try dsimp only at hSw); go_simp; try with_reducible rfl)); try simp only [Act.put, List.setIfInBounds_toArray, List.set_cons_zero, List.set_cons_succ]; try simp only [List.getElem_toArray, List.getElem_cons_succ, List.getElem_cons_zero])
        (refine wpAnyH_take (i := 1) (oi := ⟨_, _, _, _, _, _⟩) (v := ?tv2) rfl (by kernel_rfl) (by kernel_rfl) (by kernel_rfl) (fun _ _ _ h => h) (Or.inl ⟨by kernel_rfl, ?hy2⟩) hH ?rs2; (case hy2 => (intro wx hSw; (try dsimp only at hSw); go_simp; try with_reducible rfl)); try simp only [Act.put, List.setIfInBounds_toArray, List.set_cons_zero, List.set_cons_succ]; try simp only [List.getElem_toArray, List.getElem_cons_succ, List.getElem_cons_zero])
        (refine wpAnyH_take (i := 2) (oi := ⟨_, _, _, _, _, _⟩) (v := ?tv3) rfl (by kernel_rfl) (by kernel_rfl) (by kernel_rfl) (fun _ _ _ h => h) (Or.inl ⟨by kernel_rfl, ?hy3⟩) hH ?rs3; (case hy3 => (intro wx hSw; (try dsimp only at hSw); go_simp; try with_reducible rfl)); try simp only [Act.put, List.setIfInBounds_toArray, List.set_cons_zero, List.set_cons_succ]; try simp only [List.getElem_toArray, List.getElem_cons_succ, List.getElem_cons_zero])
        (refine wpAnyH_take (i := 3) (oi := ⟨_, _, _, _, _, _⟩) (v := ?tv4) rfl (by kernel_rfl) (by kernel_rfl) (by kernel_rfl) (fun _ _ _ h => h) (Or.inl ⟨by kernel_rfl, ?hy4⟩) hH ?rs4; (case hy4 => (intro wx hSw; (try dsimp only at hSw); go_simp; try with_reducible rfl)); try simp only [Act.put, List.setIfInBounds_toArray, List.set_cons_zero, List.set_cons_succ]; try simp only [List.getElem_toArray, List.getElem_cons_succ, List.getElem_cons_zero])
        (refine wpAnyH_take (i := 4) (oi := ⟨_, _, _, _, _, _⟩) (v := ?tv5) rfl (by kernel_rfl) (by kernel_rfl) (by kernel_rfl) (fun _ _ _ h => h) (Or.inl ⟨by kernel_rfl, ?hy5⟩) hH ?rs5; (case hy5 => (intro wx hSw; (try dsimp only at hSw); go_simp; try with_reducible rfl)); try simp only [Act.put, List.setIfInBounds_toArray, List.set_cons_zero, List.set_cons_succ]; try simp only [List.getElem_toArray, List.getElem_cons_succ, List.getElem_cons_zero])
        (refine wpAnyH_take (i := 5) (oi := ⟨_, _, _, _, _, _⟩) (v := ?tv6) rfl (by kernel_rfl) (by kernel_rfl) (by kernel_rfl) (fun _ _ _ h => h) (Or.inl ⟨by kernel_rfl, ?hy6⟩) hH ?rs6; (case hy6 => (intro wx hSw; (try dsimp only at hSw); go_simp; try with_reducible rfl)); try simp only [Act.put, List.setIfInBounds_toArray, List.set_cons_zero, List.set_cons_succ]; try simp only [List.getElem_toArray, List.getElem_cons_succ, List.getElem_cons_zero])
        (refine wpAnyH_take (i := 6) (oi := ⟨_, _, _, _, _, _⟩) (v := ?tv7) rfl (by kernel_rfl) (by kernel_rfl) (by kernel_rfl) (fun _ _ _ h => h) (Or.inl ⟨by kernel_rfl, ?hy7⟩) hH ?rs7; (case hy7 => (intro wx hSw; (try dsimp only at hSw); go_simp; try with_reducible rfl)); try simp only [Act.put, List.setIfInBounds_toArray, List.set_cons_zero, List.set_cons_succ]; try simp only [List.getElem_toArray, List.getElem_cons_succ, List.getElem_cons_zero])
        (refine wpAnyH_take (i := 7) (oi := ⟨_, _, _, _, _, _⟩) (v := ?tv8) rfl (by kernel_rfl) (by kernel_rfl) (by kernel_rfl) (fun _ _ _ h => h) (Or.inl ⟨by kernel_rfl, ?hy8⟩) hH ?rs8; (case hy8 => (intro wx hSw; (try dsimp only at hSw); go_simp; try with_reducible rfl)); try simp only [Act.put, List.setIfInBounds_toArray, List.set_cons_zero, List.set_cons_succ]; try simp only [List.getElem_toArray, List.getElem_cons_succ, List.getElem_cons_zero])
        (refine wpAnyH_take (i := 8) (oi := ⟨_, _, _, _, _, _⟩) (v := ?tv9) rfl (by kernel_rfl) (by kernel_rfl) (by kernel_rfl) (fun _ _ _ h => h) (Or.inl ⟨by kernel_rfl, ?hy9⟩) hH ?rs9; (case hy9 => (intro wx hSw; (try dsimp only at hSw); go_simp; try with_reducible rfl)); try simp only [Act.put, List.setIfInBounds_toArray, List.set_cons_zero, List.set_cons_succ]; try simp only [List.getElem_toArray, List.getElem_cons_succ, List.getElem_cons_zero])
        (refine wpAnyH_ready (rs := [9]) (by kernel_rfl) (by simp) ?_; refine AllReadyH.cons rfl (fun K hK => ?_) AllReadyH.nil; go_simp)
        refine (hcmp _).mono ?_
        rintro e wa ⟨rfl, xa⟩
        have q1 := ext_trans hr0 xa
        (go_wp2_with fail; refine hK.out _ _ (hbk q1) (fun hH => ?_); clear hK K; try simp only [Act.put, List.setIfInBounds_toArray, List.set_cons_zero, List.set_cons_succ]; try simp only [List.getElem_toArray, List.getElem_cons_succ, List.getElem_cons_zero])
        (refine wpAnyH_take (i := 10) (oi := ⟨_, _, _, _, _, _⟩) (v := ?tv10) rfl (by kernel_rfl) (by kernel_rfl) (by kernel_rfl) (fun _ _ _ h => h) (Or.inl ⟨by kernel_rfl, ?hy10⟩) hH ?rs10; (case hy10 => (intro wx hSw; (try dsimp only at hSw); go_simp; try with_reducible rfl)); try simp only [Act.put, List.setIfInBounds_toArray, List.set_cons_zero, List.set_cons_succ]; try simp only [List.getElem_toArray, List.getElem_cons_succ, List.getElem_cons_zero])
        (refine wpAnyH_take (i := 11) (oi := ⟨_, _, _, _, _, _⟩) (v := ?tv11) rfl (by kernel_rfl) (by kernel_rfl) (by kernel_rfl) (fun _ _ _ h => h) (Or.inl ⟨by kernel_rfl, ?hy11⟩) hH ?rs11; (case hy11 => (intro wx hSw; (try dsimp only at hSw); go_simp; try with_reducible rfl)); try simp only [Act.put, List.setIfInBounds_toArray, List.set_cons_zero, List.set_cons_succ]; try simp only [List.getElem_toArray, List.getElem_cons_succ, List.getElem_cons_zero])
        refine wpAnyH_done (by kernel_rfl) ?_ _
        go_wp2_with fail
        exact ⟨⟨i, hh, by go_num, by go_num, hb2, ext_trans hx q1⟩, by simp [intOf] <;> omega⟩
      have hlt3 : decide (ordI y z < 0) = false := hlt2.trans (dfalse hah)
      have hb2 := Lib.hid (hh3.out ▸ hbs.out.up hdn hh1 hh2 (hq.2 hah))
      clear hlt2 hah hq hbs
      go_wp2_with fail
      refine wp_region_held_drew (S := fun wx => wx.cell? ⟨g, m * 5, none⟩ = some (.int .i64 y.id) ∧ wx.cell? ⟨g, m * 5 + 1, none⟩ = some (.int .i64 y.lev) ∧ wx.cell? ⟨g, m * 5 + 2, none⟩ = some (.int .i64 y.size) ∧ wx.cell? ⟨g, m * 5 + 3, none⟩ = some (sv y.first) ∧ wx.cell? ⟨g, m * 5 + 4, none⟩ = some (sv y.last) ∧ wx.cell? ⟨g, hh * 5, none⟩ = some (.int .i64 z.id) ∧ wx.cell? ⟨g, hh * 5 + 1, none⟩ = some (.int .i64 z.lev) ∧ wx.cell? ⟨g, hh * 5 + 2, none⟩ = some (.int .i64 z.size) ∧ wx.cell? ⟨g, hh * 5 + 3, none⟩ = some (sv z.first) ∧ wx.cell? ⟨g, hh * 5 + 4, none⟩ = some (sv z.last)) (by kernel_rfl) (hbk hr0) (fun hH => ?_)
      (refine wpAnyH_take (i := 0) (oi := ⟨_, _, _, _, _, _⟩) (v := ?tv12) rfl (by kernel_rfl) (by kernel_rfl) (by kernel_rfl) (fun _ _ _ h => h) (Or.inl ⟨by kernel_rfl, ?hy12⟩) hH ?rs12; (case hy12 => (intro wx hSw; (try dsimp only at hSw); go_simp; try with_reducible rfl)); try simp only [Act.put, List.setIfInBounds_toArray, List.set_cons_zero, List.set_cons_succ]; try simp only [List.getElem_toArray, List.getElem_cons_succ, List.getElem_cons_zero])
      (refine wpAnyH_take (i := 1) (oi := ⟨_, _, _, _, _, _⟩) (v := ?tv13) rfl (by kernel_rfl) (by kernel_rfl) (by kernel_rfl) (fun _ _ _ h => h) (Or.inl ⟨by kernel_rfl, ?hy13⟩) hH ?rs13; (case hy13 => (intro wx hSw; (try dsimp only at hSw); go_simp; try with_reducible rfl)); try simp only [Act.put, List.setIfInBounds_toArray, List.set_cons_zero, List.set_cons_succ]; try simp only [List.getElem_toArray, List.getElem_cons_succ, List.getElem_cons_zero])
      (refine wpAnyH_take (i := 2) (oi := ⟨_, _, _, _, _, _⟩) (v := ?tv14) rfl (by kernel_rfl) (by kernel_rfl) (by kernel_rfl) (fun _ _ _ h => h) (Or.inl ⟨by kernel_rfl, ?hy14⟩) hH ?rs14; (case hy14 => (intro wx hSw; (try dsimp only at hSw); go_simp; try with_reducible rfl)); try simp only [Act.put, List.setIfInBounds_toArray, List.set_cons_zero, List.set_cons_succ]; try simp only [List.getElem_toArray, List.getElem_cons_succ, List.getElem_cons_zero])
      (refine wpAnyH_take (i := 3) (oi := ⟨_, _, _, _, _, _⟩) (v := ?tv15) rfl (by kernel_rfl) (by kernel_rfl) (by kernel_rfl) (fun _ _ _ h => h) (Or.inl ⟨by kernel_rfl, ?hy15⟩) hH ?rs15; (case hy15 => (intro wx hSw; (try dsimp only at hSw); go_simp; try with_reducible rfl)); try simp only [Act.put, List.setIfInBounds_toArray, List.set_cons_zero, List.set_cons_succ]; try simp only [List.getElem_toArray, List.getElem_cons_succ, List.getElem_cons_zero])
      (refine wpAnyH_take (i := 4) (oi := ⟨_, _, _, _, _, _⟩) (v := ?tv16) rfl (by kernel_rfl) (by kernel_rfl) (by kernel_rfl) (fun _ _ _ h => h) (Or.inl ⟨by kernel_rfl, ?hy16⟩) hH ?rs16; (case hy16 => (intro wx hSw; (try dsimp only at hSw); go_simp; try with_reducible rfl)); try simp only [Act.put, List.setIfInBounds_toArray, List.set_cons_zero, List.set_cons_succ]; try simp only [List.getElem_toArray, List.getElem_cons_succ, List.getElem_cons_zero])
      (refine wpAnyH_take (i := 5) (oi := ⟨_, _, _, _, _, _⟩) (v := ?tv17) rfl (by kernel_rfl) (by kernel_rfl) (by kernel_rfl) (fun _ _ _ h => h) (Or.inl ⟨by kernel_rfl, ?hy17⟩) hH ?rs17; (case hy17 => (intro wx hSw; (try dsimp only at hSw); go_simp; try with_reducible rfl)); try simp only [Act.put, List.setIfInBounds_toArray, List.set_cons_zero, List.set_cons_succ]; try simp only [List.getElem_toArray, List.getElem_cons_succ, List.getElem_cons_zero])
      (refine wpAnyH_take (i := 6) (oi := ⟨_, _, _, _, _, _⟩) (v := ?tv18) rfl (by kernel_rfl) (by kernel_rfl) (by kernel_rfl) (fun _ _ _ h => h) (Or.inl ⟨by kernel_rfl, ?hy18⟩) hH ?rs18; (case hy18 => (intro wx hSw; (try dsimp only at hSw); go_simp; try with_reducible rfl)); try simp only [Act.put, List.setIfInBounds_toArray, List.set_cons_zero, List.set_cons_succ]; try simp only [List.getElem_toArray, List.getElem_cons_succ, List.getElem_cons_zero])
      (refine wpAnyH_take (i := 7) (oi := ⟨_, _, _, _, _, _⟩) (v := ?tv19) rfl (by kernel_rfl) (by kernel_rfl) (by kernel_rfl) (fun _ _ _ h => h) (Or.inl ⟨by kernel_rfl, ?hy19⟩) hH ?rs19; (case hy19 => (intro wx hSw; (try dsimp only at hSw); go_simp; try with_reducible rfl)); try simp only [Act.put, List.setIfInBounds_toArray, List.set_cons_zero, List.set_cons_succ]; try simp only [List.getElem_toArray, List.getElem_cons_succ, List.getElem_cons_zero])
      (refine wpAnyH_take (i := 8) (oi := ⟨_, _, _, _, _, _⟩) (v := ?tv20) rfl (by kernel_rfl) (by kernel_rfl) (by kernel_rfl) (fun _ _ _ h => h) (Or.inl ⟨by kernel_rfl, ?hy20⟩) hH ?rs20; (case hy20 => (intro wx hSw; (try dsimp only at hSw); go_simp; try with_reducible rfl)); try simp only [Act.put, List.setIfInBounds_toArray, List.set_cons_zero, List.set_cons_succ]; try simp only [List.getElem_toArray, List.getElem_cons_succ, List.getElem_cons_zero])
      (refine wpAnyH_ready (rs := [9]) (by kernel_rfl) (by simp) ?_; refine AllReadyH.cons rfl (fun K hK => ?_) AllReadyH.nil; go_simp)
      refine (hcmp _).mono ?_
      rintro e wa ⟨rfl, xa⟩
      have q1 := ext_trans hr0 xa
      (go_wp2_with fail; refine hK.out _ _ (hbk q1) (fun hH => ?_); clear hK K; try simp only [Act.put, List.setIfInBounds_toArray, List.set_cons_zero, List.set_cons_succ]; try simp only [List.getElem_toArray, List.getElem_cons_succ, List.getElem_cons_zero])
      (refine wpAnyH_take (i := 10) (oi := ⟨_, _, _, _, _, _⟩) (v := ?tv21) rfl (by kernel_rfl) (by kernel_rfl) (by kernel_rfl) (fun _ _ _ h => h) (Or.inl ⟨by kernel_rfl, ?hy21⟩) hH ?rs21; (case hy21 => (intro wx hSw; (try dsimp only at hSw); go_simp; try with_reducible rfl)); try simp only [Act.put, List.setIfInBounds_toArray, List.set_cons_zero, List.set_cons_succ]; try simp only [List.getElem_toArray, List.getElem_cons_succ, List.getElem_cons_zero])
      (refine wpAnyH_take (i := 11) (oi := ⟨_, _, _, _, _, _⟩) (v := ?tv22) rfl (by kernel_rfl) (by kernel_rfl) (by kernel_rfl) (fun _ _ _ h => h) (Or.inl ⟨by kernel_rfl, ?hy22⟩) hH ?rs22; (case hy22 => (intro wx hSw; (try dsimp only at hSw); go_simp; try with_reducible rfl)); try simp only [Act.put, List.setIfInBounds_toArray, List.set_cons_zero, List.set_cons_succ]; try simp only [List.getElem_toArray, List.getElem_cons_succ, List.getElem_cons_zero])
      refine wpAnyH_done (by kernel_rfl) ?_ _
      go_wp2_with fail
      exact ⟨⟨h2, j, by go_num, by go_num, hb2, ext_trans hx q1⟩, by simp [intOf] <;> omega⟩
    have hbl : decide ((i : Int) < (j : Int)) = false := dfalse (by omega)
    have hbl' : decide (i < j) = false := dfalse hij
    obtain rfl : i = j := by omega
    obtain ⟨s, hs⟩ : ∃ s, s = i - a := ⟨_, rfl⟩
    have hsl : s ≤ A.length := by have := hm.out; omega
    have hS : Srt (A.take s ++ y :: A.drop s) := by
      refine mv_srt hA ?_ ?_
      · intro p hp
        obtain ⟨u, h1, h2⟩ := mem_take_get hp
        have := hbs.out.yes (a + u) (by omega) (by omega)
        rw [hQ.out] at this
        obtain ⟨z, hz, az⟩ := this
        rw [hD.out, at_A (a := a) ha.out (by omega) (by omega), show a + u - a = u from by omega, h2] at hz
        cases hz
        exact az
      · intro p hp
        obtain ⟨u, h1, h2, h3⟩ := mem_drop_get hp
        have := hbs.out.no (a + u) (by omega) (by have := hm.out; omega)
        rw [hQ.out] at this
        refine leF_of (Decidable.byContradiction fun hc => this ⟨p, ?_, hc⟩)
        rw [hD.out, at_A (a := a) ha.out (by omega) (by omega), show a + u - a = u from by omega, h3]
    have hfin : Hid (mvD X A Z y s = X ++ (A.take s ++ y :: A.drop s) ++ Z) := Lib.hid (by unfold mvD; simp)
    have hpm := mv_perm A y s
    have hst : Hid (mvD X A Z y A.length = D) := Lib.hid (by rw [hD.out]; unfold mvD; simp)
    have his : i = a + s := by omega
    have hor : OwnF wr (slF g n c) D := OwnR.ext h hx
    have hmr : Mod (fun k => k = g) w wr := ext_mod (Mod.refl _ _) hx
    replace his := Lib.hid his
    replace hs := Lib.hid hs
    replace hsl := Lib.hid hsl
    replace hS := Lib.hid hS
    replace hpm := Lib.hid hpm
    clear h hx hbs k1 k2 hdn hQ hA
    generalize A.take s ++ y :: A.drop s = S at *
    go_wp2_with fail
    go_loopw [17] (fun kv wr => ∃ (k u : Nat), k = a + u ∧ s ≤ u ∧ u ≤ A.length ∧ kv = .int .i64 k ∧ OwnF wr (slF g n c) (mvD X A Z y u) ∧ Mod (fun k => k = g) w wr) (fun k _ => (intOf k).toNat)
    case atStart => exact ⟨m, A.length, hm.out, hsl.out, Nat.le_refl _, rfl, by rw [hst.out]; exact hor, hmr⟩
    case round =>
      clear hor hmr hst
      obtain ⟨J, u, hk, hus, hua, rfl, ho, hmw⟩ := hrel
      have hDk := Lib.hid (mv_len X A Z y (u := u) hua)
      replace hk := Lib.hid hk
      have hJm : J ≤ m := by have := hk.out; have := hm.out; omega
      by_cases hlt : i < J
      case neg =>
        have hbk : decide ((i : Int) < (J : Int)) = false := dfalse (by omega)
        have hbk' : decide (i < J) = false := dfalse hlt
        have hus' : u = s := by have := hk.out; have := his.out; omega
        rw [hus', hfin.out] at ho
        go_wp2_with fail
        ((try simp only [Exit.inBlock, Exit.then]); refine bodyPost_ret (results_none rfl _ _ _) rfl ?_)
        exact ⟨rfl, S, hpm.out, hS.out, ho, hmw⟩
      have hbk : decide ((i : Int) < (J : Int)) = true := dtrue (by omega)
      have hbk' : decide (i < J) = true := dtrue hlt
      obtain ⟨I, hI⟩ : ∃ I, I = J - 1 := ⟨_, rfl⟩
      obtain ⟨v, hv⟩ : ∃ v, v = u - 1 := ⟨_, rfl⟩
      have huv : u = v + 1 := by have := hk.out; have := his.out; omega
      have hsv : s ≤ v := by have := hk.out; have := his.out; omega
      have hIv : I = a + v := by have := hk.out; omega
      have hJI : J = I + 1 := by omega
      have hul : v < A.length := by omega
      have hsw := (mv_sw X A Z y hul).2
      rw [← ha.out, ← hIv, ← hJI, ← huv] at hsw
      have sw := Lib.hid hsw
      have hn := Lib.hid (show n = (mvD X A Z y u).length by rw [hDk.out]; have := hn'.out; have := hb.out; have := hm.out; have := ha.out; omega)
      have t1 : IntKind.i64.wrap ((J : Int) - 1) = (I : Int) := by rw [IntKind.wrap_i64]; omega
      have t1' : (J : Int) - 1 = (I : Int) := by omega
      have i0 : (0 : Int) ≤ (I : Int) := by omega
      have i1 : (I : Int) < (n : Int) := by omega
      have j0 : (0 : Int) ≤ (J : Int) := by omega
      have j1 : (J : Int) < (n : Int) := by omega
      have iI : IntKind.i64.wrap (I : Int) = (I : Int) := by rw [IntKind.wrap_i64]; omega
      have iJ : IntKind.i64.wrap (J : Int) = (J : Int) := by rw [IntKind.wrap_i64]; omega
      have hdec : I < J := by omega
      have hva : v ≤ A.length := by omega
      replace hDk := Lib.hid hDk
      replace hIv := Lib.hid hIv
      clear hsw hus hua hI hv huv hJI
      obtain ⟨M2, hM2⟩ : ∃ M2, M2 = mvD X A Z y v := ⟨_, rfl⟩
      rw [← hM2] at sw
      replace hM2 := Lib.hid hM2
      generalize A[v] = p at *
      generalize mvD X A Z y u = M at *
      obtain ⟨ci0, ci1, ci2, ci3, ci4⟩ := ho.cellsp sw.out.pI
      obtain ⟨cj0, cj1, cj2, cj3, cj4⟩ := ho.cellsp sw.out.qJ
      have fJ0 := ho.frozenAt (J * 5)
      have fJ1 := ho.frozenAt (J * 5 + 1)
      have fJ2 := ho.frozenAt (J * 5 + 2)
      have fJ3 := ho.frozenAt (J * 5 + 3)
      have fJ4 := ho.frozenAt (J * 5 + 4)
      go_wp2_with fail
      refine wp_region_held_drew (S := fun _ => True) (by kernel_rfl) trivial (fun hH => ?_)
      (refine wpAnyH_take (i := 0) (oi := ⟨_, _, _, _, _, _⟩) (v := ?tv23) rfl (by kernel_rfl) (by kernel_rfl) (by kernel_rfl) (fun _ _ _ h => h) (Or.inl ⟨by kernel_rfl, ?hy23⟩) hH ?rs23; (case hy23 => (intro wx hSw; (try dsimp only at hSw); go_simp; try with_reducible rfl)); try simp only [Act.put, List.setIfInBounds_toArray, List.set_cons_zero, List.set_cons_succ]; try simp only [List.getElem_toArray, List.getElem_cons_succ, List.getElem_cons_zero])
      (refine wpAnyH_take (i := 1) (oi := ⟨_, _, _, _, _, _⟩) (v := ?tv24) rfl (by kernel_rfl) (by kernel_rfl) (by kernel_rfl) (fun _ _ _ h => h) (Or.inl ⟨by kernel_rfl, ?hy24⟩) hH ?rs24; (case hy24 => (intro wx hSw; (try dsimp only at hSw); go_simp; try with_reducible rfl)); try simp only [Act.put, List.setIfInBounds_toArray, List.set_cons_zero, List.set_cons_succ]; try simp only [List.getElem_toArray, List.getElem_cons_succ, List.getElem_cons_zero])
      (refine wpAnyH_take (i := 2) (oi := ⟨_, _, _, _, _, _⟩) (v := ?tv25) rfl (by kernel_rfl) (by kernel_rfl) (by kernel_rfl) (fun _ _ _ h => h) (Or.inl ⟨by kernel_rfl, ?hy25⟩) hH ?rs25; (case hy25 => (intro wx hSw; (try dsimp only at hSw); go_simp; try with_reducible rfl)); try simp only [Act.put, List.setIfInBounds_toArray, List.set_cons_zero, List.set_cons_succ]; try simp only [List.getElem_toArray, List.getElem_cons_succ, List.getElem_cons_zero])
      (refine wpAnyH_take (i := 3) (oi := ⟨_, _, _, _, _, _⟩) (v := ?tv26) rfl (by kernel_rfl) (by kernel_rfl) (by kernel_rfl) (fun _ _ _ h => h) (Or.inl ⟨by kernel_rfl, ?hy26⟩) hH ?rs26; (case hy26 => (intro wx hSw; (try dsimp only at hSw); go_simp; try with_reducible rfl)); try simp only [Act.put, List.setIfInBounds_toArray, List.set_cons_zero, List.set_cons_succ]; try simp only [List.getElem_toArray, List.getElem_cons_succ, List.getElem_cons_zero])
      (refine wpAnyH_take (i := 4) (oi := ⟨_, _, _, _, _, _⟩) (v := ?tv27) rfl (by kernel_rfl) (by kernel_rfl) (by kernel_rfl) (fun _ _ _ h => h) (Or.inl ⟨by kernel_rfl, ?hy27⟩) hH ?rs27; (case hy27 => (intro wx hSw; (try dsimp only at hSw); go_simp; try with_reducible rfl)); try simp only [Act.put, List.setIfInBounds_toArray, List.set_cons_zero, List.set_cons_succ]; try simp only [List.getElem_toArray, List.getElem_cons_succ, List.getElem_cons_zero])
      (refine wpAnyH_take (i := 5) (oi := ⟨_, _, _, _, _, _⟩) (v := ?tv28) rfl (by kernel_rfl) (by kernel_rfl) (by kernel_rfl) (fun _ _ _ h => h) (Or.inl ⟨by kernel_rfl, ?hy28⟩) hH ?rs28; (case hy28 => (intro wx hSw; (try dsimp only at hSw); go_simp; try with_reducible rfl)); try simp only [Act.put, List.setIfInBounds_toArray, List.set_cons_zero, List.set_cons_succ]; try simp only [List.getElem_toArray, List.getElem_cons_succ, List.getElem_cons_zero])
      (refine wpAnyH_take (i := 6) (oi := ⟨_, _, _, _, _, _⟩) (v := ?tv29) rfl (by kernel_rfl) (by kernel_rfl) (by kernel_rfl) (fun _ _ _ h => h) (Or.inl ⟨by kernel_rfl, ?hy29⟩) hH ?rs29; (case hy29 => (intro wx hSw; (try dsimp only at hSw); go_simp; try with_reducible rfl)); try simp only [Act.put, List.setIfInBounds_toArray, List.set_cons_zero, List.set_cons_succ]; try simp only [List.getElem_toArray, List.getElem_cons_succ, List.getElem_cons_zero])
      (refine wpAnyH_take (i := 7) (oi := ⟨_, _, _, _, _, _⟩) (v := ?tv30) rfl (by kernel_rfl) (by kernel_rfl) (by kernel_rfl) (fun _ _ _ h => h) (Or.inl ⟨by kernel_rfl, ?hy30⟩) hH ?rs30; (case hy30 => (intro wx hSw; (try dsimp only at hSw); go_simp; try with_reducible rfl)); try simp only [Act.put, List.setIfInBounds_toArray, List.set_cons_zero, List.set_cons_succ]; try simp only [List.getElem_toArray, List.getElem_cons_succ, List.getElem_cons_zero])
      (refine wpAnyH_take (i := 8) (oi := ⟨_, _, _, _, _, _⟩) (v := ?tv31) rfl (by kernel_rfl) (by kernel_rfl) (by kernel_rfl) (fun _ _ _ h => h) (Or.inl ⟨by kernel_rfl, ?hy31⟩) hH ?rs31; (case hy31 => (intro wx hSw; (try dsimp only at hSw); go_simp; try with_reducible rfl)); try simp only [Act.put, List.setIfInBounds_toArray, List.set_cons_zero, List.set_cons_succ]; try simp only [List.getElem_toArray, List.getElem_cons_succ, List.getElem_cons_zero])
      (refine wpAnyH_take (i := 10) (oi := ⟨_, _, _, _, _, _⟩) (v := ?tv32) rfl (by kernel_rfl) (by kernel_rfl) (by kernel_rfl) (fun _ _ _ h => h) (Or.inl ⟨by kernel_rfl, ?hy32⟩) hH ?rs32; (case hy32 => (intro wx hSw; (try dsimp only at hSw); go_simp; try with_reducible rfl)); try simp only [Act.put, List.setIfInBounds_toArray, List.set_cons_zero, List.set_cons_succ]; try simp only [List.getElem_toArray, List.getElem_cons_succ, List.getElem_cons_zero])
      (refine wpAnyH_take (i := 11) (oi := ⟨_, _, _, _, _, _⟩) (v := ?tv33) rfl (by kernel_rfl) (by kernel_rfl) (by kernel_rfl) (fun _ _ _ h => h) (Or.inl ⟨by kernel_rfl, ?hy33⟩) hH ?rs33; (case hy33 => (intro wx hSw; (try dsimp only at hSw); go_simp; try with_reducible rfl)); try simp only [Act.put, List.setIfInBounds_toArray, List.set_cons_zero, List.set_cons_succ]; try simp only [List.getElem_toArray, List.getElem_cons_succ, List.getElem_cons_zero])
      (refine wpAnyH_take (i := 12) (oi := ⟨_, _, _, _, _, _⟩) (v := ?tv34) rfl (by kernel_rfl) (by kernel_rfl) (by kernel_rfl) (fun _ _ _ h => h) (Or.inl ⟨by kernel_rfl, ?hy34⟩) hH ?rs34; (case hy34 => (intro wx hSw; (try dsimp only at hSw); go_simp; try with_reducible rfl)); try simp only [Act.put, List.setIfInBounds_toArray, List.set_cons_zero, List.set_cons_succ]; try simp only [List.getElem_toArray, List.getElem_cons_succ, List.getElem_cons_zero])
      refine wpAnyH_ready (rs := [9, 13]) (by kernel_rfl) (by simp) ?_
      refine AllReadyH.cons rfl (fun K hK => ?_) (AllReadyH.cons rfl (fun K hK => ?_) AllReadyH.nil)
      case' refine_1 =>
        go_simp
        (go_wp2_with fail; refine hK.out _ _ (trivial) (fun hH => ?_); clear hK K; try simp only [Act.put, List.setIfInBounds_toArray, List.set_cons_zero, List.set_cons_succ]; try simp only [List.getElem_toArray, List.getElem_cons_succ, List.getElem_cons_zero])
        refine wpAnyH_ready (rs := [13]) (by kernel_rfl) (by simp) ?_
        refine AllReadyH.cons rfl (fun K hK => ?_) AllReadyH.nil
        go_simp
        (go_wp2_with fail; refine hK.out _ _ (trivial) (fun hH => ?_); clear hK K; try simp only [Act.put, List.setIfInBounds_toArray, List.set_cons_zero, List.set_cons_succ]; try simp only [List.getElem_toArray, List.getElem_cons_succ, List.getElem_cons_zero])
        (refine wpAnyH_take (i := 14) (oi := ⟨_, _, _, _, _, _⟩) (v := ?tv35) rfl (by kernel_rfl) (by kernel_rfl) (by kernel_rfl) (fun _ _ _ h => h) (Or.inl ⟨by kernel_rfl, ?hy35⟩) hH ?rs35; (case hy35 => (intro wx hSw; (try dsimp only at hSw); go_simp; try with_reducible rfl)); try simp only [Act.put, List.setIfInBounds_toArray, List.set_cons_zero, List.set_cons_succ]; try simp only [List.getElem_toArray, List.getElem_cons_succ, List.getElem_cons_zero])
        refine wpAnyH_ready (rs := [15]) (by kernel_rfl) (by simp) ?_
        refine AllReadyH.cons rfl (fun K hK => ?_) AllReadyH.nil
        go_simp
        (go_wp2_with fail; refine hK.out _ _ (trivial) (fun hH => ?_); clear hK K; try simp only [Act.put, List.setIfInBounds_toArray, List.set_cons_zero, List.set_cons_succ]; try simp only [List.getElem_toArray, List.getElem_cons_succ, List.getElem_cons_zero])
        have k1 := OwnF.set ho hn.out J p
        have m1 := set5_mod wr g J p
        obtain ⟨wB, hwB⟩ : ∃ w', w' = (((((wr.setCell ⟨g, J * 5, none⟩ (.int .i64 p.id)).setCell ⟨g, J * 5 + 1, none⟩ (.int .i64 p.lev)).setCell ⟨g, J * 5 + 2, none⟩ (.int .i64 p.size)).setCell ⟨g, J * 5 + 3, none⟩ (sv p.first)).setCell ⟨g, J * 5 + 4, none⟩ (sv p.last)) := ⟨_, rfl⟩
        rw [← hwB] at k1 m1 ⊢
        clear hwB ci0 ci1 ci2 ci3 ci4 cj0 cj1 cj2 cj3 cj4 fJ0 fJ1 fJ2 fJ3 fJ4
        obtain ⟨cj0, cj1, cj2, cj3, cj4⟩ := k1.cells (i := I) (by rw [List.length_set]; exact sw.out.hI)
        generalize (M.set J p)[I]'(by rw [List.length_set]; exact sw.out.hI) = zj at *
        have fI0 := k1.frozenAt (I * 5)
        have fI1 := k1.frozenAt (I * 5 + 1)
        have fI2 := k1.frozenAt (I * 5 + 2)
        have fI3 := k1.frozenAt (I * 5 + 3)
        have fI4 := k1.frozenAt (I * 5 + 4)
        (refine wpAnyH_take (i := 16) (oi := ⟨_, _, _, _, _, _⟩) (v := ?tv36) rfl (by kernel_rfl) (by kernel_rfl) (by kernel_rfl) (fun _ _ _ h => h) (Or.inl ⟨by kernel_rfl, ?hy36⟩) hH ?rs36; (case hy36 => (intro wx hSw; (try dsimp only at hSw); go_simp; try with_reducible rfl)); try simp only [Act.put, List.setIfInBounds_toArray, List.set_cons_zero, List.set_cons_succ]; try simp only [List.getElem_toArray, List.getElem_cons_succ, List.getElem_cons_zero])
        refine wpAnyH_ready (rs := [17]) (by kernel_rfl) (by simp) ?_
        refine AllReadyH.cons rfl (fun K hK => ?_) AllReadyH.nil
        go_simp
        (go_wp2_with fail; refine hK.out _ _ (trivial) (fun hH => ?_); clear hK K; try simp only [Act.put, List.setIfInBounds_toArray, List.set_cons_zero, List.set_cons_succ]; try simp only [List.getElem_toArray, List.getElem_cons_succ, List.getElem_cons_zero])
        refine wpAnyH_done (by kernel_rfl) ?_ _
      case' refine_2 =>
        go_simp
        (go_wp2_with fail; refine hK.out _ _ (trivial) (fun hH => ?_); clear hK K; try simp only [Act.put, List.setIfInBounds_toArray, List.set_cons_zero, List.set_cons_succ]; try simp only [List.getElem_toArray, List.getElem_cons_succ, List.getElem_cons_zero])
        refine wpAnyH_ready (rs := [9]) (by kernel_rfl) (by simp) ?_
        refine AllReadyH.cons rfl (fun K hK => ?_) AllReadyH.nil
        go_simp
        (go_wp2_with fail; refine hK.out _ _ (trivial) (fun hH => ?_); clear hK K; try simp only [Act.put, List.setIfInBounds_toArray, List.set_cons_zero, List.set_cons_succ]; try simp only [List.getElem_toArray, List.getElem_cons_succ, List.getElem_cons_zero])
        (refine wpAnyH_take (i := 14) (oi := ⟨_, _, _, _, _, _⟩) (v := ?tv37) rfl (by kernel_rfl) (by kernel_rfl) (by kernel_rfl) (fun _ _ _ h => h) (Or.inl ⟨by kernel_rfl, ?hy37⟩) hH ?rs37; (case hy37 => (intro wx hSw; (try dsimp only at hSw); go_simp; try with_reducible rfl)); try simp only [Act.put, List.setIfInBounds_toArray, List.set_cons_zero, List.set_cons_succ]; try simp only [List.getElem_toArray, List.getElem_cons_succ, List.getElem_cons_zero])
        refine wpAnyH_ready (rs := [15]) (by kernel_rfl) (by simp) ?_
        refine AllReadyH.cons rfl (fun K hK => ?_) AllReadyH.nil
        go_simp
        (go_wp2_with fail; refine hK.out _ _ (trivial) (fun hH => ?_); clear hK K; try simp only [Act.put, List.setIfInBounds_toArray, List.set_cons_zero, List.set_cons_succ]; try simp only [List.getElem_toArray, List.getElem_cons_succ, List.getElem_cons_zero])
        have k1 := OwnF.set ho hn.out J p
        have m1 := set5_mod wr g J p
        obtain ⟨wB, hwB⟩ : ∃ w', w' = (((((wr.setCell ⟨g, J * 5, none⟩ (.int .i64 p.id)).setCell ⟨g, J * 5 + 1, none⟩ (.int .i64 p.lev)).setCell ⟨g, J * 5 + 2, none⟩ (.int .i64 p.size)).setCell ⟨g, J * 5 + 3, none⟩ (sv p.first)).setCell ⟨g, J * 5 + 4, none⟩ (sv p.last)) := ⟨_, rfl⟩
        rw [← hwB] at k1 m1 ⊢
        clear hwB ci0 ci1 ci2 ci3 ci4 cj0 cj1 cj2 cj3 cj4 fJ0 fJ1 fJ2 fJ3 fJ4
        obtain ⟨cj0, cj1, cj2, cj3, cj4⟩ := k1.cells (i := I) (by rw [List.length_set]; exact sw.out.hI)
        generalize (M.set J p)[I]'(by rw [List.length_set]; exact sw.out.hI) = zj at *
        have fI0 := k1.frozenAt (I * 5)
        have fI1 := k1.frozenAt (I * 5 + 1)
        have fI2 := k1.frozenAt (I * 5 + 2)
        have fI3 := k1.frozenAt (I * 5 + 3)
        have fI4 := k1.frozenAt (I * 5 + 4)
        (refine wpAnyH_take (i := 16) (oi := ⟨_, _, _, _, _, _⟩) (v := ?tv38) rfl (by kernel_rfl) (by kernel_rfl) (by kernel_rfl) (fun _ _ _ h => h) (Or.inl ⟨by kernel_rfl, ?hy38⟩) hH ?rs38; (case hy38 => (intro wx hSw; (try dsimp only at hSw); go_simp; try with_reducible rfl)); try simp only [Act.put, List.setIfInBounds_toArray, List.set_cons_zero, List.set_cons_succ]; try simp only [List.getElem_toArray, List.getElem_cons_succ, List.getElem_cons_zero])
        refine wpAnyH_ready (rs := [17]) (by kernel_rfl) (by simp) ?_
        refine AllReadyH.cons rfl (fun K hK => ?_) AllReadyH.nil
        go_simp
        (go_wp2_with fail; refine hK.out _ _ (trivial) (fun hH => ?_); clear hK K; try simp only [Act.put, List.setIfInBounds_toArray, List.set_cons_zero, List.set_cons_succ]; try simp only [List.getElem_toArray, List.getElem_cons_succ, List.getElem_cons_zero])
        refine wpAnyH_done (by kernel_rfl) ?_ _
      all_goals
        have k2 := OwnF.set k1 (by rw [List.length_set]; exact hn.out) I y
        rw [sw.out.e2] at k2
        have m2 := (Mod.then_ m1 (set5_mod wB g I y) (fun _ _ h => h)).drew
        clear cj0 cj1 cj2 cj3 cj4 k1 m1 fI0 fI1 fI2 fI3 fI4
        go_wp2_with fail
        exact ⟨⟨I, v, hIv.out, hsv, hva, by go_num, by rw [← hM2.out]; exact k2, hmw.then_ m2 (fun _ _ h => h)⟩, by simp [intOf] <;> omega⟩
end Go.Proofs.Ytmjkgibeljbloaa
