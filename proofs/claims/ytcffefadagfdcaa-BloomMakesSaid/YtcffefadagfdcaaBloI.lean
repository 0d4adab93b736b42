/- bloom: of any keys the bits, and any text's number: the statement's own walk. -/
import Derived.Test.YtcffefadagfdcaaBloH
namespace Go.Proofs.Ytcffefadagfdcaa
open Go.RowKit
set_option maxRecDepth 100000

set_option maxHeartbeats 4000000 in
theorem law_makes {w : World} {y : Value} {L : List (List UInt8)} (hy : Ss w (fun _ => True) y L) (hz : ∀ l ∈ L, l.length ≤ 140737488351232) (l : List UInt8) (hlz : l.length ≤ 140737488351232) :
    Calls Try.prog 3 #[y, sv l] w fun e w' => e = .returned (.bool true) ∧ Ext w w' := by
  have hy0 := hy
  obtain ⟨A, c, rfl, h1, h2, h3, h4⟩ := hy.open_
  have hsz := sv_size l
  go_enter Try.func3, Try.ntmps3
  go_wp2_with fail
  refine (heavy_any hy0 hz).mono ?_
  rintro e w1 ⟨rfl | ⟨rfl, hws⟩, rfl⟩
  · go_wp2_with fail
    go_ret
    exact ⟨rfl, Mod.refl _ _⟩
  obtain ⟨hL, hls⟩ := wsum_small hws
  clear hz hws
  by_cases hbig : 1000 < l.length
  · go_wp2_with fail
    go_ret
    exact ⟨rfl, Mod.refl _ _⟩
  have hyd : Ss w1.drew (fun _ => True) (.slice A L.length c) L := hy0.drewN 1
  have hx2 : Ext w1 w1.drew := Mod.drew (Mod.refl _ _)
  clear h3 h4 hy hy0
  go_upto_region 3 with fail
  go_cut [4] (fun s wx => s = .bool true ∧ Ext w1 wx)
  case first =>
    refine wp_region_held_drew (S := fun _ => True) (by kernel_rfl) trivial (fun hH => ?_)
    clear hH
    have hT : (fun _ : World => True) w1.drew := trivial
    (refine wpAnyH_take (i := 0) (oi := ⟨_, _, _, _, _, _⟩) (v := ?tv1) rfl (by kernel_rfl) (by kernel_rfl) (by kernel_rfl) (fun _ _ _ h => h) (Or.inl ⟨by rfl, ?hy1⟩) (by assumption) ?rs1; case hy1 => (intro wx hSw; (try dsimp only at hSw); go_simp; try with_reducible rfl); try simp only [Act.put, List.setIfInBounds_toArray, List.set_cons_zero, List.set_cons_succ])
    (refine wpAnyH_take (i := 3) (oi := ⟨_, _, _, _, _, _⟩) (v := ?tv2) rfl (by kernel_rfl) (by kernel_rfl) (by kernel_rfl) (fun _ _ _ h => h) (Or.inl ⟨by rfl, ?hy2⟩) (by assumption) ?rs2; case hy2 => (intro wx hSw; (try dsimp only at hSw); go_simp; try with_reducible rfl); try simp only [Act.put, List.setIfInBounds_toArray, List.set_cons_zero, List.set_cons_succ])
    (refine wpAnyH_ready (rs := [1]) (by kernel_rfl) (by simp) ?_; refine AllReadyH.cons rfl (fun K hK => ?_) AllReadyH.nil; go_simp)
    refine (make_any hyd hL hls).mono ?_
    rintro e wa ⟨va, rfl, pa1, pa2, pa3⟩
    (go_wp2_with fail; refine hK.out _ _ (trivial) (fun hH => ?_); clear hK K hH; try simp only [Act.put, List.setIfInBounds_toArray, List.set_cons_zero, List.set_cons_succ])
    have ka := run_conv (P := Try.prog) Try.underlying24 Try.underlying5 Try.underlying9 pa1.sl
    generalize hba : mk (bn L.length) L = ba at *
    refine wpAnyH_mono (S' := fun wz => (convert 24 9 va).run Try.prog wz = .ok (sv ba) wz) (fun _ _ => trivial) _ _ _ _ ?_
    (refine wpAnyH_take (i := 2) (oi := ⟨_, _, _, _, _, _⟩) (v := ?tv3) rfl (by kernel_rfl) (by kernel_rfl) (by kernel_rfl) (fun _ _ _ h => h) (Or.inl ⟨by rfl, ?hy3⟩) (by assumption) ?rs3; case hy3 => (intro wx hSw; (try dsimp only at hSw); go_simp; try with_reducible rfl); try simp only [Act.put, List.setIfInBounds_toArray, List.set_cons_zero, List.set_cons_succ])
    (refine wpAnyH_ready (rs := [4]) (by kernel_rfl) (by simp) ?_; refine AllReadyH.cons rfl (fun K hK => ?_) AllReadyH.nil; go_simp)
    refine (rmake_any (hyd.ext pa3) hL hls).mono ?_
    rintro e wb ⟨vb, rfl, pb1, pb2, pb3⟩
    rw [hba] at pb1
    have ka2 := run_conv (P := Try.prog) Try.underlying24 Try.underlying5 Try.underlying9 (pa1.sl.ext pb3)
    (go_wp2_with fail; refine hK.out _ _ (ka2) (fun hH => ?_); clear hK K hH; try simp only [Act.put, List.setIfInBounds_toArray, List.set_cons_zero, List.set_cons_succ])
    have kb := run_conv (P := Try.prog) Try.underlying24 Try.underlying5 Try.underlying9 pb1.sl
    have kab := And.intro ka2 kb
    refine wpAnyH_mono (S' := fun wz => (convert 24 9 va).run Try.prog wz = .ok (sv ba) wz ∧ (convert 24 9 vb).run Try.prog wz = .ok (sv ba) wz) (fun _ h => h.1) _ _ _ _ ?_
    (refine wpAnyH_take (i := 5) (oi := ⟨_, _, _, _, _, _⟩) (v := ?tv4) rfl (by kernel_rfl) (by kernel_rfl) (by kernel_rfl) (fun _ _ _ h => h) (Or.inl ⟨by rfl, ?hy4⟩) (by assumption) ?rs4; case hy4 => (intro wx hSw; (try dsimp only at hSw); go_simp; try with_reducible rfl); try simp only [Act.put, List.setIfInBounds_toArray, List.set_cons_zero, List.set_cons_succ])
    (refine wpAnyH_take (i := 6) (oi := ⟨_, _, _, _, _, _⟩) (v := ?tv5) rfl (by kernel_rfl) (by kernel_rfl) (by kernel_rfl) (fun _ _ _ h => h) (Or.inl ⟨by rfl, ?hy5⟩) (by assumption) ?rs5; case hy5 => (intro wx hSw; (try dsimp only at hSw); go_simp; try with_reducible rfl); try simp only [Act.put, List.setIfInBounds_toArray, List.set_cons_zero, List.set_cons_succ])
    (refine wpAnyH_take (i := 7) (oi := ⟨_, _, _, _, _, _⟩) (v := ?tv6) rfl (by kernel_rfl) (by kernel_rfl) (by kernel_rfl) (fun _ _ _ h => h) (Or.inl ⟨by rfl, ?hy6⟩) (by assumption) ?rs6; case hy6 => (intro wx hSw; (try dsimp only at hSw); go_simp; try with_reducible rfl); try simp only [Act.put, List.setIfInBounds_toArray, List.set_cons_zero, List.set_cons_succ])
    (refine wpAnyH_take (i := 8) (oi := ⟨_, _, _, _, _, _⟩) (v := ?tv7) rfl (by kernel_rfl) (by kernel_rfl) (by kernel_rfl) (fun _ _ _ h => h) (Or.inl ⟨by rfl, ?hy7⟩) (by assumption) ?rs7; case hy7 => (intro wx hSw; (try dsimp only at hSw); go_simp; try with_reducible rfl); try simp only [Act.put, List.setIfInBounds_toArray, List.set_cons_zero, List.set_cons_succ])
    (refine wpAnyH_take (i := 10) (oi := ⟨_, _, _, _, _, _⟩) (v := ?tv8) rfl (by kernel_rfl) (by kernel_rfl) (by kernel_rfl) (fun _ _ _ h => h) (Or.inl ⟨by rfl, ?hy8⟩) (by assumption) ?rs8; case hy8 => (intro wx hSw; (try dsimp only at hSw); go_simp; try with_reducible rfl); try simp only [Act.put, List.setIfInBounds_toArray, List.set_cons_zero, List.set_cons_succ])
    (refine wpAnyH_ready (rs := [9]) (by kernel_rfl) (by simp) ?_; refine AllReadyH.cons rfl (fun K hK => ?_) AllReadyH.nil; go_simp)
    refine (hash_any l (by omega)).mono ?_
    rintro e wd ⟨rfl, rfl⟩
    (go_wp2_with fail; refine hK.out _ _ (kab) (fun hH => ?_); clear hK K hH; try simp only [Act.put, List.setIfInBounds_toArray, List.set_cons_zero, List.set_cons_succ])
    (refine wpAnyH_ready (rs := [11]) (by kernel_rfl) (by simp) ?_; refine AllReadyH.cons rfl (fun K hK => ?_) AllReadyH.nil; go_simp)
    refine (rhash_any l (by omega)).mono ?_
    rintro e wd ⟨rfl, rfl⟩
    (go_wp2_with fail; refine hK.out _ _ (kab) (fun hH => ?_); clear hK K hH; try simp only [Act.put, List.setIfInBounds_toArray, List.set_cons_zero, List.set_cons_succ])
    generalize fnv l = f at *
    (refine wpAnyH_take (i := 12) (oi := ⟨_, _, _, _, _, _⟩) (v := ?tv9) rfl (by kernel_rfl) (by kernel_rfl) (by kernel_rfl) (fun _ _ _ h => h) (Or.inl ⟨by rfl, ?hy9⟩) (by assumption) ?rs9; case hy9 => (intro wx hSw; (try dsimp only at hSw); go_simp; try with_reducible rfl); try simp only [Act.put, List.setIfInBounds_toArray, List.set_cons_zero, List.set_cons_succ])
    (refine wpAnyH_take (i := 13) (oi := ⟨_, _, _, _, _, _⟩) (v := ?tv10) rfl (by kernel_rfl) (by kernel_rfl) (by kernel_rfl) (fun _ _ _ h => h) (Or.inl ⟨by rfl, ?hy10⟩) (by assumption) ?rs10; case hy10 => (intro wx hSw; (try dsimp only at hSw); go_simp; try with_reducible rfl); try simp only [Act.put, List.setIfInBounds_toArray, List.set_cons_zero, List.set_cons_succ])
    (refine wpAnyH_take (i := 14) (oi := ⟨_, _, _, _, _, _⟩) (v := ?tv11) rfl (by kernel_rfl) (by kernel_rfl) (by kernel_rfl) (fun _ _ _ h => h) (Or.inl ⟨by rfl, ?hy11⟩) (by assumption) ?rs11; case hy11 => (intro wx hSw; (try dsimp only at hSw); go_simp; try with_reducible rfl); try simp only [Act.put, List.setIfInBounds_toArray, List.set_cons_zero, List.set_cons_succ])
    (refine wpAnyH_ready (rs := [15]) (by kernel_rfl) (by simp) ?_; refine AllReadyH.cons rfl (fun K hK => ?_) AllReadyH.nil; go_simp)
    refine known6_any.mono ?_
    rintro e wc ⟨rfl, hxc⟩
    have kc1 := run_conv (P := Try.prog) Try.underlying24 Try.underlying5 Try.underlying9 (pa1.sl.ext (ext_trans pb3 hxc))
    have kc2 := run_conv (P := Try.prog) Try.underlying24 Try.underlying5 Try.underlying9 (pb1.sl.ext hxc)
    have kc := And.intro kc1 kc2
    (go_wp2_with fail; refine hK.out _ _ (kc) (fun hH => ?_); clear hK K hH; try simp only [Act.put, List.setIfInBounds_toArray, List.set_cons_zero, List.set_cons_succ])
    (refine wpAnyH_take (i := 16) (oi := ⟨_, _, _, _, _, _⟩) (v := ?tv12) rfl (by kernel_rfl) (by kernel_rfl) (by kernel_rfl) (fun _ _ _ h => h) (Or.inl ⟨by rfl, ?hy12⟩) (by assumption) ?rs12; case hy12 => (intro wx hSw; (try dsimp only at hSw); go_simp; try with_reducible rfl); try simp only [Act.put, List.setIfInBounds_toArray, List.set_cons_zero, List.set_cons_succ])
    (refine wpAnyH_take (i := 17) (oi := ⟨_, _, _, _, _, _⟩) (v := ?tv13) rfl (by kernel_rfl) (by kernel_rfl) (by kernel_rfl) (fun _ _ _ h => h) (Or.inl ⟨by rfl, ?hy13⟩) (by assumption) ?rs13; case hy13 => (intro wx hSw; (try dsimp only at hSw); go_simp; try with_reducible rfl); try simp only [Act.put, List.setIfInBounds_toArray, List.set_cons_zero, List.set_cons_succ])
    refine wpAnyH_done (by kernel_rfl) ?_ _
    go_wp2_with fail
    go_meet
    exact ⟨rfl, ext_trans hx2 (ext_trans pa3 (ext_trans pb3 hxc))⟩
  case rest =>
    obtain ⟨rfl, hxe⟩ := hcut
    go_wp2_with fail
    go_ret
    exact ⟨rfl, hxe⟩
end Go.Proofs.Ytcffefadagfdcaa
