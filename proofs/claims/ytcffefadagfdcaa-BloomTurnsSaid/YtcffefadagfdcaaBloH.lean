/- bloom: in what order keys come does not matter: the statement's own walk. -/
import Derived.Test.YtcffefadagfdcaaBloG
import Derived.Test.YtcffefadagfdcaaRegA
import Derived.Deep.DeepCutAuto
import Derived.Deep.RegionHeld3
import Derived.BigQuiet
import Derived.Deep.QuietTactic
namespace Go.Proofs.Ytcffefadagfdcaa
open Go.RowKit
set_option maxRecDepth 100000

theorem tyS : SliceTy Try.prog 22 9 (.string ⟨#[]⟩) 16 := ⟨Try.underlying22, by kernel_rfl, rfl, by omega⟩

set_option maxHeartbeats 4000000 in
theorem law_turns {w : World} {y : Value} {L : List (List UInt8)} (hy : Ss w (fun _ => True) y L) (hz : ∀ l ∈ L, l.length ≤ 140737488351232) :
    Calls Try.prog 6 #[y] w fun e w' => e = .returned (.bool true) ∧ Ext w w' := by
  have hy0 := hy
  obtain ⟨A, c, rfl, h1, h2, h3, h4⟩ := hy.open_
  go_enter Try.func6, Try.ntmps6
  go_wp2_with fail
  refine (heavy_any hy0 hz).mono ?_
  rintro e w1 ⟨rfl | ⟨rfl, hws⟩, rfl⟩
  · go_wp2_with fail
    go_ret
    exact ⟨rfl, Mod.refl _ _⟩
  obtain ⟨hL, hls⟩ := wsum_small hws
  clear hz hws
  go_wp2_with fail
  go_loopw [3, 4] (fun v i wr => ∃ j : Nat, j ≤ L.length ∧ i = .int .i64 ((j : Int) - 1) ∧ Own wr 9 v ((L.drop j).reverse.map sv) ∧ Fresh w1.heap.size v ∧ Ext w1 wr) (fun _ i _ => ((intOf i) + 1).toNat)
  case atStart => exact ⟨L.length, Nat.le_refl _, rfl, by rw [List.drop_length]; exact Own.nil _ _, fresh_nil _ _ _, Mod.refl _ _⟩
  case round =>
    obtain ⟨j, hj, rfl, hown, hf, hx⟩ := hrel
    rcases j with _ | j
    · rw [show (((0 : Nat) : Int) - 1) = -1 from rfl]
      rw [List.drop_zero] at hown
      have hback : Ss wr (own u3) u3 L.reverse := hown.sl
      obtain ⟨A2, c2, rfl⟩ := hown.shape
      rw [List.length_map, List.length_reverse] at hback ⊢
      have hL2 : L.reverse.length ≤ 4000 := by rw [List.length_reverse]; exact hL
      have hls2 : ∀ l ∈ L.reverse, l.length ≤ 4000 := fun l hl => hls l (List.mem_reverse.1 hl)
      have hyd : Ss wr.drew (fun _ => True) (.slice A L.length c) L := (hy0.ext hx).drewN 1
      have hbd := hback.drewN 1
      have hx2 := Mod.drew hx
      have hmr : mk (bn L.reverse.length) L.reverse = mk (bn L.length) L := by rw [List.length_reverse]; exact mk_rev _ _
      clear hown hf hback hy hy0 h4 h3
      go_upto_region 8 with fail
      go_cut [2] (fun s wx => s = .bool true ∧ Ext w1 wx)
      case first =>
        refine wp_region_held_drew (S := fun _ => True) (by kernel_rfl) trivial (fun hH => ?_)
        clear hH
        have hT : (fun _ : World => True) wr.drew := trivial
        (refine wpAnyH_take (i := 0) (oi := ⟨_, _, _, _, _, _⟩) (v := ?tv1) rfl (by kernel_rfl) (by kernel_rfl) (by kernel_rfl) (fun _ _ _ h => h) (Or.inl ⟨by rfl, ?hy1⟩) (by assumption) ?rs1; case hy1 => (intro wx hSw; (try dsimp only at hSw); go_simp; try with_reducible rfl); try simp only [Act.put, List.setIfInBounds_toArray, List.set_cons_zero, List.set_cons_succ])
        (refine wpAnyH_take (i := 3) (oi := ⟨_, _, _, _, _, _⟩) (v := ?tv2) rfl (by kernel_rfl) (by kernel_rfl) (by kernel_rfl) (fun _ _ _ h => h) (Or.inl ⟨by rfl, ?hy2⟩) (by assumption) ?rs2; case hy2 => (intro wx hSw; (try dsimp only at hSw); go_simp; try with_reducible rfl); try simp only [Act.put, List.setIfInBounds_toArray, List.set_cons_zero, List.set_cons_succ])
        (refine wpAnyH_ready (rs := [1]) (by kernel_rfl) (by simp) ?_; refine AllReadyH.cons rfl (fun K hK => ?_) AllReadyH.nil; go_simp)
        refine (make_any hyd hL hls).mono ?_
        rintro e wa ⟨va, rfl, pa1, pa2, pa3⟩
        (go_wp2_with fail; refine hK.out _ _ (trivial) (fun hH => ?_); clear hK K hH; try simp only [Act.put, List.setIfInBounds_toArray, List.set_cons_zero, List.set_cons_succ])
        have ka := run_conv (P := Try.prog) Try.underlying24 Try.underlying5 Try.underlying9 pa1.sl
        generalize hba : mk (bn L.length) L = ba at *
        refine wpAnyH_mono (S' := fun wz => (convert 24 9 va).run Try.prog wz = .ok (sv ba) wz) (fun _ _ => trivial) _ _ _ _ ?_
        (refine wpAnyH_take (i := 2) (oi := ⟨_, _, _, _, _, _⟩) (v := ?tv3) rfl (by kernel_rfl) (by kernel_rfl) (by kernel_rfl) (fun _ _ _ h => h) (Or.inl ⟨by rfl, ?hy3⟩) (by assumption) ?rs3; case hy3 => (intro wx hSw; (try dsimp only at hSw); go_simp; try with_reducible rfl); try simp only [Act.put, List.setIfInBounds_toArray, List.set_cons_zero, List.set_cons_succ])
        (refine wpAnyH_ready (rs := [4]) (by kernel_rfl) (by simp) ?_; refine AllReadyH.cons rfl (fun K hK => ?_) AllReadyH.nil; go_simp)
        refine (make_any (hbd.ext pa3) hL2 hls2).mono ?_
        rintro e wb ⟨vb, rfl, pb1, pb2, pb3⟩
        rw [hmr] at pb1
        have ka2 := run_conv (P := Try.prog) Try.underlying24 Try.underlying5 Try.underlying9 (pa1.sl.ext pb3)
        (go_wp2_with fail; refine hK.out _ _ (ka2) (fun hH => ?_); clear hK K hH; try simp only [Act.put, List.setIfInBounds_toArray, List.set_cons_zero, List.set_cons_succ])
        have kb := run_conv (P := Try.prog) Try.underlying24 Try.underlying5 Try.underlying9 pb1.sl
        have kab := And.intro ka2 kb
        refine wpAnyH_mono (S' := fun wz => (convert 24 9 va).run Try.prog wz = .ok (sv ba) wz ∧ (convert 24 9 vb).run Try.prog wz = .ok (sv ba) wz) (fun _ h => h.1) _ _ _ _ ?_
        (refine wpAnyH_take (i := 5) (oi := ⟨_, _, _, _, _, _⟩) (v := ?tv4) rfl (by kernel_rfl) (by kernel_rfl) (by kernel_rfl) (fun _ _ _ h => h) (Or.inl ⟨by rfl, ?hy4⟩) (by assumption) ?rs4; case hy4 => (intro wx hSw; (try dsimp only at hSw); go_simp; try with_reducible rfl); try simp only [Act.put, List.setIfInBounds_toArray, List.set_cons_zero, List.set_cons_succ])
        (refine wpAnyH_take (i := 6) (oi := ⟨_, _, _, _, _, _⟩) (v := ?tv5) rfl (by kernel_rfl) (by kernel_rfl) (by kernel_rfl) (fun _ _ _ h => h) (Or.inl ⟨by rfl, ?hy5⟩) (by assumption) ?rs5; case hy5 => (intro wx hSw; (try dsimp only at hSw); go_simp; try with_reducible rfl); try simp only [Act.put, List.setIfInBounds_toArray, List.set_cons_zero, List.set_cons_succ])
        (refine wpAnyH_take (i := 7) (oi := ⟨_, _, _, _, _, _⟩) (v := ?tv6) rfl (by kernel_rfl) (by kernel_rfl) (by kernel_rfl) (fun _ _ _ h => h) (Or.inl ⟨by rfl, ?hy6⟩) (by assumption) ?rs6; case hy6 => (intro wx hSw; (try dsimp only at hSw); go_simp; try with_reducible rfl); try simp only [Act.put, List.setIfInBounds_toArray, List.set_cons_zero, List.set_cons_succ])
        (refine wpAnyH_ready (rs := [8]) (by kernel_rfl) (by simp) ?_; refine AllReadyH.cons rfl (fun K hK => ?_) AllReadyH.nil; go_simp)
        refine known6_any.mono ?_
        rintro e wc ⟨rfl, hxc⟩
        have kc1 := run_conv (P := Try.prog) Try.underlying24 Try.underlying5 Try.underlying9 (pa1.sl.ext (ext_trans pb3 hxc))
        have kc2 := run_conv (P := Try.prog) Try.underlying24 Try.underlying5 Try.underlying9 (pb1.sl.ext hxc)
        have kc := And.intro kc1 kc2
        (go_wp2_with fail; refine hK.out _ _ (kc) (fun hH => ?_); clear hK K hH; try simp only [Act.put, List.setIfInBounds_toArray, List.set_cons_zero, List.set_cons_succ])
        (refine wpAnyH_take (i := 9) (oi := ⟨_, _, _, _, _, _⟩) (v := ?tv7) rfl (by kernel_rfl) (by kernel_rfl) (by kernel_rfl) (fun _ _ _ h => h) (Or.inl ⟨by rfl, ?hy7⟩) (by assumption) ?rs7; case hy7 => (intro wx hSw; (try dsimp only at hSw); go_simp; try with_reducible rfl); try simp only [Act.put, List.setIfInBounds_toArray, List.set_cons_zero, List.set_cons_succ])
        (refine wpAnyH_take (i := 10) (oi := ⟨_, _, _, _, _, _⟩) (v := ?tv8) rfl (by kernel_rfl) (by kernel_rfl) (by kernel_rfl) (fun _ _ _ h => h) (Or.inl ⟨by rfl, ?hy8⟩) (by assumption) ?rs8; case hy8 => (intro wx hSw; (try dsimp only at hSw); go_simp; try with_reducible rfl); try simp only [Act.put, List.setIfInBounds_toArray, List.set_cons_zero, List.set_cons_succ])
        refine wpAnyH_done (by kernel_rfl) ?_ _
        go_wp2_with fail
        go_meet
        exact ⟨rfl, ext_trans hx2 (ext_trans pa3 (ext_trans pb3 hxc))⟩
      case rest =>
        obtain ⟨rfl, hxe⟩ := hcut
        go_wp2_with fail
        go_ret
        exact ⟨rfl, hxe⟩
    · rw [show (((j + 1 : Nat) : Int) - 1) = (j : Int) by omega]
      obtain ⟨ad, rfl, hS, hc⟩ := h4.at_ (k := j) (by omega)
      replace hc := (hx.cell (lt_of_cell hc) (fun h => h)).trans hc
      have hdr : (L.drop j).reverse = (L.drop (j + 1)).reverse ++ [L[j]] := by
        rw [List.drop_eq_getElem_cons (by omega), List.reverse_cons]
      have hdl : (L.drop (j + 1)).reverse.length ≤ 4000 := by simp; omega
      generalize L[j] = l at *
      replace hdr := Lib.hid hdr
      have hn1 : (((L.drop (j + 1)).reverse.map sv).length + ([sv l] : List Value).length) * 16 ≤ 140737488355328 := by rw [List.length_map]; simp at hdl ⊢; omega
      replace hn1 := Lib.hid hn1
      have hsl := Sl.one wr 9 (sv l)
      have ho := one_ok (sv l) rfl
      have hown1 := hown.alloc (.cells #[sv l] 9)
      have hji : (0 : Int) ≤ (j : Int) := by omega
      have hjl : (j : Int) < (L.length : Int) := by omega
      go_wp2_with ((with_reducible show wpList _ _ _ (⟨some 20, _, _, _, _, _⟩ :: _) _ _); refine wp_app tyS hown1 hsl ho rfl (.tmp 14) (.tmp 19) rfl rfl rfl hn1.out ?_; intro v2 w2 k1 k2 k3)
      exact ⟨⟨j, by omega, by go_num, by rw [hdr.out, List.map_append]; exact k1, (k3.sooner (by simp)).fresh hf hx.size, ext_app hx hf k2⟩, by simp [intOf] <;> omega⟩
end Go.Proofs.Ytcffefadagfdcaa
