/- disk: the document's remove. -/
import Derived.Test.YtblfhonfjljndaaDoorRdL
namespace Go.Proofs.YtblfhonfjljndaaDoor
open Go.RowKit Go.Maps Go.WideMaps
set_option maxRecDepth 100000

section
variable {S T F V : Nat → Prop} {w w' : World} {bd : Nat} {vL v y : Value} {A : List (Fi × Value)} {d : Ds} {b : List UInt8}
set_option maxHeartbeats 32000000 in
theorem rem_someA {p : Addr} {N c n : Nat} {f : Fi} (h : RdAt S w bd (.slice (some p) N c) A d) (hN : d.L.length = N) (x : List UInt8) (hx : getF d.L x = some f) (hn : posF d.L x = n) (hc9 : c ≤ 9223372036854775807) (hnc : n + 1 < c) :
    Calls Tryd.prog 64 #[pv bd, sv x] w fun e w' => e = .returned (.tuple #[]) ∧ Dz (Grow S w) w' (pv bd) { d with L := delF d.L x } ∧ Mod (fun k => k = bd) w w' := by
  have hcs := spot_any h x
  rw [hx, hn] at hcs
  simp only [Option.isSome_some] at hcs
  have hlen : A.length = N := h.len.trans hN
  have hfew := h.few
  have hone := fiv_one h.slices
  have hnl : n < N := by
    obtain ⟨n', _, hi, e, _⟩ := h.found hx
    omega
  have hbd : ∀ {wx : World}, Ext w wx → wx.cell? ⟨bd, 1, none⟩ = some (.slice (some p) N c) := fun q => (h.mod q (fun _ _ _ h => h)).blk.cell 1
  have hz : ∀ {wx : World}, Ext w wx → wx.frozen? ⟨bd, 1, none⟩ = false := fun q => (h.mod q (fun _ _ _ h => h)).blk.frozen 1
  have hrc : Rc fiv 3 w (own (.slice (some p) N c)) (.slice (some p) A.length c) A := by rw [hlen]; exact h.row.rc
  have hcL : N ≤ c := by
    rcases h.row.form with ⟨e, _⟩ | ⟨g, c', e, h1, _⟩
    · injection e with e; cases e
    · injection e with _ e2 e3; omega
  have hrB : Rc fiv 3 w (own (.slice (some p) N c)) (.slice (some p) n c) (A.take n) := hrc.begin fiv_len (m := n) (by omega)
  have hrR : Rc fiv 3 w (own (.slice (some p) N c)) (.slice (some (p.add ((n + 1) * 3))) (N - (n + 1)) (c - (n + 1))) (A.drop (n + 1)) := (by have := hrc.rest fiv_len (m := n + 1) (by omega); rw [hlen] at this; exact this)
  have hfin := fun (v3 : Value) (w6 : World) (q : Ext w w6) (ho : OwnR fiv 3 w6 fileT v3 (([] ++ A.take n) ++ A.drop (n + 1))) (hf : Fresh w.heap.size v3) => rem_fin h hx q (by rw [hn]; exact ho) hf
  rw [hn] at hfin
  replace hfin := Lib.hid hfin
  have hn0 : (0 : Int) ≤ (n : Int) := by omega
  have hn1 : (n : Int) ≤ (c : Int) := by omega
  have hn2 : (n : Int) ≤ (N : Int) := by omega
  have hn3 : (0 : Int) ≤ (n : Int) + 1 := by omega
  have hn4 : (n : Int) + 1 ≤ (N : Int) := by omega
  have hw1 : IntKind.i64.wrap ((n : Int) + 1) = (n : Int) + 1 := IntWalk.i64_in _ ⟨by omega, by omega⟩
  have hci : ¬ c = n + 1 := by omega
  have hn5 : (N : Int) ≤ (c : Int) := by omega
  have hAl : A.length ≤ 4096 := by omega
  clear h hrc hN hn hx
  go_enter Tryd.func64, Tryd.ntmps64
  go_wp2_with fail
  refine hcs.mono ?_
  rintro e w1 ⟨rfl, x1⟩
  clear hcs
  have hz1 := x1.size
  have qE : Ext w1 ((w1.alloc (.cells #[] fileT)).drew) := ((Mod.refl _ _).alloc _).drew
  have oE := (OwnR.empty fiv 3 w1 fileT).ext (Mod.refl _ (w1.alloc (.cells #[] fileT))).drew
  have fE : Fresh w1.heap.size (.slice (some ⟨w1.heap.size, 0, none⟩) 0 0) := fresh_new (Nat.le_refl _)
  have rB := hrB.ext (ext_trans x1 qE)
  have d0 : w1.drew.cell? ⟨bd, 1, none⟩ = some (.slice (some p) N c) := hbd (ext_trans x1 (Mod.refl _ w1).drew)
  have dE : ((w1.alloc (.cells #[] 74)).drew).cell? ⟨bd, 1, none⟩ = some (.slice (some p) N c) := hbd (ext_trans x1 qE)
  have n1 : (([] : List (Fi × Value)).length + (A.take n).length) * 48 ≤ 140737488355328 := by rw [List.length_nil, List.length_take]; omega
  have n3 : ((([] : List (Fi × Value)) ++ A.take n).length + (A.drop (n + 1)).length) * 48 ≤ 140737488355328 := by simp only [List.length_append, List.length_nil, List.length_take, List.length_drop]; omega
  have o1 : ∀ a ∈ A.take n, ∀ u ∈ fiv a, u.oneCell' = true := fun a ha => hone a (List.mem_of_mem_take ha)
  have o3 : ∀ a ∈ A.drop (n + 1), ∀ u ∈ fiv a, u.oneCell' = true := fun a ha => hone a (List.mem_of_mem_drop ha)
  replace n1 := Lib.hid n1
  replace n3 := Lib.hid n3
  clear hone
  go_wp2_with fail
  refine wp_region_held_drew (S := fun _ => True) (by kernel_rfl) trivial (fun _ => ?_)
  (refine wpAnyH_take (i := 0) (oi := ⟨_, _, _, _, _, _⟩) (v := ?tv1) rfl (by kernel_rfl) (by kernel_rfl) (by kernel_rfl) (fun _ _ _ h => h) (Or.inl ⟨by kernel_rfl, ?hy1⟩) trivial ?rs1; (case hy1 => (intro wx hSw; (try dsimp only at hSw); go_simp; try with_reducible rfl)); try simp only [Act.put, List.setIfInBounds_toArray, List.set_cons_zero, List.set_cons_succ]; try simp only [List.getElem_toArray, List.getElem_cons_succ, List.getElem_cons_zero])
  (refine wpAnyH_take (i := 2) (oi := ⟨_, _, _, _, _, _⟩) (v := ?tv2) rfl (by kernel_rfl) (by kernel_rfl) (by kernel_rfl) (fun _ _ _ h => h) (Or.inl ⟨by kernel_rfl, ?hy2⟩) trivial ?rs2; (case hy2 => (intro wx hSw; (try dsimp only at hSw); go_simp; try with_reducible rfl)); try simp only [Act.put, List.setIfInBounds_toArray, List.set_cons_zero, List.set_cons_succ]; try simp only [List.getElem_toArray, List.getElem_cons_succ, List.getElem_cons_zero])
  (refine wpAnyH_take (i := 3) (oi := ⟨_, _, _, _, _, _⟩) (v := ?tv3) rfl (by kernel_rfl) (by kernel_rfl) (by kernel_rfl) (fun _ _ _ h => h) (Or.inl ⟨by kernel_rfl, ?hy3⟩) trivial ?rs3; (case hy3 => (intro wx hSw; (try dsimp only at hSw); go_simp; try with_reducible rfl)); try simp only [Act.put, List.setIfInBounds_toArray, List.set_cons_zero, List.set_cons_succ]; try simp only [List.getElem_toArray, List.getElem_cons_succ, List.getElem_cons_zero])
  (refine wpAnyH_take (i := 4) (oi := ⟨_, _, _, _, _, _⟩) (v := ?tv4) rfl (by kernel_rfl) (by kernel_rfl) (by kernel_rfl) (fun _ _ _ h => h) (Or.inl ⟨by kernel_rfl, ?hy4⟩) trivial ?rs4; (case hy4 => (intro wx hSw; (try dsimp only at hSw); go_simp; try with_reducible rfl)); try simp only [Act.put, List.setIfInBounds_toArray, List.set_cons_zero, List.set_cons_succ]; try simp only [List.getElem_toArray, List.getElem_cons_succ, List.getElem_cons_zero])
  (refine wpAnyH_take (i := 6) (oi := ⟨_, _, _, _, _, _⟩) (v := ?tv5) rfl (by kernel_rfl) (by kernel_rfl) (by kernel_rfl) (fun _ _ _ h => h) (Or.inl ⟨by kernel_rfl, ?hy5⟩) trivial ?rs5; (case hy5 => (intro wx hSw; (try dsimp only at hSw); go_simp; try with_reducible rfl)); try simp only [Act.put, List.setIfInBounds_toArray, List.set_cons_zero, List.set_cons_succ]; try simp only [List.getElem_toArray, List.getElem_cons_succ, List.getElem_cons_zero])
  (refine wpAnyH_take (i := 9) (oi := ⟨_, _, _, _, _, _⟩) (v := ?tv6) rfl (by kernel_rfl) (by kernel_rfl) (by kernel_rfl) (fun _ _ _ h => h) (Or.inl ⟨by kernel_rfl, ?hy6⟩) trivial ?rs6; (case hy6 => (intro wx hSw; (try dsimp only at hSw); go_simp; try with_reducible rfl)); try simp only [Act.put, List.setIfInBounds_toArray, List.set_cons_zero, List.set_cons_succ]; try simp only [List.getElem_toArray, List.getElem_cons_succ, List.getElem_cons_zero])
  (refine wpAnyH_take (i := 10) (oi := ⟨_, _, _, _, _, _⟩) (v := ?tv7) rfl (by kernel_rfl) (by kernel_rfl) (by kernel_rfl) (fun _ _ _ h => h) (Or.inl ⟨by kernel_rfl, ?hy7⟩) trivial ?rs7; (case hy7 => (intro wx hSw; (try dsimp only at hSw); go_simp; try with_reducible rfl)); try simp only [Act.put, List.setIfInBounds_toArray, List.set_cons_zero, List.set_cons_succ]; try simp only [List.getElem_toArray, List.getElem_cons_succ, List.getElem_cons_zero])
  (refine wpAnyH_take (i := 11) (oi := ⟨_, _, _, _, _, _⟩) (v := ?tv8) rfl (by kernel_rfl) (by kernel_rfl) (by kernel_rfl) (fun _ _ _ h => h) (Or.inl ⟨by kernel_rfl, ?hy8⟩) trivial ?rs8; (case hy8 => (intro wx hSw; (try dsimp only at hSw); go_simp; try with_reducible rfl)); try simp only [Act.put, List.setIfInBounds_toArray, List.set_cons_zero, List.set_cons_succ]; try simp only [List.getElem_toArray, List.getElem_cons_succ, List.getElem_cons_zero])
  (refine wpAnyH_take (i := 13) (oi := ⟨_, _, _, _, _, _⟩) (v := ?tv9) rfl (by kernel_rfl) (by kernel_rfl) (by kernel_rfl) (fun _ _ _ h => h) (Or.inl ⟨by kernel_rfl, ?hy9⟩) trivial ?rs9; (case hy9 => (intro wx hSw; (try dsimp only at hSw); go_simp; try with_reducible rfl)); try simp only [Act.put, List.setIfInBounds_toArray, List.set_cons_zero, List.set_cons_succ]; try simp only [List.getElem_toArray, List.getElem_cons_succ, List.getElem_cons_zero])
  (refine wpAnyH_take (i := 14) (oi := ⟨_, _, _, _, _, _⟩) (v := ?tv10) rfl (by kernel_rfl) (by kernel_rfl) (by kernel_rfl) (fun _ _ _ h => h) (Or.inl ⟨by kernel_rfl, ?hy10⟩) trivial ?rs10; (case hy10 => (intro wx hSw; (try dsimp only at hSw); go_simp; try with_reducible rfl)); try simp only [Act.put, List.setIfInBounds_toArray, List.set_cons_zero, List.set_cons_succ]; try simp only [List.getElem_toArray, List.getElem_cons_succ, List.getElem_cons_zero])
  refine wpAnyH_ready (rs := [1, 5, 12]) (by kernel_rfl) (by simp) ?_
  refine AllReadyH.cons rfl (fun K hK => ?b1) (AllReadyH.cons rfl (fun K hK => ?b2) (AllReadyH.cons rfl (fun K hK => ?b3) (AllReadyH.nil)))
  case b1 =>
    go_simp
    (go_wp2_with fail; refine hK.out _ _ trivial (fun _ => ?_); clear hK K; try simp only [Act.put, List.setIfInBounds_toArray, List.set_cons_zero, List.set_cons_succ]; try simp only [List.getElem_toArray, List.getElem_cons_succ, List.getElem_cons_zero])
    refine wpAnyH_ready (rs := [5, 12]) (by kernel_rfl) (by simp) ?_
    refine AllReadyH.cons rfl (fun K hK => ?b4) (AllReadyH.cons rfl (fun K hK => ?b5) (AllReadyH.nil))
    case b4 =>
      go_simp
      (go_wp2_with fail; refine hK.out _ _ trivial (fun _ => ?_); clear hK K; try simp only [Act.put, List.setIfInBounds_toArray, List.set_cons_zero, List.set_cons_succ]; try simp only [List.getElem_toArray, List.getElem_cons_succ, List.getElem_cons_zero])
      (refine wpAnyH_take (i := 7) (oi := ⟨_, _, _, _, _, _⟩) (v := ?tv11) rfl (by kernel_rfl) (by kernel_rfl) (by kernel_rfl) (fun _ _ _ h => h) (Or.inl ⟨by kernel_rfl, ?hy11⟩) trivial ?rs11; (case hy11 => (intro wx hSw; (try dsimp only at hSw); go_simp; try with_reducible rfl)); try simp only [Act.put, List.setIfInBounds_toArray, List.set_cons_zero, List.set_cons_succ]; try simp only [List.getElem_toArray, List.getElem_cons_succ, List.getElem_cons_zero])
      refine wpAnyH_ready (rs := [8, 12]) (by kernel_rfl) (by simp) ?_
      refine AllReadyH.cons rfl (fun K hK => ?b6) (AllReadyH.cons rfl (fun K hK => ?b7) (AllReadyH.nil))
      case b6 =>
        (refine step_appRs 21 tyF oE rB o1 n1.out rfl rfl (.tmp 14) (.tmp 20) rfl rfl rfl ?_; intro v1 w4 k1 k2 k3; have q1 := ext_app0 qE fE k2; have f1 := k3.fresh fE qE.size; have d4 := hbd (ext_trans x1 q1); have rR := hrR.ext (ext_trans x1 q1); refine hK.out _ _ trivial (fun _ => ?_); clear hK K; try simp only [Act.put, List.setIfInBounds_toArray, List.set_cons_zero, List.set_cons_succ]; try simp only [List.getElem_toArray, List.getElem_cons_succ, List.getElem_cons_zero])
        refine wpAnyH_ready (rs := [12]) (by kernel_rfl) (by simp) ?_
        refine AllReadyH.cons rfl (fun K hK => ?b8) (AllReadyH.nil)
        case b8 =>
          go_simp
          (go_wp2_with fail; refine hK.out _ _ trivial (fun _ => ?_); clear hK K; try simp only [Act.put, List.setIfInBounds_toArray, List.set_cons_zero, List.set_cons_succ]; try simp only [List.getElem_toArray, List.getElem_cons_succ, List.getElem_cons_zero])
          (refine wpAnyH_take (i := 15) (oi := ⟨_, _, _, _, _, _⟩) (v := ?tv12) rfl (by kernel_rfl) (by kernel_rfl) (by kernel_rfl) (fun _ _ _ h => h) (Or.inl ⟨by kernel_rfl, ?hy12⟩) trivial ?rs12; (case hy12 => (intro wx hSw; (try dsimp only at hSw); go_simp; try with_reducible rfl)); try simp only [Act.put, List.setIfInBounds_toArray, List.set_cons_zero, List.set_cons_succ]; try simp only [List.getElem_toArray, List.getElem_cons_succ, List.getElem_cons_zero])
          refine wpAnyH_ready (rs := [16]) (by kernel_rfl) (by simp) ?_
          refine AllReadyH.cons rfl (fun K hK => ?b9) (AllReadyH.nil)
          case b9 =>
            (refine step_appRs 29 tyF k1 rR o3 n3.out rfl rfl (.tmp 21) (.tmp 28) rfl rfl rfl ?_; intro v3 w6 m1 m2 m3; have q3 := ext_app0 q1 f1 m2; have f3 := m3.fresh f1 q1.size; have hf := hfin.out v3 w6 (ext_trans x1 q3) m1 (f3.mono hz1); have d6 := hbd (ext_trans x1 q3); have z6 := hz (ext_trans x1 q3); obtain ⟨A3, l3, c3, hv3⟩ : ∃ A n c, v3 = Value.slice A n c := (by obtain ⟨A, c, h⟩ := m1.shape; exact ⟨A, _, c, h⟩); clear m1 m2 m3 f3; subst hv3; refine hK.out _ _ trivial (fun _ => ?_); clear hK K; try simp only [Act.put, List.setIfInBounds_toArray, List.set_cons_zero, List.set_cons_succ]; try simp only [List.getElem_toArray, List.getElem_cons_succ, List.getElem_cons_zero])
            (refine wpAnyH_take (i := 17) (oi := ⟨_, _, _, _, _, _⟩) (v := ?tv13) rfl (by kernel_rfl) (by kernel_rfl) (by kernel_rfl) (fun _ _ _ h => h) (Or.inl ⟨by kernel_rfl, ?hy13⟩) trivial ?rs13; (case hy13 => (intro wx hSw; (try dsimp only at hSw); go_simp; try with_reducible rfl)); try simp only [Act.put, List.setIfInBounds_toArray, List.set_cons_zero, List.set_cons_succ]; try simp only [List.getElem_toArray, List.getElem_cons_succ, List.getElem_cons_zero])
            (refine wpAnyH_take (i := 18) (oi := ⟨_, _, _, _, _, _⟩) (v := ?tv14) rfl (by kernel_rfl) (by kernel_rfl) (by kernel_rfl) (fun _ _ _ h => h) (Or.inl ⟨by kernel_rfl, ?hy14⟩) trivial ?rs14; (case hy14 => (intro wx hSw; (try dsimp only at hSw); go_simp; try with_reducible rfl)); try simp only [Act.put, List.setIfInBounds_toArray, List.set_cons_zero, List.set_cons_succ]; try simp only [List.getElem_toArray, List.getElem_cons_succ, List.getElem_cons_zero])
            (refine wpAnyH_ready (rs := [19]) (by kernel_rfl) (by simp) ?_; refine AllReadyH.cons rfl (fun K hK => ?_) AllReadyH.nil)
            go_simp
            (go_wp2_with fail; refine hK.out _ _ trivial (fun _ => ?_); clear hK K; try simp only [Act.put, List.setIfInBounds_toArray, List.set_cons_zero, List.set_cons_succ]; try simp only [List.getElem_toArray, List.getElem_cons_succ, List.getElem_cons_zero])
            refine wpAnyH_done (by kernel_rfl) ?_ _
            obtain ⟨g1, g2⟩ := hf
            clear hfin
            go_wp2_with fail
            go_end0
            exact ⟨rfl, g1.rd, g2⟩
      case b7 =>
        go_simp
        (go_wp2_with fail; refine hK.out _ _ trivial (fun _ => ?_); clear hK K; try simp only [Act.put, List.setIfInBounds_toArray, List.set_cons_zero, List.set_cons_succ]; try simp only [List.getElem_toArray, List.getElem_cons_succ, List.getElem_cons_zero])
        (refine wpAnyH_take (i := 15) (oi := ⟨_, _, _, _, _, _⟩) (v := ?tv15) rfl (by kernel_rfl) (by kernel_rfl) (by kernel_rfl) (fun _ _ _ h => h) (Or.inl ⟨by kernel_rfl, ?hy15⟩) trivial ?rs15; (case hy15 => (intro wx hSw; (try dsimp only at hSw); go_simp; try with_reducible rfl)); try simp only [Act.put, List.setIfInBounds_toArray, List.set_cons_zero, List.set_cons_succ]; try simp only [List.getElem_toArray, List.getElem_cons_succ, List.getElem_cons_zero])
        refine wpAnyH_ready (rs := [8]) (by kernel_rfl) (by simp) ?_
        refine AllReadyH.cons rfl (fun K hK => ?b10) (AllReadyH.nil)
        case b10 =>
          (refine step_appRs 21 tyF oE rB o1 n1.out rfl rfl (.tmp 14) (.tmp 20) rfl rfl rfl ?_; intro v1 w4 k1 k2 k3; have q1 := ext_app0 qE fE k2; have f1 := k3.fresh fE qE.size; have d4 := hbd (ext_trans x1 q1); have rR := hrR.ext (ext_trans x1 q1); refine hK.out _ _ trivial (fun _ => ?_); clear hK K; try simp only [Act.put, List.setIfInBounds_toArray, List.set_cons_zero, List.set_cons_succ]; try simp only [List.getElem_toArray, List.getElem_cons_succ, List.getElem_cons_zero])
          refine wpAnyH_ready (rs := [16]) (by kernel_rfl) (by simp) ?_
          refine AllReadyH.cons rfl (fun K hK => ?b11) (AllReadyH.nil)
          case b11 =>
            (refine step_appRs 29 tyF k1 rR o3 n3.out rfl rfl (.tmp 21) (.tmp 28) rfl rfl rfl ?_; intro v3 w6 m1 m2 m3; have q3 := ext_app0 q1 f1 m2; have f3 := m3.fresh f1 q1.size; have hf := hfin.out v3 w6 (ext_trans x1 q3) m1 (f3.mono hz1); have d6 := hbd (ext_trans x1 q3); have z6 := hz (ext_trans x1 q3); obtain ⟨A3, l3, c3, hv3⟩ : ∃ A n c, v3 = Value.slice A n c := (by obtain ⟨A, c, h⟩ := m1.shape; exact ⟨A, _, c, h⟩); clear m1 m2 m3 f3; subst hv3; refine hK.out _ _ trivial (fun _ => ?_); clear hK K; try simp only [Act.put, List.setIfInBounds_toArray, List.set_cons_zero, List.set_cons_succ]; try simp only [List.getElem_toArray, List.getElem_cons_succ, List.getElem_cons_zero])
            (refine wpAnyH_take (i := 17) (oi := ⟨_, _, _, _, _, _⟩) (v := ?tv16) rfl (by kernel_rfl) (by kernel_rfl) (by kernel_rfl) (fun _ _ _ h => h) (Or.inl ⟨by kernel_rfl, ?hy16⟩) trivial ?rs16; (case hy16 => (intro wx hSw; (try dsimp only at hSw); go_simp; try with_reducible rfl)); try simp only [Act.put, List.setIfInBounds_toArray, List.set_cons_zero, List.set_cons_succ]; try simp only [List.getElem_toArray, List.getElem_cons_succ, List.getElem_cons_zero])
            (refine wpAnyH_take (i := 18) (oi := ⟨_, _, _, _, _, _⟩) (v := ?tv17) rfl (by kernel_rfl) (by kernel_rfl) (by kernel_rfl) (fun _ _ _ h => h) (Or.inl ⟨by kernel_rfl, ?hy17⟩) trivial ?rs17; (case hy17 => (intro wx hSw; (try dsimp only at hSw); go_simp; try with_reducible rfl)); try simp only [Act.put, List.setIfInBounds_toArray, List.set_cons_zero, List.set_cons_succ]; try simp only [List.getElem_toArray, List.getElem_cons_succ, List.getElem_cons_zero])
            (refine wpAnyH_ready (rs := [19]) (by kernel_rfl) (by simp) ?_; refine AllReadyH.cons rfl (fun K hK => ?_) AllReadyH.nil)
            go_simp
            (go_wp2_with fail; refine hK.out _ _ trivial (fun _ => ?_); clear hK K; try simp only [Act.put, List.setIfInBounds_toArray, List.set_cons_zero, List.set_cons_succ]; try simp only [List.getElem_toArray, List.getElem_cons_succ, List.getElem_cons_zero])
            refine wpAnyH_done (by kernel_rfl) ?_ _
            obtain ⟨g1, g2⟩ := hf
            clear hfin
            go_wp2_with fail
            go_end0
            exact ⟨rfl, g1.rd, g2⟩
    case b5 =>
      go_simp
      (go_wp2_with fail; refine hK.out _ _ trivial (fun _ => ?_); clear hK K; try simp only [Act.put, List.setIfInBounds_toArray, List.set_cons_zero, List.set_cons_succ]; try simp only [List.getElem_toArray, List.getElem_cons_succ, List.getElem_cons_zero])
      (refine wpAnyH_take (i := 15) (oi := ⟨_, _, _, _, _, _⟩) (v := ?tv18) rfl (by kernel_rfl) (by kernel_rfl) (by kernel_rfl) (fun _ _ _ h => h) (Or.inl ⟨by kernel_rfl, ?hy18⟩) trivial ?rs18; (case hy18 => (intro wx hSw; (try dsimp only at hSw); go_simp; try with_reducible rfl)); try simp only [Act.put, List.setIfInBounds_toArray, List.set_cons_zero, List.set_cons_succ]; try simp only [List.getElem_toArray, List.getElem_cons_succ, List.getElem_cons_zero])
      refine wpAnyH_ready (rs := [5]) (by kernel_rfl) (by simp) ?_
      refine AllReadyH.cons rfl (fun K hK => ?b12) (AllReadyH.nil)
      case b12 =>
        go_simp
        (go_wp2_with fail; refine hK.out _ _ trivial (fun _ => ?_); clear hK K; try simp only [Act.put, List.setIfInBounds_toArray, List.set_cons_zero, List.set_cons_succ]; try simp only [List.getElem_toArray, List.getElem_cons_succ, List.getElem_cons_zero])
        (refine wpAnyH_take (i := 7) (oi := ⟨_, _, _, _, _, _⟩) (v := ?tv19) rfl (by kernel_rfl) (by kernel_rfl) (by kernel_rfl) (fun _ _ _ h => h) (Or.inl ⟨by kernel_rfl, ?hy19⟩) trivial ?rs19; (case hy19 => (intro wx hSw; (try dsimp only at hSw); go_simp; try with_reducible rfl)); try simp only [Act.put, List.setIfInBounds_toArray, List.set_cons_zero, List.set_cons_succ]; try simp only [List.getElem_toArray, List.getElem_cons_succ, List.getElem_cons_zero])
        refine wpAnyH_ready (rs := [8]) (by kernel_rfl) (by simp) ?_
        refine AllReadyH.cons rfl (fun K hK => ?b13) (AllReadyH.nil)
        case b13 =>
          (refine step_appRs 21 tyF oE rB o1 n1.out rfl rfl (.tmp 14) (.tmp 20) rfl rfl rfl ?_; intro v1 w4 k1 k2 k3; have q1 := ext_app0 qE fE k2; have f1 := k3.fresh fE qE.size; have d4 := hbd (ext_trans x1 q1); have rR := hrR.ext (ext_trans x1 q1); refine hK.out _ _ trivial (fun _ => ?_); clear hK K; try simp only [Act.put, List.setIfInBounds_toArray, List.set_cons_zero, List.set_cons_succ]; try simp only [List.getElem_toArray, List.getElem_cons_succ, List.getElem_cons_zero])
          refine wpAnyH_ready (rs := [16]) (by kernel_rfl) (by simp) ?_
          refine AllReadyH.cons rfl (fun K hK => ?b14) (AllReadyH.nil)
          case b14 =>
            (refine step_appRs 29 tyF k1 rR o3 n3.out rfl rfl (.tmp 21) (.tmp 28) rfl rfl rfl ?_; intro v3 w6 m1 m2 m3; have q3 := ext_app0 q1 f1 m2; have f3 := m3.fresh f1 q1.size; have hf := hfin.out v3 w6 (ext_trans x1 q3) m1 (f3.mono hz1); have d6 := hbd (ext_trans x1 q3); have z6 := hz (ext_trans x1 q3); obtain ⟨A3, l3, c3, hv3⟩ : ∃ A n c, v3 = Value.slice A n c := (by obtain ⟨A, c, h⟩ := m1.shape; exact ⟨A, _, c, h⟩); clear m1 m2 m3 f3; subst hv3; refine hK.out _ _ trivial (fun _ => ?_); clear hK K; try simp only [Act.put, List.setIfInBounds_toArray, List.set_cons_zero, List.set_cons_succ]; try simp only [List.getElem_toArray, List.getElem_cons_succ, List.getElem_cons_zero])
            (refine wpAnyH_take (i := 17) (oi := ⟨_, _, _, _, _, _⟩) (v := ?tv20) rfl (by kernel_rfl) (by kernel_rfl) (by kernel_rfl) (fun _ _ _ h => h) (Or.inl ⟨by kernel_rfl, ?hy20⟩) trivial ?rs20; (case hy20 => (intro wx hSw; (try dsimp only at hSw); go_simp; try with_reducible rfl)); try simp only [Act.put, List.setIfInBounds_toArray, List.set_cons_zero, List.set_cons_succ]; try simp only [List.getElem_toArray, List.getElem_cons_succ, List.getElem_cons_zero])
            (refine wpAnyH_take (i := 18) (oi := ⟨_, _, _, _, _, _⟩) (v := ?tv21) rfl (by kernel_rfl) (by kernel_rfl) (by kernel_rfl) (fun _ _ _ h => h) (Or.inl ⟨by kernel_rfl, ?hy21⟩) trivial ?rs21; (case hy21 => (intro wx hSw; (try dsimp only at hSw); go_simp; try with_reducible rfl)); try simp only [Act.put, List.setIfInBounds_toArray, List.set_cons_zero, List.set_cons_succ]; try simp only [List.getElem_toArray, List.getElem_cons_succ, List.getElem_cons_zero])
            (refine wpAnyH_ready (rs := [19]) (by kernel_rfl) (by simp) ?_; refine AllReadyH.cons rfl (fun K hK => ?_) AllReadyH.nil)
            go_simp
            (go_wp2_with fail; refine hK.out _ _ trivial (fun _ => ?_); clear hK K; try simp only [Act.put, List.setIfInBounds_toArray, List.set_cons_zero, List.set_cons_succ]; try simp only [List.getElem_toArray, List.getElem_cons_succ, List.getElem_cons_zero])
            refine wpAnyH_done (by kernel_rfl) ?_ _
            obtain ⟨g1, g2⟩ := hf
            clear hfin
            go_wp2_with fail
            go_end0
            exact ⟨rfl, g1.rd, g2⟩
  case b2 =>
    go_simp
    (go_wp2_with fail; refine hK.out _ _ trivial (fun _ => ?_); clear hK K; try simp only [Act.put, List.setIfInBounds_toArray, List.set_cons_zero, List.set_cons_succ]; try simp only [List.getElem_toArray, List.getElem_cons_succ, List.getElem_cons_zero])
    (refine wpAnyH_take (i := 7) (oi := ⟨_, _, _, _, _, _⟩) (v := ?tv22) rfl (by kernel_rfl) (by kernel_rfl) (by kernel_rfl) (fun _ _ _ h => h) (Or.inl ⟨by kernel_rfl, ?hy22⟩) trivial ?rs22; (case hy22 => (intro wx hSw; (try dsimp only at hSw); go_simp; try with_reducible rfl)); try simp only [Act.put, List.setIfInBounds_toArray, List.set_cons_zero, List.set_cons_succ]; try simp only [List.getElem_toArray, List.getElem_cons_succ, List.getElem_cons_zero])
    refine wpAnyH_ready (rs := [1, 12]) (by kernel_rfl) (by simp) ?_
    refine AllReadyH.cons rfl (fun K hK => ?b15) (AllReadyH.cons rfl (fun K hK => ?b16) (AllReadyH.nil))
    case b15 =>
      go_simp
      (go_wp2_with fail; refine hK.out _ _ trivial (fun _ => ?_); clear hK K; try simp only [Act.put, List.setIfInBounds_toArray, List.set_cons_zero, List.set_cons_succ]; try simp only [List.getElem_toArray, List.getElem_cons_succ, List.getElem_cons_zero])
      refine wpAnyH_ready (rs := [8, 12]) (by kernel_rfl) (by simp) ?_
      refine AllReadyH.cons rfl (fun K hK => ?b17) (AllReadyH.cons rfl (fun K hK => ?b18) (AllReadyH.nil))
      case b17 =>
        (refine step_appRs 21 tyF oE rB o1 n1.out rfl rfl (.tmp 14) (.tmp 20) rfl rfl rfl ?_; intro v1 w4 k1 k2 k3; have q1 := ext_app0 qE fE k2; have f1 := k3.fresh fE qE.size; have d4 := hbd (ext_trans x1 q1); have rR := hrR.ext (ext_trans x1 q1); refine hK.out _ _ trivial (fun _ => ?_); clear hK K; try simp only [Act.put, List.setIfInBounds_toArray, List.set_cons_zero, List.set_cons_succ]; try simp only [List.getElem_toArray, List.getElem_cons_succ, List.getElem_cons_zero])
        refine wpAnyH_ready (rs := [12]) (by kernel_rfl) (by simp) ?_
        refine AllReadyH.cons rfl (fun K hK => ?b19) (AllReadyH.nil)
        case b19 =>
          go_simp
          (go_wp2_with fail; refine hK.out _ _ trivial (fun _ => ?_); clear hK K; try simp only [Act.put, List.setIfInBounds_toArray, List.set_cons_zero, List.set_cons_succ]; try simp only [List.getElem_toArray, List.getElem_cons_succ, List.getElem_cons_zero])
          (refine wpAnyH_take (i := 15) (oi := ⟨_, _, _, _, _, _⟩) (v := ?tv23) rfl (by kernel_rfl) (by kernel_rfl) (by kernel_rfl) (fun _ _ _ h => h) (Or.inl ⟨by kernel_rfl, ?hy23⟩) trivial ?rs23; (case hy23 => (intro wx hSw; (try dsimp only at hSw); go_simp; try with_reducible rfl)); try simp only [Act.put, List.setIfInBounds_toArray, List.set_cons_zero, List.set_cons_succ]; try simp only [List.getElem_toArray, List.getElem_cons_succ, List.getElem_cons_zero])
          refine wpAnyH_ready (rs := [16]) (by kernel_rfl) (by simp) ?_
          refine AllReadyH.cons rfl (fun K hK => ?b20) (AllReadyH.nil)
          case b20 =>
            (refine step_appRs 29 tyF k1 rR o3 n3.out rfl rfl (.tmp 21) (.tmp 28) rfl rfl rfl ?_; intro v3 w6 m1 m2 m3; have q3 := ext_app0 q1 f1 m2; have f3 := m3.fresh f1 q1.size; have hf := hfin.out v3 w6 (ext_trans x1 q3) m1 (f3.mono hz1); have d6 := hbd (ext_trans x1 q3); have z6 := hz (ext_trans x1 q3); obtain ⟨A3, l3, c3, hv3⟩ : ∃ A n c, v3 = Value.slice A n c := (by obtain ⟨A, c, h⟩ := m1.shape; exact ⟨A, _, c, h⟩); clear m1 m2 m3 f3; subst hv3; refine hK.out _ _ trivial (fun _ => ?_); clear hK K; try simp only [Act.put, List.setIfInBounds_toArray, List.set_cons_zero, List.set_cons_succ]; try simp only [List.getElem_toArray, List.getElem_cons_succ, List.getElem_cons_zero])
            (refine wpAnyH_take (i := 17) (oi := ⟨_, _, _, _, _, _⟩) (v := ?tv24) rfl (by kernel_rfl) (by kernel_rfl) (by kernel_rfl) (fun _ _ _ h => h) (Or.inl ⟨by kernel_rfl, ?hy24⟩) trivial ?rs24; (case hy24 => (intro wx hSw; (try dsimp only at hSw); go_simp; try with_reducible rfl)); try simp only [Act.put, List.setIfInBounds_toArray, List.set_cons_zero, List.set_cons_succ]; try simp only [List.getElem_toArray, List.getElem_cons_succ, List.getElem_cons_zero])
            (refine wpAnyH_take (i := 18) (oi := ⟨_, _, _, _, _, _⟩) (v := ?tv25) rfl (by kernel_rfl) (by kernel_rfl) (by kernel_rfl) (fun _ _ _ h => h) (Or.inl ⟨by kernel_rfl, ?hy25⟩) trivial ?rs25; (case hy25 => (intro wx hSw; (try dsimp only at hSw); go_simp; try with_reducible rfl)); try simp only [Act.put, List.setIfInBounds_toArray, List.set_cons_zero, List.set_cons_succ]; try simp only [List.getElem_toArray, List.getElem_cons_succ, List.getElem_cons_zero])
            (refine wpAnyH_ready (rs := [19]) (by kernel_rfl) (by simp) ?_; refine AllReadyH.cons rfl (fun K hK => ?_) AllReadyH.nil)
            go_simp
            (go_wp2_with fail; refine hK.out _ _ trivial (fun _ => ?_); clear hK K; try simp only [Act.put, List.setIfInBounds_toArray, List.set_cons_zero, List.set_cons_succ]; try simp only [List.getElem_toArray, List.getElem_cons_succ, List.getElem_cons_zero])
            refine wpAnyH_done (by kernel_rfl) ?_ _
            obtain ⟨g1, g2⟩ := hf
            clear hfin
            go_wp2_with fail
            go_end0
            exact ⟨rfl, g1.rd, g2⟩
      case b18 =>
        go_simp
        (go_wp2_with fail; refine hK.out _ _ trivial (fun _ => ?_); clear hK K; try simp only [Act.put, List.setIfInBounds_toArray, List.set_cons_zero, List.set_cons_succ]; try simp only [List.getElem_toArray, List.getElem_cons_succ, List.getElem_cons_zero])
        (refine wpAnyH_take (i := 15) (oi := ⟨_, _, _, _, _, _⟩) (v := ?tv26) rfl (by kernel_rfl) (by kernel_rfl) (by kernel_rfl) (fun _ _ _ h => h) (Or.inl ⟨by kernel_rfl, ?hy26⟩) trivial ?rs26; (case hy26 => (intro wx hSw; (try dsimp only at hSw); go_simp; try with_reducible rfl)); try simp only [Act.put, List.setIfInBounds_toArray, List.set_cons_zero, List.set_cons_succ]; try simp only [List.getElem_toArray, List.getElem_cons_succ, List.getElem_cons_zero])
        refine wpAnyH_ready (rs := [8]) (by kernel_rfl) (by simp) ?_
        refine AllReadyH.cons rfl (fun K hK => ?b21) (AllReadyH.nil)
        case b21 =>
          (refine step_appRs 21 tyF oE rB o1 n1.out rfl rfl (.tmp 14) (.tmp 20) rfl rfl rfl ?_; intro v1 w4 k1 k2 k3; have q1 := ext_app0 qE fE k2; have f1 := k3.fresh fE qE.size; have d4 := hbd (ext_trans x1 q1); have rR := hrR.ext (ext_trans x1 q1); refine hK.out _ _ trivial (fun _ => ?_); clear hK K; try simp only [Act.put, List.setIfInBounds_toArray, List.set_cons_zero, List.set_cons_succ]; try simp only [List.getElem_toArray, List.getElem_cons_succ, List.getElem_cons_zero])
          refine wpAnyH_ready (rs := [16]) (by kernel_rfl) (by simp) ?_
          refine AllReadyH.cons rfl (fun K hK => ?b22) (AllReadyH.nil)
          case b22 =>
            (refine step_appRs 29 tyF k1 rR o3 n3.out rfl rfl (.tmp 21) (.tmp 28) rfl rfl rfl ?_; intro v3 w6 m1 m2 m3; have q3 := ext_app0 q1 f1 m2; have f3 := m3.fresh f1 q1.size; have hf := hfin.out v3 w6 (ext_trans x1 q3) m1 (f3.mono hz1); have d6 := hbd (ext_trans x1 q3); have z6 := hz (ext_trans x1 q3); obtain ⟨A3, l3, c3, hv3⟩ : ∃ A n c, v3 = Value.slice A n c := (by obtain ⟨A, c, h⟩ := m1.shape; exact ⟨A, _, c, h⟩); clear m1 m2 m3 f3; subst hv3; refine hK.out _ _ trivial (fun _ => ?_); clear hK K; try simp only [Act.put, List.setIfInBounds_toArray, List.set_cons_zero, List.set_cons_succ]; try simp only [List.getElem_toArray, List.getElem_cons_succ, List.getElem_cons_zero])
            (refine wpAnyH_take (i := 17) (oi := ⟨_, _, _, _, _, _⟩) (v := ?tv27) rfl (by kernel_rfl) (by kernel_rfl) (by kernel_rfl) (fun _ _ _ h => h) (Or.inl ⟨by kernel_rfl, ?hy27⟩) trivial ?rs27; (case hy27 => (intro wx hSw; (try dsimp only at hSw); go_simp; try with_reducible rfl)); try simp only [Act.put, List.setIfInBounds_toArray, List.set_cons_zero, List.set_cons_succ]; try simp only [List.getElem_toArray, List.getElem_cons_succ, List.getElem_cons_zero])
            (refine wpAnyH_take (i := 18) (oi := ⟨_, _, _, _, _, _⟩) (v := ?tv28) rfl (by kernel_rfl) (by kernel_rfl) (by kernel_rfl) (fun _ _ _ h => h) (Or.inl ⟨by kernel_rfl, ?hy28⟩) trivial ?rs28; (case hy28 => (intro wx hSw; (try dsimp only at hSw); go_simp; try with_reducible rfl)); try simp only [Act.put, List.setIfInBounds_toArray, List.set_cons_zero, List.set_cons_succ]; try simp only [List.getElem_toArray, List.getElem_cons_succ, List.getElem_cons_zero])
            (refine wpAnyH_ready (rs := [19]) (by kernel_rfl) (by simp) ?_; refine AllReadyH.cons rfl (fun K hK => ?_) AllReadyH.nil)
            go_simp
            (go_wp2_with fail; refine hK.out _ _ trivial (fun _ => ?_); clear hK K; try simp only [Act.put, List.setIfInBounds_toArray, List.set_cons_zero, List.set_cons_succ]; try simp only [List.getElem_toArray, List.getElem_cons_succ, List.getElem_cons_zero])
            refine wpAnyH_done (by kernel_rfl) ?_ _
            obtain ⟨g1, g2⟩ := hf
            clear hfin
            go_wp2_with fail
            go_end0
            exact ⟨rfl, g1.rd, g2⟩
    case b16 =>
      go_simp
      (go_wp2_with fail; refine hK.out _ _ trivial (fun _ => ?_); clear hK K; try simp only [Act.put, List.setIfInBounds_toArray, List.set_cons_zero, List.set_cons_succ]; try simp only [List.getElem_toArray, List.getElem_cons_succ, List.getElem_cons_zero])
      (refine wpAnyH_take (i := 15) (oi := ⟨_, _, _, _, _, _⟩) (v := ?tv29) rfl (by kernel_rfl) (by kernel_rfl) (by kernel_rfl) (fun _ _ _ h => h) (Or.inl ⟨by kernel_rfl, ?hy29⟩) trivial ?rs29; (case hy29 => (intro wx hSw; (try dsimp only at hSw); go_simp; try with_reducible rfl)); try simp only [Act.put, List.setIfInBounds_toArray, List.set_cons_zero, List.set_cons_succ]; try simp only [List.getElem_toArray, List.getElem_cons_succ, List.getElem_cons_zero])
      refine wpAnyH_ready (rs := [1]) (by kernel_rfl) (by simp) ?_
      refine AllReadyH.cons rfl (fun K hK => ?b23) (AllReadyH.nil)
      case b23 =>
        go_simp
        (go_wp2_with fail; refine hK.out _ _ trivial (fun _ => ?_); clear hK K; try simp only [Act.put, List.setIfInBounds_toArray, List.set_cons_zero, List.set_cons_succ]; try simp only [List.getElem_toArray, List.getElem_cons_succ, List.getElem_cons_zero])
        refine wpAnyH_ready (rs := [8]) (by kernel_rfl) (by simp) ?_
        refine AllReadyH.cons rfl (fun K hK => ?b24) (AllReadyH.nil)
        case b24 =>
          (refine step_appRs 21 tyF oE rB o1 n1.out rfl rfl (.tmp 14) (.tmp 20) rfl rfl rfl ?_; intro v1 w4 k1 k2 k3; have q1 := ext_app0 qE fE k2; have f1 := k3.fresh fE qE.size; have d4 := hbd (ext_trans x1 q1); have rR := hrR.ext (ext_trans x1 q1); refine hK.out _ _ trivial (fun _ => ?_); clear hK K; try simp only [Act.put, List.setIfInBounds_toArray, List.set_cons_zero, List.set_cons_succ]; try simp only [List.getElem_toArray, List.getElem_cons_succ, List.getElem_cons_zero])
          refine wpAnyH_ready (rs := [16]) (by kernel_rfl) (by simp) ?_
          refine AllReadyH.cons rfl (fun K hK => ?b25) (AllReadyH.nil)
          case b25 =>
            (refine step_appRs 29 tyF k1 rR o3 n3.out rfl rfl (.tmp 21) (.tmp 28) rfl rfl rfl ?_; intro v3 w6 m1 m2 m3; have q3 := ext_app0 q1 f1 m2; have f3 := m3.fresh f1 q1.size; have hf := hfin.out v3 w6 (ext_trans x1 q3) m1 (f3.mono hz1); have d6 := hbd (ext_trans x1 q3); have z6 := hz (ext_trans x1 q3); obtain ⟨A3, l3, c3, hv3⟩ : ∃ A n c, v3 = Value.slice A n c := (by obtain ⟨A, c, h⟩ := m1.shape; exact ⟨A, _, c, h⟩); clear m1 m2 m3 f3; subst hv3; refine hK.out _ _ trivial (fun _ => ?_); clear hK K; try simp only [Act.put, List.setIfInBounds_toArray, List.set_cons_zero, List.set_cons_succ]; try simp only [List.getElem_toArray, List.getElem_cons_succ, List.getElem_cons_zero])
            (refine wpAnyH_take (i := 17) (oi := ⟨_, _, _, _, _, _⟩) (v := ?tv30) rfl (by kernel_rfl) (by kernel_rfl) (by kernel_rfl) (fun _ _ _ h => h) (Or.inl ⟨by kernel_rfl, ?hy30⟩) trivial ?rs30; (case hy30 => (intro wx hSw; (try dsimp only at hSw); go_simp; try with_reducible rfl)); try simp only [Act.put, List.setIfInBounds_toArray, List.set_cons_zero, List.set_cons_succ]; try simp only [List.getElem_toArray, List.getElem_cons_succ, List.getElem_cons_zero])
            (refine wpAnyH_take (i := 18) (oi := ⟨_, _, _, _, _, _⟩) (v := ?tv31) rfl (by kernel_rfl) (by kernel_rfl) (by kernel_rfl) (fun _ _ _ h => h) (Or.inl ⟨by kernel_rfl, ?hy31⟩) trivial ?rs31; (case hy31 => (intro wx hSw; (try dsimp only at hSw); go_simp; try with_reducible rfl)); try simp only [Act.put, List.setIfInBounds_toArray, List.set_cons_zero, List.set_cons_succ]; try simp only [List.getElem_toArray, List.getElem_cons_succ, List.getElem_cons_zero])
            (refine wpAnyH_ready (rs := [19]) (by kernel_rfl) (by simp) ?_; refine AllReadyH.cons rfl (fun K hK => ?_) AllReadyH.nil)
            go_simp
            (go_wp2_with fail; refine hK.out _ _ trivial (fun _ => ?_); clear hK K; try simp only [Act.put, List.setIfInBounds_toArray, List.set_cons_zero, List.set_cons_succ]; try simp only [List.getElem_toArray, List.getElem_cons_succ, List.getElem_cons_zero])
            refine wpAnyH_done (by kernel_rfl) ?_ _
            obtain ⟨g1, g2⟩ := hf
            clear hfin
            go_wp2_with fail
            go_end0
            exact ⟨rfl, g1.rd, g2⟩
  case b3 =>
    go_simp
    (go_wp2_with fail; refine hK.out _ _ trivial (fun _ => ?_); clear hK K; try simp only [Act.put, List.setIfInBounds_toArray, List.set_cons_zero, List.set_cons_succ]; try simp only [List.getElem_toArray, List.getElem_cons_succ, List.getElem_cons_zero])
    (refine wpAnyH_take (i := 15) (oi := ⟨_, _, _, _, _, _⟩) (v := ?tv32) rfl (by kernel_rfl) (by kernel_rfl) (by kernel_rfl) (fun _ _ _ h => h) (Or.inl ⟨by kernel_rfl, ?hy32⟩) trivial ?rs32; (case hy32 => (intro wx hSw; (try dsimp only at hSw); go_simp; try with_reducible rfl)); try simp only [Act.put, List.setIfInBounds_toArray, List.set_cons_zero, List.set_cons_succ]; try simp only [List.getElem_toArray, List.getElem_cons_succ, List.getElem_cons_zero])
    refine wpAnyH_ready (rs := [1, 5]) (by kernel_rfl) (by simp) ?_
    refine AllReadyH.cons rfl (fun K hK => ?b26) (AllReadyH.cons rfl (fun K hK => ?b27) (AllReadyH.nil))
    case b26 =>
      go_simp
      (go_wp2_with fail; refine hK.out _ _ trivial (fun _ => ?_); clear hK K; try simp only [Act.put, List.setIfInBounds_toArray, List.set_cons_zero, List.set_cons_succ]; try simp only [List.getElem_toArray, List.getElem_cons_succ, List.getElem_cons_zero])
      refine wpAnyH_ready (rs := [5]) (by kernel_rfl) (by simp) ?_
      refine AllReadyH.cons rfl (fun K hK => ?b28) (AllReadyH.nil)
      case b28 =>
        go_simp
        (go_wp2_with fail; refine hK.out _ _ trivial (fun _ => ?_); clear hK K; try simp only [Act.put, List.setIfInBounds_toArray, List.set_cons_zero, List.set_cons_succ]; try simp only [List.getElem_toArray, List.getElem_cons_succ, List.getElem_cons_zero])
        (refine wpAnyH_take (i := 7) (oi := ⟨_, _, _, _, _, _⟩) (v := ?tv33) rfl (by kernel_rfl) (by kernel_rfl) (by kernel_rfl) (fun _ _ _ h => h) (Or.inl ⟨by kernel_rfl, ?hy33⟩) trivial ?rs33; (case hy33 => (intro wx hSw; (try dsimp only at hSw); go_simp; try with_reducible rfl)); try simp only [Act.put, List.setIfInBounds_toArray, List.set_cons_zero, List.set_cons_succ]; try simp only [List.getElem_toArray, List.getElem_cons_succ, List.getElem_cons_zero])
        refine wpAnyH_ready (rs := [8]) (by kernel_rfl) (by simp) ?_
        refine AllReadyH.cons rfl (fun K hK => ?b29) (AllReadyH.nil)
        case b29 =>
          (refine step_appRs 21 tyF oE rB o1 n1.out rfl rfl (.tmp 14) (.tmp 20) rfl rfl rfl ?_; intro v1 w4 k1 k2 k3; have q1 := ext_app0 qE fE k2; have f1 := k3.fresh fE qE.size; have d4 := hbd (ext_trans x1 q1); have rR := hrR.ext (ext_trans x1 q1); refine hK.out _ _ trivial (fun _ => ?_); clear hK K; try simp only [Act.put, List.setIfInBounds_toArray, List.set_cons_zero, List.set_cons_succ]; try simp only [List.getElem_toArray, List.getElem_cons_succ, List.getElem_cons_zero])
          refine wpAnyH_ready (rs := [16]) (by kernel_rfl) (by simp) ?_
          refine AllReadyH.cons rfl (fun K hK => ?b30) (AllReadyH.nil)
          case b30 =>
            (refine step_appRs 29 tyF k1 rR o3 n3.out rfl rfl (.tmp 21) (.tmp 28) rfl rfl rfl ?_; intro v3 w6 m1 m2 m3; have q3 := ext_app0 q1 f1 m2; have f3 := m3.fresh f1 q1.size; have hf := hfin.out v3 w6 (ext_trans x1 q3) m1 (f3.mono hz1); have d6 := hbd (ext_trans x1 q3); have z6 := hz (ext_trans x1 q3); obtain ⟨A3, l3, c3, hv3⟩ : ∃ A n c, v3 = Value.slice A n c := (by obtain ⟨A, c, h⟩ := m1.shape; exact ⟨A, _, c, h⟩); clear m1 m2 m3 f3; subst hv3; refine hK.out _ _ trivial (fun _ => ?_); clear hK K; try simp only [Act.put, List.setIfInBounds_toArray, List.set_cons_zero, List.set_cons_succ]; try simp only [List.getElem_toArray, List.getElem_cons_succ, List.getElem_cons_zero])
            (refine wpAnyH_take (i := 17) (oi := ⟨_, _, _, _, _, _⟩) (v := ?tv34) rfl (by kernel_rfl) (by kernel_rfl) (by kernel_rfl) (fun _ _ _ h => h) (Or.inl ⟨by kernel_rfl, ?hy34⟩) trivial ?rs34; (case hy34 => (intro wx hSw; (try dsimp only at hSw); go_simp; try with_reducible rfl)); try simp only [Act.put, List.setIfInBounds_toArray, List.set_cons_zero, List.set_cons_succ]; try simp only [List.getElem_toArray, List.getElem_cons_succ, List.getElem_cons_zero])
            (refine wpAnyH_take (i := 18) (oi := ⟨_, _, _, _, _, _⟩) (v := ?tv35) rfl (by kernel_rfl) (by kernel_rfl) (by kernel_rfl) (fun _ _ _ h => h) (Or.inl ⟨by kernel_rfl, ?hy35⟩) trivial ?rs35; (case hy35 => (intro wx hSw; (try dsimp only at hSw); go_simp; try with_reducible rfl)); try simp only [Act.put, List.setIfInBounds_toArray, List.set_cons_zero, List.set_cons_succ]; try simp only [List.getElem_toArray, List.getElem_cons_succ, List.getElem_cons_zero])
            (refine wpAnyH_ready (rs := [19]) (by kernel_rfl) (by simp) ?_; refine AllReadyH.cons rfl (fun K hK => ?_) AllReadyH.nil)
            go_simp
            (go_wp2_with fail; refine hK.out _ _ trivial (fun _ => ?_); clear hK K; try simp only [Act.put, List.setIfInBounds_toArray, List.set_cons_zero, List.set_cons_succ]; try simp only [List.getElem_toArray, List.getElem_cons_succ, List.getElem_cons_zero])
            refine wpAnyH_done (by kernel_rfl) ?_ _
            obtain ⟨g1, g2⟩ := hf
            clear hfin
            go_wp2_with fail
            go_end0
            exact ⟨rfl, g1.rd, g2⟩
    case b27 =>
      go_simp
      (go_wp2_with fail; refine hK.out _ _ trivial (fun _ => ?_); clear hK K; try simp only [Act.put, List.setIfInBounds_toArray, List.set_cons_zero, List.set_cons_succ]; try simp only [List.getElem_toArray, List.getElem_cons_succ, List.getElem_cons_zero])
      (refine wpAnyH_take (i := 7) (oi := ⟨_, _, _, _, _, _⟩) (v := ?tv36) rfl (by kernel_rfl) (by kernel_rfl) (by kernel_rfl) (fun _ _ _ h => h) (Or.inl ⟨by kernel_rfl, ?hy36⟩) trivial ?rs36; (case hy36 => (intro wx hSw; (try dsimp only at hSw); go_simp; try with_reducible rfl)); try simp only [Act.put, List.setIfInBounds_toArray, List.set_cons_zero, List.set_cons_succ]; try simp only [List.getElem_toArray, List.getElem_cons_succ, List.getElem_cons_zero])
      refine wpAnyH_ready (rs := [1]) (by kernel_rfl) (by simp) ?_
      refine AllReadyH.cons rfl (fun K hK => ?b31) (AllReadyH.nil)
      case b31 =>
        go_simp
        (go_wp2_with fail; refine hK.out _ _ trivial (fun _ => ?_); clear hK K; try simp only [Act.put, List.setIfInBounds_toArray, List.set_cons_zero, List.set_cons_succ]; try simp only [List.getElem_toArray, List.getElem_cons_succ, List.getElem_cons_zero])
        refine wpAnyH_ready (rs := [8]) (by kernel_rfl) (by simp) ?_
        refine AllReadyH.cons rfl (fun K hK => ?b32) (AllReadyH.nil)
        case b32 =>
          (refine step_appRs 21 tyF oE rB o1 n1.out rfl rfl (.tmp 14) (.tmp 20) rfl rfl rfl ?_; intro v1 w4 k1 k2 k3; have q1 := ext_app0 qE fE k2; have f1 := k3.fresh fE qE.size; have d4 := hbd (ext_trans x1 q1); have rR := hrR.ext (ext_trans x1 q1); refine hK.out _ _ trivial (fun _ => ?_); clear hK K; try simp only [Act.put, List.setIfInBounds_toArray, List.set_cons_zero, List.set_cons_succ]; try simp only [List.getElem_toArray, List.getElem_cons_succ, List.getElem_cons_zero])
          refine wpAnyH_ready (rs := [16]) (by kernel_rfl) (by simp) ?_
          refine AllReadyH.cons rfl (fun K hK => ?b33) (AllReadyH.nil)
          case b33 =>
            (refine step_appRs 29 tyF k1 rR o3 n3.out rfl rfl (.tmp 21) (.tmp 28) rfl rfl rfl ?_; intro v3 w6 m1 m2 m3; have q3 := ext_app0 q1 f1 m2; have f3 := m3.fresh f1 q1.size; have hf := hfin.out v3 w6 (ext_trans x1 q3) m1 (f3.mono hz1); have d6 := hbd (ext_trans x1 q3); have z6 := hz (ext_trans x1 q3); obtain ⟨A3, l3, c3, hv3⟩ : ∃ A n c, v3 = Value.slice A n c := (by obtain ⟨A, c, h⟩ := m1.shape; exact ⟨A, _, c, h⟩); clear m1 m2 m3 f3; subst hv3; refine hK.out _ _ trivial (fun _ => ?_); clear hK K; try simp only [Act.put, List.setIfInBounds_toArray, List.set_cons_zero, List.set_cons_succ]; try simp only [List.getElem_toArray, List.getElem_cons_succ, List.getElem_cons_zero])
            (refine wpAnyH_take (i := 17) (oi := ⟨_, _, _, _, _, _⟩) (v := ?tv37) rfl (by kernel_rfl) (by kernel_rfl) (by kernel_rfl) (fun _ _ _ h => h) (Or.inl ⟨by kernel_rfl, ?hy37⟩) trivial ?rs37; (case hy37 => (intro wx hSw; (try dsimp only at hSw); go_simp; try with_reducible rfl)); try simp only [Act.put, List.setIfInBounds_toArray, List.set_cons_zero, List.set_cons_succ]; try simp only [List.getElem_toArray, List.getElem_cons_succ, List.getElem_cons_zero])
            (refine wpAnyH_take (i := 18) (oi := ⟨_, _, _, _, _, _⟩) (v := ?tv38) rfl (by kernel_rfl) (by kernel_rfl) (by kernel_rfl) (fun _ _ _ h => h) (Or.inl ⟨by kernel_rfl, ?hy38⟩) trivial ?rs38; (case hy38 => (intro wx hSw; (try dsimp only at hSw); go_simp; try with_reducible rfl)); try simp only [Act.put, List.setIfInBounds_toArray, List.set_cons_zero, List.set_cons_succ]; try simp only [List.getElem_toArray, List.getElem_cons_succ, List.getElem_cons_zero])
            (refine wpAnyH_ready (rs := [19]) (by kernel_rfl) (by simp) ?_; refine AllReadyH.cons rfl (fun K hK => ?_) AllReadyH.nil)
            go_simp
            (go_wp2_with fail; refine hK.out _ _ trivial (fun _ => ?_); clear hK K; try simp only [Act.put, List.setIfInBounds_toArray, List.set_cons_zero, List.set_cons_succ]; try simp only [List.getElem_toArray, List.getElem_cons_succ, List.getElem_cons_zero])
            refine wpAnyH_done (by kernel_rfl) ?_ _
            obtain ⟨g1, g2⟩ := hf
            clear hfin
            go_wp2_with fail
            go_end0
            exact ⟨rfl, g1.rd, g2⟩
end
end Go.Proofs.YtblfhonfjljndaaDoor
