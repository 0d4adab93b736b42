/- disk: the document's remove. -/
import Derived.Test.YtblfhonfjljndaaDoorRdL
namespace Go.Proofs.YtblfhonfjljndaaDoor
open Go.RowKit Go.Maps Go.WideMaps
set_option maxRecDepth 100000

section
variable {S T F V : Nat → Prop} {w w' : World} {bd : Nat} {vL v y : Value} {A : List (Fi × Value)} {d : Ds} {b : List UInt8}
set_option maxHeartbeats 32000000 in
theorem rem_someB {p : Addr} {n : Nat} {f : Fi} (h : RdAt S w bd (.slice (some p) (n + 1) (n + 1)) A d) (hN : d.L.length = (n + 1)) (x : List UInt8) (hx : getF d.L x = some f) (hn : posF d.L x = n) (hc9 : (n + 1) ≤ 9223372036854775807)  :
    Calls Tryd.prog 64 #[pv bd, sv x] w fun e w' => e = .returned (.tuple #[]) ∧ Dz (Grow S w) w' (pv bd) { d with L := delF d.L x } ∧ Mod (fun k => k = bd) w w' := by
  have hcs := spot_any h x
  rw [hx, hn] at hcs
  simp only [Option.isSome_some] at hcs
  have hlen : A.length = (n + 1) := h.len.trans hN
  have hfew := h.few
  have hone := fiv_one h.slices
  have hnl : n < (n + 1) := by
    obtain ⟨n', _, hi, e, _⟩ := h.found hx
    omega
  have hbd : ∀ {wx : World}, Ext w wx → wx.cell? ⟨bd, 1, none⟩ = some (.slice (some p) (n + 1) (n + 1)) := fun q => (h.mod q (fun _ _ _ h => h)).blk.cell 1
  have hz : ∀ {wx : World}, Ext w wx → wx.frozen? ⟨bd, 1, none⟩ = false := fun q => (h.mod q (fun _ _ _ h => h)).blk.frozen 1
  have hrc : Rc fiv 3 w (own (.slice (some p) (n + 1) (n + 1))) (.slice (some p) A.length (n + 1)) A := by rw [hlen]; exact h.row.rc
  have hrB : Rc fiv 3 w (own (.slice (some p) (n + 1) (n + 1))) (.slice (some p) n (n + 1)) (A.take n) := hrc.begin fiv_len (m := n) (by omega)
  have hrR : Rc fiv 3 w (own (.slice (some p) (n + 1) (n + 1))) (.slice (some p) 0 0) (A.drop (n + 1)) := (by have := hrc.rest0 (m := n + 1) (by omega) rfl; rw [hlen, Nat.sub_self] at this; exact this)
  have hfin := fun (v3 : Value) (w6 : World) (q : Ext w w6) (ho : OwnR fiv 3 w6 fileT v3 (([] ++ A.take n) ++ A.drop (n + 1))) (hf : Fresh w.heap.size v3) => rem_fin h hx q (by rw [hn]; exact ho) hf
  rw [hn] at hfin
  replace hfin := Lib.hid hfin
  have hn0 : (0 : Int) ≤ (n : Int) := by omega
  have hn1 : (n : Int) ≤ ((n + 1) : Int) := by omega
  have hn2 : (n : Int) ≤ ((n + 1) : Int) := by omega
  have hn3 : (0 : Int) ≤ (n : Int) + 1 := by omega
  have hn4 : (n : Int) + 1 ≤ ((n + 1) : Int) := by omega
  have hw1 : IntKind.i64.wrap ((n : Int) + 1) = (n : Int) + 1 := IntWalk.i64_in _ ⟨by omega, by omega⟩

  have hAl : A.length ≤ 4096 := by omega
  clear h hrc hN hn hx
  go_enter Tryd.func64, Tryd.ntmps64
  go_wp2_with fail
  refine hcs.mono ?_
  rintro e w1 ⟨rfl, x1⟩
  clear hcs
  have hz1 := x1.size
  have qE : Ext w1 ((w1.alloc (.cells #[] fileT)).drew) := ((Mod.refl _ _).alloc _).drew
  have oE := (OwnR.empty fiv 3 w1 fileT).ext (Mod.refl _ (w1.alloc (.cells #[] fileT))).drew
  have fE : Fresh w1.heap.size (.slice (some ⟨w1.heap.size, 0, none⟩) 0 0) := fresh_new (Nat.le_refl _)
  have rB := hrB.ext (ext_trans x1 qE)
  have d0 : w1.drew.cell? ⟨bd, 1, none⟩ = some (.slice (some p) (n + 1) (n + 1)) := hbd (ext_trans x1 (Mod.refl _ w1).drew)
  have dE : ((w1.alloc (.cells #[] 74)).drew).cell? ⟨bd, 1, none⟩ = some (.slice (some p) (n + 1) (n + 1)) := hbd (ext_trans x1 qE)
  have n1 : (([] : List (Fi × Value)).length + (A.take n).length) * 48 ≤ 140737488355328 := by rw [List.length_nil, List.length_take]; omega
  have n3 : ((([] : List (Fi × Value)) ++ A.take n).length + (A.drop (n + 1)).length) * 48 ≤ 140737488355328 := by simp only [List.length_append, List.length_nil, List.length_take, List.length_drop]; omega
  have o1 : ∀ a ∈ A.take n, ∀ u ∈ fiv a, u.oneCell' = true := fun a ha => hone a (List.mem_of_mem_take ha)
  have o3 : ∀ a ∈ A.drop (n + 1), ∀ u ∈ fiv a, u.oneCell' = true := fun a ha => hone a (List.mem_of_mem_drop ha)
  replace n1 := Lib.hid n1
  replace n3 := Lib.hid n3
  clear hone
  go_wp2_with fail
  refine wp_region_held_drew (S := fun _ => True) (by kernel_rfl) trivial (fun _ => ?_)
  (refine wpAnyH_take (i := 0) (oi := ⟨_, _, _, _, _, _⟩) (v := ?tv39) rfl (by kernel_rfl) (by kernel_rfl) (by kernel_rfl) (fun _ _ _ h => h) (Or.inl ⟨by kernel_rfl, ?hy39⟩) trivial ?rs39; (case hy39 => (intro wx hSw; (try dsimp only at hSw); go_simp; try with_reducible rfl)); try simp only [Act.put, List.setIfInBounds_toArray, List.set_cons_zero, List.set_cons_succ]; try simp only [List.getElem_toArray, List.getElem_cons_succ, List.getElem_cons_zero])
  (refine wpAnyH_take (i := 2) (oi := ⟨_, _, _, _, _, _⟩) (v := ?tv40) rfl (by kernel_rfl) (by kernel_rfl) (by kernel_rfl) (fun _ _ _ h => h) (Or.inl ⟨by kernel_rfl, ?hy40⟩) trivial ?rs40; (case hy40 => (intro wx hSw; (try dsimp only at hSw); go_simp; try with_reducible rfl)); try simp only [Act.put, List.setIfInBounds_toArray, List.set_cons_zero, List.set_cons_succ]; try simp only [List.getElem_toArray, List.getElem_cons_succ, List.getElem_cons_zero])
  (refine wpAnyH_take (i := 3) (oi := ⟨_, _, _, _, _, _⟩) (v := ?tv41) rfl (by kernel_rfl) (by kernel_rfl) (by kernel_rfl) (fun _ _ _ h => h) (Or.inl ⟨by kernel_rfl, ?hy41⟩) trivial ?rs41; (case hy41 => (intro wx hSw; (try dsimp only at hSw); go_simp; try with_reducible rfl)); try simp only [Act.put, List.setIfInBounds_toArray, List.set_cons_zero, List.set_cons_succ]; try simp only [List.getElem_toArray, List.getElem_cons_succ, List.getElem_cons_zero])
  (refine wpAnyH_take (i := 4) (oi := ⟨_, _, _, _, _, _⟩) (v := ?tv42) rfl (by kernel_rfl) (by kernel_rfl) (by kernel_rfl) (fun _ _ _ h => h) (Or.inl ⟨by kernel_rfl, ?hy42⟩) trivial ?rs42; (case hy42 => (intro wx hSw; (try dsimp only at hSw); go_simp; try with_reducible rfl)); try simp only [Act.put, List.setIfInBounds_toArray, List.set_cons_zero, List.set_cons_succ]; try simp only [List.getElem_toArray, List.getElem_cons_succ, List.getElem_cons_zero])
  (refine wpAnyH_take (i := 6) (oi := ⟨_, _, _, _, _, _⟩) (v := ?tv43) rfl (by kernel_rfl) (by kernel_rfl) (by kernel_rfl) (fun _ _ _ h => h) (Or.inl ⟨by kernel_rfl, ?hy43⟩) trivial ?rs43; (case hy43 => (intro wx hSw; (try dsimp only at hSw); go_simp; try with_reducible rfl)); try simp only [Act.put, List.setIfInBounds_toArray, List.set_cons_zero, List.set_cons_succ]; try simp only [List.getElem_toArray, List.getElem_cons_succ, List.getElem_cons_zero])
  (refine wpAnyH_take (i := 9) (oi := ⟨_, _, _, _, _, _⟩) (v := ?tv44) rfl (by kernel_rfl) (by kernel_rfl) (by kernel_rfl) (fun _ _ _ h => h) (Or.inl ⟨by kernel_rfl, ?hy44⟩) trivial ?rs44; (case hy44 => (intro wx hSw; (try dsimp only at hSw); go_simp; try with_reducible rfl)); try simp only [Act.put, List.setIfInBounds_toArray, List.set_cons_zero, List.set_cons_succ]; try simp only [List.getElem_toArray, List.getElem_cons_succ, List.getElem_cons_zero])
  (refine wpAnyH_take (i := 10) (oi := ⟨_, _, _, _, _, _⟩) (v := ?tv45) rfl (by kernel_rfl) (by kernel_rfl) (by kernel_rfl) (fun _ _ _ h => h) (Or.inl ⟨by kernel_rfl, ?hy45⟩) trivial ?rs45; (case hy45 => (intro wx hSw; (try dsimp only at hSw); go_simp; try with_reducible rfl)); try simp only [Act.put, List.setIfInBounds_toArray, List.set_cons_zero, List.set_cons_succ]; try simp only [List.getElem_toArray, List.getElem_cons_succ, List.getElem_cons_zero])
  (refine wpAnyH_take (i := 11) (oi := ⟨_, _, _, _, _, _⟩) (v := ?tv46) rfl (by kernel_rfl) (by kernel_rfl) (by kernel_rfl) (fun _ _ _ h => h) (Or.inl ⟨by kernel_rfl, ?hy46⟩) trivial ?rs46; (case hy46 => (intro wx hSw; (try dsimp only at hSw); go_simp; try with_reducible rfl)); try simp only [Act.put, List.setIfInBounds_toArray, List.set_cons_zero, List.set_cons_succ]; try simp only [List.getElem_toArray, List.getElem_cons_succ, List.getElem_cons_zero])
  (refine wpAnyH_take (i := 13) (oi := ⟨_, _, _, _, _, _⟩) (v := ?tv47) rfl (by kernel_rfl) (by kernel_rfl) (by kernel_rfl) (fun _ _ _ h => h) (Or.inl ⟨by kernel_rfl, ?hy47⟩) trivial ?rs47; (case hy47 => (intro wx hSw; (try dsimp only at hSw); go_simp; try with_reducible rfl)); try simp only [Act.put, List.setIfInBounds_toArray, List.set_cons_zero, List.set_cons_succ]; try simp only [List.getElem_toArray, List.getElem_cons_succ, List.getElem_cons_zero])
  (refine wpAnyH_take (i := 14) (oi := ⟨_, _, _, _, _, _⟩) (v := ?tv48) rfl (by kernel_rfl) (by kernel_rfl) (by kernel_rfl) (fun _ _ _ h => h) (Or.inl ⟨by kernel_rfl, ?hy48⟩) trivial ?rs48; (case hy48 => (intro wx hSw; (try dsimp only at hSw); go_simp; try with_reducible rfl)); try simp only [Act.put, List.setIfInBounds_toArray, List.set_cons_zero, List.set_cons_succ]; try simp only [List.getElem_toArray, List.getElem_cons_succ, List.getElem_cons_zero])
  refine wpAnyH_ready (rs := [1, 5, 12]) (by kernel_rfl) (by simp) ?_
  refine AllReadyH.cons rfl (fun K hK => ?b1) (AllReadyH.cons rfl (fun K hK => ?b2) (AllReadyH.cons rfl (fun K hK => ?b3) (AllReadyH.nil)))
  case b1 =>
    go_simp
    (go_wp2_with fail; refine hK.out _ _ trivial (fun _ => ?_); clear hK K; try simp only [Act.put, List.setIfInBounds_toArray, List.set_cons_zero, List.set_cons_succ]; try simp only [List.getElem_toArray, List.getElem_cons_succ, List.getElem_cons_zero])
    refine wpAnyH_ready (rs := [5, 12]) (by kernel_rfl) (by simp) ?_
    refine AllReadyH.cons rfl (fun K hK => ?b4) (AllReadyH.cons rfl (fun K hK => ?b5) (AllReadyH.nil))
    case b4 =>
      go_simp
      (go_wp2_with fail; refine hK.out _ _ trivial (fun _ => ?_); clear hK K; try simp only [Act.put, List.setIfInBounds_toArray, List.set_cons_zero, List.set_cons_succ]; try simp only [List.getElem_toArray, List.getElem_cons_succ, List.getElem_cons_zero])
      (refine wpAnyH_take (i := 7) (oi := ⟨_, _, _, _, _, _⟩) (v := ?tv49) rfl (by kernel_rfl) (by kernel_rfl) (by kernel_rfl) (fun _ _ _ h => h) (Or.inl ⟨by kernel_rfl, ?hy49⟩) trivial ?rs49; (case hy49 => (intro wx hSw; (try dsimp only at hSw); go_simp; try with_reducible rfl)); try simp only [Act.put, List.setIfInBounds_toArray, List.set_cons_zero, List.set_cons_succ]; try simp only [List.getElem_toArray, List.getElem_cons_succ, List.getElem_cons_zero])
      refine wpAnyH_ready (rs := [8, 12]) (by kernel_rfl) (by simp) ?_
      refine AllReadyH.cons rfl (fun K hK => ?b6) (AllReadyH.cons rfl (fun K hK => ?b7) (AllReadyH.nil))
      case b6 =>
        (refine step_appRs 21 tyF oE rB o1 n1.out rfl rfl (.tmp 14) (.tmp 20) rfl rfl rfl ?_; intro v1 w4 k1 k2 k3; have q1 := ext_app0 qE fE k2; have f1 := k3.fresh fE qE.size; have d4 := hbd (ext_trans x1 q1); have rR := hrR.ext (ext_trans x1 q1); refine hK.out _ _ trivial (fun _ => ?_); clear hK K; try simp only [Act.put, List.setIfInBounds_toArray, List.set_cons_zero, List.set_cons_succ]; try simp only [List.getElem_toArray, List.getElem_cons_succ, List.getElem_cons_zero])
        refine wpAnyH_ready (rs := [12]) (by kernel_rfl) (by simp) ?_
        refine AllReadyH.cons rfl (fun K hK => ?b8) (AllReadyH.nil)
        case b8 =>
          go_simp
          (go_wp2_with fail; refine hK.out _ _ trivial (fun _ => ?_); clear hK K; try simp only [Act.put, List.setIfInBounds_toArray, List.set_cons_zero, List.set_cons_succ]; try simp only [List.getElem_toArray, List.getElem_cons_succ, List.getElem_cons_zero])
          (refine wpAnyH_take (i := 15) (oi := ⟨_, _, _, _, _, _⟩) (v := ?tv50) rfl (by kernel_rfl) (by kernel_rfl) (by kernel_rfl) (fun _ _ _ h => h) (Or.inl ⟨by kernel_rfl, ?hy50⟩) trivial ?rs50; (case hy50 => (intro wx hSw; (try dsimp only at hSw); go_simp; try with_reducible rfl)); try simp only [Act.put, List.setIfInBounds_toArray, List.set_cons_zero, List.set_cons_succ]; try simp only [List.getElem_toArray, List.getElem_cons_succ, List.getElem_cons_zero])
          refine wpAnyH_ready (rs := [16]) (by kernel_rfl) (by simp) ?_
          refine AllReadyH.cons rfl (fun K hK => ?b9) (AllReadyH.nil)
          case b9 =>
            (refine step_appRs 29 tyF k1 rR o3 n3.out rfl rfl (.tmp 21) (.tmp 28) rfl rfl rfl ?_; intro v3 w6 m1 m2 m3; have q3 := ext_app0 q1 f1 m2; have f3 := m3.fresh f1 q1.size; have hf := hfin.out v3 w6 (ext_trans x1 q3) m1 (f3.mono hz1); have d6 := hbd (ext_trans x1 q3); have z6 := hz (ext_trans x1 q3); obtain ⟨A3, l3, c3, hv3⟩ : ∃ A n c, v3 = Value.slice A n c := (by obtain ⟨A, c, h⟩ := m1.shape; exact ⟨A, _, c, h⟩); clear m1 m2 m3 f3; subst hv3; refine hK.out _ _ trivial (fun _ => ?_); clear hK K; try simp only [Act.put, List.setIfInBounds_toArray, List.set_cons_zero, List.set_cons_succ]; try simp only [List.getElem_toArray, List.getElem_cons_succ, List.getElem_cons_zero])
            (refine wpAnyH_take (i := 17) (oi := ⟨_, _, _, _, _, _⟩) (v := ?tv51) rfl (by kernel_rfl) (by kernel_rfl) (by kernel_rfl) (fun _ _ _ h => h) (Or.inl ⟨by kernel_rfl, ?hy51⟩) trivial ?rs51; (case hy51 => (intro wx hSw; (try dsimp only at hSw); go_simp; try with_reducible rfl)); try simp only [Act.put, List.setIfInBounds_toArray, List.set_cons_zero, List.set_cons_succ]; try simp only [List.getElem_toArray, List.getElem_cons_succ, List.getElem_cons_zero])
            (refine wpAnyH_take (i := 18) (oi := ⟨_, _, _, _, _, _⟩) (v := ?tv52) rfl (by kernel_rfl) (by kernel_rfl) (by kernel_rfl) (fun _ _ _ h => h) (Or.inl ⟨by kernel_rfl, ?hy52⟩) trivial ?rs52; (case hy52 => (intro wx hSw; (try dsimp only at hSw); go_simp; try with_reducible rfl)); try simp only [Act.put, List.setIfInBounds_toArray, List.set_cons_zero, List.set_cons_succ]; try simp only [List.getElem_toArray, List.getElem_cons_succ, List.getElem_cons_zero])
            (refine wpAnyH_ready (rs := [19]) (by kernel_rfl) (by simp) ?_; refine AllReadyH.cons rfl (fun K hK => ?_) AllReadyH.nil)
            go_simp
            (go_wp2_with fail; refine hK.out _ _ trivial (fun _ => ?_); clear hK K; try simp only [Act.put, List.setIfInBounds_toArray, List.set_cons_zero, List.set_cons_succ]; try simp only [List.getElem_toArray, List.getElem_cons_succ, List.getElem_cons_zero])
            refine wpAnyH_done (by kernel_rfl) ?_ _
            obtain ⟨g1, g2⟩ := hf
            clear hfin
            go_wp2_with fail
            go_end0
            exact ⟨rfl, g1.rd, g2⟩
      case b7 =>
        go_simp
        (go_wp2_with fail; refine hK.out _ _ trivial (fun _ => ?_); clear hK K; try simp only [Act.put, List.setIfInBounds_toArray, List.set_cons_zero, List.set_cons_succ]; try simp only [List.getElem_toArray, List.getElem_cons_succ, List.getElem_cons_zero])
        (refine wpAnyH_take (i := 15) (oi := ⟨_, _, _, _, _, _⟩) (v := ?tv53) rfl (by kernel_rfl) (by kernel_rfl) (by kernel_rfl) (fun _ _ _ h => h) (Or.inl ⟨by kernel_rfl, ?hy53⟩) trivial ?rs53; (case hy53 => (intro wx hSw; (try dsimp only at hSw); go_simp; try with_reducible rfl)); try simp only [Act.put, List.setIfInBounds_toArray, List.set_cons_zero, List.set_cons_succ]; try simp only [List.getElem_toArray, List.getElem_cons_succ, List.getElem_cons_zero])
        refine wpAnyH_ready (rs := [8]) (by kernel_rfl) (by simp) ?_
        refine AllReadyH.cons rfl (fun K hK => ?b10) (AllReadyH.nil)
        case b10 =>
          (refine step_appRs 21 tyF oE rB o1 n1.out rfl rfl (.tmp 14) (.tmp 20) rfl rfl rfl ?_; intro v1 w4 k1 k2 k3; have q1 := ext_app0 qE fE k2; have f1 := k3.fresh fE qE.size; have d4 := hbd (ext_trans x1 q1); have rR := hrR.ext (ext_trans x1 q1); refine hK.out _ _ trivial (fun _ => ?_); clear hK K; try simp only [Act.put, List.setIfInBounds_toArray, List.set_cons_zero, List.set_cons_succ]; try simp only [List.getElem_toArray, List.getElem_cons_succ, List.getElem_cons_zero])
          refine wpAnyH_ready (rs := [16]) (by kernel_rfl) (by simp) ?_
          refine AllReadyH.cons rfl (fun K hK => ?b11) (AllReadyH.nil)
          case b11 =>
            (refine step_appRs 29 tyF k1 rR o3 n3.out rfl rfl (.tmp 21) (.tmp 28) rfl rfl rfl ?_; intro v3 w6 m1 m2 m3; have q3 := ext_app0 q1 f1 m2; have f3 := m3.fresh f1 q1.size; have hf := hfin.out v3 w6 (ext_trans x1 q3) m1 (f3.mono hz1); have d6 := hbd (ext_trans x1 q3); have z6 := hz (ext_trans x1 q3); obtain ⟨A3, l3, c3, hv3⟩ : ∃ A n c, v3 = Value.slice A n c := (by obtain ⟨A, c, h⟩ := m1.shape; exact ⟨A, _, c, h⟩); clear m1 m2 m3 f3; subst hv3; refine hK.out _ _ trivial (fun _ => ?_); clear hK K; try simp only [Act.put, List.setIfInBounds_toArray, List.set_cons_zero, List.set_cons_succ]; try simp only [List.getElem_toArray, List.getElem_cons_succ, List.getElem_cons_zero])
            (refine wpAnyH_take (i := 17) (oi := ⟨_, _, _, _, _, _⟩) (v := ?tv54) rfl (by kernel_rfl) (by kernel_rfl) (by kernel_rfl) (fun _ _ _ h => h) (Or.inl ⟨by kernel_rfl, ?hy54⟩) trivial ?rs54; (case hy54 => (intro wx hSw; (try dsimp only at hSw); go_simp; try with_reducible rfl)); try simp only [Act.put, List.setIfInBounds_toArray, List.set_cons_zero, List.set_cons_succ]; try simp only [List.getElem_toArray, List.getElem_cons_succ, List.getElem_cons_zero])
            (refine wpAnyH_take (i := 18) (oi := ⟨_, _, _, _, _, _⟩) (v := ?tv55) rfl (by kernel_rfl) (by kernel_rfl) (by kernel_rfl) (fun _ _ _ h => h) (Or.inl ⟨by kernel_rfl, ?hy55⟩) trivial ?rs55; (case hy55 => (intro wx hSw; (try dsimp only at hSw); go_simp; try with_reducible rfl)); try simp only [Act.put, List.setIfInBounds_toArray, List.set_cons_zero, List.set_cons_succ]; try simp only [List.getElem_toArray, List.getElem_cons_succ, List.getElem_cons_zero])
            (refine wpAnyH_ready (rs := [19]) (by kernel_rfl) (by simp) ?_; refine AllReadyH.cons rfl (fun K hK => ?_) AllReadyH.nil)
            go_simp
            (go_wp2_with fail; refine hK.out _ _ trivial (fun _ => ?_); clear hK K; try simp only [Act.put, List.setIfInBounds_toArray, List.set_cons_zero, List.set_cons_succ]; try simp only [List.getElem_toArray, List.getElem_cons_succ, List.getElem_cons_zero])
            refine wpAnyH_done (by kernel_rfl) ?_ _
            obtain ⟨g1, g2⟩ := hf
            clear hfin
            go_wp2_with fail
            go_end0
            exact ⟨rfl, g1.rd, g2⟩
    case b5 =>
      go_simp
      (go_wp2_with fail; refine hK.out _ _ trivial (fun _ => ?_); clear hK K; try simp only [Act.put, List.setIfInBounds_toArray, List.set_cons_zero, List.set_cons_succ]; try simp only [List.getElem_toArray, List.getElem_cons_succ, List.getElem_cons_zero])
      (refine wpAnyH_take (i := 15) (oi := ⟨_, _, _, _, _, _⟩) (v := ?tv56) rfl (by kernel_rfl) (by kernel_rfl) (by kernel_rfl) (fun _ _ _ h => h) (Or.inl ⟨by kernel_rfl, ?hy56⟩) trivial ?rs56; (case hy56 => (intro wx hSw; (try dsimp only at hSw); go_simp; try with_reducible rfl)); try simp only [Act.put, List.setIfInBounds_toArray, List.set_cons_zero, List.set_cons_succ]; try simp only [List.getElem_toArray, List.getElem_cons_succ, List.getElem_cons_zero])
      refine wpAnyH_ready (rs := [5]) (by kernel_rfl) (by simp) ?_
      refine AllReadyH.cons rfl (fun K hK => ?b12) (AllReadyH.nil)
      case b12 =>
        go_simp
        (go_wp2_with fail; refine hK.out _ _ trivial (fun _ => ?_); clear hK K; try simp only [Act.put, List.setIfInBounds_toArray, List.set_cons_zero, List.set_cons_succ]; try simp only [List.getElem_toArray, List.getElem_cons_succ, List.getElem_cons_zero])
        (refine wpAnyH_take (i := 7) (oi := ⟨_, _, _, _, _, _⟩) (v := ?tv57) rfl (by kernel_rfl) (by kernel_rfl) (by kernel_rfl) (fun _ _ _ h => h) (Or.inl ⟨by kernel_rfl, ?hy57⟩) trivial ?rs57; (case hy57 => (intro wx hSw; (try dsimp only at hSw); go_simp; try with_reducible rfl)); try simp only [Act.put, List.setIfInBounds_toArray, List.set_cons_zero, List.set_cons_succ]; try simp only [List.getElem_toArray, List.getElem_cons_succ, List.getElem_cons_zero])
        refine wpAnyH_ready (rs := [8]) (by kernel_rfl) (by simp) ?_
        refine AllReadyH.cons rfl (fun K hK => ?b13) (AllReadyH.nil)
        case b13 =>
          (refine step_appRs 21 tyF oE rB o1 n1.out rfl rfl (.tmp 14) (.tmp 20) rfl rfl rfl ?_; intro v1 w4 k1 k2 k3; have q1 := ext_app0 qE fE k2; have f1 := k3.fresh fE qE.size; have d4 := hbd (ext_trans x1 q1); have rR := hrR.ext (ext_trans x1 q1); refine hK.out _ _ trivial (fun _ => ?_); clear hK K; try simp only [Act.put, List.setIfInBounds_toArray, List.set_cons_zero, List.set_cons_succ]; try simp only [List.getElem_toArray, List.getElem_cons_succ, List.getElem_cons_zero])
          refine wpAnyH_ready (rs := [16]) (by kernel_rfl) (by simp) ?_
          refine AllReadyH.cons rfl (fun K hK => ?b14) (AllReadyH.nil)
          case b14 =>
            (refine step_appRs 29 tyF k1 rR o3 n3.out rfl rfl (.tmp 21) (.tmp 28) rfl rfl rfl ?_; intro v3 w6 m1 m2 m3; have q3 := ext_app0 q1 f1 m2; have f3 := m3.fresh f1 q1.size; have hf := hfin.out v3 w6 (ext_trans x1 q3) m1 (f3.mono hz1); have d6 := hbd (ext_trans x1 q3); have z6 := hz (ext_trans x1 q3); obtain ⟨A3, l3, c3, hv3⟩ : ∃ A n c, v3 = Value.slice A n c := (by obtain ⟨A, c, h⟩ := m1.shape; exact ⟨A, _, c, h⟩); clear m1 m2 m3 f3; subst hv3; refine hK.out _ _ trivial (fun _ => ?_); clear hK K; try simp only [Act.put, List.setIfInBounds_toArray, List.set_cons_zero, List.set_cons_succ]; try simp only [List.getElem_toArray, List.getElem_cons_succ, List.getElem_cons_zero])
            (refine wpAnyH_take (i := 17) (oi := ⟨_, _, _, _, _, _⟩) (v := ?tv58) rfl (by kernel_rfl) (by kernel_rfl) (by kernel_rfl) (fun _ _ _ h => h) (Or.inl ⟨by kernel_rfl, ?hy58⟩) trivial ?rs58; (case hy58 => (intro wx hSw; (try dsimp only at hSw); go_simp; try with_reducible rfl)); try simp only [Act.put, List.setIfInBounds_toArray, List.set_cons_zero, List.set_cons_succ]; try simp only [List.getElem_toArray, List.getElem_cons_succ, List.getElem_cons_zero])
            (refine wpAnyH_take (i := 18) (oi := ⟨_, _, _, _, _, _⟩) (v := ?tv59) rfl (by kernel_rfl) (by kernel_rfl) (by kernel_rfl) (fun _ _ _ h => h) (Or.inl ⟨by kernel_rfl, ?hy59⟩) trivial ?rs59; (case hy59 => (intro wx hSw; (try dsimp only at hSw); go_simp; try with_reducible rfl)); try simp only [Act.put, List.setIfInBounds_toArray, List.set_cons_zero, List.set_cons_succ]; try simp only [List.getElem_toArray, List.getElem_cons_succ, List.getElem_cons_zero])
            (refine wpAnyH_ready (rs := [19]) (by kernel_rfl) (by simp) ?_; refine AllReadyH.cons rfl (fun K hK => ?_) AllReadyH.nil)
            go_simp
            (go_wp2_with fail; refine hK.out _ _ trivial (fun _ => ?_); clear hK K; try simp only [Act.put, List.setIfInBounds_toArray, List.set_cons_zero, List.set_cons_succ]; try simp only [List.getElem_toArray, List.getElem_cons_succ, List.getElem_cons_zero])
            refine wpAnyH_done (by kernel_rfl) ?_ _
            obtain ⟨g1, g2⟩ := hf
            clear hfin
            go_wp2_with fail
            go_end0
            exact ⟨rfl, g1.rd, g2⟩
  case b2 =>
    go_simp
    (go_wp2_with fail; refine hK.out _ _ trivial (fun _ => ?_); clear hK K; try simp only [Act.put, List.setIfInBounds_toArray, List.set_cons_zero, List.set_cons_succ]; try simp only [List.getElem_toArray, List.getElem_cons_succ, List.getElem_cons_zero])
    (refine wpAnyH_take (i := 7) (oi := ⟨_, _, _, _, _, _⟩) (v := ?tv60) rfl (by kernel_rfl) (by kernel_rfl) (by kernel_rfl) (fun _ _ _ h => h) (Or.inl ⟨by kernel_rfl, ?hy60⟩) trivial ?rs60; (case hy60 => (intro wx hSw; (try dsimp only at hSw); go_simp; try with_reducible rfl)); try simp only [Act.put, List.setIfInBounds_toArray, List.set_cons_zero, List.set_cons_succ]; try simp only [List.getElem_toArray, List.getElem_cons_succ, List.getElem_cons_zero])
    refine wpAnyH_ready (rs := [1, 12]) (by kernel_rfl) (by simp) ?_
    refine AllReadyH.cons rfl (fun K hK => ?b15) (AllReadyH.cons rfl (fun K hK => ?b16) (AllReadyH.nil))
    case b15 =>
      go_simp
      (go_wp2_with fail; refine hK.out _ _ trivial (fun _ => ?_); clear hK K; try simp only [Act.put, List.setIfInBounds_toArray, List.set_cons_zero, List.set_cons_succ]; try simp only [List.getElem_toArray, List.getElem_cons_succ, List.getElem_cons_zero])
      refine wpAnyH_ready (rs := [8, 12]) (by kernel_rfl) (by simp) ?_
      refine AllReadyH.cons rfl (fun K hK => ?b17) (AllReadyH.cons rfl (fun K hK => ?b18) (AllReadyH.nil))
      case b17 =>
        (refine step_appRs 21 tyF oE rB o1 n1.out rfl rfl (.tmp 14) (.tmp 20) rfl rfl rfl ?_; intro v1 w4 k1 k2 k3; have q1 := ext_app0 qE fE k2; have f1 := k3.fresh fE qE.size; have d4 := hbd (ext_trans x1 q1); have rR := hrR.ext (ext_trans x1 q1); refine hK.out _ _ trivial (fun _ => ?_); clear hK K; try simp only [Act.put, List.setIfInBounds_toArray, List.set_cons_zero, List.set_cons_succ]; try simp only [List.getElem_toArray, List.getElem_cons_succ, List.getElem_cons_zero])
        refine wpAnyH_ready (rs := [12]) (by kernel_rfl) (by simp) ?_
        refine AllReadyH.cons rfl (fun K hK => ?b19) (AllReadyH.nil)
        case b19 =>
          go_simp
          (go_wp2_with fail; refine hK.out _ _ trivial (fun _ => ?_); clear hK K; try simp only [Act.put, List.setIfInBounds_toArray, List.set_cons_zero, List.set_cons_succ]; try simp only [List.getElem_toArray, List.getElem_cons_succ, List.getElem_cons_zero])
          (refine wpAnyH_take (i := 15) (oi := ⟨_, _, _, _, _, _⟩) (v := ?tv61) rfl (by kernel_rfl) (by kernel_rfl) (by kernel_rfl) (fun _ _ _ h => h) (Or.inl ⟨by kernel_rfl, ?hy61⟩) trivial ?rs61; (case hy61 => (intro wx hSw; (try dsimp only at hSw); go_simp; try with_reducible rfl)); try simp only [Act.put, List.setIfInBounds_toArray, List.set_cons_zero, List.set_cons_succ]; try simp only [List.getElem_toArray, List.getElem_cons_succ, List.getElem_cons_zero])
          refine wpAnyH_ready (rs := [16]) (by kernel_rfl) (by simp) ?_
          refine AllReadyH.cons rfl (fun K hK => ?b20) (AllReadyH.nil)
          case b20 =>
            (refine step_appRs 29 tyF k1 rR o3 n3.out rfl rfl (.tmp 21) (.tmp 28) rfl rfl rfl ?_; intro v3 w6 m1 m2 m3; have q3 := ext_app0 q1 f1 m2; have f3 := m3.fresh f1 q1.size; have hf := hfin.out v3 w6 (ext_trans x1 q3) m1 (f3.mono hz1); have d6 := hbd (ext_trans x1 q3); have z6 := hz (ext_trans x1 q3); obtain ⟨A3, l3, c3, hv3⟩ : ∃ A n c, v3 = Value.slice A n c := (by obtain ⟨A, c, h⟩ := m1.shape; exact ⟨A, _, c, h⟩); clear m1 m2 m3 f3; subst hv3; refine hK.out _ _ trivial (fun _ => ?_); clear hK K; try simp only [Act.put, List.setIfInBounds_toArray, List.set_cons_zero, List.set_cons_succ]; try simp only [List.getElem_toArray, List.getElem_cons_succ, List.getElem_cons_zero])
            (refine wpAnyH_take (i := 17) (oi := ⟨_, _, _, _, _, _⟩) (v := ?tv62) rfl (by kernel_rfl) (by kernel_rfl) (by kernel_rfl) (fun _ _ _ h => h) (Or.inl ⟨by kernel_rfl, ?hy62⟩) trivial ?rs62; (case hy62 => (intro wx hSw; (try dsimp only at hSw); go_simp; try with_reducible rfl)); try simp only [Act.put, List.setIfInBounds_toArray, List.set_cons_zero, List.set_cons_succ]; try simp only [List.getElem_toArray, List.getElem_cons_succ, List.getElem_cons_zero])
            (refine wpAnyH_take (i := 18) (oi := ⟨_, _, _, _, _, _⟩) (v := ?tv63) rfl (by kernel_rfl) (by kernel_rfl) (by kernel_rfl) (fun _ _ _ h => h) (Or.inl ⟨by kernel_rfl, ?hy63⟩) trivial ?rs63; (case hy63 => (intro wx hSw; (try dsimp only at hSw); go_simp; try with_reducible rfl)); try simp only [Act.put, List.setIfInBounds_toArray, List.set_cons_zero, List.set_cons_succ]; try simp only [List.getElem_toArray, List.getElem_cons_succ, List.getElem_cons_zero])
            (refine wpAnyH_ready (rs := [19]) (by kernel_rfl) (by simp) ?_; refine AllReadyH.cons rfl (fun K hK => ?_) AllReadyH.nil)
            go_simp
            (go_wp2_with fail; refine hK.out _ _ trivial (fun _ => ?_); clear hK K; try simp only [Act.put, List.setIfInBounds_toArray, List.set_cons_zero, List.set_cons_succ]; try simp only [List.getElem_toArray, List.getElem_cons_succ, List.getElem_cons_zero])
            refine wpAnyH_done (by kernel_rfl) ?_ _
            obtain ⟨g1, g2⟩ := hf
            clear hfin
            go_wp2_with fail
            go_end0
            exact ⟨rfl, g1.rd, g2⟩
      case b18 =>
        go_simp
        (go_wp2_with fail; refine hK.out _ _ trivial (fun _ => ?_); clear hK K; try simp only [Act.put, List.setIfInBounds_toArray, List.set_cons_zero, List.set_cons_succ]; try simp only [List.getElem_toArray, List.getElem_cons_succ, List.getElem_cons_zero])
        (refine wpAnyH_take (i := 15) (oi := ⟨_, _, _, _, _, _⟩) (v := ?tv64) rfl (by kernel_rfl) (by kernel_rfl) (by kernel_rfl) (fun _ _ _ h => h) (Or.inl ⟨by kernel_rfl, ?hy64⟩) trivial ?rs64; (case hy64 => (intro wx hSw; (try dsimp only at hSw); go_simp; try with_reducible rfl)); try simp only [Act.put, List.setIfInBounds_toArray, List.set_cons_zero, List.set_cons_succ]; try simp only [List.getElem_toArray, List.getElem_cons_succ, List.getElem_cons_zero])
        refine wpAnyH_ready (rs := [8]) (by kernel_rfl) (by simp) ?_
        refine AllReadyH.cons rfl (fun K hK => ?b21) (AllReadyH.nil)
        case b21 =>
          (refine step_appRs 21 tyF oE rB o1 n1.out rfl rfl (.tmp 14) (.tmp 20) rfl rfl rfl ?_; intro v1 w4 k1 k2 k3; have q1 := ext_app0 qE fE k2; have f1 := k3.fresh fE qE.size; have d4 := hbd (ext_trans x1 q1); have rR := hrR.ext (ext_trans x1 q1); refine hK.out _ _ trivial (fun _ => ?_); clear hK K; try simp only [Act.put, List.setIfInBounds_toArray, List.set_cons_zero, List.set_cons_succ]; try simp only [List.getElem_toArray, List.getElem_cons_succ, List.getElem_cons_zero])
          refine wpAnyH_ready (rs := [16]) (by kernel_rfl) (by simp) ?_
          refine AllReadyH.cons rfl (fun K hK => ?b22) (AllReadyH.nil)
          case b22 =>
            (refine step_appRs 29 tyF k1 rR o3 n3.out rfl rfl (.tmp 21) (.tmp 28) rfl rfl rfl ?_; intro v3 w6 m1 m2 m3; have q3 := ext_app0 q1 f1 m2; have f3 := m3.fresh f1 q1.size; have hf := hfin.out v3 w6 (ext_trans x1 q3) m1 (f3.mono hz1); have d6 := hbd (ext_trans x1 q3); have z6 := hz (ext_trans x1 q3); obtain ⟨A3, l3, c3, hv3⟩ : ∃ A n c, v3 = Value.slice A n c := (by obtain ⟨A, c, h⟩ := m1.shape; exact ⟨A, _, c, h⟩); clear m1 m2 m3 f3; subst hv3; refine hK.out _ _ trivial (fun _ => ?_); clear hK K; try simp only [Act.put, List.setIfInBounds_toArray, List.set_cons_zero, List.set_cons_succ]; try simp only [List.getElem_toArray, List.getElem_cons_succ, List.getElem_cons_zero])
            (refine wpAnyH_take (i := 17) (oi := ⟨_, _, _, _, _, _⟩) (v := ?tv65) rfl (by kernel_rfl) (by kernel_rfl) (by kernel_rfl) (fun _ _ _ h => h) (Or.inl ⟨by kernel_rfl, ?hy65⟩) trivial ?rs65; (case hy65 => (intro wx hSw; (try dsimp only at hSw); go_simp; try with_reducible rfl)); try simp only [Act.put, List.setIfInBounds_toArray, List.set_cons_zero, List.set_cons_succ]; try simp only [List.getElem_toArray, List.getElem_cons_succ, List.getElem_cons_zero])
            (refine wpAnyH_take (i := 18) (oi := ⟨_, _, _, _, _, _⟩) (v := ?tv66) rfl (by kernel_rfl) (by kernel_rfl) (by kernel_rfl) (fun _ _ _ h => h) (Or.inl ⟨by kernel_rfl, ?hy66⟩) trivial ?rs66; (case hy66 => (intro wx hSw; (try dsimp only at hSw); go_simp; try with_reducible rfl)); try simp only [Act.put, List.setIfInBounds_toArray, List.set_cons_zero, List.set_cons_succ]; try simp only [List.getElem_toArray, List.getElem_cons_succ, List.getElem_cons_zero])
            (refine wpAnyH_ready (rs := [19]) (by kernel_rfl) (by simp) ?_; refine AllReadyH.cons rfl (fun K hK => ?_) AllReadyH.nil)
            go_simp
            (go_wp2_with fail; refine hK.out _ _ trivial (fun _ => ?_); clear hK K; try simp only [Act.put, List.setIfInBounds_toArray, List.set_cons_zero, List.set_cons_succ]; try simp only [List.getElem_toArray, List.getElem_cons_succ, List.getElem_cons_zero])
            refine wpAnyH_done (by kernel_rfl) ?_ _
            obtain ⟨g1, g2⟩ := hf
            clear hfin
            go_wp2_with fail
            go_end0
            exact ⟨rfl, g1.rd, g2⟩
    case b16 =>
      go_simp
      (go_wp2_with fail; refine hK.out _ _ trivial (fun _ => ?_); clear hK K; try simp only [Act.put, List.setIfInBounds_toArray, List.set_cons_zero, List.set_cons_succ]; try simp only [List.getElem_toArray, List.getElem_cons_succ, List.getElem_cons_zero])
      (refine wpAnyH_take (i := 15) (oi := ⟨_, _, _, _, _, _⟩) (v := ?tv67) rfl (by kernel_rfl) (by kernel_rfl) (by kernel_rfl) (fun _ _ _ h => h) (Or.inl ⟨by kernel_rfl, ?hy67⟩) trivial ?rs67; (case hy67 => (intro wx hSw; (try dsimp only at hSw); go_simp; try with_reducible rfl)); try simp only [Act.put, List.setIfInBounds_toArray, List.set_cons_zero, List.set_cons_succ]; try simp only [List.getElem_toArray, List.getElem_cons_succ, List.getElem_cons_zero])
      refine wpAnyH_ready (rs := [1]) (by kernel_rfl) (by simp) ?_
      refine AllReadyH.cons rfl (fun K hK => ?b23) (AllReadyH.nil)
      case b23 =>
        go_simp
        (go_wp2_with fail; refine hK.out _ _ trivial (fun _ => ?_); clear hK K; try simp only [Act.put, List.setIfInBounds_toArray, List.set_cons_zero, List.set_cons_succ]; try simp only [List.getElem_toArray, List.getElem_cons_succ, List.getElem_cons_zero])
        refine wpAnyH_ready (rs := [8]) (by kernel_rfl) (by simp) ?_
        refine AllReadyH.cons rfl (fun K hK => ?b24) (AllReadyH.nil)
        case b24 =>
          (refine step_appRs 21 tyF oE rB o1 n1.out rfl rfl (.tmp 14) (.tmp 20) rfl rfl rfl ?_; intro v1 w4 k1 k2 k3; have q1 := ext_app0 qE fE k2; have f1 := k3.fresh fE qE.size; have d4 := hbd (ext_trans x1 q1); have rR := hrR.ext (ext_trans x1 q1); refine hK.out _ _ trivial (fun _ => ?_); clear hK K; try simp only [Act.put, List.setIfInBounds_toArray, List.set_cons_zero, List.set_cons_succ]; try simp only [List.getElem_toArray, List.getElem_cons_succ, List.getElem_cons_zero])
          refine wpAnyH_ready (rs := [16]) (by kernel_rfl) (by simp) ?_
          refine AllReadyH.cons rfl (fun K hK => ?b25) (AllReadyH.nil)
          case b25 =>
            (refine step_appRs 29 tyF k1 rR o3 n3.out rfl rfl (.tmp 21) (.tmp 28) rfl rfl rfl ?_; intro v3 w6 m1 m2 m3; have q3 := ext_app0 q1 f1 m2; have f3 := m3.fresh f1 q1.size; have hf := hfin.out v3 w6 (ext_trans x1 q3) m1 (f3.mono hz1); have d6 := hbd (ext_trans x1 q3); have z6 := hz (ext_trans x1 q3); obtain ⟨A3, l3, c3, hv3⟩ : ∃ A n c, v3 = Value.slice A n c := (by obtain ⟨A, c, h⟩ := m1.shape; exact ⟨A, _, c, h⟩); clear m1 m2 m3 f3; subst hv3; refine hK.out _ _ trivial (fun _ => ?_); clear hK K; try simp only [Act.put, List.setIfInBounds_toArray, List.set_cons_zero, List.set_cons_succ]; try simp only [List.getElem_toArray, List.getElem_cons_succ, List.getElem_cons_zero])
            (refine wpAnyH_take (i := 17) (oi := ⟨_, _, _, _, _, _⟩) (v := ?tv68) rfl (by kernel_rfl) (by kernel_rfl) (by kernel_rfl) (fun _ _ _ h => h) (Or.inl ⟨by kernel_rfl, ?hy68⟩) trivial ?rs68; (case hy68 => (intro wx hSw; (try dsimp only at hSw); go_simp; try with_reducible rfl)); try simp only [Act.put, List.setIfInBounds_toArray, List.set_cons_zero, List.set_cons_succ]; try simp only [List.getElem_toArray, List.getElem_cons_succ, List.getElem_cons_zero])
            (refine wpAnyH_take (i := 18) (oi := ⟨_, _, _, _, _, _⟩) (v := ?tv69) rfl (by kernel_rfl) (by kernel_rfl) (by kernel_rfl) (fun _ _ _ h => h) (Or.inl ⟨by kernel_rfl, ?hy69⟩) trivial ?rs69; (case hy69 => (intro wx hSw; (try dsimp only at hSw); go_simp; try with_reducible rfl)); try simp only [Act.put, List.setIfInBounds_toArray, List.set_cons_zero, List.set_cons_succ]; try simp only [List.getElem_toArray, List.getElem_cons_succ, List.getElem_cons_zero])
            (refine wpAnyH_ready (rs := [19]) (by kernel_rfl) (by simp) ?_; refine AllReadyH.cons rfl (fun K hK => ?_) AllReadyH.nil)
            go_simp
            (go_wp2_with fail; refine hK.out _ _ trivial (fun _ => ?_); clear hK K; try simp only [Act.put, List.setIfInBounds_toArray, List.set_cons_zero, List.set_cons_succ]; try simp only [List.getElem_toArray, List.getElem_cons_succ, List.getElem_cons_zero])
            refine wpAnyH_done (by kernel_rfl) ?_ _
            obtain ⟨g1, g2⟩ := hf
            clear hfin
            go_wp2_with fail
            go_end0
            exact ⟨rfl, g1.rd, g2⟩
  case b3 =>
    go_simp
    (go_wp2_with fail; refine hK.out _ _ trivial (fun _ => ?_); clear hK K; try simp only [Act.put, List.setIfInBounds_toArray, List.set_cons_zero, List.set_cons_succ]; try simp only [List.getElem_toArray, List.getElem_cons_succ, List.getElem_cons_zero])
    (refine wpAnyH_take (i := 15) (oi := ⟨_, _, _, _, _, _⟩) (v := ?tv70) rfl (by kernel_rfl) (by kernel_rfl) (by kernel_rfl) (fun _ _ _ h => h) (Or.inl ⟨by kernel_rfl, ?hy70⟩) trivial ?rs70; (case hy70 => (intro wx hSw; (try dsimp only at hSw); go_simp; try with_reducible rfl)); try simp only [Act.put, List.setIfInBounds_toArray, List.set_cons_zero, List.set_cons_succ]; try simp only [List.getElem_toArray, List.getElem_cons_succ, List.getElem_cons_zero])
    refine wpAnyH_ready (rs := [1, 5]) (by kernel_rfl) (by simp) ?_
    refine AllReadyH.cons rfl (fun K hK => ?b26) (AllReadyH.cons rfl (fun K hK => ?b27) (AllReadyH.nil))
    case b26 =>
      go_simp
      (go_wp2_with fail; refine hK.out _ _ trivial (fun _ => ?_); clear hK K; try simp only [Act.put, List.setIfInBounds_toArray, List.set_cons_zero, List.set_cons_succ]; try simp only [List.getElem_toArray, List.getElem_cons_succ, List.getElem_cons_zero])
      refine wpAnyH_ready (rs := [5]) (by kernel_rfl) (by simp) ?_
      refine AllReadyH.cons rfl (fun K hK => ?b28) (AllReadyH.nil)
      case b28 =>
        go_simp
        (go_wp2_with fail; refine hK.out _ _ trivial (fun _ => ?_); clear hK K; try simp only [Act.put, List.setIfInBounds_toArray, List.set_cons_zero, List.set_cons_succ]; try simp only [List.getElem_toArray, List.getElem_cons_succ, List.getElem_cons_zero])
        (refine wpAnyH_take (i := 7) (oi := ⟨_, _, _, _, _, _⟩) (v := ?tv71) rfl (by kernel_rfl) (by kernel_rfl) (by kernel_rfl) (fun _ _ _ h => h) (Or.inl ⟨by kernel_rfl, ?hy71⟩) trivial ?rs71; (case hy71 => (intro wx hSw; (try dsimp only at hSw); go_simp; try with_reducible rfl)); try simp only [Act.put, List.setIfInBounds_toArray, List.set_cons_zero, List.set_cons_succ]; try simp only [List.getElem_toArray, List.getElem_cons_succ, List.getElem_cons_zero])
        refine wpAnyH_ready (rs := [8]) (by kernel_rfl) (by simp) ?_
        refine AllReadyH.cons rfl (fun K hK => ?b29) (AllReadyH.nil)
        case b29 =>
          (refine step_appRs 21 tyF oE rB o1 n1.out rfl rfl (.tmp 14) (.tmp 20) rfl rfl rfl ?_; intro v1 w4 k1 k2 k3; have q1 := ext_app0 qE fE k2; have f1 := k3.fresh fE qE.size; have d4 := hbd (ext_trans x1 q1); have rR := hrR.ext (ext_trans x1 q1); refine hK.out _ _ trivial (fun _ => ?_); clear hK K; try simp only [Act.put, List.setIfInBounds_toArray, List.set_cons_zero, List.set_cons_succ]; try simp only [List.getElem_toArray, List.getElem_cons_succ, List.getElem_cons_zero])
          refine wpAnyH_ready (rs := [16]) (by kernel_rfl) (by simp) ?_
          refine AllReadyH.cons rfl (fun K hK => ?b30) (AllReadyH.nil)
          case b30 =>
            (refine step_appRs 29 tyF k1 rR o3 n3.out rfl rfl (.tmp 21) (.tmp 28) rfl rfl rfl ?_; intro v3 w6 m1 m2 m3; have q3 := ext_app0 q1 f1 m2; have f3 := m3.fresh f1 q1.size; have hf := hfin.out v3 w6 (ext_trans x1 q3) m1 (f3.mono hz1); have d6 := hbd (ext_trans x1 q3); have z6 := hz (ext_trans x1 q3); obtain ⟨A3, l3, c3, hv3⟩ : ∃ A n c, v3 = Value.slice A n c := (by obtain ⟨A, c, h⟩ := m1.shape; exact ⟨A, _, c, h⟩); clear m1 m2 m3 f3; subst hv3; refine hK.out _ _ trivial (fun _ => ?_); clear hK K; try simp only [Act.put, List.setIfInBounds_toArray, List.set_cons_zero, List.set_cons_succ]; try simp only [List.getElem_toArray, List.getElem_cons_succ, List.getElem_cons_zero])
            (refine wpAnyH_take (i := 17) (oi := ⟨_, _, _, _, _, _⟩) (v := ?tv72) rfl (by kernel_rfl) (by kernel_rfl) (by kernel_rfl) (fun _ _ _ h => h) (Or.inl ⟨by kernel_rfl, ?hy72⟩) trivial ?rs72; (case hy72 => (intro wx hSw; (try dsimp only at hSw); go_simp; try with_reducible rfl)); try simp only [Act.put, List.setIfInBounds_toArray, List.set_cons_zero, List.set_cons_succ]; try simp only [List.getElem_toArray, List.getElem_cons_succ, List.getElem_cons_zero])
            (refine wpAnyH_take (i := 18) (oi := ⟨_, _, _, _, _, _⟩) (v := ?tv73) rfl (by kernel_rfl) (by kernel_rfl) (by kernel_rfl) (fun _ _ _ h => h) (Or.inl ⟨by kernel_rfl, ?hy73⟩) trivial ?rs73; (case hy73 => (intro wx hSw; (try dsimp only at hSw); go_simp; try with_reducible rfl)); try simp only [Act.put, List.setIfInBounds_toArray, List.set_cons_zero, List.set_cons_succ]; try simp only [List.getElem_toArray, List.getElem_cons_succ, List.getElem_cons_zero])
            (refine wpAnyH_ready (rs := [19]) (by kernel_rfl) (by simp) ?_; refine AllReadyH.cons rfl (fun K hK => ?_) AllReadyH.nil)
            go_simp
            (go_wp2_with fail; refine hK.out _ _ trivial (fun _ => ?_); clear hK K; try simp only [Act.put, List.setIfInBounds_toArray, List.set_cons_zero, List.set_cons_succ]; try simp only [List.getElem_toArray, List.getElem_cons_succ, List.getElem_cons_zero])
            refine wpAnyH_done (by kernel_rfl) ?_ _
            obtain ⟨g1, g2⟩ := hf
            clear hfin
            go_wp2_with fail
            go_end0
            exact ⟨rfl, g1.rd, g2⟩
    case b27 =>
      go_simp
      (go_wp2_with fail; refine hK.out _ _ trivial (fun _ => ?_); clear hK K; try simp only [Act.put, List.setIfInBounds_toArray, List.set_cons_zero, List.set_cons_succ]; try simp only [List.getElem_toArray, List.getElem_cons_succ, List.getElem_cons_zero])
      (refine wpAnyH_take (i := 7) (oi := ⟨_, _, _, _, _, _⟩) (v := ?tv74) rfl (by kernel_rfl) (by kernel_rfl) (by kernel_rfl) (fun _ _ _ h => h) (Or.inl ⟨by kernel_rfl, ?hy74⟩) trivial ?rs74; (case hy74 => (intro wx hSw; (try dsimp only at hSw); go_simp; try with_reducible rfl)); try simp only [Act.put, List.setIfInBounds_toArray, List.set_cons_zero, List.set_cons_succ]; try simp only [List.getElem_toArray, List.getElem_cons_succ, List.getElem_cons_zero])
      refine wpAnyH_ready (rs := [1]) (by kernel_rfl) (by simp) ?_
      refine AllReadyH.cons rfl (fun K hK => ?b31) (AllReadyH.nil)
      case b31 =>
        go_simp
        (go_wp2_with fail; refine hK.out _ _ trivial (fun _ => ?_); clear hK K; try simp only [Act.put, List.setIfInBounds_toArray, List.set_cons_zero, List.set_cons_succ]; try simp only [List.getElem_toArray, List.getElem_cons_succ, List.getElem_cons_zero])
        refine wpAnyH_ready (rs := [8]) (by kernel_rfl) (by simp) ?_
        refine AllReadyH.cons rfl (fun K hK => ?b32) (AllReadyH.nil)
        case b32 =>
          (refine step_appRs 21 tyF oE rB o1 n1.out rfl rfl (.tmp 14) (.tmp 20) rfl rfl rfl ?_; intro v1 w4 k1 k2 k3; have q1 := ext_app0 qE fE k2; have f1 := k3.fresh fE qE.size; have d4 := hbd (ext_trans x1 q1); have rR := hrR.ext (ext_trans x1 q1); refine hK.out _ _ trivial (fun _ => ?_); clear hK K; try simp only [Act.put, List.setIfInBounds_toArray, List.set_cons_zero, List.set_cons_succ]; try simp only [List.getElem_toArray, List.getElem_cons_succ, List.getElem_cons_zero])
          refine wpAnyH_ready (rs := [16]) (by kernel_rfl) (by simp) ?_
          refine AllReadyH.cons rfl (fun K hK => ?b33) (AllReadyH.nil)
          case b33 =>
            (refine step_appRs 29 tyF k1 rR o3 n3.out rfl rfl (.tmp 21) (.tmp 28) rfl rfl rfl ?_; intro v3 w6 m1 m2 m3; have q3 := ext_app0 q1 f1 m2; have f3 := m3.fresh f1 q1.size; have hf := hfin.out v3 w6 (ext_trans x1 q3) m1 (f3.mono hz1); have d6 := hbd (ext_trans x1 q3); have z6 := hz (ext_trans x1 q3); obtain ⟨A3, l3, c3, hv3⟩ : ∃ A n c, v3 = Value.slice A n c := (by obtain ⟨A, c, h⟩ := m1.shape; exact ⟨A, _, c, h⟩); clear m1 m2 m3 f3; subst hv3; refine hK.out _ _ trivial (fun _ => ?_); clear hK K; try simp only [Act.put, List.setIfInBounds_toArray, List.set_cons_zero, List.set_cons_succ]; try simp only [List.getElem_toArray, List.getElem_cons_succ, List.getElem_cons_zero])
            (refine wpAnyH_take (i := 17) (oi := ⟨_, _, _, _, _, _⟩) (v := ?tv75) rfl (by kernel_rfl) (by kernel_rfl) (by kernel_rfl) (fun _ _ _ h => h) (Or.inl ⟨by kernel_rfl, ?hy75⟩) trivial ?rs75; (case hy75 => (intro wx hSw; (try dsimp only at hSw); go_simp; try with_reducible rfl)); try simp only [Act.put, List.setIfInBounds_toArray, List.set_cons_zero, List.set_cons_succ]; try simp only [List.getElem_toArray, List.getElem_cons_succ, List.getElem_cons_zero])
            (refine wpAnyH_take (i := 18) (oi := ⟨_, _, _, _, _, _⟩) (v := ?tv76) rfl (by kernel_rfl) (by kernel_rfl) (by kernel_rfl) (fun _ _ _ h => h) (Or.inl ⟨by kernel_rfl, ?hy76⟩) trivial ?rs76; (case hy76 => (intro wx hSw; (try dsimp only at hSw); go_simp; try with_reducible rfl)); try simp only [Act.put, List.setIfInBounds_toArray, List.set_cons_zero, List.set_cons_succ]; try simp only [List.getElem_toArray, List.getElem_cons_succ, List.getElem_cons_zero])
            (refine wpAnyH_ready (rs := [19]) (by kernel_rfl) (by simp) ?_; refine AllReadyH.cons rfl (fun K hK => ?_) AllReadyH.nil)
            go_simp
            (go_wp2_with fail; refine hK.out _ _ trivial (fun _ => ?_); clear hK K; try simp only [Act.put, List.setIfInBounds_toArray, List.set_cons_zero, List.set_cons_succ]; try simp only [List.getElem_toArray, List.getElem_cons_succ, List.getElem_cons_zero])
            refine wpAnyH_done (by kernel_rfl) ?_ _
            obtain ⟨g1, g2⟩ := hf
            clear hfin
            go_wp2_with fail
            go_end0
            exact ⟨rfl, g1.rd, g2⟩
end
end Go.Proofs.YtblfhonfjljndaaDoor
