/- disk: the document's Append: a file that is new. -/
import Derived.Test.YtblfhonfjljndaaDoorRdH
namespace Go.Proofs.YtblfhonfjljndaaDoor
open Go.RowKit Go.Maps Go.WideMaps
set_option maxRecDepth 100000

section
variable {S T F V : Nat → Prop} {w w' : World} {bd : Nat} {vL v y : Value} {A : List (Fi × Value)} {d : Ds} {b : List UInt8}
set_option maxHeartbeats 16000000 in
theorem rapp_newB {p : Addr} {n : Nat} (h : RdAt S w bd (.slice (some p) n n) A d) (hN : d.L.length = n) (x : List UInt8) (hy : Bs w V y b) (hbl : b.length ≤ 100000) (hb : begD d [x] = 0) (hfits : sumB d.L + b.length ≤ d.room) (hx : getF d.L x = none) (hfew2 : n < 4096) (hn : posF d.L x = n) (hV : ∀ k, V k → ¬ S k)  :
    Calls Tryd.prog 20 #[pv bd, sv x, y] w fun e w' => e = .returned (ev 0) ∧ Dz (Grow S w) w' (pv bd) (doneD { d with L := putF d.L ⟨x, b, 0⟩ }) ∧ Mod S w w' := by
  have xa : Ext w (w.alloc (.cells #[sv x] 9)) := (Mod.refl _ _).alloc _
  have hcm := rmay_any (h.mod xa (fun _ _ _ h => h)) (one_name w x) (by simp)
  rw [hb] at hcm
  have hcs := fun (w' : World) (x1 : Ext w w') => spot_any (h.mod x1 (fun _ _ _ h => h)) x
  have hcu := fun (w' : World) (x1 : Ext w w') => rused_any (h.mod x1 (fun _ _ _ h => h))
  obtain ⟨Ay, cy, rfl, y1, y2', y3, y4⟩ := hy.open_
  have hroom := h.room
  have hmost := h.most
  have hcc : ∀ {wx : World}, Ext w wx → wx.cell? ⟨bd, 0, none⟩ = some (.int .i64 (d.room : Int)) ∧ wx.cell? ⟨bd, 1, none⟩ = some (.slice (some p) n n) := fun q => ⟨(h.mod q (fun _ _ _ h => h)).room0, (h.mod q (fun _ _ _ h => h)).blk.cell 1⟩
  have hsum : (sumB d.L : Int) + (b.length : Int) ≤ 2000000000 := by omega
  have hs0 : IntKind.i64.wrap ((sumB d.L : Int) + (b.length : Int)) = (sumB d.L : Int) + (b.length : Int) := IntWalk.i64_in _ ⟨by omega, by omega⟩
  have hbig : decide ((d.room : Int) < (sumB d.L : Int) + (b.length : Int)) = false := dfalse (by omega)
  have hm1 : decide ((4096 : Int) ≤ ((n : Nat) : Int)) = false := dfalse (by omega)
  rw [hx, hn] at hcs
  simp only [Option.isSome_none] at hcs
  have hlen : A.length = n := h.len.trans hN
  have hone := fiv_one h.slices
  have hrc : Rc fiv 3 w (own (.slice (some p) n n)) (.slice (some p) A.length n) A := by rw [hlen]; exact h.row.rc
  have hrB : Rc fiv 3 w (own (.slice (some p) n n)) (.slice (some p) n n) (A.take n) := hrc.begin fiv_len (m := n) (by omega)
  have hrR : Rc fiv 3 w (own (.slice (some p) n n)) (.slice (some p) 0 0) (A.drop n) := (by have := hrc.rest0 (m := n) (by omega) rfl; rw [hlen, Nat.sub_self] at this; exact this)
  have hn0 : (0 : Int) ≤ ((n : Nat) : Int) := by omega

  generalize hsm : sumB d.L = sm at *
  replace hsm := Lib.hid hsm
  replace hN := Lib.hid hN
  replace hn := Lib.hid hn
  clear y4 hrc
  go_enter Tryd.func20, Tryd.ntmps20
  go_wp2_with fail
  refine hcm.mono ?_
  rintro e w1 ⟨rfl, x1⟩
  clear hcm
  replace hcs := hcs _ (ext_trans xa x1)
  go_wp2_with fail
  refine hcs.mono ?_
  rintro e w2 ⟨rfl, x2⟩
  have y2 := ext_trans (ext_trans xa x1) x2
  clear hcs xa x1 x2
  go_wp2_with fail
  refine wp_region_held_drew (S := fun wx => wx.cell? ⟨bd, 0, none⟩ = some (.int .i64 (d.room : Int)) ∧ wx.cell? ⟨bd, 1, none⟩ = some (.slice (some p) n n)) (by kernel_rfl) (hcc (y2.drew)) (fun hH => ?_)
  (refine wpAnyH_take (i := 0) (oi := ⟨_, _, _, _, _, _⟩) (v := ?tv41) rfl (by kernel_rfl) (by kernel_rfl) (by kernel_rfl) (fun _ _ _ h => h) (Or.inl ⟨by kernel_rfl, ?hy41⟩) hH ?rs41; (case hy41 => (intro wx hSw; (try dsimp only at hSw); go_simp; try with_reducible rfl)); try simp only [Act.put, List.setIfInBounds_toArray, List.set_cons_zero, List.set_cons_succ]; try simp only [List.getElem_toArray, List.getElem_cons_succ, List.getElem_cons_zero])
  (refine wpAnyH_take (i := 2) (oi := ⟨_, _, _, _, _, _⟩) (v := ?tv42) rfl (by kernel_rfl) (by kernel_rfl) (by kernel_rfl) (fun _ _ _ h => h) (Or.inl ⟨by kernel_rfl, ?hy42⟩) hH ?rs42; (case hy42 => (intro wx hSw; (try dsimp only at hSw); go_simp; try with_reducible rfl)); try simp only [Act.put, List.setIfInBounds_toArray, List.set_cons_zero, List.set_cons_succ]; try simp only [List.getElem_toArray, List.getElem_cons_succ, List.getElem_cons_zero])
  (refine wpAnyH_take (i := 3) (oi := ⟨_, _, _, _, _, _⟩) (v := ?tv43) rfl (by kernel_rfl) (by kernel_rfl) (by kernel_rfl) (fun _ _ _ h => h) (Or.inl ⟨by kernel_rfl, ?hy43⟩) hH ?rs43; (case hy43 => (intro wx hSw; (try dsimp only at hSw); go_simp; try with_reducible rfl)); try simp only [Act.put, List.setIfInBounds_toArray, List.set_cons_zero, List.set_cons_succ]; try simp only [List.getElem_toArray, List.getElem_cons_succ, List.getElem_cons_zero])
  (refine wpAnyH_take (i := 5) (oi := ⟨_, _, _, _, _, _⟩) (v := ?tv44) rfl (by kernel_rfl) (by kernel_rfl) (by kernel_rfl) (fun _ _ _ h => h) (Or.inl ⟨by kernel_rfl, ?hy44⟩) hH ?rs44; (case hy44 => (intro wx hSw; (try dsimp only at hSw); go_simp; try with_reducible rfl)); try simp only [Act.put, List.setIfInBounds_toArray, List.set_cons_zero, List.set_cons_succ]; try simp only [List.getElem_toArray, List.getElem_cons_succ, List.getElem_cons_zero])
  (refine wpAnyH_take (i := 6) (oi := ⟨_, _, _, _, _, _⟩) (v := ?tv45) rfl (by kernel_rfl) (by kernel_rfl) (by kernel_rfl) (fun _ _ _ h => h) (Or.inl ⟨by kernel_rfl, ?hy45⟩) hH ?rs45; (case hy45 => (intro wx hSw; (try dsimp only at hSw); go_simp; try with_reducible rfl)); try simp only [Act.put, List.setIfInBounds_toArray, List.set_cons_zero, List.set_cons_succ]; try simp only [List.getElem_toArray, List.getElem_cons_succ, List.getElem_cons_zero])
  (refine wpAnyH_take (i := 7) (oi := ⟨_, _, _, _, _, _⟩) (v := ?tv46) rfl (by kernel_rfl) (by kernel_rfl) (by kernel_rfl) (fun _ _ _ h => h) (Or.inl ⟨by kernel_rfl, ?hy46⟩) hH ?rs46; (case hy46 => (intro wx hSw; (try dsimp only at hSw); go_simp; try with_reducible rfl)); try simp only [Act.put, List.setIfInBounds_toArray, List.set_cons_zero, List.set_cons_succ]; try simp only [List.getElem_toArray, List.getElem_cons_succ, List.getElem_cons_zero])
  (refine wpAnyH_take (i := 8) (oi := ⟨_, _, _, _, _, _⟩) (v := ?tv47) rfl (by kernel_rfl) (by kernel_rfl) (by kernel_rfl) (fun _ _ _ h => h) (Or.inl ⟨by kernel_rfl, ?hy47⟩) hH ?rs47; (case hy47 => (intro wx hSw; (try dsimp only at hSw); go_simp; try with_reducible rfl)); try simp only [Act.put, List.setIfInBounds_toArray, List.set_cons_zero, List.set_cons_succ]; try simp only [List.getElem_toArray, List.getElem_cons_succ, List.getElem_cons_zero])
  (refine wpAnyH_ready (rs := [1]) (by kernel_rfl) (by simp) ?_; refine AllReadyH.cons rfl (fun K hK => ?_) AllReadyH.nil)
  go_simp
  refine (hcu _ y2.drew).mono ?_
  rintro e w3 ⟨rfl, x3⟩
  have y3 := ext_trans y2.drew x3
  (go_wp2_with fail; refine hK.out _ _ (hcc y3) (fun hH => ?_); clear hK K; try simp only [Act.put, List.setIfInBounds_toArray, List.set_cons_zero, List.set_cons_succ]; try simp only [List.getElem_toArray, List.getElem_cons_succ, List.getElem_cons_zero])
  (refine wpAnyH_take (i := 4) (oi := ⟨_, _, _, _, _, _⟩) (v := ?tv48) rfl (by kernel_rfl) (by kernel_rfl) (by kernel_rfl) (fun _ _ _ h => h) (Or.inl ⟨by kernel_rfl, ?hy48⟩) hH ?rs48; (case hy48 => (intro wx hSw; (try dsimp only at hSw); go_simp; try with_reducible rfl)); try simp only [Act.put, List.setIfInBounds_toArray, List.set_cons_zero, List.set_cons_succ]; try simp only [List.getElem_toArray, List.getElem_cons_succ, List.getElem_cons_zero])
  (refine wpAnyH_take (i := 9) (oi := ⟨_, _, _, _, _, _⟩) (v := ?tv49) rfl (by kernel_rfl) (by kernel_rfl) (by kernel_rfl) (fun _ _ _ h => h) (Or.inl ⟨by kernel_rfl, ?hy49⟩) hH ?rs49; (case hy49 => (intro wx hSw; (try dsimp only at hSw); go_simp; try with_reducible rfl)); try simp only [Act.put, List.setIfInBounds_toArray, List.set_cons_zero, List.set_cons_succ]; try simp only [List.getElem_toArray, List.getElem_cons_succ, List.getElem_cons_zero])
  (refine wpAnyH_take (i := 10) (oi := ⟨_, _, _, _, _, _⟩) (v := ?tv50) rfl (by kernel_rfl) (by kernel_rfl) (by kernel_rfl) (fun _ _ _ h => h) (Or.inl ⟨by kernel_rfl, ?hy50⟩) hH ?rs50; (case hy50 => (intro wx hSw; (try dsimp only at hSw); go_simp; try with_reducible rfl)); try simp only [Act.put, List.setIfInBounds_toArray, List.set_cons_zero, List.set_cons_succ]; try simp only [List.getElem_toArray, List.getElem_cons_succ, List.getElem_cons_zero])
  (refine wpAnyH_take (i := 11) (oi := ⟨_, _, _, _, _, _⟩) (v := ?tv51) rfl (by kernel_rfl) (by kernel_rfl) (by kernel_rfl) (fun _ _ _ h => h) (Or.inl ⟨by kernel_rfl, ?hy51⟩) hH ?rs51; (case hy51 => (intro wx hSw; (try dsimp only at hSw); go_simp; try with_reducible rfl)); try simp only [Act.put, List.setIfInBounds_toArray, List.set_cons_zero, List.set_cons_succ]; try simp only [List.getElem_toArray, List.getElem_cons_succ, List.getElem_cons_zero])
  (refine wpAnyH_take (i := 12) (oi := ⟨_, _, _, _, _, _⟩) (v := ?tv52) rfl (by kernel_rfl) (by kernel_rfl) (by kernel_rfl) (fun _ _ _ h => h) (Or.inl ⟨by kernel_rfl, ?hy52⟩) hH ?rs52; (case hy52 => (intro wx hSw; (try dsimp only at hSw); go_simp; try with_reducible rfl)); try simp only [Act.put, List.setIfInBounds_toArray, List.set_cons_zero, List.set_cons_succ]; try simp only [List.getElem_toArray, List.getElem_cons_succ, List.getElem_cons_zero])
  (refine wpAnyH_take (i := 13) (oi := ⟨_, _, _, _, _, _⟩) (v := ?tv53) rfl (by kernel_rfl) (by kernel_rfl) (by kernel_rfl) (fun _ _ _ h => h) (Or.inl ⟨by kernel_rfl, ?hy53⟩) hH ?rs53; (case hy53 => (intro wx hSw; (try dsimp only at hSw); go_simp; try with_reducible rfl)); try simp only [Act.put, List.setIfInBounds_toArray, List.set_cons_zero, List.set_cons_succ]; try simp only [List.getElem_toArray, List.getElem_cons_succ, List.getElem_cons_zero])
  (refine wpAnyH_take (i := 14) (oi := ⟨_, _, _, _, _, _⟩) (v := ?tv54) rfl (by kernel_rfl) (by kernel_rfl) (by kernel_rfl) (fun _ _ _ h => h) (Or.inl ⟨by kernel_rfl, ?hy54⟩) hH ?rs54; (case hy54 => (intro wx hSw; (try dsimp only at hSw); go_simp; try with_reducible rfl)); try simp only [Act.put, List.setIfInBounds_toArray, List.set_cons_zero, List.set_cons_succ]; try simp only [List.getElem_toArray, List.getElem_cons_succ, List.getElem_cons_zero])
  (refine wpAnyH_take (i := 15) (oi := ⟨_, _, _, _, _, _⟩) (v := ?tv55) rfl (by kernel_rfl) (by kernel_rfl) (by kernel_rfl) (fun _ _ _ h => h) (Or.inl ⟨by kernel_rfl, ?hy55⟩) hH ?rs55; (case hy55 => (intro wx hSw; (try dsimp only at hSw); go_simp; try with_reducible rfl)); try simp only [Act.put, List.setIfInBounds_toArray, List.set_cons_zero, List.set_cons_succ]; try simp only [List.getElem_toArray, List.getElem_cons_succ, List.getElem_cons_zero])
  (refine wpAnyH_take (i := 16) (oi := ⟨_, _, _, _, _, _⟩) (v := ?tv56) rfl (by kernel_rfl) (by kernel_rfl) (by kernel_rfl) (fun _ _ _ h => h) (Or.inl ⟨by kernel_rfl, ?hy56⟩) hH ?rs56; (case hy56 => (intro wx hSw; (try dsimp only at hSw); go_simp; try with_reducible rfl)); try simp only [Act.put, List.setIfInBounds_toArray, List.set_cons_zero, List.set_cons_succ]; try simp only [List.getElem_toArray, List.getElem_cons_succ, List.getElem_cons_zero])
  (refine wpAnyH_take (i := 17) (oi := ⟨_, _, _, _, _, _⟩) (v := ?tv57) rfl (by kernel_rfl) (by kernel_rfl) (by kernel_rfl) (fun _ _ _ h => h) (Or.inl ⟨by kernel_rfl, ?hy57⟩) hH ?rs57; (case hy57 => (intro wx hSw; (try dsimp only at hSw); go_simp; try with_reducible rfl)); try simp only [Act.put, List.setIfInBounds_toArray, List.set_cons_zero, List.set_cons_succ]; try simp only [List.getElem_toArray, List.getElem_cons_succ, List.getElem_cons_zero])
  (refine wpAnyH_take (i := 18) (oi := ⟨_, _, _, _, _, _⟩) (v := ?tv58) rfl (by kernel_rfl) (by kernel_rfl) (by kernel_rfl) (fun _ _ _ h => h) (Or.inl ⟨by kernel_rfl, ?hy58⟩) hH ?rs58; (case hy58 => (intro wx hSw; (try dsimp only at hSw); go_simp; try with_reducible rfl)); try simp only [Act.put, List.setIfInBounds_toArray, List.set_cons_zero, List.set_cons_succ]; try simp only [List.getElem_toArray, List.getElem_cons_succ, List.getElem_cons_zero])
  (refine wpAnyH_take (i := 19) (oi := ⟨_, _, _, _, _, _⟩) (v := ?tv59) rfl (by kernel_rfl) (by kernel_rfl) (by kernel_rfl) (fun _ _ _ h => h) (Or.inl ⟨by kernel_rfl, ?hy59⟩) hH ?rs59; (case hy59 => (intro wx hSw; (try dsimp only at hSw); go_simp; try with_reducible rfl)); try simp only [Act.put, List.setIfInBounds_toArray, List.set_cons_zero, List.set_cons_succ]; try simp only [List.getElem_toArray, List.getElem_cons_succ, List.getElem_cons_zero])
  (refine wpAnyH_take (i := 20) (oi := ⟨_, _, _, _, _, _⟩) (v := ?tv60) rfl (by kernel_rfl) (by kernel_rfl) (by kernel_rfl) (fun _ _ _ h => h) (Or.inl ⟨by kernel_rfl, ?hy60⟩) hH ?rs60; (case hy60 => (intro wx hSw; (try dsimp only at hSw); go_simp; try with_reducible rfl)); try simp only [Act.put, List.setIfInBounds_toArray, List.set_cons_zero, List.set_cons_succ]; try simp only [List.getElem_toArray, List.getElem_cons_succ, List.getElem_cons_zero])
  (refine wpAnyH_take (i := 21) (oi := ⟨_, _, _, _, _, _⟩) (v := ?tv61) rfl (by kernel_rfl) (by kernel_rfl) (by kernel_rfl) (fun _ _ _ h => h) (Or.inl ⟨by kernel_rfl, ?hy61⟩) hH ?rs61; (case hy61 => (intro wx hSw; (try dsimp only at hSw); go_simp; try with_reducible rfl)); try simp only [Act.put, List.setIfInBounds_toArray, List.set_cons_zero, List.set_cons_succ]; try simp only [List.getElem_toArray, List.getElem_cons_succ, List.getElem_cons_zero])
  refine wpAnyH_done (by kernel_rfl) ?_ _
  clear hcu hH
  have hbd : ∀ {wx : World}, Ext w3 wx → wx.cell? ⟨bd, 1, none⟩ = some (.slice (some p) n n) := fun q => (hcc (ext_trans y3 q)).2
  have oE := OwnR.empty fiv 3 w3 fileT
  have fE : Fresh w3.heap.size (.slice (some ⟨w3.heap.size, 0, none⟩) 0 0) := fresh_new (Nat.le_refl _)
  have qE : Ext w3 (w3.alloc (.cells #[] fileT)) := (Mod.refl _ _).alloc _
  have rB := hrB.ext (ext_trans y3 qE)
  have dE : (w3.alloc (.cells #[] 74)).cell? ⟨bd, 1, none⟩ = some (.slice (some p) n n) := hbd qE
  have hAl : A.length ≤ 4096 := by omega
  have n1 : (([] : List (Fi × Value)).length + (A.take n).length) * 48 ≤ 140737488355328 := by rw [List.length_nil, List.length_take]; omega
  have n2 : ((([] : List (Fi × Value)) ++ A.take n).length + [((⟨x, [], 0⟩ : Fi), Value.slice none 0 0)].length) * 48 ≤ 140737488355328 := by rw [List.nil_append, List.length_take]; simp only [List.length_cons, List.length_nil]; omega
  have n3 : ((([] : List (Fi × Value)) ++ A.take n ++ [((⟨x, [], 0⟩ : Fi), Value.slice none 0 0)]).length + (A.drop n).length) * 48 ≤ 140737488355328 := by simp only [List.length_append, List.length_cons, List.length_nil, List.length_take, List.length_drop]; omega
  have o1 : ∀ a ∈ A.take n, ∀ u ∈ fiv a, u.oneCell' = true := fun a ha => hone a (List.mem_of_mem_take ha)
  have o2 : ∀ a ∈ [((⟨x, [], 0⟩ : Fi), Value.slice none 0 0)], ∀ u ∈ fiv a, u.oneCell' = true := fiv_one (fun a ha => ⟨none, 0, 0, by rw [List.mem_singleton.1 ha]⟩)
  have o3 : ∀ a ∈ A.drop n, ∀ u ∈ fiv a, u.oneCell' = true := fun a ha => hone a (List.mem_of_mem_drop ha)
  have hz1 : ∀ {wx : World}, Ext w wx → wx.frozen? ⟨bd, 1, none⟩ = false := fun q => (h.mod q (fun _ _ _ h => h)).blk.frozen 1
  obtain ⟨M, hM⟩ : ∃ M, M = n + 1 := ⟨_, rfl⟩
  have hl3 : Hid ((insA A n x).length = M) := Lib.hid (by rw [insA_len (by omega), hlen, hM])
  have hM0 : 0 < M := by omega
  have hi1 : ((n : Nat) : Int) < (M : Int) := by omega
  replace hM := Lib.hid hM
  replace n1 := Lib.hid n1
  replace n2 := Lib.hid n2
  replace n3 := Lib.hid n3
  clear hone
  go_wp2_with (first
    | ((with_reducible show wpList _ _ _ (⟨some 55, _, _, _, _, _⟩ :: _) _ _); refine wp_appRm tyF oE rB o1 n1.out rfl (.tmp 48) (.tmp 54) rfl rfl rfl ?_; intro v1 w4 k1 k2 k3; have q1 := ext_app0 qE fE k2; have f1 := k3.fresh fE qE.size; have k1a := k1.alloc (.cells #[sv x, .slice none 0 0, .int .i64 0] fileT); have rN : Rc fiv 3 (w4.alloc (.cells #[sv x, .slice none 0 0, .int .i64 0] fileT)) (fun b => b = w4.heap.size) (.slice (some ⟨w4.heap.size, 0, none⟩) 1 1) [((⟨x, [], 0⟩ : Fi), Value.slice none 0 0)] := Rc.lit1 fiv_len w4 fileT ((⟨x, [], 0⟩ : Fi), Value.slice none 0 0); have q1a := ext_trans q1 ((Mod.refl _ w4).alloc (.cells #[sv x, .slice none 0 0, .int .i64 0] fileT)); clear k1 k2 k3)
    | ((with_reducible show wpList _ _ _ (⟨some 60, _, _, _, _, _⟩ :: _) _ _); refine wp_appRm tyF k1a rN o2 n2.out rfl (.tmp 56) (.tmp 59) rfl rfl rfl ?_; intro v2 w5 g1 g2 g3; have q2 := ext_app0 q1a f1 g2; have f2 := g3.fresh f1 q1a.size; have d5 := hbd q2; have rR := hrR.ext (ext_trans y3 q2); clear g2 g3)
    | ((with_reducible show wpList _ _ _ (⟨some 69, _, _, _, _, _⟩ :: _) _ _); refine wp_appRm tyF g1 rR o3 n3.out rfl (.tmp 62) (.tmp 68) rfl rfl rfl ?_; intro v3 w6 m1 m2 m3; have q3 := ext_app0 q2 f2 m2; have f3 := m3.fresh f2 q2.size; have d6 := hbd q3; have z6 := hz1 (ext_trans y3 q3); obtain ⟨p3, c3, rfl⟩ := m1.form1 hl3.out hM0; clear m2 m3))
  obtain ⟨w7, hw7⟩ : ∃ w7, w7 = w6.setCell ⟨bd, 1, none⟩ (.slice (some p3) M c3) := ⟨_, rfl⟩
  rw [← hw7]
  have s7 : Mod (fun k => k = bd) w6 w7 := by rw [hw7]; exact setg_mod _ _ _ _
  have hlt := h.blk.lt
  have hz3 := y3.size
  have hz6 := q3.size
  have hz7 := s7.size
  have hbk : Blk w7 bd 58 (rcells d (.slice (some p3) M c3)) := by rw [hw7]; exact (h.mod (ext_trans y3 q3) (fun _ _ _ h => h)).blk.set_ 1 _
  have m7 := m1.mod s7 (fun k hk e => by have := f3 k hk; omega)
  have hnA : n ≤ A.length := by omega
  have hA1 : n < (insA A n x).length := by rw [insA_len hnA]; omega
  have hat := fun (wx : World) (x1 : Ext w7 wx) => (m7.ext x1).at3 (i := n) hA1
  rw [insA_get hnA hA1] at hat
  obtain ⟨r1, r2, r3, r4, r5, r6⟩ := hat _ (Mod.refl _ w7)
  have hp3 := f3 _ r2
  have hbd : ∀ {wx : World}, Ext w7 wx → wx.cell? ⟨bd, 1, none⟩ = some (.slice (some p3) M c3) := fun q => (hbk.mod q (fun h => h)).cell 1
  have hel : ∀ {wx : World}, Ext w7 wx → wx.cell? ⟨(p3.add (n * 3)).block, (p3.add (n * 3)).off + 1, none⟩ = some (.slice none 0 0) := fun q => (hat _ q).2.2.2.1
  have hfz : ∀ {wx : World}, Ext w7 wx → wx.frozen? ⟨(p3.add (n * 3)).block, (p3.add (n * 3)).off + 1, none⟩ = false := fun q => (hat _ q).2.2.2.2.2 1
  have q0 : Ext w7 w7.drew := (Mod.refl _ w7).drew
  have oE := (Own.empty w7 5).mod ((Mod.refl (fun _ => False) (w7.alloc (.cells #[] 5))).drew) (fun _ _ h => h)
  have fE : Fresh w7.heap.size (.slice (some ⟨w7.heap.size, 0, none⟩) 0 0) := fresh_new (Nat.le_refl _)
  have qE : Ext w7 ((w7.alloc (.cells #[] 5)).drew) := ((Mod.refl _ _).alloc _).drew
  have rE := (Own.nil ((w7.alloc (.cells #[] 5)).drew) 5).sl
  have hyy := ((hy.mod (ext_trans y3 q3) (fun _ _ _ h => h)).mod s7 (fun k _ hk e => hV k hk (e ▸ h.sd)))
  have n1 : (([] : List Value).length + ([] : List Value).length) * 1 ≤ 140737488355328 := by simp
  have n2 : (([] ++ [] : List Value).length + (b.map bv).length) * 1 ≤ 140737488355328 := by rw [List.append_nil, List.length_nil, List.length_map]; omega
  have r40 := hel q0
  have r4a := hel qE
  have hne : (p3.add (n * 3)).block ≠ bd := by rw [block_of_add]; omega
  have hlast : ∀ {wx : World} (u : Value), Ext w7 wx → (wx.setCell ⟨(p3.add (n * 3)).block, (p3.add (n * 3)).off + 1, none⟩ u).cell? ⟨bd, 1, none⟩ = some (.slice (some p3) M c3) := fun u q => (World.cell?_setCell_far _ _ _ _ hne).trans (hbd q)
  clear hw7 d5 d6 z6 hcc dE rB rN k1a g1 rR q1 q1a q2 f1 f2 m1 o1 o2 o3 hrB hrR hz1
  refine wp_region_held_drew (S := fun wx => wx.cell? ⟨bd, 1, none⟩ = some (.slice (some p3) M c3)) (by kernel_rfl) (hbd q0) (fun hH => ?_)
  (refine wpAnyH_take (i := 0) (oi := ⟨_, _, _, _, _, _⟩) (v := ?tv62) rfl (by kernel_rfl) (by kernel_rfl) (by kernel_rfl) (fun _ _ _ h => h) (Or.inl ⟨by kernel_rfl, ?hy62⟩) hH ?rs62; (case hy62 => (intro wx hSw; (try dsimp only at hSw); go_simp; try with_reducible rfl)); try simp only [Act.put, List.setIfInBounds_toArray, List.set_cons_zero, List.set_cons_succ]; try simp only [List.getElem_toArray, List.getElem_cons_succ, List.getElem_cons_zero])
  (refine wpAnyH_take (i := 1) (oi := ⟨_, _, _, _, _, _⟩) (v := ?tv63) rfl (by kernel_rfl) (by kernel_rfl) (by kernel_rfl) (fun _ _ _ h => h) (Or.inl ⟨by kernel_rfl, ?hy63⟩) hH ?rs63; (case hy63 => (intro wx hSw; (try dsimp only at hSw); go_simp; try with_reducible rfl)); try simp only [Act.put, List.setIfInBounds_toArray, List.set_cons_zero, List.set_cons_succ]; try simp only [List.getElem_toArray, List.getElem_cons_succ, List.getElem_cons_zero])
  (refine wpAnyH_take (i := 2) (oi := ⟨_, _, _, _, _, _⟩) (v := ?tv64) rfl (by kernel_rfl) (by kernel_rfl) (by kernel_rfl) (fun _ _ _ h => h) (Or.inl ⟨by kernel_rfl, ?hy64⟩) hH ?rs64; (case hy64 => (intro wx hSw; (try dsimp only at hSw); go_simp; try with_reducible rfl)); try simp only [Act.put, List.setIfInBounds_toArray, List.set_cons_zero, List.set_cons_succ]; try simp only [List.getElem_toArray, List.getElem_cons_succ, List.getElem_cons_zero])
  (refine wpAnyH_take (i := 3) (oi := ⟨_, _, _, _, _, _⟩) (v := ?tv65) rfl (by kernel_rfl) (by kernel_rfl) (by kernel_rfl) (fun _ _ _ h => h) (Or.inl ⟨by kernel_rfl, ?hy65⟩) hH ?rs65; (case hy65 => (intro wx hSw; (try dsimp only at hSw); go_simp; try with_reducible rfl)); try simp only [Act.put, List.setIfInBounds_toArray, List.set_cons_zero, List.set_cons_succ]; try simp only [List.getElem_toArray, List.getElem_cons_succ, List.getElem_cons_zero])
  (refine wpAnyH_take (i := 4) (oi := ⟨_, _, _, _, _, _⟩) (v := ?tv66) rfl (by kernel_rfl) (by kernel_rfl) (by kernel_rfl) (fun _ _ _ h => h) (Or.inl ⟨by kernel_rfl, ?hy66⟩) hH ?rs66; (case hy66 => (intro wx hSw; (try dsimp only at hSw); go_simp; try with_reducible rfl)); try simp only [Act.put, List.setIfInBounds_toArray, List.set_cons_zero, List.set_cons_succ]; try simp only [List.getElem_toArray, List.getElem_cons_succ, List.getElem_cons_zero])
  (refine wpAnyH_take (i := 6) (oi := ⟨_, _, _, _, _, _⟩) (v := ?tv67) rfl (by kernel_rfl) (by kernel_rfl) (by kernel_rfl) (fun _ _ _ h => h) (Or.inl ⟨by kernel_rfl, ?hy67⟩) hH ?rs67; (case hy67 => (intro wx hSw; (try dsimp only at hSw); go_simp; try with_reducible rfl)); try simp only [Act.put, List.setIfInBounds_toArray, List.set_cons_zero, List.set_cons_succ]; try simp only [List.getElem_toArray, List.getElem_cons_succ, List.getElem_cons_zero])
  (refine wpAnyH_take (i := 7) (oi := ⟨_, _, _, _, _, _⟩) (v := ?tv68) rfl (by kernel_rfl) (by kernel_rfl) (by kernel_rfl) (fun _ _ _ h => h) (Or.inl ⟨by kernel_rfl, ?hy68⟩) hH ?rs68; (case hy68 => (intro wx hSw; (try dsimp only at hSw); go_simp; try with_reducible rfl)); try simp only [Act.put, List.setIfInBounds_toArray, List.set_cons_zero, List.set_cons_succ]; try simp only [List.getElem_toArray, List.getElem_cons_succ, List.getElem_cons_zero])
  (refine wpAnyH_take (i := 8) (oi := ⟨_, _, _, _, _, _⟩) (v := ?tv69) rfl (by kernel_rfl) (by kernel_rfl) (by kernel_rfl) (fun _ _ _ h => h) (Or.inl ⟨by kernel_rfl, ?hy69⟩) hH ?rs69; (case hy69 => (intro wx hSw; (try dsimp only at hSw); go_simp; try with_reducible rfl)); try simp only [Act.put, List.setIfInBounds_toArray, List.set_cons_zero, List.set_cons_succ]; try simp only [List.getElem_toArray, List.getElem_cons_succ, List.getElem_cons_zero])
  (refine wpAnyH_take (i := 9) (oi := ⟨_, _, _, _, _, _⟩) (v := ?tv70) rfl (by kernel_rfl) (by kernel_rfl) (by kernel_rfl) (fun _ _ _ h => h) (Or.inl ⟨by kernel_rfl, ?hy70⟩) hH ?rs70; (case hy70 => (intro wx hSw; (try dsimp only at hSw); go_simp; try with_reducible rfl)); try simp only [Act.put, List.setIfInBounds_toArray, List.set_cons_zero, List.set_cons_succ]; try simp only [List.getElem_toArray, List.getElem_cons_succ, List.getElem_cons_zero])
  (refine wpAnyH_take (i := 10) (oi := ⟨_, _, _, _, _, _⟩) (v := ?tv71) rfl (by kernel_rfl) (by kernel_rfl) (by kernel_rfl) (fun _ _ _ h => h) (Or.inl ⟨by kernel_rfl, ?hy71⟩) hH ?rs71; (case hy71 => (intro wx hSw; (try dsimp only at hSw); go_simp; try with_reducible rfl)); try simp only [Act.put, List.setIfInBounds_toArray, List.set_cons_zero, List.set_cons_succ]; try simp only [List.getElem_toArray, List.getElem_cons_succ, List.getElem_cons_zero])
  (refine wpAnyH_take (i := 11) (oi := ⟨_, _, _, _, _, _⟩) (v := ?tv72) rfl (by kernel_rfl) (by kernel_rfl) (by kernel_rfl) (fun _ _ _ h => h) (Or.inl ⟨by kernel_rfl, ?hy72⟩) hH ?rs72; (case hy72 => (intro wx hSw; (try dsimp only at hSw); go_simp; try with_reducible rfl)); try simp only [Act.put, List.setIfInBounds_toArray, List.set_cons_zero, List.set_cons_succ]; try simp only [List.getElem_toArray, List.getElem_cons_succ, List.getElem_cons_zero])
  (refine wpAnyH_take (i := 12) (oi := ⟨_, _, _, _, _, _⟩) (v := ?tv73) rfl (by kernel_rfl) (by kernel_rfl) (by kernel_rfl) (fun _ _ _ h => h) (Or.inl ⟨by kernel_rfl, ?hy73⟩) hH ?rs73; (case hy73 => (intro wx hSw; (try dsimp only at hSw); go_simp; try with_reducible rfl)); try simp only [Act.put, List.setIfInBounds_toArray, List.set_cons_zero, List.set_cons_succ]; try simp only [List.getElem_toArray, List.getElem_cons_succ, List.getElem_cons_zero])
  (refine wpAnyH_take (i := 15) (oi := ⟨_, _, _, _, _, _⟩) (v := ?tv74) rfl (by kernel_rfl) (by kernel_rfl) (by kernel_rfl) (fun _ _ _ h => h) (Or.inl ⟨by kernel_rfl, ?hy74⟩) hH ?rs74; (case hy74 => (intro wx hSw; (try dsimp only at hSw); go_simp; try with_reducible rfl)); try simp only [Act.put, List.setIfInBounds_toArray, List.set_cons_zero, List.set_cons_succ]; try simp only [List.getElem_toArray, List.getElem_cons_succ, List.getElem_cons_zero])
  refine wpAnyH_ready (rs := [5, 13]) (by kernel_rfl) (by simp) ?_
  refine AllReadyH.cons rfl (fun K hK => ?_) (AllReadyH.cons rfl (fun K hK => ?_) AllReadyH.nil)
  case' refine_1 =>
    go_simp
    (go_wp2_with fail; refine hK.out _ _ (hbd qE) (fun hH => ?_); clear hK K; try simp only [Act.put, List.setIfInBounds_toArray, List.set_cons_zero, List.set_cons_succ]; try simp only [List.getElem_toArray, List.getElem_cons_succ, List.getElem_cons_zero])
    (refine wpAnyH_ready (rs := [13]) (by kernel_rfl) (by simp) ?_; refine AllReadyH.cons rfl (fun K hK => ?_) AllReadyH.nil)
    go_simp
    (go_wp2_with fail; refine hK.out _ _ (hH) (fun hH => ?_); clear hK K; try simp only [Act.put, List.setIfInBounds_toArray, List.set_cons_zero, List.set_cons_succ]; try simp only [List.getElem_toArray, List.getElem_cons_succ, List.getElem_cons_zero])
    (refine wpAnyH_ready (rs := [14]) (by kernel_rfl) (by simp) ?_; refine AllReadyH.cons rfl (fun K hK => ?_) AllReadyH.nil; refine step_app 86 tyB oE rE (by simp) n1 rfl rfl (.tmp 77) (.tmp 85) rfl rfl rfl ?_; intro va wa ka1 ka2 ka3; have q1 := ext_app0 qE fE ka2; have kf1 := ka3.fresh fE qE.size; have rY := hyy.mod q1 (fun _ _ _ h => h); refine hK.out _ _ (hbd q1) (fun hH => ?_); clear hK K; try simp only [Act.put, List.setIfInBounds_toArray, List.set_cons_zero, List.set_cons_succ]; try simp only [List.getElem_toArray, List.getElem_cons_succ, List.getElem_cons_zero])
    (refine wpAnyH_ready (rs := [16]) (by kernel_rfl) (by simp) ?_; refine AllReadyH.cons rfl (fun K hK => ?_) AllReadyH.nil; refine step_app 88 tyB ka1 rY (bv_one _) n2 rfl rfl (.tmp 86) (.tmp 87) rfl rfl rfl ?_; intro vb wb kb1 kb2 kb3; have q2 := ext_app0 q1 kf1 kb2; have kf2 := kb3.fresh kf1 q1.size; obtain ⟨Av, cv, rfl⟩ := kb1.shape; have j3 := hfz q2; have j2 := hel q2; refine hK.out _ _ (hbd q2) (fun hH => ?_); clear hK K; try simp only [Act.put, List.setIfInBounds_toArray, List.set_cons_zero, List.set_cons_succ]; try simp only [List.getElem_toArray, List.getElem_cons_succ, List.getElem_cons_zero])
    (refine wpAnyH_take (i := 17) (oi := ⟨_, _, _, _, _, _⟩) (v := ?tv77) rfl (by kernel_rfl) (by kernel_rfl) (by kernel_rfl) (fun _ _ _ h => h) (Or.inl ⟨by kernel_rfl, ?hy77⟩) hH ?rs77; (case hy77 => (intro wx hSw; (try dsimp only at hSw); go_simp; try with_reducible rfl)); try simp only [Act.put, List.setIfInBounds_toArray, List.set_cons_zero, List.set_cons_succ]; try simp only [List.getElem_toArray, List.getElem_cons_succ, List.getElem_cons_zero])
    (refine wpAnyH_take (i := 18) (oi := ⟨_, _, _, _, _, _⟩) (v := ?tv78) rfl (by kernel_rfl) (by kernel_rfl) (by kernel_rfl) (fun _ _ _ h => h) (Or.inl ⟨by kernel_rfl, ?hy78⟩) hH ?rs78; (case hy78 => (intro wx hSw; (try dsimp only at hSw); go_simp; try with_reducible rfl)); try simp only [Act.put, List.setIfInBounds_toArray, List.set_cons_zero, List.set_cons_succ]; try simp only [List.getElem_toArray, List.getElem_cons_succ, List.getElem_cons_zero])
    (refine wpAnyH_ready (rs := [19]) (by kernel_rfl) (by simp) ?_; refine AllReadyH.cons rfl (fun K hK => ?_) AllReadyH.nil)
    go_simp
    (go_wp2_with fail; refine hK.out _ _ (hlast _ q2) (fun hH => ?_); clear hK K; try simp only [Act.put, List.setIfInBounds_toArray, List.set_cons_zero, List.set_cons_succ]; try simp only [List.getElem_toArray, List.getElem_cons_succ, List.getElem_cons_zero])
    refine wpAnyH_done (by kernel_rfl) ?_ _
  case' refine_2 =>
    go_simp
    (go_wp2_with fail; refine hK.out _ _ (hH) (fun hH => ?_); clear hK K; try simp only [Act.put, List.setIfInBounds_toArray, List.set_cons_zero, List.set_cons_succ]; try simp only [List.getElem_toArray, List.getElem_cons_succ, List.getElem_cons_zero])
    (refine wpAnyH_ready (rs := [5]) (by kernel_rfl) (by simp) ?_; refine AllReadyH.cons rfl (fun K hK => ?_) AllReadyH.nil)
    go_simp
    (go_wp2_with fail; refine hK.out _ _ (hbd qE) (fun hH => ?_); clear hK K; try simp only [Act.put, List.setIfInBounds_toArray, List.set_cons_zero, List.set_cons_succ]; try simp only [List.getElem_toArray, List.getElem_cons_succ, List.getElem_cons_zero])
    (refine wpAnyH_ready (rs := [14]) (by kernel_rfl) (by simp) ?_; refine AllReadyH.cons rfl (fun K hK => ?_) AllReadyH.nil; refine step_app 86 tyB oE rE (by simp) n1 rfl rfl (.tmp 77) (.tmp 85) rfl rfl rfl ?_; intro va wa ka1 ka2 ka3; have q1 := ext_app0 qE fE ka2; have kf1 := ka3.fresh fE qE.size; have rY := hyy.mod q1 (fun _ _ _ h => h); refine hK.out _ _ (hbd q1) (fun hH => ?_); clear hK K; try simp only [Act.put, List.setIfInBounds_toArray, List.set_cons_zero, List.set_cons_succ]; try simp only [List.getElem_toArray, List.getElem_cons_succ, List.getElem_cons_zero])
    (refine wpAnyH_ready (rs := [16]) (by kernel_rfl) (by simp) ?_; refine AllReadyH.cons rfl (fun K hK => ?_) AllReadyH.nil; refine step_app 88 tyB ka1 rY (bv_one _) n2 rfl rfl (.tmp 86) (.tmp 87) rfl rfl rfl ?_; intro vb wb kb1 kb2 kb3; have q2 := ext_app0 q1 kf1 kb2; have kf2 := kb3.fresh kf1 q1.size; obtain ⟨Av, cv, rfl⟩ := kb1.shape; have j3 := hfz q2; have j2 := hel q2; refine hK.out _ _ (hbd q2) (fun hH => ?_); clear hK K; try simp only [Act.put, List.setIfInBounds_toArray, List.set_cons_zero, List.set_cons_succ]; try simp only [List.getElem_toArray, List.getElem_cons_succ, List.getElem_cons_zero])
    (refine wpAnyH_take (i := 17) (oi := ⟨_, _, _, _, _, _⟩) (v := ?tv79) rfl (by kernel_rfl) (by kernel_rfl) (by kernel_rfl) (fun _ _ _ h => h) (Or.inl ⟨by kernel_rfl, ?hy79⟩) hH ?rs79; (case hy79 => (intro wx hSw; (try dsimp only at hSw); go_simp; try with_reducible rfl)); try simp only [Act.put, List.setIfInBounds_toArray, List.set_cons_zero, List.set_cons_succ]; try simp only [List.getElem_toArray, List.getElem_cons_succ, List.getElem_cons_zero])
    (refine wpAnyH_take (i := 18) (oi := ⟨_, _, _, _, _, _⟩) (v := ?tv80) rfl (by kernel_rfl) (by kernel_rfl) (by kernel_rfl) (fun _ _ _ h => h) (Or.inl ⟨by kernel_rfl, ?hy80⟩) hH ?rs80; (case hy80 => (intro wx hSw; (try dsimp only at hSw); go_simp; try with_reducible rfl)); try simp only [Act.put, List.setIfInBounds_toArray, List.set_cons_zero, List.set_cons_succ]; try simp only [List.getElem_toArray, List.getElem_cons_succ, List.getElem_cons_zero])
    (refine wpAnyH_ready (rs := [19]) (by kernel_rfl) (by simp) ?_; refine AllReadyH.cons rfl (fun K hK => ?_) AllReadyH.nil)
    go_simp
    (go_wp2_with fail; refine hK.out _ _ (hlast _ q2) (fun hH => ?_); clear hK K; try simp only [Act.put, List.setIfInBounds_toArray, List.set_cons_zero, List.set_cons_succ]; try simp only [List.getElem_toArray, List.getElem_cons_succ, List.getElem_cons_zero])
    refine wpAnyH_done (by kernel_rfl) ?_ _
  all_goals
    have e0 : ([] : List Value) ++ [] ++ b.map bv = b.map bv := by simp
    rw [e0, List.length_map] at kb1 kf2
    obtain ⟨k1, k2⟩ := (m7.ext q2).set3 hA1 (j := 1) (u := .slice Av b.length cv) (a' := (⟨x, b, 0⟩, .slice Av b.length cv)) (by omega) (by rw [insA_get hnA hA1]; rfl)
    have hwz := q2.size
    have mm : Mod (fun k => k = bd ∨ k = p3.block) w (wb.setCell ⟨(p3.add (n * 3)).block, (p3.add (n * 3)).off + 1, none⟩ (.slice Av b.length cv)) := ((((ext_trans y3 q3).mono (G := fun k => k = bd ∨ k = p3.block) fun _ _ h => h.elim).then_ s7 fun _ _ h => .inl h).then_ q2 fun _ _ h => h.elim).then_ k2 fun _ _ h => .inr h
    have hput := sumB_putF (f := ⟨x, b, 0⟩) h.rise
    rw [hx] at hput
    simp only [lenB, one] at hput
    have hsm2 := hsm.out
    have hN2 := hN.out
    have hnm := insA_nm (b := b) (v := .slice Av b.length cv) h.rise hx h.nm
    rw [hn.out] at hnm
    have hov : ∀ k, own (.slice (some p3) M c3) k → k = p3.block := fun k hk => (Option.some.inj hk).symm
    have h5 := h.renew mm (fun k hk hf => hf.elim id (fun e => by omega)) ((hbk.mod q2 (fun h => h)).mod k2 (fun e => by omega)) k1 (fun k hk => by have := hov k hk; omega) hnm (fun a ha => by
      rcases List.mem_or_eq_of_mem_set ha with h1 | rfl
      · rcases insA_mem h1 with h1 | rfl
        · exact .inl h1
        · exact .inr ((Own.nil _ 5).sl.mono fun k _ hk => by cases hk)
      · exact .inr ((kb1.mod k2 (fun j hj e => by have := kf2 j hj; omega)).sl.mono fun k _ hk => ⟨by have := kf2 k hk; omega, fun hv => by have := hov k hv; have := kf2 k hk; omega⟩)) (rise_putF h.rise) (fun f hf => by
      rcases (mem_putF h.rise f).1 hf with rfl | ⟨h1, _⟩
      · exact Nat.zero_le _
      · exact h.fl f h1) (by omega) (by omega)
    have hcd := did_any h5
    have hSd := h.sd
    have mA := mm.mono (G := S) fun k hk hf => hf.elim (fun e => e ▸ hSd) (fun e => by omega)
    clear hat r6 h hlast k1 h5 kb1 kb2 kb3 ka1 ka2 ka3 kf1 kf2 oE fE qE rE n1 n2 q0 q1 r4a r40 j2 j3 r1 r2 r3 r4 r5 y3 hbd hel hfz rY hyy hy hsm hsm2 q2 mm hnm hput hov k2 m7 hbk s7
    go_wp2_with fail
    refine hcd.mono ?_
    rintro e w9 ⟨rfl, h7, m9⟩
    clear hcd
    go_wp2_with fail
    go_ret
    exact ⟨rfl, h7.rd, mA.then_ m9 fun j _ hj => hj ▸ hSd⟩
end
end Go.Proofs.YtblfhonfjljndaaDoor
