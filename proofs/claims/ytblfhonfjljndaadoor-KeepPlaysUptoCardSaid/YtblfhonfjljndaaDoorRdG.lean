/- disk: the document's Append. -/
import Derived.Test.YtblfhonfjljndaaDoorRdF
namespace Go.Proofs.YtblfhonfjljndaaDoor
open Go.RowKit Go.Maps Go.WideMaps
set_option maxRecDepth 100000

section
variable {S T F V : Nat → Prop} {w w' : World} {bd : Nat} {vL v y : Value} {A : List (Fi × Value)} {d : Ds} {b : List UInt8}
set_option maxHeartbeats 16000000 in
theorem rapp_old {f : Fi} (h : Dz S w v d) (x : List UInt8) (hy : Bs w V y b) (hbl : b.length ≤ 100000) (hb : begD d [x] = 0) (hfits : sumB d.L + b.length ≤ d.room) (hx : getF d.L x = some f) :
    Calls Tryd.prog 20 #[v, sv x, y] w fun e w' => e = .returned (ev 0) ∧ Dz (Grow S w) w' v (doneD { d with L := putF d.L ⟨f.name, f.b ++ b, f.last⟩ }) ∧ Mod S w w' := by
  obtain ⟨bd, vL, A, rfl, h⟩ := h
  have xa : Ext w (w.alloc (.cells #[sv x] 9)) := (Mod.refl _ _).alloc _
  have hcm := rmay_any (h.mod xa (fun _ _ _ h => h)) (one_name w x) (by simp)
  rw [hb] at hcm
  have hcs := fun (w' : World) (x1 : Ext w w') => spot_any (h.mod x1 (fun _ _ _ h => h)) x
  have hcu := fun (w' : World) (x1 : Ext w w') => rused_any (h.mod x1 (fun _ _ _ h => h))
  obtain ⟨Ay, cy, rfl, y1, y2', y3, y4⟩ := hy.open_
  obtain ⟨ad, c, rfl, p1, p2, p3⟩ := h.at_
  have hfew := h.few
  have hroom := h.room
  have hmost := h.most
  have hcc : ∀ {wx : World}, Ext w wx → wx.cell? ⟨bd, 0, none⟩ = some (.int .i64 (d.room : Int)) ∧ wx.cell? ⟨bd, 1, none⟩ = some (.slice ad d.L.length c) := fun q => ⟨(h.mod q (fun _ _ _ h => h)).room0, (h.mod q (fun _ _ _ h => h)).blk.cell 1⟩
  have hsum : (sumB d.L : Int) + (b.length : Int) ≤ 2000000000 := by omega
  have hs0 : IntKind.i64.wrap ((sumB d.L : Int) + (b.length : Int)) = (sumB d.L : Int) + (b.length : Int) := IntWalk.i64_in _ ⟨by omega, by omega⟩
  have hbig : decide ((d.room : Int) < (sumB d.L : Int) + (b.length : Int)) = false := dfalse (by omega)
  have hfl9 := len_of_mem h.rise (getF_mem hx)
  obtain ⟨n, vb0, hiA, hn, hA, hvi⟩ := h.found hx
  obtain rfl := getF_name hx
  rw [hx, ← hn] at hcs
  simp only [Option.isSome_some] at hcs
  have hlen := h.len
  have hfl := h.fl f (getF_mem hx)
  obtain ⟨p, rfl⟩ := p3 (by omega)
  clear hb hx hn p3
  obtain ⟨B, cb, rfl, e1, e2, e3, e4⟩ := hvi.open_
  have hat := fun (w' : World) (x1 : Ext w w') => (h.row.ext x1).at3 (i := n) hiA
  rw [hA] at hat
  have hi0 : (0 : Int) ≤ (n : Int) := by omega
  have hi1 : (n : Int) < (d.L.length : Int) := by omega
  generalize hsm : sumB d.L = sm at *
  replace hsm := Lib.hid hsm
  clear y4
  go_enter Tryd.func20, Tryd.ntmps20
  go_wp2_with fail
  refine hcm.mono ?_
  rintro e w1 ⟨rfl, x1⟩
  clear hcm
  replace hcs := hcs _ (ext_trans xa x1)
  go_wp2_with fail
  refine hcs.mono ?_
  rintro e w2 ⟨rfl, x2⟩
  have y2 := ext_trans (ext_trans xa x1) x2
  clear hcs xa x1 x2
  go_wp2_with fail
  refine wp_region_held_drew (S := fun wx => wx.cell? ⟨bd, 0, none⟩ = some (.int .i64 (d.room : Int)) ∧ wx.cell? ⟨bd, 1, none⟩ = some (.slice (some p) d.L.length c)) (by kernel_rfl) (hcc (y2.drew)) (fun hH => ?_)
  (refine wpAnyH_take (i := 0) (oi := ⟨_, _, _, _, _, _⟩) (v := ?tv43) rfl (by kernel_rfl) (by kernel_rfl) (by kernel_rfl) (fun _ _ _ h => h) (Or.inl ⟨by kernel_rfl, ?hy43⟩) hH ?rs43; (case hy43 => (intro wx hSw; (try dsimp only at hSw); go_simp; try with_reducible rfl)); try simp only [Act.put, List.setIfInBounds_toArray, List.set_cons_zero, List.set_cons_succ]; try simp only [List.getElem_toArray, List.getElem_cons_succ, List.getElem_cons_zero])
  (refine wpAnyH_take (i := 2) (oi := ⟨_, _, _, _, _, _⟩) (v := ?tv44) rfl (by kernel_rfl) (by kernel_rfl) (by kernel_rfl) (fun _ _ _ h => h) (Or.inl ⟨by kernel_rfl, ?hy44⟩) hH ?rs44; (case hy44 => (intro wx hSw; (try dsimp only at hSw); go_simp; try with_reducible rfl)); try simp only [Act.put, List.setIfInBounds_toArray, List.set_cons_zero, List.set_cons_succ]; try simp only [List.getElem_toArray, List.getElem_cons_succ, List.getElem_cons_zero])
  (refine wpAnyH_take (i := 3) (oi := ⟨_, _, _, _, _, _⟩) (v := ?tv45) rfl (by kernel_rfl) (by kernel_rfl) (by kernel_rfl) (fun _ _ _ h => h) (Or.inl ⟨by kernel_rfl, ?hy45⟩) hH ?rs45; (case hy45 => (intro wx hSw; (try dsimp only at hSw); go_simp; try with_reducible rfl)); try simp only [Act.put, List.setIfInBounds_toArray, List.set_cons_zero, List.set_cons_succ]; try simp only [List.getElem_toArray, List.getElem_cons_succ, List.getElem_cons_zero])
  (refine wpAnyH_take (i := 5) (oi := ⟨_, _, _, _, _, _⟩) (v := ?tv46) rfl (by kernel_rfl) (by kernel_rfl) (by kernel_rfl) (fun _ _ _ h => h) (Or.inl ⟨by kernel_rfl, ?hy46⟩) hH ?rs46; (case hy46 => (intro wx hSw; (try dsimp only at hSw); go_simp; try with_reducible rfl)); try simp only [Act.put, List.setIfInBounds_toArray, List.set_cons_zero, List.set_cons_succ]; try simp only [List.getElem_toArray, List.getElem_cons_succ, List.getElem_cons_zero])
  (refine wpAnyH_take (i := 6) (oi := ⟨_, _, _, _, _, _⟩) (v := ?tv47) rfl (by kernel_rfl) (by kernel_rfl) (by kernel_rfl) (fun _ _ _ h => h) (Or.inl ⟨by kernel_rfl, ?hy47⟩) hH ?rs47; (case hy47 => (intro wx hSw; (try dsimp only at hSw); go_simp; try with_reducible rfl)); try simp only [Act.put, List.setIfInBounds_toArray, List.set_cons_zero, List.set_cons_succ]; try simp only [List.getElem_toArray, List.getElem_cons_succ, List.getElem_cons_zero])
  (refine wpAnyH_take (i := 7) (oi := ⟨_, _, _, _, _, _⟩) (v := ?tv48) rfl (by kernel_rfl) (by kernel_rfl) (by kernel_rfl) (fun _ _ _ h => h) (Or.inl ⟨by kernel_rfl, ?hy48⟩) hH ?rs48; (case hy48 => (intro wx hSw; (try dsimp only at hSw); go_simp; try with_reducible rfl)); try simp only [Act.put, List.setIfInBounds_toArray, List.set_cons_zero, List.set_cons_succ]; try simp only [List.getElem_toArray, List.getElem_cons_succ, List.getElem_cons_zero])
  (refine wpAnyH_take (i := 8) (oi := ⟨_, _, _, _, _, _⟩) (v := ?tv49) rfl (by kernel_rfl) (by kernel_rfl) (by kernel_rfl) (fun _ _ _ h => h) (Or.inl ⟨by kernel_rfl, ?hy49⟩) hH ?rs49; (case hy49 => (intro wx hSw; (try dsimp only at hSw); go_simp; try with_reducible rfl)); try simp only [Act.put, List.setIfInBounds_toArray, List.set_cons_zero, List.set_cons_succ]; try simp only [List.getElem_toArray, List.getElem_cons_succ, List.getElem_cons_zero])
  (refine wpAnyH_ready (rs := [1]) (by kernel_rfl) (by simp) ?_; refine AllReadyH.cons rfl (fun K hK => ?_) AllReadyH.nil)
  go_simp
  refine (hcu _ y2.drew).mono ?_
  rintro e w3 ⟨rfl, x3⟩
  have y3 := ext_trans y2.drew x3
  (go_wp2_with fail; refine hK.out _ _ (hcc y3) (fun hH => ?_); clear hK K; try simp only [Act.put, List.setIfInBounds_toArray, List.set_cons_zero, List.set_cons_succ]; try simp only [List.getElem_toArray, List.getElem_cons_succ, List.getElem_cons_zero])
  (refine wpAnyH_take (i := 4) (oi := ⟨_, _, _, _, _, _⟩) (v := ?tv50) rfl (by kernel_rfl) (by kernel_rfl) (by kernel_rfl) (fun _ _ _ h => h) (Or.inl ⟨by kernel_rfl, ?hy50⟩) hH ?rs50; (case hy50 => (intro wx hSw; (try dsimp only at hSw); go_simp; try with_reducible rfl)); try simp only [Act.put, List.setIfInBounds_toArray, List.set_cons_zero, List.set_cons_succ]; try simp only [List.getElem_toArray, List.getElem_cons_succ, List.getElem_cons_zero])
  (refine wpAnyH_take (i := 9) (oi := ⟨_, _, _, _, _, _⟩) (v := ?tv51) rfl (by kernel_rfl) (by kernel_rfl) (by kernel_rfl) (fun _ _ _ h => h) (Or.inl ⟨by kernel_rfl, ?hy51⟩) hH ?rs51; (case hy51 => (intro wx hSw; (try dsimp only at hSw); go_simp; try with_reducible rfl)); try simp only [Act.put, List.setIfInBounds_toArray, List.set_cons_zero, List.set_cons_succ]; try simp only [List.getElem_toArray, List.getElem_cons_succ, List.getElem_cons_zero])
  (refine wpAnyH_take (i := 10) (oi := ⟨_, _, _, _, _, _⟩) (v := ?tv52) rfl (by kernel_rfl) (by kernel_rfl) (by kernel_rfl) (fun _ _ _ h => h) (Or.inl ⟨by kernel_rfl, ?hy52⟩) hH ?rs52; (case hy52 => (intro wx hSw; (try dsimp only at hSw); go_simp; try with_reducible rfl)); try simp only [Act.put, List.setIfInBounds_toArray, List.set_cons_zero, List.set_cons_succ]; try simp only [List.getElem_toArray, List.getElem_cons_succ, List.getElem_cons_zero])
  (refine wpAnyH_take (i := 11) (oi := ⟨_, _, _, _, _, _⟩) (v := ?tv53) rfl (by kernel_rfl) (by kernel_rfl) (by kernel_rfl) (fun _ _ _ h => h) (Or.inl ⟨by kernel_rfl, ?hy53⟩) hH ?rs53; (case hy53 => (intro wx hSw; (try dsimp only at hSw); go_simp; try with_reducible rfl)); try simp only [Act.put, List.setIfInBounds_toArray, List.set_cons_zero, List.set_cons_succ]; try simp only [List.getElem_toArray, List.getElem_cons_succ, List.getElem_cons_zero])
  (refine wpAnyH_take (i := 12) (oi := ⟨_, _, _, _, _, _⟩) (v := ?tv54) rfl (by kernel_rfl) (by kernel_rfl) (by kernel_rfl) (fun _ _ _ h => h) (Or.inl ⟨by kernel_rfl, ?hy54⟩) hH ?rs54; (case hy54 => (intro wx hSw; (try dsimp only at hSw); go_simp; try with_reducible rfl)); try simp only [Act.put, List.setIfInBounds_toArray, List.set_cons_zero, List.set_cons_succ]; try simp only [List.getElem_toArray, List.getElem_cons_succ, List.getElem_cons_zero])
  (refine wpAnyH_take (i := 13) (oi := ⟨_, _, _, _, _, _⟩) (v := ?tv55) rfl (by kernel_rfl) (by kernel_rfl) (by kernel_rfl) (fun _ _ _ h => h) (Or.inl ⟨by kernel_rfl, ?hy55⟩) hH ?rs55; (case hy55 => (intro wx hSw; (try dsimp only at hSw); go_simp; try with_reducible rfl)); try simp only [Act.put, List.setIfInBounds_toArray, List.set_cons_zero, List.set_cons_succ]; try simp only [List.getElem_toArray, List.getElem_cons_succ, List.getElem_cons_zero])
  (refine wpAnyH_take (i := 14) (oi := ⟨_, _, _, _, _, _⟩) (v := undef) rfl (by kernel_rfl) (by kernel_rfl) (by kernel_rfl) (fun _ _ _ h => h) (Or.inr ⟨by kernel_rfl, rfl⟩) hH ?rs56; try simp only [Act.put, List.setIfInBounds_toArray, List.set_cons_zero, List.set_cons_succ]; try simp only [List.getElem_toArray, List.getElem_cons_succ, List.getElem_cons_zero])
  (refine wpAnyH_take (i := 15) (oi := ⟨_, _, _, _, _, _⟩) (v := undef) rfl (by kernel_rfl) (by kernel_rfl) (by kernel_rfl) (fun _ _ _ h => h) (Or.inr ⟨by kernel_rfl, rfl⟩) hH ?rs57; try simp only [Act.put, List.setIfInBounds_toArray, List.set_cons_zero, List.set_cons_succ]; try simp only [List.getElem_toArray, List.getElem_cons_succ, List.getElem_cons_zero])
  (refine wpAnyH_take (i := 16) (oi := ⟨_, _, _, _, _, _⟩) (v := undef) rfl (by kernel_rfl) (by kernel_rfl) (by kernel_rfl) (fun _ _ _ h => h) (Or.inr ⟨by kernel_rfl, rfl⟩) hH ?rs58; try simp only [Act.put, List.setIfInBounds_toArray, List.set_cons_zero, List.set_cons_succ]; try simp only [List.getElem_toArray, List.getElem_cons_succ, List.getElem_cons_zero])
  (refine wpAnyH_take (i := 17) (oi := ⟨_, _, _, _, _, _⟩) (v := undef) rfl (by kernel_rfl) (by kernel_rfl) (by kernel_rfl) (fun _ _ _ h => h) (Or.inr ⟨by kernel_rfl, rfl⟩) hH ?rs59; try simp only [Act.put, List.setIfInBounds_toArray, List.set_cons_zero, List.set_cons_succ]; try simp only [List.getElem_toArray, List.getElem_cons_succ, List.getElem_cons_zero])
  (refine wpAnyH_take (i := 18) (oi := ⟨_, _, _, _, _, _⟩) (v := undef) rfl (by kernel_rfl) (by kernel_rfl) (by kernel_rfl) (fun _ _ _ h => h) (Or.inr ⟨by kernel_rfl, rfl⟩) hH ?rs60; try simp only [Act.put, List.setIfInBounds_toArray, List.set_cons_zero, List.set_cons_succ]; try simp only [List.getElem_toArray, List.getElem_cons_succ, List.getElem_cons_zero])
  (refine wpAnyH_take (i := 19) (oi := ⟨_, _, _, _, _, _⟩) (v := undef) rfl (by kernel_rfl) (by kernel_rfl) (by kernel_rfl) (fun _ _ _ h => h) (Or.inr ⟨by kernel_rfl, rfl⟩) hH ?rs61; try simp only [Act.put, List.setIfInBounds_toArray, List.set_cons_zero, List.set_cons_succ]; try simp only [List.getElem_toArray, List.getElem_cons_succ, List.getElem_cons_zero])
  (refine wpAnyH_take (i := 20) (oi := ⟨_, _, _, _, _, _⟩) (v := ?tv62) rfl (by kernel_rfl) (by kernel_rfl) (by kernel_rfl) (fun _ _ _ h => h) (Or.inl ⟨by kernel_rfl, ?hy62⟩) hH ?rs62; (case hy62 => (intro wx hSw; (try dsimp only at hSw); go_simp; try with_reducible rfl)); try simp only [Act.put, List.setIfInBounds_toArray, List.set_cons_zero, List.set_cons_succ]; try simp only [List.getElem_toArray, List.getElem_cons_succ, List.getElem_cons_zero])
  (refine wpAnyH_take (i := 21) (oi := ⟨_, _, _, _, _, _⟩) (v := ?tv63) rfl (by kernel_rfl) (by kernel_rfl) (by kernel_rfl) (fun _ _ _ h => h) (Or.inl ⟨by kernel_rfl, ?hy63⟩) hH ?rs63; (case hy63 => (intro wx hSw; (try dsimp only at hSw); go_simp; try with_reducible rfl)); try simp only [Act.put, List.setIfInBounds_toArray, List.set_cons_zero, List.set_cons_succ]; try simp only [List.getElem_toArray, List.getElem_cons_succ, List.getElem_cons_zero])
  refine wpAnyH_done (by kernel_rfl) ?_ _
  go_wp2_with fail
  clear hcu hH
  have h3 := h.mod y3 (fun _ _ _ h => h)
  obtain ⟨r1, r2, r3, r4, r5, r6⟩ := hat _ y3
  obtain ⟨vL, hvL⟩ : ∃ vL, vL = Value.slice (some p) d.L.length c := ⟨_, rfl⟩
  have hbd : ∀ {wx : World}, Ext w3 wx → wx.cell? ⟨bd, 1, none⟩ = some (.slice (some p) d.L.length c) := fun q => (hcc (ext_trans y3 q)).2
  have hel : ∀ {wx : World}, Ext w3 wx → wx.cell? ⟨(p.add (n * 3)).block, (p.add (n * 3)).off + 1, none⟩ = some (.slice B f.b.length cb) := fun q => (hat _ (ext_trans y3 q)).2.2.2.1
  have hfz : ∀ {wx : World}, Ext w3 wx → wx.frozen? ⟨(p.add (n * 3)).block, (p.add (n * 3)).off + 1, none⟩ = false := fun q => (hat _ (ext_trans y3 q)).2.2.2.2.2 1
  have q0 : Ext w3 w3.drew := (Mod.refl _ w3).drew
  have oE := (Own.empty w3 5).mod ((Mod.refl (fun _ => False) (w3.alloc (.cells #[] 5))).drew) (fun _ _ h => h)
  have fE : Fresh w3.heap.size (.slice (some ⟨w3.heap.size, 0, none⟩) 0 0) := fresh_new (Nat.le_refl _)
  have qE : Ext w3 ((w3.alloc (.cells #[] 5)).drew) := ((Mod.refl _ _).alloc _).drew
  have rE := hvi.mod (ext_trans y3 qE) (fun _ _ _ h => h)
  have hyy := hy.mod y3 (fun _ _ _ h => h)
  have n1 : (([] : List Value).length + (f.b.map bv).length) * 1 ≤ 140737488355328 := by rw [List.length_map, List.length_nil]; omega
  have n2 : (([] ++ f.b.map bv : List Value).length + (b.map bv).length) * 1 ≤ 140737488355328 := by rw [List.nil_append, List.length_map, List.length_map]; omega
  have r40 := hel q0
  have r4a := hel qE
  have hne : (p.add (n * 3)).block ≠ bd := fun e => (h.ro _ r2).2 (by rw [← e, block_of_add])
  have hlast : ∀ {wx : World} (u : Value), Ext w3 wx → (wx.setCell ⟨(p.add (n * 3)).block, (p.add (n * 3)).off + 1, none⟩ u).cell? ⟨bd, 1, none⟩ = some (.slice (some p) d.L.length c) := fun u q => (World.cell?_setCell_far _ _ _ _ hne).trans (hbd q)
  clear hvL vL
  refine wp_region_held_drew (S := fun wx => wx.cell? ⟨bd, 1, none⟩ = some (.slice (some p) d.L.length c)) (by kernel_rfl) (hbd q0) (fun hH => ?_)
  (refine wpAnyH_take (i := 0) (oi := ⟨_, _, _, _, _, _⟩) (v := ?tv64) rfl (by kernel_rfl) (by kernel_rfl) (by kernel_rfl) (fun _ _ _ h => h) (Or.inl ⟨by kernel_rfl, ?hy64⟩) hH ?rs64; (case hy64 => (intro wx hSw; (try dsimp only at hSw); go_simp; try with_reducible rfl)); try simp only [Act.put, List.setIfInBounds_toArray, List.set_cons_zero, List.set_cons_succ]; try simp only [List.getElem_toArray, List.getElem_cons_succ, List.getElem_cons_zero])
  (refine wpAnyH_take (i := 1) (oi := ⟨_, _, _, _, _, _⟩) (v := ?tv65) rfl (by kernel_rfl) (by kernel_rfl) (by kernel_rfl) (fun _ _ _ h => h) (Or.inl ⟨by kernel_rfl, ?hy65⟩) hH ?rs65; (case hy65 => (intro wx hSw; (try dsimp only at hSw); go_simp; try with_reducible rfl)); try simp only [Act.put, List.setIfInBounds_toArray, List.set_cons_zero, List.set_cons_succ]; try simp only [List.getElem_toArray, List.getElem_cons_succ, List.getElem_cons_zero])
  (refine wpAnyH_take (i := 2) (oi := ⟨_, _, _, _, _, _⟩) (v := ?tv66) rfl (by kernel_rfl) (by kernel_rfl) (by kernel_rfl) (fun _ _ _ h => h) (Or.inl ⟨by kernel_rfl, ?hy66⟩) hH ?rs66; (case hy66 => (intro wx hSw; (try dsimp only at hSw); go_simp; try with_reducible rfl)); try simp only [Act.put, List.setIfInBounds_toArray, List.set_cons_zero, List.set_cons_succ]; try simp only [List.getElem_toArray, List.getElem_cons_succ, List.getElem_cons_zero])
  (refine wpAnyH_take (i := 3) (oi := ⟨_, _, _, _, _, _⟩) (v := ?tv67) rfl (by kernel_rfl) (by kernel_rfl) (by kernel_rfl) (fun _ _ _ h => h) (Or.inl ⟨by kernel_rfl, ?hy67⟩) hH ?rs67; (case hy67 => (intro wx hSw; (try dsimp only at hSw); go_simp; try with_reducible rfl)); try simp only [Act.put, List.setIfInBounds_toArray, List.set_cons_zero, List.set_cons_succ]; try simp only [List.getElem_toArray, List.getElem_cons_succ, List.getElem_cons_zero])
  (refine wpAnyH_take (i := 4) (oi := ⟨_, _, _, _, _, _⟩) (v := ?tv68) rfl (by kernel_rfl) (by kernel_rfl) (by kernel_rfl) (fun _ _ _ h => h) (Or.inl ⟨by kernel_rfl, ?hy68⟩) hH ?rs68; (case hy68 => (intro wx hSw; (try dsimp only at hSw); go_simp; try with_reducible rfl)); try simp only [Act.put, List.setIfInBounds_toArray, List.set_cons_zero, List.set_cons_succ]; try simp only [List.getElem_toArray, List.getElem_cons_succ, List.getElem_cons_zero])
  (refine wpAnyH_take (i := 6) (oi := ⟨_, _, _, _, _, _⟩) (v := ?tv69) rfl (by kernel_rfl) (by kernel_rfl) (by kernel_rfl) (fun _ _ _ h => h) (Or.inl ⟨by kernel_rfl, ?hy69⟩) hH ?rs69; (case hy69 => (intro wx hSw; (try dsimp only at hSw); go_simp; try with_reducible rfl)); try simp only [Act.put, List.setIfInBounds_toArray, List.set_cons_zero, List.set_cons_succ]; try simp only [List.getElem_toArray, List.getElem_cons_succ, List.getElem_cons_zero])
  (refine wpAnyH_take (i := 7) (oi := ⟨_, _, _, _, _, _⟩) (v := ?tv70) rfl (by kernel_rfl) (by kernel_rfl) (by kernel_rfl) (fun _ _ _ h => h) (Or.inl ⟨by kernel_rfl, ?hy70⟩) hH ?rs70; (case hy70 => (intro wx hSw; (try dsimp only at hSw); go_simp; try with_reducible rfl)); try simp only [Act.put, List.setIfInBounds_toArray, List.set_cons_zero, List.set_cons_succ]; try simp only [List.getElem_toArray, List.getElem_cons_succ, List.getElem_cons_zero])
  (refine wpAnyH_take (i := 8) (oi := ⟨_, _, _, _, _, _⟩) (v := ?tv71) rfl (by kernel_rfl) (by kernel_rfl) (by kernel_rfl) (fun _ _ _ h => h) (Or.inl ⟨by kernel_rfl, ?hy71⟩) hH ?rs71; (case hy71 => (intro wx hSw; (try dsimp only at hSw); go_simp; try with_reducible rfl)); try simp only [Act.put, List.setIfInBounds_toArray, List.set_cons_zero, List.set_cons_succ]; try simp only [List.getElem_toArray, List.getElem_cons_succ, List.getElem_cons_zero])
  (refine wpAnyH_take (i := 9) (oi := ⟨_, _, _, _, _, _⟩) (v := ?tv72) rfl (by kernel_rfl) (by kernel_rfl) (by kernel_rfl) (fun _ _ _ h => h) (Or.inl ⟨by kernel_rfl, ?hy72⟩) hH ?rs72; (case hy72 => (intro wx hSw; (try dsimp only at hSw); go_simp; try with_reducible rfl)); try simp only [Act.put, List.setIfInBounds_toArray, List.set_cons_zero, List.set_cons_succ]; try simp only [List.getElem_toArray, List.getElem_cons_succ, List.getElem_cons_zero])
  (refine wpAnyH_take (i := 10) (oi := ⟨_, _, _, _, _, _⟩) (v := ?tv73) rfl (by kernel_rfl) (by kernel_rfl) (by kernel_rfl) (fun _ _ _ h => h) (Or.inl ⟨by kernel_rfl, ?hy73⟩) hH ?rs73; (case hy73 => (intro wx hSw; (try dsimp only at hSw); go_simp; try with_reducible rfl)); try simp only [Act.put, List.setIfInBounds_toArray, List.set_cons_zero, List.set_cons_succ]; try simp only [List.getElem_toArray, List.getElem_cons_succ, List.getElem_cons_zero])
  (refine wpAnyH_take (i := 11) (oi := ⟨_, _, _, _, _, _⟩) (v := ?tv74) rfl (by kernel_rfl) (by kernel_rfl) (by kernel_rfl) (fun _ _ _ h => h) (Or.inl ⟨by kernel_rfl, ?hy74⟩) hH ?rs74; (case hy74 => (intro wx hSw; (try dsimp only at hSw); go_simp; try with_reducible rfl)); try simp only [Act.put, List.setIfInBounds_toArray, List.set_cons_zero, List.set_cons_succ]; try simp only [List.getElem_toArray, List.getElem_cons_succ, List.getElem_cons_zero])
  (refine wpAnyH_take (i := 12) (oi := ⟨_, _, _, _, _, _⟩) (v := ?tv75) rfl (by kernel_rfl) (by kernel_rfl) (by kernel_rfl) (fun _ _ _ h => h) (Or.inl ⟨by kernel_rfl, ?hy75⟩) hH ?rs75; (case hy75 => (intro wx hSw; (try dsimp only at hSw); go_simp; try with_reducible rfl)); try simp only [Act.put, List.setIfInBounds_toArray, List.set_cons_zero, List.set_cons_succ]; try simp only [List.getElem_toArray, List.getElem_cons_succ, List.getElem_cons_zero])
  (refine wpAnyH_take (i := 15) (oi := ⟨_, _, _, _, _, _⟩) (v := ?tv76) rfl (by kernel_rfl) (by kernel_rfl) (by kernel_rfl) (fun _ _ _ h => h) (Or.inl ⟨by kernel_rfl, ?hy76⟩) hH ?rs76; (case hy76 => (intro wx hSw; (try dsimp only at hSw); go_simp; try with_reducible rfl)); try simp only [Act.put, List.setIfInBounds_toArray, List.set_cons_zero, List.set_cons_succ]; try simp only [List.getElem_toArray, List.getElem_cons_succ, List.getElem_cons_zero])
  refine wpAnyH_ready (rs := [5, 13]) (by kernel_rfl) (by simp) ?_
  refine AllReadyH.cons rfl (fun K hK => ?_) (AllReadyH.cons rfl (fun K hK => ?_) AllReadyH.nil)
  case' refine_1 =>
    go_simp
    (go_wp2_with fail; refine hK.out _ _ (hbd qE) (fun hH => ?_); clear hK K; try simp only [Act.put, List.setIfInBounds_toArray, List.set_cons_zero, List.set_cons_succ]; try simp only [List.getElem_toArray, List.getElem_cons_succ, List.getElem_cons_zero])
    (refine wpAnyH_ready (rs := [13]) (by kernel_rfl) (by simp) ?_; refine AllReadyH.cons rfl (fun K hK => ?_) AllReadyH.nil)
    go_simp
    (go_wp2_with fail; refine hK.out _ _ (hH) (fun hH => ?_); clear hK K; try simp only [Act.put, List.setIfInBounds_toArray, List.set_cons_zero, List.set_cons_succ]; try simp only [List.getElem_toArray, List.getElem_cons_succ, List.getElem_cons_zero])
    (refine wpAnyH_ready (rs := [14]) (by kernel_rfl) (by simp) ?_; refine AllReadyH.cons rfl (fun K hK => ?_) AllReadyH.nil; refine step_app 86 tyB oE rE (bv_one _) n1 rfl rfl (.tmp 77) (.tmp 85) rfl rfl rfl ?_; intro va wa ka1 ka2 ka3; have q1 := ext_app0 qE fE ka2; have kf1 := ka3.fresh fE qE.size; have rY := hyy.mod q1 (fun _ _ _ h => h); refine hK.out _ _ (hbd q1) (fun hH => ?_); clear hK K; try simp only [Act.put, List.setIfInBounds_toArray, List.set_cons_zero, List.set_cons_succ]; try simp only [List.getElem_toArray, List.getElem_cons_succ, List.getElem_cons_zero])
    (refine wpAnyH_ready (rs := [16]) (by kernel_rfl) (by simp) ?_; refine AllReadyH.cons rfl (fun K hK => ?_) AllReadyH.nil; refine step_app 88 tyB ka1 rY (bv_one _) n2 rfl rfl (.tmp 86) (.tmp 87) rfl rfl rfl ?_; intro vb wb kb1 kb2 kb3; have q2 := ext_app0 q1 kf1 kb2; have kf2 := kb3.fresh kf1 q1.size; obtain ⟨Av, cv, rfl⟩ := kb1.shape; have j3 := hfz q2; have j2 := hel q2; refine hK.out _ _ (hbd q2) (fun hH => ?_); clear hK K; try simp only [Act.put, List.setIfInBounds_toArray, List.set_cons_zero, List.set_cons_succ]; try simp only [List.getElem_toArray, List.getElem_cons_succ, List.getElem_cons_zero])
    (refine wpAnyH_take (i := 17) (oi := ⟨_, _, _, _, _, _⟩) (v := ?tv79) rfl (by kernel_rfl) (by kernel_rfl) (by kernel_rfl) (fun _ _ _ h => h) (Or.inl ⟨by kernel_rfl, ?hy79⟩) hH ?rs79; (case hy79 => (intro wx hSw; (try dsimp only at hSw); go_simp; try with_reducible rfl)); try simp only [Act.put, List.setIfInBounds_toArray, List.set_cons_zero, List.set_cons_succ]; try simp only [List.getElem_toArray, List.getElem_cons_succ, List.getElem_cons_zero])
    (refine wpAnyH_take (i := 18) (oi := ⟨_, _, _, _, _, _⟩) (v := ?tv80) rfl (by kernel_rfl) (by kernel_rfl) (by kernel_rfl) (fun _ _ _ h => h) (Or.inl ⟨by kernel_rfl, ?hy80⟩) hH ?rs80; (case hy80 => (intro wx hSw; (try dsimp only at hSw); go_simp; try with_reducible rfl)); try simp only [Act.put, List.setIfInBounds_toArray, List.set_cons_zero, List.set_cons_succ]; try simp only [List.getElem_toArray, List.getElem_cons_succ, List.getElem_cons_zero])
    (refine wpAnyH_ready (rs := [19]) (by kernel_rfl) (by simp) ?_; refine AllReadyH.cons rfl (fun K hK => ?_) AllReadyH.nil)
    go_simp
    (go_wp2_with fail; refine hK.out _ _ (hlast _ q2) (fun hH => ?_); clear hK K; try simp only [Act.put, List.setIfInBounds_toArray, List.set_cons_zero, List.set_cons_succ]; try simp only [List.getElem_toArray, List.getElem_cons_succ, List.getElem_cons_zero])
    refine wpAnyH_done (by kernel_rfl) ?_ _
  case' refine_2 =>
    go_simp
    (go_wp2_with fail; refine hK.out _ _ (hH) (fun hH => ?_); clear hK K; try simp only [Act.put, List.setIfInBounds_toArray, List.set_cons_zero, List.set_cons_succ]; try simp only [List.getElem_toArray, List.getElem_cons_succ, List.getElem_cons_zero])
    (refine wpAnyH_ready (rs := [5]) (by kernel_rfl) (by simp) ?_; refine AllReadyH.cons rfl (fun K hK => ?_) AllReadyH.nil)
    go_simp
    (go_wp2_with fail; refine hK.out _ _ (hbd qE) (fun hH => ?_); clear hK K; try simp only [Act.put, List.setIfInBounds_toArray, List.set_cons_zero, List.set_cons_succ]; try simp only [List.getElem_toArray, List.getElem_cons_succ, List.getElem_cons_zero])
    (refine wpAnyH_ready (rs := [14]) (by kernel_rfl) (by simp) ?_; refine AllReadyH.cons rfl (fun K hK => ?_) AllReadyH.nil; refine step_app 86 tyB oE rE (bv_one _) n1 rfl rfl (.tmp 77) (.tmp 85) rfl rfl rfl ?_; intro va wa ka1 ka2 ka3; have q1 := ext_app0 qE fE ka2; have kf1 := ka3.fresh fE qE.size; have rY := hyy.mod q1 (fun _ _ _ h => h); refine hK.out _ _ (hbd q1) (fun hH => ?_); clear hK K; try simp only [Act.put, List.setIfInBounds_toArray, List.set_cons_zero, List.set_cons_succ]; try simp only [List.getElem_toArray, List.getElem_cons_succ, List.getElem_cons_zero])
    (refine wpAnyH_ready (rs := [16]) (by kernel_rfl) (by simp) ?_; refine AllReadyH.cons rfl (fun K hK => ?_) AllReadyH.nil; refine step_app 88 tyB ka1 rY (bv_one _) n2 rfl rfl (.tmp 86) (.tmp 87) rfl rfl rfl ?_; intro vb wb kb1 kb2 kb3; have q2 := ext_app0 q1 kf1 kb2; have kf2 := kb3.fresh kf1 q1.size; obtain ⟨Av, cv, rfl⟩ := kb1.shape; have j3 := hfz q2; have j2 := hel q2; refine hK.out _ _ (hbd q2) (fun hH => ?_); clear hK K; try simp only [Act.put, List.setIfInBounds_toArray, List.set_cons_zero, List.set_cons_succ]; try simp only [List.getElem_toArray, List.getElem_cons_succ, List.getElem_cons_zero])
    (refine wpAnyH_take (i := 17) (oi := ⟨_, _, _, _, _, _⟩) (v := ?tv81) rfl (by kernel_rfl) (by kernel_rfl) (by kernel_rfl) (fun _ _ _ h => h) (Or.inl ⟨by kernel_rfl, ?hy81⟩) hH ?rs81; (case hy81 => (intro wx hSw; (try dsimp only at hSw); go_simp; try with_reducible rfl)); try simp only [Act.put, List.setIfInBounds_toArray, List.set_cons_zero, List.set_cons_succ]; try simp only [List.getElem_toArray, List.getElem_cons_succ, List.getElem_cons_zero])
    (refine wpAnyH_take (i := 18) (oi := ⟨_, _, _, _, _, _⟩) (v := ?tv82) rfl (by kernel_rfl) (by kernel_rfl) (by kernel_rfl) (fun _ _ _ h => h) (Or.inl ⟨by kernel_rfl, ?hy82⟩) hH ?rs82; (case hy82 => (intro wx hSw; (try dsimp only at hSw); go_simp; try with_reducible rfl)); try simp only [Act.put, List.setIfInBounds_toArray, List.set_cons_zero, List.set_cons_succ]; try simp only [List.getElem_toArray, List.getElem_cons_succ, List.getElem_cons_zero])
    (refine wpAnyH_ready (rs := [19]) (by kernel_rfl) (by simp) ?_; refine AllReadyH.cons rfl (fun K hK => ?_) AllReadyH.nil)
    go_simp
    (go_wp2_with fail; refine hK.out _ _ (hlast _ q2) (fun hH => ?_); clear hK K; try simp only [Act.put, List.setIfInBounds_toArray, List.set_cons_zero, List.set_cons_succ]; try simp only [List.getElem_toArray, List.getElem_cons_succ, List.getElem_cons_zero])
    refine wpAnyH_done (by kernel_rfl) ?_ _
  all_goals
    have e0 : ([] : List Value) ++ f.b.map bv ++ b.map bv = (f.b ++ b).map bv := by simp
    rw [e0, List.length_map, List.length_append] at kb1 kf2
    have hw := h3.mod q2 (fun _ _ _ h => h)
    obtain ⟨k1, k2⟩ := hw.row.set3 hiA (j := 1) (u := .slice Av (f.b.length + b.length) cv) (a' := (⟨f.name, f.b ++ b, f.last⟩, .slice Av (f.b.length + b.length) cv)) (by omega) (by rw [hA]; rfl)
    have hwz := q2.size
    have hyz := y3.size
    have hsm2 := hsm.out
    have h5 := hw.turn (S' := Grow S w) hiA (f' := ⟨f.name, f.b ++ b, f.last⟩) (v' := .slice Av (f.b.length + b.length) cv) (by rw [hA]) k2 (fun k _ hk => hk ▸ r2) k1 (T := fun j => w3.heap.size ≤ j) ((kb1.mod k2 (fun j hj e => by have := kf2 j hj; omega)).sl.mono fun j _ hj => kf2 j hj) (fun j _ hj => ⟨.inr (by omega), by have := h.blk.lt; omega, fun hv => by have := h3.row.lt hv; omega⟩) (fun _ h => .inl h) (by simp only [List.length_append]; omega) (by rw [hA]; simp only [List.length_append]; omega)
    have hcd := did_any h5
    have hSd := h.sd
    have hSp := (h.ro _ r2).1
    have mA := ((ext_trans y3 q2).mono (G := S) fun _ _ h => h.elim).then_ k2 fun j _ hj => hj ▸ hSp
    clear hat r6 h h3 hvi hA e4 hlast hcc k1 k2 h5 hw kb1 kb2 kb3 ka1 ka2 ka3 kf1 kf2 oE fE qE rE n1 n2 q0 q1 r4a r40 j2 j3 r1 r2 r3 r4 r5 y3 hbd hel hfz rY hyy hy hsm hsm2 q2
    go_wp2_with fail
    refine hcd.mono ?_
    rintro e w7 ⟨rfl, h7, m7⟩
    clear hcd
    go_wp2_with fail
    go_ret
    exact ⟨rfl, h7.rd, mA.then_ m7 fun j _ hj => hj ▸ hSd⟩
end
end Go.Proofs.YtblfhonfjljndaaDoor
