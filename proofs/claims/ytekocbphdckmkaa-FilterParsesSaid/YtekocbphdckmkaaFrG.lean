/- filter: the document's Parse. -/
import Derived.Test.YtekocbphdckmkaaFrF
import Derived.Test.YtekocbphdckmkaaRegA
namespace Go.Proofs.Ytekocbphdckmkaa
open Go.RowKit
set_option maxRecDepth 100000

theorem manyP_nodes {p : List UInt8 → PR} {f : Fi → Nat} (hp : ∀ R F R', p R = .ok (F, R') → f F + R'.length ≤ R.length) : ∀ (m : Nat) (b : Bool) (K : List Fi) (R : List UInt8) (K' : List Fi) (R' : List UInt8), manyP p m b K R = .ok (K', R') → (K'.map f).sum + R'.length ≤ (K.map f).sum + R.length
  | 0, _, _, _, _, _, h => by cases h
  | m + 1, b, K, R, K', R', h => by
    rw [manyP] at h
    split at h
    · split at h
      · cases h
      · rename_i F R2 h2
        have h3 := hp _ _ _ h2
        have h4 := manyP_nodes hp m b _ R2 K' R' h
        rw [List.map_append, List.sum_append] at h4
        simp only [List.map_cons, List.map_nil, List.sum_cons, List.sum_nil] at h4
        omega
    · cases h; exact Nat.le_refl _
theorem kidsP_nodes {p : List UInt8 → PR} {f : Fi → Nat} (hp : ∀ R F R', p R = .ok (F, R') → f F + R'.length ≤ R.length) {kd : Int} {b : Bool} {R : List UInt8} {F : Fi} {R' : List UInt8} (h : kidsP p kd b R = .ok (F, R')) : (F.kids.map f).sum + R'.length ≤ R.length := by
  unfold kidsP at h
  split at h
  · cases h
  · rename_i K R2 h2
    cases h
    have := manyP_nodes hp _ _ _ _ _ _ h2
    simpa [Fi.kids] using this
theorem mk_kids {T : List UInt8} {c : UInt8} {P : List (List UInt8)} {F : Fi} (h : mkItem T c P = some F) : F.kids = [] := by
  unfold mkItem at h
  split at h
  · cases h
  · split at h
    · cases h; rfl
    · split at h
      · cases h; rfl
      · split at h
        · cases h; rfl
        · split at h <;> (cases h; rfl)
theorem item_kids {R R' : List UInt8} {F : Fi} (h : itemP R = some (F, R')) : F.kids = [] := by
  unfold itemP at h
  obtain ⟨⟨T, c, R1⟩, h1, h2⟩ := Option.bind_eq_some_iff.1 h
  obtain ⟨⟨p, R2⟩, h3, h4⟩ := Option.bind_eq_some_iff.1 h2
  obtain ⟨f, h5, h6⟩ := Option.map_eq_some_iff.1 h4
  cases h6
  exact mk_kids h5
theorem innerP_nodes {p : List UInt8 → PR} {f : Fi → Nat} (hp : ∀ R F R', p R = .ok (F, R') → f F + R'.length ≤ R.length) {R : List UInt8} {F : Fi} {R' : List UInt8} (h : innerP p R = .ok (F, R')) : (F.kids.map f).sum + R'.length ≤ R.length := by
  unfold innerP at h
  have ht : R.tail.length ≤ R.length := by rw [List.length_tail]; omega
  split at h
  · exact Nat.le_trans (kidsP_nodes hp h) ht
  · split at h
    · exact Nat.le_trans (kidsP_nodes hp h) ht
    · split at h
      · exact Nat.le_trans (kidsP_nodes hp h) ht
      · split at h
        · cases h
        · rename_i x hx
          cases h
          rw [item_kids hx]
          have := (itemP_len hx).1
          simp only [List.map_nil, List.sum_nil]
          omega
theorem filP_nodes : ∀ (n : Nat) (R : List UInt8) (F : Fi) (R' : List UInt8), filP n R = .ok (F, R') → nodesN n F + R'.length ≤ R.length
  | 0, R, F, R', h => by
    rw [filP] at h
    split at h <;> cases h
  | n + 1, R, F, R', h => by
    rw [filP] at h
    split at h
    · rename_i h0
      unfold closeP at h
      split at h
      · cases h
      · rename_i F2 R2 h2
        have h3 := innerP_nodes (filP_nodes n) h2
        split at h
        · cases h
          have hne : R ≠ [] := fun e => by rw [e] at h0; cases h0
          have h5 := List.length_pos_iff.2 hne
          rw [nodes_succ]
          rw [List.length_tail] at h3 ⊢
          omega
        · cases h
    · cases h
set_option maxHeartbeats 3000000 in
theorem rparse_any {w : World} (s : List UInt8) (hl : s.length ≤ 1000000) :
    Calls Try.prog 9 #[sv s] w fun e w' => POut (parseP s) w' e ∧ Ext w w' := by
  have hsz := sv_size s
  have hnd : ∀ F R', filP 16 s = .ok (F, R') → nodesN 16 F ≤ 1000000 := fun F R' h => by have := filP_nodes 16 _ _ _ h; omega
  obtain ⟨U, hU⟩ : ∃ U, U = parseP s := ⟨_, rfl⟩
  rw [← hU]
  obtain ⟨w1, hw1⟩ : ∃ y7 : World, y7 = w.alloc (.cells z5 25) := ⟨_, rfl⟩
  obtain ⟨p, hp⟩ : ∃ p, p = w.heap.size := ⟨_, rfl⟩
  have x1 : Ext w w1 := by rw [hw1]; exact (Mod.refl _ w).alloc _
  have B1 : Blk w1 p 25 z5 := by rw [hw1, hp]; exact Blk.new w _ _
  obtain ⟨w2, hw2⟩ : ∃ y7 : World, y7 = w1.alloc (.cells #[sv s, .int .i64 0, .int .i64 0] 45) := ⟨_, rfl⟩
  obtain ⟨g, hg⟩ : ∃ p, p = w1.heap.size := ⟨_, rfl⟩
  have x2 : Ext w1 w2 := by rw [hw2]; exact (Mod.refl _ w1).alloc _
  have r2 : R3 w2 g s 0 0 := by rw [hw2, hg]; exact Blk.new w1 _ _
  have B2 := B1.mod x2 (fun h => h)
  have hpg : p ≠ g := by have := B1.lt; omega
  have hgp : g ≠ p := fun h => hpg h.symm
  have hpn : ¬ p < w.heap.size := by omega
  have hgn : ¬ g < w.heap.size := by have := B1.lt; omega
  have m2 : Ext w w2 := ext_trans x1 x2
  have hmodp : ∀ {wx : World} (a b c d e : Value), Ext w wx → Ext w (W5 wx p a b c d e) := fun a b c d e m => mod5 m (fun h => absurd h hpn) a b c d e
  have hff := rfilter_any 16 (Nat.le_refl _) r2 (Nat.zero_le _) hl
  rw [show (17 : Int) - ((16 : Nat) : Int) = 1 from rfl, List.drop_zero] at hff
  replace hw1 := Lib.hid hw1
  replace hw2 := Lib.hid hw2
  replace hp := Lib.hid hp
  replace hg := Lib.hid hg
  replace hU := Lib.hid hU
  replace hff := Lib.hid hff
  replace hnd := Lib.hid hnd
  clear x1 x2 B1
  go_enter Try.func9, Try.ntmps9
  go_upto_region 1 with fail
  rw [← hw1.out, ← hp.out]
  go_upto_region 2 with fail
  rw [← hw2.out, ← hg.out]
  go_wp2_with fail
  refine hff.out.mono ?_
  rintro e w3 ⟨⟨F, vs, vk, x, j, rfl, hkF, ⟨A1, l1, t1, rfl⟩, ⟨A2, l2, t2, rfl⟩, hj, r3, hcase⟩, y3⟩
  have m3 : Ext w w3 := m2.trans y3 (fun _ _ h => h) (fun b hb h => by have : b = g := h; omega)
  have B3 := B2.mod y3 hpg
  have hpw : p < w2.heap.size := B2.lt
  obtain ⟨w4, hw4⟩ : ∃ y7 : World, y7 = w3.alloc (.cells #[.int .i64 F.kind, sv F.typ, sv F.val, .slice A1 l1 t1, .slice A2 l2 t2] 25) := ⟨_, rfl⟩
  obtain ⟨q, hq⟩ : ∃ p, p = w3.heap.size := ⟨_, rfl⟩
  have x4 : Ext w3 w4 := by rw [hw4]; exact (Mod.refl _ w3).alloc _
  have BQ : Blk w4 q 25 #[.int .i64 F.kind, sv F.typ, sv F.val, .slice A1 l1 t1, .slice A2 l2 t2] := by rw [hw4, hq]; exact Blk.new w3 _ _
  have r4 := r3.mod x4 (fun h => h)
  have m4 := ext_trans m3 x4
  have B4 := B3.mod x4 (fun h => h)
  have hqp : q ≠ p := by have := B3.lt; omega
  replace hw4 := Lib.hid hw4
  replace hq := Lib.hid hq
  clear hff r3 m3 B3 r2 m2 B2 y3
  go_upto_region 3 with fail
  rw [← hw4.out, ← hq.out]
  obtain ⟨c0, c1, c2⟩ := r4.c
  rcases hcase with ⟨hR, hx0⟩ | ⟨hR, rfl, hF⟩
  · have hU2 := Lib.hid (show U = .error x by rw [hU.out, parseP, hR])
    have hxb : ((x : Int) == 0) = false := beq_eq_false_iff_ne.2 (by omega)
    have hne : ((x : Int) != 0) = true := bne_iff_ne.2 (by omega)
    clear hU hR BQ
    go_wp2_with fail
    obtain ⟨wd, hwd⟩ : ∃ y7 : World, y7 = w4.drew := ⟨_, rfl⟩
    have xd : Ext w4 wd := by rw [hwd]; exact (Mod.refl _ w4).drew
    have Bd := B4.mod xd (fun h => h)
    have rd := r4.mod xd (fun h => h)
    have md := ext_trans m4 xd
    clear B4 r4 m4 c0 c1 c2 xd
    obtain ⟨c0, c1, c2⟩ := rd.c
    obtain ⟨⟨f0, f1, f2, f3, f4⟩, e0, e1, e2, e3, e4⟩ := Bd.five
    have BX := Bd.set5 (.int .i64 0) (sv []) (sv []) (.slice none 0 0) (.slice none 0 0)
    go_upto_region 6 with fail
    refine wp_region_held_drew (S := fun _ => True) (by kernel_rfl) trivial (fun hH => ?_)
    clear hH
    have hT : (fun _ : World => True) w4.drew := trivial
    rw [← hwd] at hT ⊢
    clear hwd
    have c25 : (W5 wd p (.int .i64 0) (sv []) (sv []) (.slice none 0 0) (.slice none 0 0)).cell? ⟨g, 2, none⟩ = some (.int .i64 ((x : Nat) : Int)) := (R3.c (Blk.far5 rd hgp (.int .i64 0) (sv []) (sv []) (.slice none 0 0) (.slice none 0 0))).2.2
    (refine wpAnyH_take (i := 0) (oi := ⟨_, _, _, _, _, _⟩) (v := ?tv1) rfl (by kernel_rfl) (by kernel_rfl) (by kernel_rfl) (fun _ _ _ h => h) (Or.inl ⟨by kernel_rfl, ?hy1⟩) (by assumption) ?rs1; (case hy1 => (intro wx hSw; (try dsimp only at hSw); go_simp; try with_reducible rfl)); try simp only [Act.put, List.setIfInBounds_toArray, List.set_cons_zero, List.set_cons_succ]; try simp only [List.getElem_toArray, List.getElem_cons_succ, List.getElem_cons_zero])
    (refine wpAnyH_take (i := 1) (oi := ⟨_, _, _, _, _, _⟩) (v := ?tv2) rfl (by kernel_rfl) (by kernel_rfl) (by kernel_rfl) (fun _ _ _ h => h) (Or.inl ⟨by kernel_rfl, ?hy2⟩) (by assumption) ?rs2; (case hy2 => (intro wx hSw; (try dsimp only at hSw); go_simp; try with_reducible rfl)); try simp only [Act.put, List.setIfInBounds_toArray, List.set_cons_zero, List.set_cons_succ]; try simp only [List.getElem_toArray, List.getElem_cons_succ, List.getElem_cons_zero])
    (refine wpAnyH_take (i := 2) (oi := ⟨_, _, _, _, _, _⟩) (v := ?tv3) rfl (by kernel_rfl) (by kernel_rfl) (by kernel_rfl) (fun _ _ _ h => h) (Or.inl ⟨by kernel_rfl, ?hy3⟩) (by assumption) ?rs3; (case hy3 => (intro wx hSw; (try dsimp only at hSw); go_simp; try with_reducible rfl)); try simp only [Act.put, List.setIfInBounds_toArray, List.set_cons_zero, List.set_cons_succ]; try simp only [List.getElem_toArray, List.getElem_cons_succ, List.getElem_cons_zero])
    (refine wpAnyH_take (i := 3) (oi := ⟨_, _, _, _, _, _⟩) (v := ?tv4) rfl (by kernel_rfl) (by kernel_rfl) (by kernel_rfl) (fun _ _ _ h => h) (Or.inl ⟨by kernel_rfl, ?hy4⟩) (by assumption) ?rs4; (case hy4 => (intro wx hSw; (try dsimp only at hSw); go_simp; try with_reducible rfl)); try simp only [Act.put, List.setIfInBounds_toArray, List.set_cons_zero, List.set_cons_succ]; try simp only [List.getElem_toArray, List.getElem_cons_succ, List.getElem_cons_zero])
    refine wpAnyH_ready (rs := [4, 5]) (by kernel_rfl) (by simp) ?_
    refine AllReadyH.cons rfl (fun K hK => ?_) (AllReadyH.cons rfl (fun K hK => ?_) AllReadyH.nil)
    · go_simp
      (go_wp2_with fail; refine hK.out _ _ (trivial) (fun hH => ?_); clear hK K hH; try simp only [Act.put, List.setIfInBounds_toArray, List.set_cons_zero, List.set_cons_succ]; try simp only [List.getElem_toArray, List.getElem_cons_succ, List.getElem_cons_zero])
      (refine wpAnyH_ready (rs := [5]) (by kernel_rfl) (by simp) ?_; refine AllReadyH.cons rfl (fun K hK => ?_) AllReadyH.nil; go_simp)
      (go_wp2_with fail; refine hK.out _ _ (trivial) (fun hH => ?_); clear hK K hH; try simp only [Act.put, List.setIfInBounds_toArray, List.set_cons_zero, List.set_cons_succ]; try simp only [List.getElem_toArray, List.getElem_cons_succ, List.getElem_cons_zero])
      (refine wpAnyH_ready (rs := [6]) (by kernel_rfl) (by simp) ?_; refine AllReadyH.cons rfl (fun K hK => ?_) AllReadyH.nil; go_simp)
      (go_wp2_with fail; refine hK.out _ _ (trivial) (fun hH => ?_); clear hK K hH; try simp only [Act.put, List.setIfInBounds_toArray, List.set_cons_zero, List.set_cons_succ]; try simp only [List.getElem_toArray, List.getElem_cons_succ, List.getElem_cons_zero])
      refine wpAnyH_done (by kernel_rfl) ?_ _
      go_wp2_with fail
      refine bodyPost_ret (results_cell_row2 Try.results9 _ _ _ _ _ _ _ rfl BX Try.underlying25 rfl (by kernel_rfl)) rfl ?_
      exact ⟨⟨fz, _, _, x, rfl, .inl ⟨hU2.out, hx0, rfl, rfl, rfl⟩⟩, hmodp _ _ _ _ _ md⟩
    · go_simp
      (go_wp2_with fail; refine hK.out _ _ (trivial) (fun hH => ?_); clear hK K hH; try simp only [Act.put, List.setIfInBounds_toArray, List.set_cons_zero, List.set_cons_succ]; try simp only [List.getElem_toArray, List.getElem_cons_succ, List.getElem_cons_zero])
      (refine wpAnyH_ready (rs := [4]) (by kernel_rfl) (by simp) ?_; refine AllReadyH.cons rfl (fun K hK => ?_) AllReadyH.nil; go_simp)
      (go_wp2_with fail; refine hK.out _ _ (trivial) (fun hH => ?_); clear hK K hH; try simp only [Act.put, List.setIfInBounds_toArray, List.set_cons_zero, List.set_cons_succ]; try simp only [List.getElem_toArray, List.getElem_cons_succ, List.getElem_cons_zero])
      (refine wpAnyH_ready (rs := [6]) (by kernel_rfl) (by simp) ?_; refine AllReadyH.cons rfl (fun K hK => ?_) AllReadyH.nil; go_simp)
      (go_wp2_with fail; refine hK.out _ _ (trivial) (fun hH => ?_); clear hK K hH; try simp only [Act.put, List.setIfInBounds_toArray, List.set_cons_zero, List.set_cons_succ]; try simp only [List.getElem_toArray, List.getElem_cons_succ, List.getElem_cons_zero])
      refine wpAnyH_done (by kernel_rfl) ?_ _
      go_wp2_with fail
      refine bodyPost_ret (results_cell_row2 Try.results9 _ _ _ _ _ _ _ rfl BX Try.underlying25 rfl (by kernel_rfl)) rfl ?_
      exact ⟨⟨fz, _, _, x, rfl, .inl ⟨hU2.out, hx0, rfl, rfl, rfl⟩⟩, hmodp _ _ _ _ _ md⟩
  have hUc : U = if s.drop j = [] then (if isN 16 F = true then .ok F else .error 5) else .error 3 := by rw [hU.out, parseP, hR]
  have hN := hnd.out _ _ hR
  replace hUc := Lib.hid hUc
  have hF4 := hF.ext x4
  have hxb : (((0 : Nat) : Int) == 0) = true := rfl
  have hxn : (((0 : Nat) : Int) != 0) = false := rfl
  clear hU hR hF x4
  by_cases hjl : j < s.length
  · have hb : decide ((j : Int) < (s.length : Int)) = true := dtrue (by omega)
    have hbn : decide (j < s.length) = true := dtrue hjl
    have hU2 := Lib.hid (show U = .error 3 by
      rw [hUc.out, if_neg]
      intro h
      have := congrArg List.length h
      rw [List.length_drop] at this
      simp only [List.length_nil] at this
      omega)
    clear hUc hF4 BQ hN
    go_wp2_with fail
    refine (rbad_any r4 3).mono ?_
    rintro e w5 ⟨rfl, r5, y5⟩
    have m5 : Ext w w5 := m4.trans y5 (fun _ _ h => h) (fun b hb h => by have : b = g := h; omega)
    have B5 := B4.mod y5 hpg
    clear r4 m4 B4 c0 c1 c2 y5
    obtain ⟨c0, c1, c2⟩ := r5.c
    have hne : (((3 : Nat) : Int) != 0) = true := rfl
    go_wp2_with fail
    obtain ⟨wd, hwd⟩ : ∃ y7 : World, y7 = w5.drew := ⟨_, rfl⟩
    have xd : Ext w5 wd := by rw [hwd]; exact (Mod.refl _ w5).drew
    have Bd := B5.mod xd (fun h => h)
    have rd := r5.mod xd (fun h => h)
    have md := ext_trans m5 xd
    clear B5 r5 m5 c0 c1 c2 xd
    obtain ⟨c0, c1, c2⟩ := rd.c
    obtain ⟨⟨f0, f1, f2, f3, f4⟩, e0, e1, e2, e3, e4⟩ := Bd.five
    have BX := Bd.set5 (.int .i64 0) (sv []) (sv []) (.slice none 0 0) (.slice none 0 0)
    go_upto_region 6 with fail
    refine wp_region_held_drew (S := fun _ => True) (by kernel_rfl) trivial (fun hH => ?_)
    clear hH
    have hT : (fun _ : World => True) w5.drew := trivial
    rw [← hwd] at hT ⊢
    clear hwd
    have c25 : (W5 wd p (.int .i64 0) (sv []) (sv []) (.slice none 0 0) (.slice none 0 0)).cell? ⟨g, 2, none⟩ = some (.int .i64 ((3 : Nat) : Int)) := (R3.c (Blk.far5 rd hgp (.int .i64 0) (sv []) (sv []) (.slice none 0 0) (.slice none 0 0))).2.2
    (refine wpAnyH_take (i := 0) (oi := ⟨_, _, _, _, _, _⟩) (v := ?tv5) rfl (by kernel_rfl) (by kernel_rfl) (by kernel_rfl) (fun _ _ _ h => h) (Or.inl ⟨by kernel_rfl, ?hy5⟩) (by assumption) ?rs5; (case hy5 => (intro wx hSw; (try dsimp only at hSw); go_simp; try with_reducible rfl)); try simp only [Act.put, List.setIfInBounds_toArray, List.set_cons_zero, List.set_cons_succ]; try simp only [List.getElem_toArray, List.getElem_cons_succ, List.getElem_cons_zero])
    (refine wpAnyH_take (i := 1) (oi := ⟨_, _, _, _, _, _⟩) (v := ?tv6) rfl (by kernel_rfl) (by kernel_rfl) (by kernel_rfl) (fun _ _ _ h => h) (Or.inl ⟨by kernel_rfl, ?hy6⟩) (by assumption) ?rs6; (case hy6 => (intro wx hSw; (try dsimp only at hSw); go_simp; try with_reducible rfl)); try simp only [Act.put, List.setIfInBounds_toArray, List.set_cons_zero, List.set_cons_succ]; try simp only [List.getElem_toArray, List.getElem_cons_succ, List.getElem_cons_zero])
    (refine wpAnyH_take (i := 2) (oi := ⟨_, _, _, _, _, _⟩) (v := ?tv7) rfl (by kernel_rfl) (by kernel_rfl) (by kernel_rfl) (fun _ _ _ h => h) (Or.inl ⟨by kernel_rfl, ?hy7⟩) (by assumption) ?rs7; (case hy7 => (intro wx hSw; (try dsimp only at hSw); go_simp; try with_reducible rfl)); try simp only [Act.put, List.setIfInBounds_toArray, List.set_cons_zero, List.set_cons_succ]; try simp only [List.getElem_toArray, List.getElem_cons_succ, List.getElem_cons_zero])
    (refine wpAnyH_take (i := 3) (oi := ⟨_, _, _, _, _, _⟩) (v := ?tv8) rfl (by kernel_rfl) (by kernel_rfl) (by kernel_rfl) (fun _ _ _ h => h) (Or.inl ⟨by kernel_rfl, ?hy8⟩) (by assumption) ?rs8; (case hy8 => (intro wx hSw; (try dsimp only at hSw); go_simp; try with_reducible rfl)); try simp only [Act.put, List.setIfInBounds_toArray, List.set_cons_zero, List.set_cons_succ]; try simp only [List.getElem_toArray, List.getElem_cons_succ, List.getElem_cons_zero])
    refine wpAnyH_ready (rs := [4, 5]) (by kernel_rfl) (by simp) ?_
    refine AllReadyH.cons rfl (fun K hK => ?_) (AllReadyH.cons rfl (fun K hK => ?_) AllReadyH.nil)
    · go_simp
      (go_wp2_with fail; refine hK.out _ _ (trivial) (fun hH => ?_); clear hK K hH; try simp only [Act.put, List.setIfInBounds_toArray, List.set_cons_zero, List.set_cons_succ]; try simp only [List.getElem_toArray, List.getElem_cons_succ, List.getElem_cons_zero])
      (refine wpAnyH_ready (rs := [5]) (by kernel_rfl) (by simp) ?_; refine AllReadyH.cons rfl (fun K hK => ?_) AllReadyH.nil; go_simp)
      (go_wp2_with fail; refine hK.out _ _ (trivial) (fun hH => ?_); clear hK K hH; try simp only [Act.put, List.setIfInBounds_toArray, List.set_cons_zero, List.set_cons_succ]; try simp only [List.getElem_toArray, List.getElem_cons_succ, List.getElem_cons_zero])
      (refine wpAnyH_ready (rs := [6]) (by kernel_rfl) (by simp) ?_; refine AllReadyH.cons rfl (fun K hK => ?_) AllReadyH.nil; go_simp)
      (go_wp2_with fail; refine hK.out _ _ (trivial) (fun hH => ?_); clear hK K hH; try simp only [Act.put, List.setIfInBounds_toArray, List.set_cons_zero, List.set_cons_succ]; try simp only [List.getElem_toArray, List.getElem_cons_succ, List.getElem_cons_zero])
      refine wpAnyH_done (by kernel_rfl) ?_ _
      go_wp2_with fail
      refine bodyPost_ret (results_cell_row2 Try.results9 _ _ _ _ _ _ _ rfl BX Try.underlying25 rfl (by kernel_rfl)) rfl ?_
      exact ⟨⟨fz, _, _, 3, rfl, .inl ⟨hU2.out, (by decide), rfl, rfl, rfl⟩⟩, hmodp _ _ _ _ _ md⟩
    · go_simp
      (go_wp2_with fail; refine hK.out _ _ (trivial) (fun hH => ?_); clear hK K hH; try simp only [Act.put, List.setIfInBounds_toArray, List.set_cons_zero, List.set_cons_succ]; try simp only [List.getElem_toArray, List.getElem_cons_succ, List.getElem_cons_zero])
      (refine wpAnyH_ready (rs := [4]) (by kernel_rfl) (by simp) ?_; refine AllReadyH.cons rfl (fun K hK => ?_) AllReadyH.nil; go_simp)
      (go_wp2_with fail; refine hK.out _ _ (trivial) (fun hH => ?_); clear hK K hH; try simp only [Act.put, List.setIfInBounds_toArray, List.set_cons_zero, List.set_cons_succ]; try simp only [List.getElem_toArray, List.getElem_cons_succ, List.getElem_cons_zero])
      (refine wpAnyH_ready (rs := [6]) (by kernel_rfl) (by simp) ?_; refine AllReadyH.cons rfl (fun K hK => ?_) AllReadyH.nil; go_simp)
      (go_wp2_with fail; refine hK.out _ _ (trivial) (fun hH => ?_); clear hK K hH; try simp only [Act.put, List.setIfInBounds_toArray, List.set_cons_zero, List.set_cons_succ]; try simp only [List.getElem_toArray, List.getElem_cons_succ, List.getElem_cons_zero])
      refine wpAnyH_done (by kernel_rfl) ?_ _
      go_wp2_with fail
      refine bodyPost_ret (results_cell_row2 Try.results9 _ _ _ _ _ _ _ rfl BX Try.underlying25 rfl (by kernel_rfl)) rfl ?_
      exact ⟨⟨fz, _, _, 3, rfl, .inl ⟨hU2.out, (by decide), rfl, rfl, rfl⟩⟩, hmodp _ _ _ _ _ md⟩
  have hb : decide ((j : Int) < (s.length : Int)) = false := dfalse (by omega)
  have hbn : decide (j < s.length) = false := dfalse hjl
  have hUd : U = if isN 16 F = true then .ok F else .error 5 := by rw [hUc.out, if_pos (List.drop_of_length_le (by omega))]
  replace hUd := Lib.hid hUd
  have his := rIsF_any hF4.fil hN
  generalize isN 16 F = b at *
  obtain ⟨-, q0, q1, q2, q3, q4⟩ := BQ.five
  replace his := Lib.hid his
  clear hUc
  go_wp2_with fail
  refine his.out.mono ?_
  rintro e w5 ⟨rfl, x5⟩
  have m5 := ext_trans m4 x5
  have B5 := B4.mod x5 (fun h => h)
  have BQ5 := BQ.mod x5 (fun h => h)
  have hF5 := hF4.ext x5
  clear his hF4 m4 B4 q0 q1 q2 q3 q4 BQ x5 c0 c1 c2
  cases b
  · have hU2 := Lib.hid (show U = .error 5 by rw [hUd.out, if_neg (by decide)])
    clear hUd hF5 BQ5
    obtain ⟨⟨f0, f1, f2, f3, f4⟩, e0, e1, e2, e3, e4⟩ := B5.five
    go_wp2_with fail
    refine bodyPost_ret (results_cell_row2 Try.results9 _ _ _ _ _ _ _ rfl (B5.set5 _ _ _ _ _) Try.underlying25 rfl (by kernel_rfl)) rfl ?_
    exact ⟨⟨fz, _, _, 5, rfl, .inl ⟨hU2.out, (by decide), rfl, rfl, rfl⟩⟩, hmodp _ _ _ _ _ m5⟩
  · have hU2 := Lib.hid (show U = .ok F by rw [hUd.out, if_pos rfl])
    clear hUd
    obtain ⟨⟨f0, f1, f2, f3, f4⟩, e0, e1, e2, e3, e4⟩ := B5.five
    obtain ⟨-, q0, q1, q2, q3, q4⟩ := BQ5.five
    go_wp2_with fail
    refine bodyPost_ret (results_cell_row2 Try.results9 _ _ _ _ _ _ _ rfl (B5.set5 _ _ _ _ _) Try.underlying25 rfl (by kernel_rfl)) rfl ?_
    exact ⟨⟨F, _, _, 0, rfl, .inr ⟨hU2.out, rfl, (hF5.mod (mod5_at w5 p _ _ _ _ _) (fun b _ hb h => by have : b = p := h; omega)).fil⟩⟩, hmodp _ _ _ _ _ m5⟩
end Go.Proofs.Ytekocbphdckmkaa
