/- sorting files: one after another put in its place. -/
import Derived.Test.YtmjkgibeljbloaaLsC
namespace Go.Proofs.Ytmjkgibeljbloaa
open Go.RowKit
set_option maxRecDepth 100000

/-- k files of A stand in order. -/
structure InsS (X A Z : List Fl) (k : Nat) (D L : List Fl) : Prop where
  hD : D = X ++ L ++ Z
  hp : L.Perm A
  hs : Srt (L.take k)
/-- x is on its way down. -/
structure InnS (X P T : List Fl) (x : Fl) (j : Nat) (D S1 S2 : List Fl) : Prop where
  hP : P = S1 ++ S2
  hj : j = X.length + S1.length
  hD : D = X ++ S1 ++ x :: (S2 ++ T)
  ah : ∀ y ∈ S2, aheadF x y
theorem InsS.start {X A Z D L : List Fl} {k : Nat} (h : InsS X A Z k D L) (hk : k < A.length) :
    ∃ P x R, P.length = k ∧ Srt P ∧ (P ++ x :: R).Perm A ∧ InnS X P (R ++ Z) x (X.length + k) D P [] := by
  have hl : L.length = A.length := h.hp.length_eq
  have hk' : k < L.length := by omega
  have e : L.take k ++ L[k] :: L.drop (k + 1) = L := by rw [← List.drop_eq_getElem_cons hk', List.take_append_drop]
  have l1 : (L.take k).length = k := by rw [List.length_take]; omega
  refine ⟨L.take k, L[k], L.drop (k + 1), l1, h.hs, by rw [e]; exact h.hp, ⟨by rw [List.append_nil], by rw [l1], ?_, fun y hy => by cases hy⟩⟩
  rw [h.hD, List.nil_append, List.append_assoc X (L.take k), ← List.cons_append, ← List.append_assoc (L.take k), e, List.append_assoc]
theorem InnS.step {X P T D S1 S2 : List Fl} {x y : Fl} {j : Nat} (h : InnS X P T x j D (S1 ++ [y]) S2) (ha : aheadF x y) :
    j = X.length + S1.length + 1 ∧ Sw D (X.length + S1.length) j y x (X ++ S1 ++ x :: (y :: S2 ++ T)) ∧ InnS X P T x (X.length + S1.length) (X ++ S1 ++ x :: (y :: S2 ++ T)) S1 (y :: S2) := by
  have hj : j = X.length + S1.length + 1 := by rw [h.hj, List.length_append, List.length_singleton, Nat.add_assoc]
  refine ⟨hj, ?_, ⟨by rw [h.hP, List.append_assoc]; rfl, rfl, rfl, ?_⟩⟩
  · have hs := Sw.of (X ++ S1) [] (S2 ++ T) y x
    rw [List.length_append, List.length_nil, Nat.add_zero, ← hj] at hs
    have e : X ++ S1 ++ y :: ([] ++ x :: (S2 ++ T)) = D := by rw [h.hD]; simp
    rw [e] at hs
    exact hs
  · intro z hz
    rcases List.mem_cons.1 hz with rfl | hz
    · exact ha
    · exact h.ah z hz
theorem InnS.two {X P T D S1 S2 : List Fl} {x y : Fl} {j : Nat} (h : InnS X P T x j D (S1 ++ [y]) S2) : D[X.length + S1.length]? = some y ∧ D[j]? = some x := by
  have hj : j = X.length + S1.length + 1 := by rw [h.hj, List.length_append, List.length_singleton, Nat.add_assoc]
  have hs := Sw.of (X ++ S1) [] (S2 ++ T) y x
  rw [List.length_append, List.length_nil, Nat.add_zero, ← hj] at hs
  have e : X ++ S1 ++ y :: ([] ++ x :: (S2 ++ T)) = D := by rw [h.hD]; simp
  rw [e] at hs
  exact ⟨hs.pI, hs.qJ⟩
theorem InnS.stop {X A P R Z D S1 S2 : List Fl} {x : Fl} {j k : Nat} (h : InnS X P (R ++ Z) x j D S1 S2) (hk : P.length = k) (hP : Srt P) (hp : (P ++ x :: R).Perm A) (hle : ∀ y ∈ S1, leF y x) :
    InsS X A Z (k + 1) D (S1 ++ x :: (S2 ++ R)) := by
  have hPs := hP
  rw [h.hP] at hPs
  obtain ⟨p1, p2, p3⟩ := List.pairwise_append.1 hPs
  refine ⟨?_, ?_, ?_⟩
  · rw [h.hD]; simp
  · refine List.Perm.trans ?_ hp
    rw [h.hP, List.append_assoc]
    exact (List.perm_middle.symm).append_left S1 |>.trans (by simp [List.perm_append_left_iff, List.perm_middle])
  · have e : (S1 ++ x :: (S2 ++ R)).take (k + 1) = S1 ++ x :: S2 := by
      have e1 : S1 ++ x :: (S2 ++ R) = (S1 ++ x :: S2) ++ R := by simp
      have e2 : k + 1 = (S1 ++ x :: S2).length := by
        rw [← hk, h.hP]; simp only [List.length_append, List.length_cons]; omega
      rw [e1, e2, List.take_left']
      rfl
    rw [e]
    refine Srt.app p1 (List.pairwise_cons.2 ⟨fun y hy => leF_of (h.ah y hy), p2⟩) ?_
    intro s hs t ht
    rcases List.mem_cons.1 ht with rfl | ht
    · exact hle s hs
    · exact p3 s hs t ht
theorem InnS.le_all {X P T D S1 S2 : List Fl} {x y : Fl} {j : Nat} (h : InnS X P T x j D (S1 ++ [y]) S2) (hP : Srt P) (ha : ¬ aheadF x y) : ∀ z ∈ S1 ++ [y], leF z x := by
  rw [h.hP] at hP
  obtain ⟨p1, p2, p3⟩ := List.pairwise_append.1 hP
  obtain ⟨q1, q2, q3⟩ := List.pairwise_append.1 p1
  intro z hz
  rcases List.mem_append.1 hz with hz | hz
  · exact leF_trans (q3 z hz y (List.mem_singleton.2 rfl)) ha
  · rw [List.mem_singleton.1 hz]; exact ha
theorem InnS.len {X P T D S1 S2 : List Fl} {x : Fl} {j : Nat} (h : InnS X P T x j D S1 S2) : D.length = X.length + P.length + 1 + T.length ∧ j ≤ X.length + P.length := by
  rw [h.hD, h.hP, h.hj]
  simp only [List.length_append, List.length_cons]
  omega
theorem ext_mod {Q : Nat → Prop} {w w1 w2 : World} (h : Mod Q w w1) (x : Ext w1 w2) : Mod Q w w2 := h.then_ x (fun _ _ h => h.elim)

set_option maxHeartbeats 32000000 in
theorem insert_any {w : World} {g n c : Nat} {X A Z : List Fl} (h : OwnF w (slF g n c) (X ++ A ++ Z)) (hn : n = (X ++ A ++ Z).length) (hl : n ≤ 1000000) :
    Calls Try.prog 70 #[slF g n c, .int .i64 (X.length : Nat), .int .i64 (X.length + A.length : Nat), cF] w fun e w' => e = .returned (.tuple #[]) ∧ ∃ S, S.Perm A ∧ Srt S ∧ OwnF w' (slF g n c) (X ++ S ++ Z) ∧ Mod (fun k => k = g) w w' := by
  have hn' : X.length + A.length + Z.length = n := by rw [hn]; simp only [List.length_append]
  obtain ⟨a, ha⟩ : ∃ a, a = X.length := ⟨_, rfl⟩
  obtain ⟨b, hb⟩ : ∃ b, b = X.length + A.length := ⟨_, rfl⟩
  have hi0 : InsS X A Z 1 (X ++ A ++ Z) A := ⟨rfl, List.Perm.refl _, by
    rcases A with _ | ⟨p, A⟩
    · exact List.Pairwise.nil
    · exact List.pairwise_singleton _ _⟩
  rw [← hb, ← ha]
  have ab : a ≤ b ∧ b ≤ n := by omega
  generalize hD0 : X ++ A ++ Z = D0 at *
  have u0 : IntKind.i64.wrap ((a : Int) + 1) = ((a + 1 : Nat) : Int) := by rw [IntKind.wrap_i64]; omega
  have u0' : (a : Int) + 1 = ((a + 1 : Nat) : Int) := by omega
  obtain ⟨i0, hi00⟩ : ∃ i0, i0 = a + 1 := ⟨_, rfl⟩
  rw [← hi00] at u0 u0'
  replace hi0 := Lib.hid hi0
  replace ha := Lib.hid ha
  replace hb := Lib.hid hb
  replace hn' := Lib.hid hn'
  replace hi00 := Lib.hid hi00
  clear hD0 hn
  go_enter Try.func70, Try.ntmps70
  go_wp2_with fail
  go_loopw [8] (fun iv wr => ∃ (i k : Nat) (D L : List Fl), 1 ≤ k ∧ i = a + k ∧ i ≤ b + 1 ∧ iv = .int .i64 i ∧ Hid (InsS X A Z k D L) ∧ OwnF wr (slF g n c) D ∧ Mod (fun k => k = g) w wr) (fun i _ => b + 1 - (intOf i).toNat)
  case atStart => exact ⟨i0, 1, D0, A, Nat.le_refl _, hi00.out, by have := hi00.out; omega, rfl, hi0, h, Mod.refl _ _⟩
  case round =>
    clear h hi0 u0 u0' hi00
    obtain ⟨i, k, D, L, hk1, hik, hib, rfl, hI, ho, hm⟩ := hrel
    replace hik := Lib.hid hik
    by_cases hlt : i < b
    case neg =>
      have hbl : decide ((i : Int) < (b : Int)) = false := dfalse (by omega)
      have hbl' : decide (i < b) = false := dfalse hlt
      have hfin : L.Perm A ∧ Srt L ∧ D = X ++ L ++ Z := by
        have h1 := hI.out
        have h2 := hik.out; have h3 := ha.out; have h4 := hb.out; have h5 := h1.hp.length_eq
        refine ⟨h1.hp, ?_, h1.hD⟩
        have := h1.hs
        rwa [List.take_of_length_le (by omega)] at this
      go_wp2_with fail
      go_end0
      exact ⟨rfl, L, hfin.1, hfin.2.1, hfin.2.2 ▸ ho, hm⟩
    have hbl : decide ((i : Int) < (b : Int)) = true := dtrue (by omega)
    have hbl' : decide (i < b) = true := dtrue hlt
    obtain ⟨P, x, R, hPk, hPs, hpm, hin⟩ := hI.out.start (by have h2 := hik.out; have h3 := ha.out; have h4 := hb.out; omega)
    replace hin := Lib.hid (show InnS X P (R ++ Z) x i D P [] by rw [hik.out, ha.out]; exact hin)
    replace hPk := Lib.hid hPk
    replace hPs := Lib.hid hPs
    replace hpm := Lib.hid hpm
    have u1 : IntKind.i64.wrap ((i : Int) + 1) = ((i + 1 : Nat) : Int) := by rw [IntKind.wrap_i64]; omega
    have u1' : (i : Int) + 1 = ((i + 1 : Nat) : Int) := by omega
    have hai : a < i := by have := hik.out; omega
    clear hI
    obtain ⟨i2, hi2⟩ : ∃ i2, i2 = i + 1 := ⟨_, rfl⟩
    rw [← hi2] at u1 u1'
    replace hi2 := Lib.hid hi2
    go_wp2_with fail
    go_loopw [9] (fun jv wr => ∃ (j : Nat) (D S1 S2 : List Fl), jv = .int .i64 j ∧ Hid (InnS X P (R ++ Z) x j D S1 S2) ∧ OwnF wr (slF g n c) D ∧ Mod (fun k => k = g) w wr) (fun j _ => (intOf j).toNat)
    case atStart => exact ⟨i, D, P, [], rfl, hin, ho, hm⟩
    case round =>
      clear hin ho hm
      obtain ⟨j, D, S1, S2, rfl, hin, ho, hm⟩ := hrel
      have hlen : D.length = n ∧ j ≤ a + k := by
        obtain ⟨e1, e2⟩ := hin.out.len
        have h2 := hik.out; have h3 := ha.out; have h4 := hb.out; have h5 := hPk.out; have h6 := hn'.out; have h7 := hpm.out.length_eq
        simp only [List.length_append, List.length_cons] at e1 e2 h7
        omega
      have hn : Hid (n = D.length) := Lib.hid hlen.1.symm
      have hjn : j ≤ i := by have := hik.out; omega
      replace hlen := Lib.hid hlen
      rcases List.eq_nil_or_concat S1 with hS | ⟨S1', y, hS⟩
      · subst hS
        have hja : j = a := by rw [hin.out.hj, ha.out]; rfl
        have hg0 : decide ((a : Int) < (j : Int)) = false := dfalse (by omega)
        have hg0' : decide (a < j) = false := dfalse (by omega)
        have hend := Lib.hid (hin.out.stop hPk.out hPs.out hpm.out (fun y hy => by cases hy))
        clear hja
        go_wp2_with fail
        refine wp_region_held_drew (S := fun _ => True) (by kernel_rfl) (trivial) (fun hH => ?_)
        (refine wpAnyH_take (i := 0) (oi := ⟨_, _, _, _, _, _⟩) (v := ?tv1) rfl (by kernel_rfl) (by kernel_rfl) (by kernel_rfl) (fun _ _ _ h => h) (Or.inl ⟨by kernel_rfl, ?hy1⟩) hH ?rs1; (case hy1 => (intro wx hSw; (try dsimp only at hSw); go_simp; try with_reducible rfl)); try simp only [Act.put, List.setIfInBounds_toArray, List.set_cons_zero, List.set_cons_succ]; try simp only [List.getElem_toArray, List.getElem_cons_succ, List.getElem_cons_zero])
        (refine wpAnyH_take (i := 1) (oi := ⟨_, _, _, _, _, _⟩) (v := ?tv2) rfl (by kernel_rfl) (by kernel_rfl) (by kernel_rfl) (fun _ _ _ h => h) (Or.inl ⟨by kernel_rfl, ?hy2⟩) hH ?rs2; (case hy2 => (intro wx hSw; (try dsimp only at hSw); go_simp; try with_reducible rfl)); try simp only [Act.put, List.setIfInBounds_toArray, List.set_cons_zero, List.set_cons_succ]; try simp only [List.getElem_toArray, List.getElem_cons_succ, List.getElem_cons_zero])
        (refine wpAnyH_take (i := 2) (oi := ⟨_, _, _, _, _, _⟩) (v := ?tv3) rfl (by kernel_rfl) (by kernel_rfl) (by kernel_rfl) (fun _ _ _ h => h) (Or.inl ⟨by kernel_rfl, ?hy3⟩) hH ?rs3; (case hy3 => (intro wx hSw; (try dsimp only at hSw); go_simp; try with_reducible rfl)); try simp only [Act.put, List.setIfInBounds_toArray, List.set_cons_zero, List.set_cons_succ]; try simp only [List.getElem_toArray, List.getElem_cons_succ, List.getElem_cons_zero])
        (refine wpAnyH_take (i := 3) (oi := ⟨_, _, _, _, _, _⟩) (v := ?tv4) rfl (by kernel_rfl) (by kernel_rfl) (by kernel_rfl) (fun _ _ _ h => h) (Or.inl ⟨by kernel_rfl, ?hy4⟩) hH ?rs4; (case hy4 => (intro wx hSw; (try dsimp only at hSw); go_simp; try with_reducible rfl)); try simp only [Act.put, List.setIfInBounds_toArray, List.set_cons_zero, List.set_cons_succ]; try simp only [List.getElem_toArray, List.getElem_cons_succ, List.getElem_cons_zero])
        (refine wpAnyH_take (i := 4) (v := undef) rfl (by kernel_rfl) (by kernel_rfl) (by kernel_rfl) (fun _ _ _ h => h) (Or.inr ⟨by kernel_rfl, rfl⟩) hH ?rs5; try simp only [Act.put, List.setIfInBounds_toArray, List.set_cons_zero, List.set_cons_succ]; try simp only [List.getElem_toArray, List.getElem_cons_succ, List.getElem_cons_zero])
        (refine wpAnyH_take (i := 5) (v := undef) rfl (by kernel_rfl) (by kernel_rfl) (by kernel_rfl) (fun _ _ _ h => h) (Or.inr ⟨by kernel_rfl, rfl⟩) hH ?rs6; try simp only [Act.put, List.setIfInBounds_toArray, List.set_cons_zero, List.set_cons_succ]; try simp only [List.getElem_toArray, List.getElem_cons_succ, List.getElem_cons_zero])
        (refine wpAnyH_take (i := 6) (v := undef) rfl (by kernel_rfl) (by kernel_rfl) (by kernel_rfl) (fun _ _ _ h => h) (Or.inr ⟨by kernel_rfl, rfl⟩) hH ?rs7; try simp only [Act.put, List.setIfInBounds_toArray, List.set_cons_zero, List.set_cons_succ]; try simp only [List.getElem_toArray, List.getElem_cons_succ, List.getElem_cons_zero])
        (refine wpAnyH_take (i := 7) (v := undef) rfl (by kernel_rfl) (by kernel_rfl) (by kernel_rfl) (fun _ _ _ h => h) (Or.inr ⟨by kernel_rfl, rfl⟩) hH ?rs8; try simp only [Act.put, List.setIfInBounds_toArray, List.set_cons_zero, List.set_cons_succ]; try simp only [List.getElem_toArray, List.getElem_cons_succ, List.getElem_cons_zero])
        (refine wpAnyH_take (i := 8) (v := undef) rfl (by kernel_rfl) (by kernel_rfl) (by kernel_rfl) (fun _ _ _ h => h) (Or.inr ⟨by kernel_rfl, rfl⟩) hH ?rs9; try simp only [Act.put, List.setIfInBounds_toArray, List.set_cons_zero, List.set_cons_succ]; try simp only [List.getElem_toArray, List.getElem_cons_succ, List.getElem_cons_zero])
        (refine wpAnyH_take (i := 9) (v := undef) rfl (by kernel_rfl) (by kernel_rfl) (by kernel_rfl) (fun _ _ _ h => h) (Or.inr ⟨by kernel_rfl, rfl⟩) hH ?rs10; try simp only [Act.put, List.setIfInBounds_toArray, List.set_cons_zero, List.set_cons_succ]; try simp only [List.getElem_toArray, List.getElem_cons_succ, List.getElem_cons_zero])
        (refine wpAnyH_take (i := 10) (v := undef) rfl (by kernel_rfl) (by kernel_rfl) (by kernel_rfl) (fun _ _ _ h => h) (Or.inr ⟨by kernel_rfl, rfl⟩) hH ?rs11; try simp only [Act.put, List.setIfInBounds_toArray, List.set_cons_zero, List.set_cons_succ]; try simp only [List.getElem_toArray, List.getElem_cons_succ, List.getElem_cons_zero])
        (refine wpAnyH_take (i := 11) (v := undef) rfl (by kernel_rfl) (by kernel_rfl) (by kernel_rfl) (fun _ _ _ h => h) (Or.inr ⟨by kernel_rfl, rfl⟩) hH ?rs12; try simp only [Act.put, List.setIfInBounds_toArray, List.set_cons_zero, List.set_cons_succ]; try simp only [List.getElem_toArray, List.getElem_cons_succ, List.getElem_cons_zero])
        (refine wpAnyH_take (i := 12) (v := undef) rfl (by kernel_rfl) (by kernel_rfl) (by kernel_rfl) (fun _ _ _ h => h) (Or.inr ⟨by kernel_rfl, rfl⟩) hH ?rs13; try simp only [Act.put, List.setIfInBounds_toArray, List.set_cons_zero, List.set_cons_succ]; try simp only [List.getElem_toArray, List.getElem_cons_succ, List.getElem_cons_zero])
        (refine wpAnyH_take (i := 13) (v := undef) rfl (by kernel_rfl) (by kernel_rfl) (by kernel_rfl) (fun _ _ _ h => h) (Or.inr ⟨by kernel_rfl, rfl⟩) hH ?rs14; try simp only [Act.put, List.setIfInBounds_toArray, List.set_cons_zero, List.set_cons_succ]; try simp only [List.getElem_toArray, List.getElem_cons_succ, List.getElem_cons_zero])
        (refine wpAnyH_take (i := 14) (v := undef) rfl (by kernel_rfl) (by kernel_rfl) (by kernel_rfl) (fun _ _ _ h => h) (Or.inr ⟨by kernel_rfl, rfl⟩) hH ?rs15; try simp only [Act.put, List.setIfInBounds_toArray, List.set_cons_zero, List.set_cons_succ]; try simp only [List.getElem_toArray, List.getElem_cons_succ, List.getElem_cons_zero])
        (refine wpAnyH_take (i := 15) (v := undef) rfl (by kernel_rfl) (by kernel_rfl) (by kernel_rfl) (fun _ _ _ h => h) (Or.inr ⟨by kernel_rfl, rfl⟩) hH ?rs16; try simp only [Act.put, List.setIfInBounds_toArray, List.set_cons_zero, List.set_cons_succ]; try simp only [List.getElem_toArray, List.getElem_cons_succ, List.getElem_cons_zero])
        (refine wpAnyH_take (i := 16) (oi := ⟨_, _, _, _, _, _⟩) (v := ?tv17) rfl (by kernel_rfl) (by kernel_rfl) (by kernel_rfl) (fun _ _ _ h => h) (Or.inl ⟨by kernel_rfl, ?hy17⟩) hH ?rs17; (case hy17 => (intro wx hSw; (try dsimp only at hSw); go_simp; try with_reducible rfl)); try simp only [Act.put, List.setIfInBounds_toArray, List.set_cons_zero, List.set_cons_succ]; try simp only [List.getElem_toArray, List.getElem_cons_succ, List.getElem_cons_zero])
        refine wpAnyH_done (by kernel_rfl) ?_ _
        go_wp2_with fail
        exact ⟨⟨i2, k + 1, D, _, by omega, by have := hi2.out; have := hik.out; omega, by have := hi2.out; omega, by go_num, hend, ho, ext_mod hm (Mod.refl _ _).drew⟩, by have := hi2.out; simp [intOf] <;> omega⟩
      rw [List.concat_eq_append] at hS
      subst hS
      have hjv := hin.out.hj
      rw [List.length_append, List.length_singleton] at hjv
      obtain ⟨I, hI⟩ : ∃ I, I = X.length + S1'.length := ⟨_, rfl⟩
      have hIj : j = I + 1 := by omega
      have haI : a ≤ I := by have := ha.out; omega
      have hg0 : decide ((a : Int) < (j : Int)) = true := dtrue (by omega)
      have hg0' : decide (a < j) = true := dtrue (by omega)
      have u2 : IntKind.i64.wrap ((j : Int) - 1) = (I : Int) := by rw [IntKind.wrap_i64]; omega
      have u2' : (j : Int) - 1 = (I : Int) := by omega
      have i0 : (0 : Int) ≤ (I : Int) := by omega
      have i1 : (I : Int) < (n : Int) := by omega
      have j0 : (0 : Int) ≤ (j : Int) := by omega
      have j1 : (j : Int) < (n : Int) := by omega
      have iI : IntKind.i64.wrap (I : Int) = (I : Int) := by rw [IntKind.wrap_i64]; omega
      have iJ : IntKind.i64.wrap (j : Int) = (j : Int) := by rw [IntKind.wrap_i64]; omega
      have hIl : D[I]? = some y ∧ D[j]? = some x := by
        rw [hI]
        exact hin.out.two
      have hbk : ∀ {wx : World}, Ext wr wx → wx.cell? ⟨g, I * 5, none⟩ = some (.int .i64 y.id) ∧ wx.cell? ⟨g, I * 5 + 1, none⟩ = some (.int .i64 y.lev) ∧ wx.cell? ⟨g, I * 5 + 2, none⟩ = some (.int .i64 y.size) ∧ wx.cell? ⟨g, I * 5 + 3, none⟩ = some (sv y.first) ∧ wx.cell? ⟨g, I * 5 + 4, none⟩ = some (sv y.last) ∧ wx.cell? ⟨g, j * 5, none⟩ = some (.int .i64 x.id) ∧ wx.cell? ⟨g, j * 5 + 1, none⟩ = some (.int .i64 x.lev) ∧ wx.cell? ⟨g, j * 5 + 2, none⟩ = some (.int .i64 x.size) ∧ wx.cell? ⟨g, j * 5 + 3, none⟩ = some (sv x.first) ∧ wx.cell? ⟨g, j * 5 + 4, none⟩ = some (sv x.last) := by
        intro wx hx
        have o := ho.ext hx
        obtain ⟨c0, c1, c2, c3, c4⟩ := OwnF.cellsp o hIl.1
        obtain ⟨d0, d1, d2, d3, d4⟩ := OwnF.cellsp o hIl.2
        exact ⟨c0, c1, c2, c3, c4, d0, d1, d2, d3, d4⟩
      have hcmp := fun wx => order_any (w := wx) x y
      have hlt2 := ordI_lt x y
      have hr0 : Ext wr wr.drew := (Mod.refl _ wr).drew
      clear hIl hjv
      replace hI := Lib.hid hI
      have hdec : I < j := by omega
      clear hIj
      by_cases hah : aheadF x y
      case neg =>
        have hlt3 : decide (ordI x y < 0) = false := hlt2.trans (dfalse hah)
        have hend := Lib.hid (hin.out.stop hPk.out hPs.out hpm.out (hin.out.le_all hPs.out hah))
        clear hlt2 hah hin
        generalize S1' ++ [y] ++ x :: (S2 ++ R) = L2 at *
        go_wp2_with fail
        refine wp_region_held_drew (S := fun wx => wx.cell? ⟨g, I * 5, none⟩ = some (.int .i64 y.id) ∧ wx.cell? ⟨g, I * 5 + 1, none⟩ = some (.int .i64 y.lev) ∧ wx.cell? ⟨g, I * 5 + 2, none⟩ = some (.int .i64 y.size) ∧ wx.cell? ⟨g, I * 5 + 3, none⟩ = some (sv y.first) ∧ wx.cell? ⟨g, I * 5 + 4, none⟩ = some (sv y.last) ∧ wx.cell? ⟨g, j * 5, none⟩ = some (.int .i64 x.id) ∧ wx.cell? ⟨g, j * 5 + 1, none⟩ = some (.int .i64 x.lev) ∧ wx.cell? ⟨g, j * 5 + 2, none⟩ = some (.int .i64 x.size) ∧ wx.cell? ⟨g, j * 5 + 3, none⟩ = some (sv x.first) ∧ wx.cell? ⟨g, j * 5 + 4, none⟩ = some (sv x.last)) (by kernel_rfl) (hbk hr0) (fun hH => ?_)
        (refine wpAnyH_take (i := 0) (oi := ⟨_, _, _, _, _, _⟩) (v := ?tv18) rfl (by kernel_rfl) (by kernel_rfl) (by kernel_rfl) (fun _ _ _ h => h) (Or.inl ⟨by kernel_rfl, ?hy18⟩) hH ?rs18; (case hy18 => (intro wx hSw; (try dsimp only at hSw); go_simp; try with_reducible rfl)); try simp only [Act.put, List.setIfInBounds_toArray, List.set_cons_zero, List.set_cons_succ]; try simp only [List.getElem_toArray, List.getElem_cons_succ, List.getElem_cons_zero])
        (refine wpAnyH_take (i := 1) (oi := ⟨_, _, _, _, _, _⟩) (v := ?tv19) rfl (by kernel_rfl) (by kernel_rfl) (by kernel_rfl) (fun _ _ _ h => h) (Or.inl ⟨by kernel_rfl, ?hy19⟩) hH ?rs19; (case hy19 => (intro wx hSw; (try dsimp only at hSw); go_simp; try with_reducible rfl)); try simp only [Act.put, List.setIfInBounds_toArray, List.set_cons_zero, List.set_cons_succ]; try simp only [List.getElem_toArray, List.getElem_cons_succ, List.getElem_cons_zero])
        (refine wpAnyH_take (i := 2) (oi := ⟨_, _, _, _, _, _⟩) (v := ?tv20) rfl (by kernel_rfl) (by kernel_rfl) (by kernel_rfl) (fun _ _ _ h => h) (Or.inl ⟨by kernel_rfl, ?hy20⟩) hH ?rs20; (case hy20 => (intro wx hSw; (try dsimp only at hSw); go_simp; try with_reducible rfl)); try simp only [Act.put, List.setIfInBounds_toArray, List.set_cons_zero, List.set_cons_succ]; try simp only [List.getElem_toArray, List.getElem_cons_succ, List.getElem_cons_zero])
        (refine wpAnyH_take (i := 3) (oi := ⟨_, _, _, _, _, _⟩) (v := ?tv21) rfl (by kernel_rfl) (by kernel_rfl) (by kernel_rfl) (fun _ _ _ h => h) (Or.inl ⟨by kernel_rfl, ?hy21⟩) hH ?rs21; (case hy21 => (intro wx hSw; (try dsimp only at hSw); go_simp; try with_reducible rfl)); try simp only [Act.put, List.setIfInBounds_toArray, List.set_cons_zero, List.set_cons_succ]; try simp only [List.getElem_toArray, List.getElem_cons_succ, List.getElem_cons_zero])
        (refine wpAnyH_take (i := 4) (oi := ⟨_, _, _, _, _, _⟩) (v := ?tv22) rfl (by kernel_rfl) (by kernel_rfl) (by kernel_rfl) (fun _ _ _ h => h) (Or.inl ⟨by kernel_rfl, ?hy22⟩) hH ?rs22; (case hy22 => (intro wx hSw; (try dsimp only at hSw); go_simp; try with_reducible rfl)); try simp only [Act.put, List.setIfInBounds_toArray, List.set_cons_zero, List.set_cons_succ]; try simp only [List.getElem_toArray, List.getElem_cons_succ, List.getElem_cons_zero])
        (refine wpAnyH_take (i := 5) (oi := ⟨_, _, _, _, _, _⟩) (v := ?tv23) rfl (by kernel_rfl) (by kernel_rfl) (by kernel_rfl) (fun _ _ _ h => h) (Or.inl ⟨by kernel_rfl, ?hy23⟩) hH ?rs23; (case hy23 => (intro wx hSw; (try dsimp only at hSw); go_simp; try with_reducible rfl)); try simp only [Act.put, List.setIfInBounds_toArray, List.set_cons_zero, List.set_cons_succ]; try simp only [List.getElem_toArray, List.getElem_cons_succ, List.getElem_cons_zero])
        (refine wpAnyH_take (i := 6) (oi := ⟨_, _, _, _, _, _⟩) (v := ?tv24) rfl (by kernel_rfl) (by kernel_rfl) (by kernel_rfl) (fun _ _ _ h => h) (Or.inl ⟨by kernel_rfl, ?hy24⟩) hH ?rs24; (case hy24 => (intro wx hSw; (try dsimp only at hSw); go_simp; try with_reducible rfl)); try simp only [Act.put, List.setIfInBounds_toArray, List.set_cons_zero, List.set_cons_succ]; try simp only [List.getElem_toArray, List.getElem_cons_succ, List.getElem_cons_zero])
        (refine wpAnyH_take (i := 7) (oi := ⟨_, _, _, _, _, _⟩) (v := ?tv25) rfl (by kernel_rfl) (by kernel_rfl) (by kernel_rfl) (fun _ _ _ h => h) (Or.inl ⟨by kernel_rfl, ?hy25⟩) hH ?rs25; (case hy25 => (intro wx hSw; (try dsimp only at hSw); go_simp; try with_reducible rfl)); try simp only [Act.put, List.setIfInBounds_toArray, List.set_cons_zero, List.set_cons_succ]; try simp only [List.getElem_toArray, List.getElem_cons_succ, List.getElem_cons_zero])
        (refine wpAnyH_take (i := 8) (oi := ⟨_, _, _, _, _, _⟩) (v := ?tv26) rfl (by kernel_rfl) (by kernel_rfl) (by kernel_rfl) (fun _ _ _ h => h) (Or.inl ⟨by kernel_rfl, ?hy26⟩) hH ?rs26; (case hy26 => (intro wx hSw; (try dsimp only at hSw); go_simp; try with_reducible rfl)); try simp only [Act.put, List.setIfInBounds_toArray, List.set_cons_zero, List.set_cons_succ]; try simp only [List.getElem_toArray, List.getElem_cons_succ, List.getElem_cons_zero])
        (refine wpAnyH_take (i := 9) (oi := ⟨_, _, _, _, _, _⟩) (v := ?tv27) rfl (by kernel_rfl) (by kernel_rfl) (by kernel_rfl) (fun _ _ _ h => h) (Or.inl ⟨by kernel_rfl, ?hy27⟩) hH ?rs27; (case hy27 => (intro wx hSw; (try dsimp only at hSw); go_simp; try with_reducible rfl)); try simp only [Act.put, List.setIfInBounds_toArray, List.set_cons_zero, List.set_cons_succ]; try simp only [List.getElem_toArray, List.getElem_cons_succ, List.getElem_cons_zero])
        (refine wpAnyH_take (i := 10) (oi := ⟨_, _, _, _, _, _⟩) (v := ?tv28) rfl (by kernel_rfl) (by kernel_rfl) (by kernel_rfl) (fun _ _ _ h => h) (Or.inl ⟨by kernel_rfl, ?hy28⟩) hH ?rs28; (case hy28 => (intro wx hSw; (try dsimp only at hSw); go_simp; try with_reducible rfl)); try simp only [Act.put, List.setIfInBounds_toArray, List.set_cons_zero, List.set_cons_succ]; try simp only [List.getElem_toArray, List.getElem_cons_succ, List.getElem_cons_zero])
        (refine wpAnyH_take (i := 11) (oi := ⟨_, _, _, _, _, _⟩) (v := ?tv29) rfl (by kernel_rfl) (by kernel_rfl) (by kernel_rfl) (fun _ _ _ h => h) (Or.inl ⟨by kernel_rfl, ?hy29⟩) hH ?rs29; (case hy29 => (intro wx hSw; (try dsimp only at hSw); go_simp; try with_reducible rfl)); try simp only [Act.put, List.setIfInBounds_toArray, List.set_cons_zero, List.set_cons_succ]; try simp only [List.getElem_toArray, List.getElem_cons_succ, List.getElem_cons_zero])
        (refine wpAnyH_take (i := 12) (oi := ⟨_, _, _, _, _, _⟩) (v := ?tv30) rfl (by kernel_rfl) (by kernel_rfl) (by kernel_rfl) (fun _ _ _ h => h) (Or.inl ⟨by kernel_rfl, ?hy30⟩) hH ?rs30; (case hy30 => (intro wx hSw; (try dsimp only at hSw); go_simp; try with_reducible rfl)); try simp only [Act.put, List.setIfInBounds_toArray, List.set_cons_zero, List.set_cons_succ]; try simp only [List.getElem_toArray, List.getElem_cons_succ, List.getElem_cons_zero])
        (refine wpAnyH_take (i := 13) (oi := ⟨_, _, _, _, _, _⟩) (v := ?tv31) rfl (by kernel_rfl) (by kernel_rfl) (by kernel_rfl) (fun _ _ _ h => h) (Or.inl ⟨by kernel_rfl, ?hy31⟩) hH ?rs31; (case hy31 => (intro wx hSw; (try dsimp only at hSw); go_simp; try with_reducible rfl)); try simp only [Act.put, List.setIfInBounds_toArray, List.set_cons_zero, List.set_cons_succ]; try simp only [List.getElem_toArray, List.getElem_cons_succ, List.getElem_cons_zero])
        (refine wpAnyH_ready (rs := [14]) (by kernel_rfl) (by simp) ?_; refine AllReadyH.cons rfl (fun K hK => ?_) AllReadyH.nil; go_simp)
        refine (hcmp _).mono ?_
        rintro e wa ⟨rfl, xa⟩
        have q1 := ext_trans hr0 xa
        (go_wp2_with fail; refine hK.out _ _ (hbk q1) (fun hH => ?_); clear hK K; try simp only [Act.put, List.setIfInBounds_toArray, List.set_cons_zero, List.set_cons_succ]; try simp only [List.getElem_toArray, List.getElem_cons_succ, List.getElem_cons_zero])
        (refine wpAnyH_take (i := 15) (oi := ⟨_, _, _, _, _, _⟩) (v := ?tv32) rfl (by kernel_rfl) (by kernel_rfl) (by kernel_rfl) (fun _ _ _ h => h) (Or.inl ⟨by kernel_rfl, ?hy32⟩) hH ?rs32; (case hy32 => (intro wx hSw; (try dsimp only at hSw); go_simp; try with_reducible rfl)); try simp only [Act.put, List.setIfInBounds_toArray, List.set_cons_zero, List.set_cons_succ]; try simp only [List.getElem_toArray, List.getElem_cons_succ, List.getElem_cons_zero])
        (refine wpAnyH_take (i := 16) (oi := ⟨_, _, _, _, _, _⟩) (v := ?tv33) rfl (by kernel_rfl) (by kernel_rfl) (by kernel_rfl) (fun _ _ _ h => h) (Or.inl ⟨by kernel_rfl, ?hy33⟩) hH ?rs33; (case hy33 => (intro wx hSw; (try dsimp only at hSw); go_simp; try with_reducible rfl)); try simp only [Act.put, List.setIfInBounds_toArray, List.set_cons_zero, List.set_cons_succ]; try simp only [List.getElem_toArray, List.getElem_cons_succ, List.getElem_cons_zero])
        refine wpAnyH_done (by kernel_rfl) ?_ _
        go_wp2_with fail
        exact ⟨⟨i2, k + 1, D, _, by omega, by have := hi2.out; have := hik.out; omega, by have := hi2.out; omega, by go_num, hend, ho.ext q1, ext_mod hm q1⟩, by have := hi2.out; simp [intOf] <;> omega⟩
      have hlt3 : decide (ordI x y < 0) = true := hlt2.trans (dtrue hah)
      obtain ⟨-, hsw, hin2⟩ := hin.out.step hah
      rw [← hI.out] at hsw hin2
      have sw := Lib.hid hsw
      replace hin2 := Lib.hid hin2
      generalize X ++ S1' ++ x :: (y :: S2 ++ (R ++ Z)) = M' at *
      clear hlt2 hah hin hsw
      go_wp2_with fail
      refine wp_region_held_drew (S := fun wx => wx.cell? ⟨g, I * 5, none⟩ = some (.int .i64 y.id) ∧ wx.cell? ⟨g, I * 5 + 1, none⟩ = some (.int .i64 y.lev) ∧ wx.cell? ⟨g, I * 5 + 2, none⟩ = some (.int .i64 y.size) ∧ wx.cell? ⟨g, I * 5 + 3, none⟩ = some (sv y.first) ∧ wx.cell? ⟨g, I * 5 + 4, none⟩ = some (sv y.last) ∧ wx.cell? ⟨g, j * 5, none⟩ = some (.int .i64 x.id) ∧ wx.cell? ⟨g, j * 5 + 1, none⟩ = some (.int .i64 x.lev) ∧ wx.cell? ⟨g, j * 5 + 2, none⟩ = some (.int .i64 x.size) ∧ wx.cell? ⟨g, j * 5 + 3, none⟩ = some (sv x.first) ∧ wx.cell? ⟨g, j * 5 + 4, none⟩ = some (sv x.last)) (by kernel_rfl) (hbk hr0) (fun hH => ?_)
      (refine wpAnyH_take (i := 0) (oi := ⟨_, _, _, _, _, _⟩) (v := ?tv34) rfl (by kernel_rfl) (by kernel_rfl) (by kernel_rfl) (fun _ _ _ h => h) (Or.inl ⟨by kernel_rfl, ?hy34⟩) hH ?rs34; (case hy34 => (intro wx hSw; (try dsimp only at hSw); go_simp; try with_reducible rfl)); try simp only [Act.put, List.setIfInBounds_toArray, List.set_cons_zero, List.set_cons_succ]; try simp only [List.getElem_toArray, List.getElem_cons_succ, List.getElem_cons_zero])
      (refine wpAnyH_take (i := 1) (oi := ⟨_, _, _, _, _, _⟩) (v := ?tv35) rfl (by kernel_rfl) (by kernel_rfl) (by kernel_rfl) (fun _ _ _ h => h) (Or.inl ⟨by kernel_rfl, ?hy35⟩) hH ?rs35; (case hy35 => (intro wx hSw; (try dsimp only at hSw); go_simp; try with_reducible rfl)); try simp only [Act.put, List.setIfInBounds_toArray, List.set_cons_zero, List.set_cons_succ]; try simp only [List.getElem_toArray, List.getElem_cons_succ, List.getElem_cons_zero])
      (refine wpAnyH_take (i := 2) (oi := ⟨_, _, _, _, _, _⟩) (v := ?tv36) rfl (by kernel_rfl) (by kernel_rfl) (by kernel_rfl) (fun _ _ _ h => h) (Or.inl ⟨by kernel_rfl, ?hy36⟩) hH ?rs36; (case hy36 => (intro wx hSw; (try dsimp only at hSw); go_simp; try with_reducible rfl)); try simp only [Act.put, List.setIfInBounds_toArray, List.set_cons_zero, List.set_cons_succ]; try simp only [List.getElem_toArray, List.getElem_cons_succ, List.getElem_cons_zero])
      (refine wpAnyH_take (i := 3) (oi := ⟨_, _, _, _, _, _⟩) (v := ?tv37) rfl (by kernel_rfl) (by kernel_rfl) (by kernel_rfl) (fun _ _ _ h => h) (Or.inl ⟨by kernel_rfl, ?hy37⟩) hH ?rs37; (case hy37 => (intro wx hSw; (try dsimp only at hSw); go_simp; try with_reducible rfl)); try simp only [Act.put, List.setIfInBounds_toArray, List.set_cons_zero, List.set_cons_succ]; try simp only [List.getElem_toArray, List.getElem_cons_succ, List.getElem_cons_zero])
      (refine wpAnyH_take (i := 4) (oi := ⟨_, _, _, _, _, _⟩) (v := ?tv38) rfl (by kernel_rfl) (by kernel_rfl) (by kernel_rfl) (fun _ _ _ h => h) (Or.inl ⟨by kernel_rfl, ?hy38⟩) hH ?rs38; (case hy38 => (intro wx hSw; (try dsimp only at hSw); go_simp; try with_reducible rfl)); try simp only [Act.put, List.setIfInBounds_toArray, List.set_cons_zero, List.set_cons_succ]; try simp only [List.getElem_toArray, List.getElem_cons_succ, List.getElem_cons_zero])
      (refine wpAnyH_take (i := 5) (oi := ⟨_, _, _, _, _, _⟩) (v := ?tv39) rfl (by kernel_rfl) (by kernel_rfl) (by kernel_rfl) (fun _ _ _ h => h) (Or.inl ⟨by kernel_rfl, ?hy39⟩) hH ?rs39; (case hy39 => (intro wx hSw; (try dsimp only at hSw); go_simp; try with_reducible rfl)); try simp only [Act.put, List.setIfInBounds_toArray, List.set_cons_zero, List.set_cons_succ]; try simp only [List.getElem_toArray, List.getElem_cons_succ, List.getElem_cons_zero])
      (refine wpAnyH_take (i := 6) (oi := ⟨_, _, _, _, _, _⟩) (v := ?tv40) rfl (by kernel_rfl) (by kernel_rfl) (by kernel_rfl) (fun _ _ _ h => h) (Or.inl ⟨by kernel_rfl, ?hy40⟩) hH ?rs40; (case hy40 => (intro wx hSw; (try dsimp only at hSw); go_simp; try with_reducible rfl)); try simp only [Act.put, List.setIfInBounds_toArray, List.set_cons_zero, List.set_cons_succ]; try simp only [List.getElem_toArray, List.getElem_cons_succ, List.getElem_cons_zero])
      (refine wpAnyH_take (i := 7) (oi := ⟨_, _, _, _, _, _⟩) (v := ?tv41) rfl (by kernel_rfl) (by kernel_rfl) (by kernel_rfl) (fun _ _ _ h => h) (Or.inl ⟨by kernel_rfl, ?hy41⟩) hH ?rs41; (case hy41 => (intro wx hSw; (try dsimp only at hSw); go_simp; try with_reducible rfl)); try simp only [Act.put, List.setIfInBounds_toArray, List.set_cons_zero, List.set_cons_succ]; try simp only [List.getElem_toArray, List.getElem_cons_succ, List.getElem_cons_zero])
      (refine wpAnyH_take (i := 8) (oi := ⟨_, _, _, _, _, _⟩) (v := ?tv42) rfl (by kernel_rfl) (by kernel_rfl) (by kernel_rfl) (fun _ _ _ h => h) (Or.inl ⟨by kernel_rfl, ?hy42⟩) hH ?rs42; (case hy42 => (intro wx hSw; (try dsimp only at hSw); go_simp; try with_reducible rfl)); try simp only [Act.put, List.setIfInBounds_toArray, List.set_cons_zero, List.set_cons_succ]; try simp only [List.getElem_toArray, List.getElem_cons_succ, List.getElem_cons_zero])
      (refine wpAnyH_take (i := 9) (oi := ⟨_, _, _, _, _, _⟩) (v := ?tv43) rfl (by kernel_rfl) (by kernel_rfl) (by kernel_rfl) (fun _ _ _ h => h) (Or.inl ⟨by kernel_rfl, ?hy43⟩) hH ?rs43; (case hy43 => (intro wx hSw; (try dsimp only at hSw); go_simp; try with_reducible rfl)); try simp only [Act.put, List.setIfInBounds_toArray, List.set_cons_zero, List.set_cons_succ]; try simp only [List.getElem_toArray, List.getElem_cons_succ, List.getElem_cons_zero])
      (refine wpAnyH_take (i := 10) (oi := ⟨_, _, _, _, _, _⟩) (v := ?tv44) rfl (by kernel_rfl) (by kernel_rfl) (by kernel_rfl) (fun _ _ _ h => h) (Or.inl ⟨by kernel_rfl, ?hy44⟩) hH ?rs44; (case hy44 => (intro wx hSw; (try dsimp only at hSw); go_simp; try with_reducible rfl)); try simp only [Act.put, List.setIfInBounds_toArray, List.set_cons_zero, List.set_cons_succ]; try simp only [List.getElem_toArray, List.getElem_cons_succ, List.getElem_cons_zero])
      (refine wpAnyH_take (i := 11) (oi := ⟨_, _, _, _, _, _⟩) (v := ?tv45) rfl (by kernel_rfl) (by kernel_rfl) (by kernel_rfl) (fun _ _ _ h => h) (Or.inl ⟨by kernel_rfl, ?hy45⟩) hH ?rs45; (case hy45 => (intro wx hSw; (try dsimp only at hSw); go_simp; try with_reducible rfl)); try simp only [Act.put, List.setIfInBounds_toArray, List.set_cons_zero, List.set_cons_succ]; try simp only [List.getElem_toArray, List.getElem_cons_succ, List.getElem_cons_zero])
      (refine wpAnyH_take (i := 12) (oi := ⟨_, _, _, _, _, _⟩) (v := ?tv46) rfl (by kernel_rfl) (by kernel_rfl) (by kernel_rfl) (fun _ _ _ h => h) (Or.inl ⟨by kernel_rfl, ?hy46⟩) hH ?rs46; (case hy46 => (intro wx hSw; (try dsimp only at hSw); go_simp; try with_reducible rfl)); try simp only [Act.put, List.setIfInBounds_toArray, List.set_cons_zero, List.set_cons_succ]; try simp only [List.getElem_toArray, List.getElem_cons_succ, List.getElem_cons_zero])
      (refine wpAnyH_take (i := 13) (oi := ⟨_, _, _, _, _, _⟩) (v := ?tv47) rfl (by kernel_rfl) (by kernel_rfl) (by kernel_rfl) (fun _ _ _ h => h) (Or.inl ⟨by kernel_rfl, ?hy47⟩) hH ?rs47; (case hy47 => (intro wx hSw; (try dsimp only at hSw); go_simp; try with_reducible rfl)); try simp only [Act.put, List.setIfInBounds_toArray, List.set_cons_zero, List.set_cons_succ]; try simp only [List.getElem_toArray, List.getElem_cons_succ, List.getElem_cons_zero])
      (refine wpAnyH_ready (rs := [14]) (by kernel_rfl) (by simp) ?_; refine AllReadyH.cons rfl (fun K hK => ?_) AllReadyH.nil; go_simp)
      refine (hcmp _).mono ?_
      rintro e wa ⟨rfl, xa⟩
      have q1 := ext_trans hr0 xa
      (go_wp2_with fail; refine hK.out _ _ (hbk q1) (fun hH => ?_); clear hK K; try simp only [Act.put, List.setIfInBounds_toArray, List.set_cons_zero, List.set_cons_succ]; try simp only [List.getElem_toArray, List.getElem_cons_succ, List.getElem_cons_zero])
      (refine wpAnyH_take (i := 15) (oi := ⟨_, _, _, _, _, _⟩) (v := ?tv48) rfl (by kernel_rfl) (by kernel_rfl) (by kernel_rfl) (fun _ _ _ h => h) (Or.inl ⟨by kernel_rfl, ?hy48⟩) hH ?rs48; (case hy48 => (intro wx hSw; (try dsimp only at hSw); go_simp; try with_reducible rfl)); try simp only [Act.put, List.setIfInBounds_toArray, List.set_cons_zero, List.set_cons_succ]; try simp only [List.getElem_toArray, List.getElem_cons_succ, List.getElem_cons_zero])
      (refine wpAnyH_take (i := 16) (oi := ⟨_, _, _, _, _, _⟩) (v := ?tv49) rfl (by kernel_rfl) (by kernel_rfl) (by kernel_rfl) (fun _ _ _ h => h) (Or.inl ⟨by kernel_rfl, ?hy49⟩) hH ?rs49; (case hy49 => (intro wx hSw; (try dsimp only at hSw); go_simp; try with_reducible rfl)); try simp only [Act.put, List.setIfInBounds_toArray, List.set_cons_zero, List.set_cons_succ]; try simp only [List.getElem_toArray, List.getElem_cons_succ, List.getElem_cons_zero])
      refine wpAnyH_done (by kernel_rfl) ?_ _
      replace ho : OwnF wa (slF g n c) D := OwnR.ext ho q1
      replace hm := ext_mod hm q1
      clear hbk hr0 q1 hcmp hlt3 xa
      obtain ⟨ci0, ci1, ci2, ci3, ci4⟩ := ho.cellsp sw.out.pI
      obtain ⟨cj0, cj1, cj2, cj3, cj4⟩ := ho.cellsp sw.out.qJ
      have fJ0 := ho.frozenAt (j * 5)
      have fJ1 := ho.frozenAt (j * 5 + 1)
      have fJ2 := ho.frozenAt (j * 5 + 2)
      have fJ3 := ho.frozenAt (j * 5 + 3)
      have fJ4 := ho.frozenAt (j * 5 + 4)
      go_wp2_with fail
      refine wp_region_held_drew (S := fun _ => True) (by kernel_rfl) trivial (fun hH => ?_)
      (refine wpAnyH_take (i := 0) (oi := ⟨_, _, _, _, _, _⟩) (v := ?tv50) rfl (by kernel_rfl) (by kernel_rfl) (by kernel_rfl) (fun _ _ _ h => h) (Or.inl ⟨by kernel_rfl, ?hy50⟩) hH ?rs50; (case hy50 => (intro wx hSw; (try dsimp only at hSw); go_simp; try with_reducible rfl)); try simp only [Act.put, List.setIfInBounds_toArray, List.set_cons_zero, List.set_cons_succ]; try simp only [List.getElem_toArray, List.getElem_cons_succ, List.getElem_cons_zero])
      (refine wpAnyH_take (i := 1) (oi := ⟨_, _, _, _, _, _⟩) (v := ?tv51) rfl (by kernel_rfl) (by kernel_rfl) (by kernel_rfl) (fun _ _ _ h => h) (Or.inl ⟨by kernel_rfl, ?hy51⟩) hH ?rs51; (case hy51 => (intro wx hSw; (try dsimp only at hSw); go_simp; try with_reducible rfl)); try simp only [Act.put, List.setIfInBounds_toArray, List.set_cons_zero, List.set_cons_succ]; try simp only [List.getElem_toArray, List.getElem_cons_succ, List.getElem_cons_zero])
      (refine wpAnyH_take (i := 2) (oi := ⟨_, _, _, _, _, _⟩) (v := ?tv52) rfl (by kernel_rfl) (by kernel_rfl) (by kernel_rfl) (fun _ _ _ h => h) (Or.inl ⟨by kernel_rfl, ?hy52⟩) hH ?rs52; (case hy52 => (intro wx hSw; (try dsimp only at hSw); go_simp; try with_reducible rfl)); try simp only [Act.put, List.setIfInBounds_toArray, List.set_cons_zero, List.set_cons_succ]; try simp only [List.getElem_toArray, List.getElem_cons_succ, List.getElem_cons_zero])
      (refine wpAnyH_take (i := 3) (oi := ⟨_, _, _, _, _, _⟩) (v := ?tv53) rfl (by kernel_rfl) (by kernel_rfl) (by kernel_rfl) (fun _ _ _ h => h) (Or.inl ⟨by kernel_rfl, ?hy53⟩) hH ?rs53; (case hy53 => (intro wx hSw; (try dsimp only at hSw); go_simp; try with_reducible rfl)); try simp only [Act.put, List.setIfInBounds_toArray, List.set_cons_zero, List.set_cons_succ]; try simp only [List.getElem_toArray, List.getElem_cons_succ, List.getElem_cons_zero])
      (refine wpAnyH_take (i := 4) (oi := ⟨_, _, _, _, _, _⟩) (v := ?tv54) rfl (by kernel_rfl) (by kernel_rfl) (by kernel_rfl) (fun _ _ _ h => h) (Or.inl ⟨by kernel_rfl, ?hy54⟩) hH ?rs54; (case hy54 => (intro wx hSw; (try dsimp only at hSw); go_simp; try with_reducible rfl)); try simp only [Act.put, List.setIfInBounds_toArray, List.set_cons_zero, List.set_cons_succ]; try simp only [List.getElem_toArray, List.getElem_cons_succ, List.getElem_cons_zero])
      (refine wpAnyH_take (i := 5) (oi := ⟨_, _, _, _, _, _⟩) (v := ?tv55) rfl (by kernel_rfl) (by kernel_rfl) (by kernel_rfl) (fun _ _ _ h => h) (Or.inl ⟨by kernel_rfl, ?hy55⟩) hH ?rs55; (case hy55 => (intro wx hSw; (try dsimp only at hSw); go_simp; try with_reducible rfl)); try simp only [Act.put, List.setIfInBounds_toArray, List.set_cons_zero, List.set_cons_succ]; try simp only [List.getElem_toArray, List.getElem_cons_succ, List.getElem_cons_zero])
      (refine wpAnyH_take (i := 6) (oi := ⟨_, _, _, _, _, _⟩) (v := ?tv56) rfl (by kernel_rfl) (by kernel_rfl) (by kernel_rfl) (fun _ _ _ h => h) (Or.inl ⟨by kernel_rfl, ?hy56⟩) hH ?rs56; (case hy56 => (intro wx hSw; (try dsimp only at hSw); go_simp; try with_reducible rfl)); try simp only [Act.put, List.setIfInBounds_toArray, List.set_cons_zero, List.set_cons_succ]; try simp only [List.getElem_toArray, List.getElem_cons_succ, List.getElem_cons_zero])
      (refine wpAnyH_take (i := 7) (oi := ⟨_, _, _, _, _, _⟩) (v := ?tv57) rfl (by kernel_rfl) (by kernel_rfl) (by kernel_rfl) (fun _ _ _ h => h) (Or.inl ⟨by kernel_rfl, ?hy57⟩) hH ?rs57; (case hy57 => (intro wx hSw; (try dsimp only at hSw); go_simp; try with_reducible rfl)); try simp only [Act.put, List.setIfInBounds_toArray, List.set_cons_zero, List.set_cons_succ]; try simp only [List.getElem_toArray, List.getElem_cons_succ, List.getElem_cons_zero])
      (refine wpAnyH_take (i := 8) (oi := ⟨_, _, _, _, _, _⟩) (v := ?tv58) rfl (by kernel_rfl) (by kernel_rfl) (by kernel_rfl) (fun _ _ _ h => h) (Or.inl ⟨by kernel_rfl, ?hy58⟩) hH ?rs58; (case hy58 => (intro wx hSw; (try dsimp only at hSw); go_simp; try with_reducible rfl)); try simp only [Act.put, List.setIfInBounds_toArray, List.set_cons_zero, List.set_cons_succ]; try simp only [List.getElem_toArray, List.getElem_cons_succ, List.getElem_cons_zero])
      (refine wpAnyH_take (i := 10) (oi := ⟨_, _, _, _, _, _⟩) (v := ?tv59) rfl (by kernel_rfl) (by kernel_rfl) (by kernel_rfl) (fun _ _ _ h => h) (Or.inl ⟨by kernel_rfl, ?hy59⟩) hH ?rs59; (case hy59 => (intro wx hSw; (try dsimp only at hSw); go_simp; try with_reducible rfl)); try simp only [Act.put, List.setIfInBounds_toArray, List.set_cons_zero, List.set_cons_succ]; try simp only [List.getElem_toArray, List.getElem_cons_succ, List.getElem_cons_zero])
      (refine wpAnyH_take (i := 11) (oi := ⟨_, _, _, _, _, _⟩) (v := ?tv60) rfl (by kernel_rfl) (by kernel_rfl) (by kernel_rfl) (fun _ _ _ h => h) (Or.inl ⟨by kernel_rfl, ?hy60⟩) hH ?rs60; (case hy60 => (intro wx hSw; (try dsimp only at hSw); go_simp; try with_reducible rfl)); try simp only [Act.put, List.setIfInBounds_toArray, List.set_cons_zero, List.set_cons_succ]; try simp only [List.getElem_toArray, List.getElem_cons_succ, List.getElem_cons_zero])
      (refine wpAnyH_take (i := 12) (oi := ⟨_, _, _, _, _, _⟩) (v := ?tv61) rfl (by kernel_rfl) (by kernel_rfl) (by kernel_rfl) (fun _ _ _ h => h) (Or.inl ⟨by kernel_rfl, ?hy61⟩) hH ?rs61; (case hy61 => (intro wx hSw; (try dsimp only at hSw); go_simp; try with_reducible rfl)); try simp only [Act.put, List.setIfInBounds_toArray, List.set_cons_zero, List.set_cons_succ]; try simp only [List.getElem_toArray, List.getElem_cons_succ, List.getElem_cons_zero])
      refine wpAnyH_ready (rs := [9, 13]) (by kernel_rfl) (by simp) ?_
      refine AllReadyH.cons rfl (fun K hK => ?_) (AllReadyH.cons rfl (fun K hK => ?_) AllReadyH.nil)
      case' refine_1 =>
        go_simp
        (go_wp2_with fail; refine hK.out _ _ (trivial) (fun hH => ?_); clear hK K; try simp only [Act.put, List.setIfInBounds_toArray, List.set_cons_zero, List.set_cons_succ]; try simp only [List.getElem_toArray, List.getElem_cons_succ, List.getElem_cons_zero])
        refine wpAnyH_ready (rs := [13]) (by kernel_rfl) (by simp) ?_
        refine AllReadyH.cons rfl (fun K hK => ?_) AllReadyH.nil
        go_simp
        (go_wp2_with fail; refine hK.out _ _ (trivial) (fun hH => ?_); clear hK K; try simp only [Act.put, List.setIfInBounds_toArray, List.set_cons_zero, List.set_cons_succ]; try simp only [List.getElem_toArray, List.getElem_cons_succ, List.getElem_cons_zero])
        (refine wpAnyH_take (i := 14) (oi := ⟨_, _, _, _, _, _⟩) (v := ?tv62) rfl (by kernel_rfl) (by kernel_rfl) (by kernel_rfl) (fun _ _ _ h => h) (Or.inl ⟨by kernel_rfl, ?hy62⟩) hH ?rs62; (case hy62 => (intro wx hSw; (try dsimp only at hSw); go_simp; try with_reducible rfl)); try simp only [Act.put, List.setIfInBounds_toArray, List.set_cons_zero, List.set_cons_succ]; try simp only [List.getElem_toArray, List.getElem_cons_succ, List.getElem_cons_zero])
        refine wpAnyH_ready (rs := [15]) (by kernel_rfl) (by simp) ?_
        refine AllReadyH.cons rfl (fun K hK => ?_) AllReadyH.nil
        go_simp
        (go_wp2_with fail; refine hK.out _ _ (trivial) (fun hH => ?_); clear hK K; try simp only [Act.put, List.setIfInBounds_toArray, List.set_cons_zero, List.set_cons_succ]; try simp only [List.getElem_toArray, List.getElem_cons_succ, List.getElem_cons_zero])
        have k1 := OwnF.set ho hn.out j y
        have m1 := set5_mod wa g j y
        obtain ⟨wB, hwB⟩ : ∃ w', w' = (((((wa.setCell ⟨g, j * 5, none⟩ (.int .i64 y.id)).setCell ⟨g, j * 5 + 1, none⟩ (.int .i64 y.lev)).setCell ⟨g, j * 5 + 2, none⟩ (.int .i64 y.size)).setCell ⟨g, j * 5 + 3, none⟩ (sv y.first)).setCell ⟨g, j * 5 + 4, none⟩ (sv y.last)) := ⟨_, rfl⟩
        rw [← hwB] at k1 m1 ⊢
        clear hwB ci0 ci1 ci2 ci3 ci4 cj0 cj1 cj2 cj3 cj4 fJ0 fJ1 fJ2 fJ3 fJ4
        obtain ⟨cj0, cj1, cj2, cj3, cj4⟩ := k1.cells (i := I) (by rw [List.length_set]; exact sw.out.hI)
        generalize (D.set j y)[I]'(by rw [List.length_set]; exact sw.out.hI) = zj at *
        have fI0 := k1.frozenAt (I * 5)
        have fI1 := k1.frozenAt (I * 5 + 1)
        have fI2 := k1.frozenAt (I * 5 + 2)
        have fI3 := k1.frozenAt (I * 5 + 3)
        have fI4 := k1.frozenAt (I * 5 + 4)
        (refine wpAnyH_take (i := 16) (oi := ⟨_, _, _, _, _, _⟩) (v := ?tv63) rfl (by kernel_rfl) (by kernel_rfl) (by kernel_rfl) (fun _ _ _ h => h) (Or.inl ⟨by kernel_rfl, ?hy63⟩) hH ?rs63; (case hy63 => (intro wx hSw; (try dsimp only at hSw); go_simp; try with_reducible rfl)); try simp only [Act.put, List.setIfInBounds_toArray, List.set_cons_zero, List.set_cons_succ]; try simp only [List.getElem_toArray, List.getElem_cons_succ, List.getElem_cons_zero])
        refine wpAnyH_ready (rs := [17]) (by kernel_rfl) (by simp) ?_
        refine AllReadyH.cons rfl (fun K hK => ?_) AllReadyH.nil
        go_simp
        (go_wp2_with fail; refine hK.out _ _ (trivial) (fun hH => ?_); clear hK K; try simp only [Act.put, List.setIfInBounds_toArray, List.set_cons_zero, List.set_cons_succ]; try simp only [List.getElem_toArray, List.getElem_cons_succ, List.getElem_cons_zero])
        refine wpAnyH_done (by kernel_rfl) ?_ _
      case' refine_2 =>
        go_simp
        (go_wp2_with fail; refine hK.out _ _ (trivial) (fun hH => ?_); clear hK K; try simp only [Act.put, List.setIfInBounds_toArray, List.set_cons_zero, List.set_cons_succ]; try simp only [List.getElem_toArray, List.getElem_cons_succ, List.getElem_cons_zero])
        refine wpAnyH_ready (rs := [9]) (by kernel_rfl) (by simp) ?_
        refine AllReadyH.cons rfl (fun K hK => ?_) AllReadyH.nil
        go_simp
        (go_wp2_with fail; refine hK.out _ _ (trivial) (fun hH => ?_); clear hK K; try simp only [Act.put, List.setIfInBounds_toArray, List.set_cons_zero, List.set_cons_succ]; try simp only [List.getElem_toArray, List.getElem_cons_succ, List.getElem_cons_zero])
        (refine wpAnyH_take (i := 14) (oi := ⟨_, _, _, _, _, _⟩) (v := ?tv64) rfl (by kernel_rfl) (by kernel_rfl) (by kernel_rfl) (fun _ _ _ h => h) (Or.inl ⟨by kernel_rfl, ?hy64⟩) hH ?rs64; (case hy64 => (intro wx hSw; (try dsimp only at hSw); go_simp; try with_reducible rfl)); try simp only [Act.put, List.setIfInBounds_toArray, List.set_cons_zero, List.set_cons_succ]; try simp only [List.getElem_toArray, List.getElem_cons_succ, List.getElem_cons_zero])
        refine wpAnyH_ready (rs := [15]) (by kernel_rfl) (by simp) ?_
        refine AllReadyH.cons rfl (fun K hK => ?_) AllReadyH.nil
        go_simp
        (go_wp2_with fail; refine hK.out _ _ (trivial) (fun hH => ?_); clear hK K; try simp only [Act.put, List.setIfInBounds_toArray, List.set_cons_zero, List.set_cons_succ]; try simp only [List.getElem_toArray, List.getElem_cons_succ, List.getElem_cons_zero])
        have k1 := OwnF.set ho hn.out j y
        have m1 := set5_mod wa g j y
        obtain ⟨wB, hwB⟩ : ∃ w', w' = (((((wa.setCell ⟨g, j * 5, none⟩ (.int .i64 y.id)).setCell ⟨g, j * 5 + 1, none⟩ (.int .i64 y.lev)).setCell ⟨g, j * 5 + 2, none⟩ (.int .i64 y.size)).setCell ⟨g, j * 5 + 3, none⟩ (sv y.first)).setCell ⟨g, j * 5 + 4, none⟩ (sv y.last)) := ⟨_, rfl⟩
        rw [← hwB] at k1 m1 ⊢
        clear hwB ci0 ci1 ci2 ci3 ci4 cj0 cj1 cj2 cj3 cj4 fJ0 fJ1 fJ2 fJ3 fJ4
        obtain ⟨cj0, cj1, cj2, cj3, cj4⟩ := k1.cells (i := I) (by rw [List.length_set]; exact sw.out.hI)
        generalize (D.set j y)[I]'(by rw [List.length_set]; exact sw.out.hI) = zj at *
        have fI0 := k1.frozenAt (I * 5)
        have fI1 := k1.frozenAt (I * 5 + 1)
        have fI2 := k1.frozenAt (I * 5 + 2)
        have fI3 := k1.frozenAt (I * 5 + 3)
        have fI4 := k1.frozenAt (I * 5 + 4)
        (refine wpAnyH_take (i := 16) (oi := ⟨_, _, _, _, _, _⟩) (v := ?tv65) rfl (by kernel_rfl) (by kernel_rfl) (by kernel_rfl) (fun _ _ _ h => h) (Or.inl ⟨by kernel_rfl, ?hy65⟩) hH ?rs65; (case hy65 => (intro wx hSw; (try dsimp only at hSw); go_simp; try with_reducible rfl)); try simp only [Act.put, List.setIfInBounds_toArray, List.set_cons_zero, List.set_cons_succ]; try simp only [List.getElem_toArray, List.getElem_cons_succ, List.getElem_cons_zero])
        refine wpAnyH_ready (rs := [17]) (by kernel_rfl) (by simp) ?_
        refine AllReadyH.cons rfl (fun K hK => ?_) AllReadyH.nil
        go_simp
        (go_wp2_with fail; refine hK.out _ _ (trivial) (fun hH => ?_); clear hK K; try simp only [Act.put, List.setIfInBounds_toArray, List.set_cons_zero, List.set_cons_succ]; try simp only [List.getElem_toArray, List.getElem_cons_succ, List.getElem_cons_zero])
        refine wpAnyH_done (by kernel_rfl) ?_ _
      all_goals
        have k2 := OwnF.set k1 (by rw [List.length_set]; exact hn.out) I x
        rw [sw.out.e2] at k2
        have m2 := (Mod.then_ m1 (set5_mod wB g I x) (fun _ _ h => h)).drew
        clear cj0 cj1 cj2 cj3 cj4 k1 m1 fI0 fI1 fI2 fI3 fI4
        go_wp2_with fail
        exact ⟨⟨I, M', S1', y :: S2, by go_num, hin2, k2, hm.then_ m2 (fun _ _ h => h)⟩, by simp [intOf] <;> omega⟩
end Go.Proofs.Ytmjkgibeljbloaa
