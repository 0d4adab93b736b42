/- sorting files: two that change places; ranges, turned. -/
import Derived.Test.YtmjkgibeljbloaaLvU
namespace Go.Proofs.Ytmjkgibeljbloaa
open Go.RowKit
set_option maxRecDepth 100000

/-- Two files change places. -/
structure Sw (M : List Fl) (I J : Nat) (p q : Fl) (M' : List Fl) : Prop where
  hI : I < M.length
  hJ : J < M.length
  pI : M[I]? = some p
  qJ : M[J]? = some q
  e1 : (M.set I q).set J p = M'
  e2 : (M.set J p).set I q = M'
theorem set_mid (L1 T : List Fl) (p q : Fl) : (L1 ++ p :: T).set L1.length q = L1 ++ q :: T := by
  rw [List.set_append_right _ _ (Nat.le_refl _), Nat.sub_self]
  rfl
theorem Sw.of (L1 R1 R2 : List Fl) (p q : Fl) : Sw (L1 ++ p :: (R1 ++ q :: R2)) L1.length (L1.length + 1 + R1.length) p q (L1 ++ q :: (R1 ++ p :: R2)) := by
  have e : ∀ x y : Fl, L1 ++ x :: (R1 ++ y :: R2) = (L1 ++ x :: R1) ++ y :: R2 := fun x y => by simp
  have hl2 : ∀ x : Fl, (L1 ++ x :: R1).length = L1.length + 1 + R1.length := fun x => by simp only [List.length_append, List.length_cons]; omega
  refine ⟨by simp only [List.length_append, List.length_cons]; omega, by simp only [List.length_append, List.length_cons]; omega, by rw [List.getElem?_append_right (Nat.le_refl _), Nat.sub_self]; rfl, ?_, ?_, ?_⟩
  · rw [e p q, ← hl2 p, List.getElem?_append_right (Nat.le_refl _), Nat.sub_self]; rfl
  · rw [set_mid L1, e q q, ← hl2 q, set_mid, ← e]
  · rw [e p q, ← hl2 p, set_mid, ← e, set_mid L1]
theorem OwnF.cellsp {w : World} {g n c : Nat} {L : List Fl} {i : Nat} {p : Fl} (h : OwnF w (.slice (some ⟨g, 0, none⟩) n c) L) (hp : L[i]? = some p) :
    w.cell? ⟨g, i * 5, none⟩ = some (.int .i64 p.id) ∧ w.cell? ⟨g, i * 5 + 1, none⟩ = some (.int .i64 p.lev) ∧ w.cell? ⟨g, i * 5 + 2, none⟩ = some (.int .i64 p.size) ∧ w.cell? ⟨g, i * 5 + 3, none⟩ = some (sv p.first) ∧ w.cell? ⟨g, i * 5 + 4, none⟩ = some (sv p.last) := by
  obtain ⟨hi, rfl⟩ := List.getElem?_eq_some_iff.1 hp
  exact h.cells hi
abbrev cF : Value := .func (.func 51) #[] #[]
abbrev slF (g n c : Nat) : Value := .slice (some ⟨g, 0, none⟩) n c

/-- Where the k-th swap stands. -/
def srM (X P Y Q Z : List Fl) (k : Nat) : List Fl := X ++ (Q.take k ++ P.drop k) ++ Y ++ (P.take k ++ Q.drop k) ++ Z
theorem srM_zero (X P Y Q Z : List Fl) : srM X P Y Q Z 0 = X ++ P ++ Y ++ Q ++ Z := by simp [srM]
theorem srM_all (X P Y Q Z : List Fl) (h : P.length = Q.length) : srM X P Y Q Z P.length = X ++ Q ++ Y ++ P ++ Z := by
  unfold srM
  rw [List.take_length, List.drop_length, h, List.take_length, List.drop_length, List.append_nil, List.append_nil]
theorem srM_step (X P Y Q Z : List Fl) {k : Nat} (h : P.length = Q.length) (hk : k < P.length) (hk2 : k < Q.length) :
    Sw (srM X P Y Q Z k) (X.length + k) (X.length + P.length + Y.length + k) P[k] Q[k] (srM X P Y Q Z (k + 1)) := by
  have hs := Sw.of (X ++ Q.take k) (P.drop (k + 1) ++ Y ++ P.take k) (Q.drop (k + 1) ++ Z) P[k] Q[k]
  have e1 : (X ++ Q.take k).length = X.length + k := by rw [List.length_append, List.length_take]; omega
  have e2 : (X ++ Q.take k).length + 1 + (P.drop (k + 1) ++ Y ++ P.take k).length = X.length + P.length + Y.length + k := by
    rw [e1]; simp only [List.length_append, List.length_drop, List.length_take]; omega
  rw [e2, e1] at hs
  have m1 : X ++ Q.take k ++ P[k] :: (P.drop (k + 1) ++ Y ++ P.take k ++ Q[k] :: (Q.drop (k + 1) ++ Z)) = srM X P Y Q Z k := by
    unfold srM
    rw [List.drop_eq_getElem_cons hk, List.drop_eq_getElem_cons hk2]
    simp only [List.append_assoc, List.cons_append]
  have m2 : X ++ Q.take k ++ Q[k] :: (P.drop (k + 1) ++ Y ++ P.take k ++ P[k] :: (Q.drop (k + 1) ++ Z)) = srM X P Y Q Z (k + 1) := by
    unfold srM
    rw [List.take_succ_eq_append_getElem hk, List.take_succ_eq_append_getElem hk2]
    simp only [List.append_assoc, List.cons_append, List.nil_append]
  rw [m1, m2] at hs
  exact hs

set_option maxHeartbeats 32000000 in
theorem swapRange_any {w : World} {g n c : Nat} {X P Y Q Z : List Fl} (h : OwnF w (slF g n c) (X ++ P ++ Y ++ Q ++ Z)) (hn : n = (X ++ P ++ Y ++ Q ++ Z).length) (hPQ : P.length = Q.length) (hl : n ≤ 1000000) :
    Calls Try.prog 74 #[slF g n c, .int .i64 (X.length : Nat), .int .i64 (X.length + P.length + Y.length : Nat), .int .i64 (P.length : Nat), cF] w fun e w' => e = .returned (.tuple #[]) ∧ OwnF w' (slF g n c) (X ++ Q ++ Y ++ P ++ Z) ∧ Mod (fun k => k = g) w w' := by
  have hz := srM_zero X P Y Q Z
  have ha := Lib.hid (srM_all X P Y Q Z hPQ)
  rw [← hz] at h hn
  have hsl : ∀ k, k ≤ P.length → (srM X P Y Q Z k).length = n := fun k hk => by
    rw [hn]; unfold srM
    simp only [List.length_append, List.length_take, List.length_drop]; omega
  have hst := fun k hk hk2 => @srM_step X P Y Q Z k hPQ hk hk2
  obtain ⟨b, hb⟩ : ∃ b, b = X.length + P.length + Y.length := ⟨_, rfl⟩
  obtain ⟨a, ha0⟩ : ∃ a, a = X.length := ⟨_, rfl⟩
  have hbl : b + P.length ≤ n ∧ a + P.length ≤ n := by
    have := hsl 0 (Nat.zero_le _)
    unfold srM at this
    simp only [List.length_append, List.length_take, List.length_drop] at this
    omega
  rw [← hb] at hst ⊢
  rw [← ha0] at hst ⊢
  have hab : a + P.length ≤ b := by omega
  replace hPQ := Lib.hid hPQ
  replace hb := Lib.hid hb
  replace ha0 := Lib.hid ha0
  replace hn := Lib.hid hn
  clear hz
  obtain ⟨D, hD⟩ : ∃ D, D = srM X P Y Q Z := ⟨_, rfl⟩
  rw [← hD] at h ha hst hsl
  clear hD
  go_enter Try.func74, Try.ntmps74
  go_wp2_with fail
  go_loopw [10] (fun i wr => ∃ (k : Nat), k ≤ P.length ∧ i = .int .i64 k ∧ OwnF wr (slF g n c) (D k) ∧ Mod (fun k => k = g) w wr) (fun i _ => P.length - (intOf i).toNat)
  case atStart => exact ⟨0, Nat.zero_le _, rfl, h, Mod.refl _ _⟩
  case round =>
    clear h
    obtain ⟨k, hk, rfl, ho, hm⟩ := hrel
    by_cases hlt : k < P.length
    case neg =>
      have hbk : decide ((k : Int) < (P.length : Int)) = false := dfalse (by omega)
      have hbk' : decide (k < P.length) = false := dfalse hlt
      obtain rfl : k = P.length := by omega
      rw [ha.out] at ho
      go_wp2_with fail
      go_end0
      exact ⟨rfl, ho, hm⟩
    have hbk : decide ((k : Int) < (P.length : Int)) = true := dtrue (by omega)
    have hbk' : decide (k < P.length) = true := dtrue hlt
    have sw := Lib.hid (hst k hlt (hPQ.out ▸ hlt))
    have hn := Lib.hid (hsl k (by omega)).symm
    obtain ⟨I, hI⟩ : ∃ I : Nat, I = a + k := ⟨_, rfl⟩
    obtain ⟨J, hJ⟩ : ∃ J : Nat, J = b + k := ⟨_, rfl⟩
    have hII : (a : Int) + (k : Int) = (I : Int) := by omega
    have hJJ : (b : Int) + (k : Int) = (J : Int) := by omega
    rw [← hI, ← hJ] at sw
    have i0 : (0 : Int) ≤ (I : Int) := by omega
    have i1 : (I : Int) < (n : Int) := by omega
    have j0 : (0 : Int) ≤ (J : Int) := by omega
    have j1 : (J : Int) < (n : Int) := by omega
    have iI : IntKind.i64.wrap (I : Int) = (I : Int) := by rw [IntKind.wrap_i64]; omega
    have iJ : IntKind.i64.wrap (J : Int) = (J : Int) := by rw [IntKind.wrap_i64]; omega
    clear hst hsl hI hJ hbl hab
    obtain ⟨M2, hM2⟩ : ∃ M2, M2 = D (k + 1) := ⟨_, rfl⟩
    rw [← hM2] at sw
    replace hM2 := Lib.hid hM2
    generalize D k = M at *
    generalize P[k] = p at *
    generalize Q[k]'(hPQ.out ▸ hlt) = q at *
    obtain ⟨ci0, ci1, ci2, ci3, ci4⟩ := ho.cellsp sw.out.pI
    obtain ⟨cj0, cj1, cj2, cj3, cj4⟩ := ho.cellsp sw.out.qJ
    have fI0 := ho.frozenAt (I * 5)
    have fI1 := ho.frozenAt (I * 5 + 1)
    have fI2 := ho.frozenAt (I * 5 + 2)
    have fI3 := ho.frozenAt (I * 5 + 3)
    have fI4 := ho.frozenAt (I * 5 + 4)
    go_wp2_with fail
    refine wp_region_held_drew (S := fun _ => True) (by kernel_rfl) trivial (fun hH => ?_)
    (refine wpAnyH_take (i := 0) (oi := ⟨_, _, _, _, _, _⟩) (v := ?tv1) rfl (by kernel_rfl) (by kernel_rfl) (by kernel_rfl) (fun _ _ _ h => h) (Or.inl ⟨by kernel_rfl, ?hy1⟩) hH ?rs1; (case hy1 => (intro wx hSw; (try dsimp only at hSw); go_simp; try with_reducible rfl)); try simp only [Act.put, List.setIfInBounds_toArray, List.set_cons_zero, List.set_cons_succ]; try simp only [List.getElem_toArray, List.getElem_cons_succ, List.getElem_cons_zero])
    (refine wpAnyH_take (i := 1) (oi := ⟨_, _, _, _, _, _⟩) (v := ?tv2) rfl (by kernel_rfl) (by kernel_rfl) (by kernel_rfl) (fun _ _ _ h => h) (Or.inl ⟨by kernel_rfl, ?hy2⟩) hH ?rs2; (case hy2 => (intro wx hSw; (try dsimp only at hSw); go_simp; try with_reducible rfl)); try simp only [Act.put, List.setIfInBounds_toArray, List.set_cons_zero, List.set_cons_succ]; try simp only [List.getElem_toArray, List.getElem_cons_succ, List.getElem_cons_zero])
    (refine wpAnyH_take (i := 2) (oi := ⟨_, _, _, _, _, _⟩) (v := ?tv3) rfl (by kernel_rfl) (by kernel_rfl) (by kernel_rfl) (fun _ _ _ h => h) (Or.inl ⟨by kernel_rfl, ?hy3⟩) hH ?rs3; (case hy3 => (intro wx hSw; (try dsimp only at hSw); go_simp; try with_reducible rfl)); try simp only [Act.put, List.setIfInBounds_toArray, List.set_cons_zero, List.set_cons_succ]; try simp only [List.getElem_toArray, List.getElem_cons_succ, List.getElem_cons_zero])
    (refine wpAnyH_take (i := 3) (oi := ⟨_, _, _, _, _, _⟩) (v := ?tv4) rfl (by kernel_rfl) (by kernel_rfl) (by kernel_rfl) (fun _ _ _ h => h) (Or.inl ⟨by kernel_rfl, ?hy4⟩) hH ?rs4; (case hy4 => (intro wx hSw; (try dsimp only at hSw); go_simp; try with_reducible rfl)); try simp only [Act.put, List.setIfInBounds_toArray, List.set_cons_zero, List.set_cons_succ]; try simp only [List.getElem_toArray, List.getElem_cons_succ, List.getElem_cons_zero])
    (refine wpAnyH_take (i := 4) (oi := ⟨_, _, _, _, _, _⟩) (v := ?tv5) rfl (by kernel_rfl) (by kernel_rfl) (by kernel_rfl) (fun _ _ _ h => h) (Or.inl ⟨by kernel_rfl, ?hy5⟩) hH ?rs5; (case hy5 => (intro wx hSw; (try dsimp only at hSw); go_simp; try with_reducible rfl)); try simp only [Act.put, List.setIfInBounds_toArray, List.set_cons_zero, List.set_cons_succ]; try simp only [List.getElem_toArray, List.getElem_cons_succ, List.getElem_cons_zero])
    (refine wpAnyH_take (i := 5) (oi := ⟨_, _, _, _, _, _⟩) (v := ?tv6) rfl (by kernel_rfl) (by kernel_rfl) (by kernel_rfl) (fun _ _ _ h => h) (Or.inl ⟨by kernel_rfl, ?hy6⟩) hH ?rs6; (case hy6 => (intro wx hSw; (try dsimp only at hSw); go_simp; try with_reducible rfl)); try simp only [Act.put, List.setIfInBounds_toArray, List.set_cons_zero, List.set_cons_succ]; try simp only [List.getElem_toArray, List.getElem_cons_succ, List.getElem_cons_zero])
    (refine wpAnyH_take (i := 6) (oi := ⟨_, _, _, _, _, _⟩) (v := ?tv7) rfl (by kernel_rfl) (by kernel_rfl) (by kernel_rfl) (fun _ _ _ h => h) (Or.inl ⟨by kernel_rfl, ?hy7⟩) hH ?rs7; (case hy7 => (intro wx hSw; (try dsimp only at hSw); go_simp; try with_reducible rfl)); try simp only [Act.put, List.setIfInBounds_toArray, List.set_cons_zero, List.set_cons_succ]; try simp only [List.getElem_toArray, List.getElem_cons_succ, List.getElem_cons_zero])
    (refine wpAnyH_take (i := 7) (oi := ⟨_, _, _, _, _, _⟩) (v := ?tv8) rfl (by kernel_rfl) (by kernel_rfl) (by kernel_rfl) (fun _ _ _ h => h) (Or.inl ⟨by kernel_rfl, ?hy8⟩) hH ?rs8; (case hy8 => (intro wx hSw; (try dsimp only at hSw); go_simp; try with_reducible rfl)); try simp only [Act.put, List.setIfInBounds_toArray, List.set_cons_zero, List.set_cons_succ]; try simp only [List.getElem_toArray, List.getElem_cons_succ, List.getElem_cons_zero])
    (refine wpAnyH_take (i := 8) (oi := ⟨_, _, _, _, _, _⟩) (v := ?tv9) rfl (by kernel_rfl) (by kernel_rfl) (by kernel_rfl) (fun _ _ _ h => h) (Or.inl ⟨by kernel_rfl, ?hy9⟩) hH ?rs9; (case hy9 => (intro wx hSw; (try dsimp only at hSw); go_simp; try with_reducible rfl)); try simp only [Act.put, List.setIfInBounds_toArray, List.set_cons_zero, List.set_cons_succ]; try simp only [List.getElem_toArray, List.getElem_cons_succ, List.getElem_cons_zero])
    (refine wpAnyH_take (i := 9) (oi := ⟨_, _, _, _, _, _⟩) (v := ?tv10) rfl (by kernel_rfl) (by kernel_rfl) (by kernel_rfl) (fun _ _ _ h => h) (Or.inl ⟨by kernel_rfl, ?hy10⟩) hH ?rs10; (case hy10 => (intro wx hSw; (try dsimp only at hSw); go_simp; try with_reducible rfl)); try simp only [Act.put, List.setIfInBounds_toArray, List.set_cons_zero, List.set_cons_succ]; try simp only [List.getElem_toArray, List.getElem_cons_succ, List.getElem_cons_zero])
    (refine wpAnyH_take (i := 10) (oi := ⟨_, _, _, _, _, _⟩) (v := ?tv11) rfl (by kernel_rfl) (by kernel_rfl) (by kernel_rfl) (fun _ _ _ h => h) (Or.inl ⟨by kernel_rfl, ?hy11⟩) hH ?rs11; (case hy11 => (intro wx hSw; (try dsimp only at hSw); go_simp; try with_reducible rfl)); try simp only [Act.put, List.setIfInBounds_toArray, List.set_cons_zero, List.set_cons_succ]; try simp only [List.getElem_toArray, List.getElem_cons_succ, List.getElem_cons_zero])
    (refine wpAnyH_take (i := 11) (oi := ⟨_, _, _, _, _, _⟩) (v := ?tv12) rfl (by kernel_rfl) (by kernel_rfl) (by kernel_rfl) (fun _ _ _ h => h) (Or.inl ⟨by kernel_rfl, ?hy12⟩) hH ?rs12; (case hy12 => (intro wx hSw; (try dsimp only at hSw); go_simp; try with_reducible rfl)); try simp only [Act.put, List.setIfInBounds_toArray, List.set_cons_zero, List.set_cons_succ]; try simp only [List.getElem_toArray, List.getElem_cons_succ, List.getElem_cons_zero])
    (refine wpAnyH_take (i := 12) (oi := ⟨_, _, _, _, _, _⟩) (v := ?tv13) rfl (by kernel_rfl) (by kernel_rfl) (by kernel_rfl) (fun _ _ _ h => h) (Or.inl ⟨by kernel_rfl, ?hy13⟩) hH ?rs13; (case hy13 => (intro wx hSw; (try dsimp only at hSw); go_simp; try with_reducible rfl)); try simp only [Act.put, List.setIfInBounds_toArray, List.set_cons_zero, List.set_cons_succ]; try simp only [List.getElem_toArray, List.getElem_cons_succ, List.getElem_cons_zero])
    (refine wpAnyH_take (i := 14) (oi := ⟨_, _, _, _, _, _⟩) (v := ?tv14) rfl (by kernel_rfl) (by kernel_rfl) (by kernel_rfl) (fun _ _ _ h => h) (Or.inl ⟨by kernel_rfl, ?hy14⟩) hH ?rs14; (case hy14 => (intro wx hSw; (try dsimp only at hSw); go_simp; try with_reducible rfl)); try simp only [Act.put, List.setIfInBounds_toArray, List.set_cons_zero, List.set_cons_succ]; try simp only [List.getElem_toArray, List.getElem_cons_succ, List.getElem_cons_zero])
    (refine wpAnyH_take (i := 15) (oi := ⟨_, _, _, _, _, _⟩) (v := ?tv15) rfl (by kernel_rfl) (by kernel_rfl) (by kernel_rfl) (fun _ _ _ h => h) (Or.inl ⟨by kernel_rfl, ?hy15⟩) hH ?rs15; (case hy15 => (intro wx hSw; (try dsimp only at hSw); go_simp; try with_reducible rfl)); try simp only [Act.put, List.setIfInBounds_toArray, List.set_cons_zero, List.set_cons_succ]; try simp only [List.getElem_toArray, List.getElem_cons_succ, List.getElem_cons_zero])
    (refine wpAnyH_take (i := 16) (oi := ⟨_, _, _, _, _, _⟩) (v := ?tv16) rfl (by kernel_rfl) (by kernel_rfl) (by kernel_rfl) (fun _ _ _ h => h) (Or.inl ⟨by kernel_rfl, ?hy16⟩) hH ?rs16; (case hy16 => (intro wx hSw; (try dsimp only at hSw); go_simp; try with_reducible rfl)); try simp only [Act.put, List.setIfInBounds_toArray, List.set_cons_zero, List.set_cons_succ]; try simp only [List.getElem_toArray, List.getElem_cons_succ, List.getElem_cons_zero])
    (refine wpAnyH_take (i := 17) (oi := ⟨_, _, _, _, _, _⟩) (v := ?tv17) rfl (by kernel_rfl) (by kernel_rfl) (by kernel_rfl) (fun _ _ _ h => h) (Or.inl ⟨by kernel_rfl, ?hy17⟩) hH ?rs17; (case hy17 => (intro wx hSw; (try dsimp only at hSw); go_simp; try with_reducible rfl)); try simp only [Act.put, List.setIfInBounds_toArray, List.set_cons_zero, List.set_cons_succ]; try simp only [List.getElem_toArray, List.getElem_cons_succ, List.getElem_cons_zero])
    (refine wpAnyH_take (i := 18) (oi := ⟨_, _, _, _, _, _⟩) (v := ?tv18) rfl (by kernel_rfl) (by kernel_rfl) (by kernel_rfl) (fun _ _ _ h => h) (Or.inl ⟨by kernel_rfl, ?hy18⟩) hH ?rs18; (case hy18 => (intro wx hSw; (try dsimp only at hSw); go_simp; try with_reducible rfl)); try simp only [Act.put, List.setIfInBounds_toArray, List.set_cons_zero, List.set_cons_succ]; try simp only [List.getElem_toArray, List.getElem_cons_succ, List.getElem_cons_zero])
    refine wpAnyH_ready (rs := [13, 19]) (by kernel_rfl) (by simp) ?_
    refine AllReadyH.cons rfl (fun K hK => ?_) (AllReadyH.cons rfl (fun K hK => ?_) AllReadyH.nil)
    case' refine_1 =>
      go_simp
      (go_wp2_with fail; refine hK.out _ _ (trivial) (fun hH => ?_); clear hK K; try simp only [Act.put, List.setIfInBounds_toArray, List.set_cons_zero, List.set_cons_succ]; try simp only [List.getElem_toArray, List.getElem_cons_succ, List.getElem_cons_zero])
      refine wpAnyH_ready (rs := [19]) (by kernel_rfl) (by simp) ?_
      refine AllReadyH.cons rfl (fun K hK => ?_) AllReadyH.nil
      go_simp
      (go_wp2_with fail; refine hK.out _ _ (trivial) (fun hH => ?_); clear hK K; try simp only [Act.put, List.setIfInBounds_toArray, List.set_cons_zero, List.set_cons_succ]; try simp only [List.getElem_toArray, List.getElem_cons_succ, List.getElem_cons_zero])
      (refine wpAnyH_take (i := 20) (oi := ⟨_, _, _, _, _, _⟩) (v := ?tv19) rfl (by kernel_rfl) (by kernel_rfl) (by kernel_rfl) (fun _ _ _ h => h) (Or.inl ⟨by kernel_rfl, ?hy19⟩) hH ?rs19; (case hy19 => (intro wx hSw; (try dsimp only at hSw); go_simp; try with_reducible rfl)); try simp only [Act.put, List.setIfInBounds_toArray, List.set_cons_zero, List.set_cons_succ]; try simp only [List.getElem_toArray, List.getElem_cons_succ, List.getElem_cons_zero])
      refine wpAnyH_ready (rs := [21]) (by kernel_rfl) (by simp) ?_
      refine AllReadyH.cons rfl (fun K hK => ?_) AllReadyH.nil
      go_simp
      (go_wp2_with fail; refine hK.out _ _ (trivial) (fun hH => ?_); clear hK K; try simp only [Act.put, List.setIfInBounds_toArray, List.set_cons_zero, List.set_cons_succ]; try simp only [List.getElem_toArray, List.getElem_cons_succ, List.getElem_cons_zero])
      have k1 := OwnF.set ho hn.out I q
      have m1 := set5_mod wr g I q
      obtain ⟨wB, hwB⟩ : ∃ w', w' = (((((wr.setCell ⟨g, I * 5, none⟩ (.int .i64 q.id)).setCell ⟨g, I * 5 + 1, none⟩ (.int .i64 q.lev)).setCell ⟨g, I * 5 + 2, none⟩ (.int .i64 q.size)).setCell ⟨g, I * 5 + 3, none⟩ (sv q.first)).setCell ⟨g, I * 5 + 4, none⟩ (sv q.last)) := ⟨_, rfl⟩
      rw [← hwB] at k1 m1 ⊢
      clear hwB ci0 ci1 ci2 ci3 ci4 cj0 cj1 cj2 cj3 cj4 fI0 fI1 fI2 fI3 fI4
      obtain ⟨cj0, cj1, cj2, cj3, cj4⟩ := k1.cells (i := J) (by rw [List.length_set]; exact sw.out.hJ)
      generalize (M.set I q)[J]'(by rw [List.length_set]; exact sw.out.hJ) = zj at *
      have fJ0 := k1.frozenAt (J * 5)
      have fJ1 := k1.frozenAt (J * 5 + 1)
      have fJ2 := k1.frozenAt (J * 5 + 2)
      have fJ3 := k1.frozenAt (J * 5 + 3)
      have fJ4 := k1.frozenAt (J * 5 + 4)
      (refine wpAnyH_take (i := 22) (oi := ⟨_, _, _, _, _, _⟩) (v := ?tv20) rfl (by kernel_rfl) (by kernel_rfl) (by kernel_rfl) (fun _ _ _ h => h) (Or.inl ⟨by kernel_rfl, ?hy20⟩) hH ?rs20; (case hy20 => (intro wx hSw; (try dsimp only at hSw); go_simp; try with_reducible rfl)); try simp only [Act.put, List.setIfInBounds_toArray, List.set_cons_zero, List.set_cons_succ]; try simp only [List.getElem_toArray, List.getElem_cons_succ, List.getElem_cons_zero])
      refine wpAnyH_ready (rs := [23]) (by kernel_rfl) (by simp) ?_
      refine AllReadyH.cons rfl (fun K hK => ?_) AllReadyH.nil
      go_simp
      (go_wp2_with fail; refine hK.out _ _ (trivial) (fun hH => ?_); clear hK K; try simp only [Act.put, List.setIfInBounds_toArray, List.set_cons_zero, List.set_cons_succ]; try simp only [List.getElem_toArray, List.getElem_cons_succ, List.getElem_cons_zero])
      refine wpAnyH_done (by kernel_rfl) ?_ _
    case' refine_2 =>
      go_simp
      (go_wp2_with fail; refine hK.out _ _ (trivial) (fun hH => ?_); clear hK K; try simp only [Act.put, List.setIfInBounds_toArray, List.set_cons_zero, List.set_cons_succ]; try simp only [List.getElem_toArray, List.getElem_cons_succ, List.getElem_cons_zero])
      refine wpAnyH_ready (rs := [13]) (by kernel_rfl) (by simp) ?_
      refine AllReadyH.cons rfl (fun K hK => ?_) AllReadyH.nil
      go_simp
      (go_wp2_with fail; refine hK.out _ _ (trivial) (fun hH => ?_); clear hK K; try simp only [Act.put, List.setIfInBounds_toArray, List.set_cons_zero, List.set_cons_succ]; try simp only [List.getElem_toArray, List.getElem_cons_succ, List.getElem_cons_zero])
      (refine wpAnyH_take (i := 20) (oi := ⟨_, _, _, _, _, _⟩) (v := ?tv21) rfl (by kernel_rfl) (by kernel_rfl) (by kernel_rfl) (fun _ _ _ h => h) (Or.inl ⟨by kernel_rfl, ?hy21⟩) hH ?rs21; (case hy21 => (intro wx hSw; (try dsimp only at hSw); go_simp; try with_reducible rfl)); try simp only [Act.put, List.setIfInBounds_toArray, List.set_cons_zero, List.set_cons_succ]; try simp only [List.getElem_toArray, List.getElem_cons_succ, List.getElem_cons_zero])
      refine wpAnyH_ready (rs := [21]) (by kernel_rfl) (by simp) ?_
      refine AllReadyH.cons rfl (fun K hK => ?_) AllReadyH.nil
      go_simp
      (go_wp2_with fail; refine hK.out _ _ (trivial) (fun hH => ?_); clear hK K; try simp only [Act.put, List.setIfInBounds_toArray, List.set_cons_zero, List.set_cons_succ]; try simp only [List.getElem_toArray, List.getElem_cons_succ, List.getElem_cons_zero])
      have k1 := OwnF.set ho hn.out I q
      have m1 := set5_mod wr g I q
      obtain ⟨wB, hwB⟩ : ∃ w', w' = (((((wr.setCell ⟨g, I * 5, none⟩ (.int .i64 q.id)).setCell ⟨g, I * 5 + 1, none⟩ (.int .i64 q.lev)).setCell ⟨g, I * 5 + 2, none⟩ (.int .i64 q.size)).setCell ⟨g, I * 5 + 3, none⟩ (sv q.first)).setCell ⟨g, I * 5 + 4, none⟩ (sv q.last)) := ⟨_, rfl⟩
      rw [← hwB] at k1 m1 ⊢
      clear hwB ci0 ci1 ci2 ci3 ci4 cj0 cj1 cj2 cj3 cj4 fI0 fI1 fI2 fI3 fI4
      obtain ⟨cj0, cj1, cj2, cj3, cj4⟩ := k1.cells (i := J) (by rw [List.length_set]; exact sw.out.hJ)
      generalize (M.set I q)[J]'(by rw [List.length_set]; exact sw.out.hJ) = zj at *
      have fJ0 := k1.frozenAt (J * 5)
      have fJ1 := k1.frozenAt (J * 5 + 1)
      have fJ2 := k1.frozenAt (J * 5 + 2)
      have fJ3 := k1.frozenAt (J * 5 + 3)
      have fJ4 := k1.frozenAt (J * 5 + 4)
      (refine wpAnyH_take (i := 22) (oi := ⟨_, _, _, _, _, _⟩) (v := ?tv22) rfl (by kernel_rfl) (by kernel_rfl) (by kernel_rfl) (fun _ _ _ h => h) (Or.inl ⟨by kernel_rfl, ?hy22⟩) hH ?rs22; (case hy22 => (intro wx hSw; (try dsimp only at hSw); go_simp; try with_reducible rfl)); try simp only [Act.put, List.setIfInBounds_toArray, List.set_cons_zero, List.set_cons_succ]; try simp only [List.getElem_toArray, List.getElem_cons_succ, List.getElem_cons_zero])
      refine wpAnyH_ready (rs := [23]) (by kernel_rfl) (by simp) ?_
      refine AllReadyH.cons rfl (fun K hK => ?_) AllReadyH.nil
      go_simp
      (go_wp2_with fail; refine hK.out _ _ (trivial) (fun hH => ?_); clear hK K; try simp only [Act.put, List.setIfInBounds_toArray, List.set_cons_zero, List.set_cons_succ]; try simp only [List.getElem_toArray, List.getElem_cons_succ, List.getElem_cons_zero])
      refine wpAnyH_done (by kernel_rfl) ?_ _
    all_goals
      have k2 := OwnF.set k1 (by rw [List.length_set]; exact hn.out) J p
      rw [sw.out.e1] at k2
      have m2 := (Mod.then_ m1 (set5_mod wB g J p) (fun _ _ h => h)).drew
      clear cj0 cj1 cj2 cj3 cj4 k1 m1 fJ0 fJ1 fJ2 fJ3 fJ4
      go_wp2_with fail
      exact ⟨⟨k + 1, by omega, by go_num, by rw [← hM2.out]; exact k2, hm.then_ m2 (fun _ _ h => h)⟩, by simp [intOf] <;> omega⟩
end Go.Proofs.Ytmjkgibeljbloaa
