/- level: files turned round; what is sorted already stays; Order. -/
import Derived.Test.YtmjkgibeljbloaaLvK
namespace Go.Proofs.Ytmjkgibeljbloaa
open Go.RowKit
set_option maxRecDepth 100000

theorem OwnK.store {w : World} {e : TypeId} {k g n c : Nat} {xs : List Value} (h : OwnK w e k (.slice (some ⟨g, 0, none⟩) n c) n xs) (j : Nat) (u : Value) :
    OwnK (w.setCell ⟨g, j, none⟩ u) e k (.slice (some ⟨g, 0, none⟩) n c) n (xs.set j u) :=
  (World.ownsRow.stored (w := w) (base := 0) (e := e) (size := k) (g := g) (n := n) (cap := c) (xs := xs) h j u).1
theorem flat_set (x : Fl) : ∀ (L : List Fl) (i : Nat), (((((L.flatMap fic).set (i * 5) (.int .i64 x.id)).set (i * 5 + 1) (.int .i64 x.lev)).set (i * 5 + 2) (.int .i64 x.size)).set (i * 5 + 3) (sv x.first)).set (i * 5 + 4) (sv x.last) = (L.set i x).flatMap fic
  | [], i => by simp
  | a :: L, 0 => rfl
  | a :: L, i + 1 => by
    have e : (i + 1) * 5 = i * 5 + 1 + 1 + 1 + 1 + 1 := by omega
    rw [e]
    show Value.int .i64 a.id :: .int .i64 a.lev :: .int .i64 a.size :: sv a.first :: sv a.last :: ((((((L.flatMap fic).set (i * 5) (.int .i64 x.id)).set (i * 5 + 1) (.int .i64 x.lev)).set (i * 5 + 2) (.int .i64 x.size)).set (i * 5 + 3) (sv x.first)).set (i * 5 + 4) (sv x.last)) = _
    rw [flat_set x L i]; rfl
theorem OwnF.set {w : World} {g n c : Nat} {L : List Fl} (h : OwnF w (.slice (some ⟨g, 0, none⟩) n c) L) (hn : n = L.length) (i : Nat) (x : Fl) :
    OwnF (((((w.setCell ⟨g, i * 5, none⟩ (.int .i64 x.id)).setCell ⟨g, i * 5 + 1, none⟩ (.int .i64 x.lev)).setCell ⟨g, i * 5 + 2, none⟩ (.int .i64 x.size)).setCell ⟨g, i * 5 + 3, none⟩ (sv x.first)).setCell ⟨g, i * 5 + 4, none⟩ (sv x.last)) (.slice (some ⟨g, 0, none⟩) n c) (L.set i x) := by
  subst hn
  have h1 := ((((OwnK.store h (i * 5) (.int .i64 x.id)).store (i * 5 + 1) (.int .i64 x.lev)).store (i * 5 + 2) (.int .i64 x.size)).store (i * 5 + 3) (sv x.first)).store (i * 5 + 4) (sv x.last)
  unfold OwnF OwnR
  rw [List.length_set, ← flat_set]
  exact h1
theorem set5_mod (w : World) (g i : Nat) (x : Fl) : Mod (fun k => k = g) w (((((w.setCell ⟨g, i * 5, none⟩ (.int .i64 x.id)).setCell ⟨g, i * 5 + 1, none⟩ (.int .i64 x.lev)).setCell ⟨g, i * 5 + 2, none⟩ (.int .i64 x.size)).setCell ⟨g, i * 5 + 3, none⟩ (sv x.first)).setCell ⟨g, i * 5 + 4, none⟩ (sv x.last)) :=
  (((((Mod.refl (fun k => k = g) w).setCell (p := ⟨g, i * 5, none⟩) (fun _ => rfl) _).setCell (p := ⟨g, i * 5 + 1, none⟩) (fun _ => rfl) _).setCell (p := ⟨g, i * 5 + 2, none⟩) (fun _ => rfl) _).setCell (p := ⟨g, i * 5 + 3, none⟩) (fun _ => rfl) _).setCell (p := ⟨g, i * 5 + 4, none⟩) (fun _ => rfl) _
theorem OwnF.cells {w : World} {g n c : Nat} {L : List Fl} (h : OwnF w (.slice (some ⟨g, 0, none⟩) n c) L) {i : Nat} (hi : i < L.length) :
    w.cell? ⟨g, i * 5, none⟩ = some (.int .i64 L[i].id) ∧ w.cell? ⟨g, i * 5 + 1, none⟩ = some (.int .i64 L[i].lev) ∧ w.cell? ⟨g, i * 5 + 2, none⟩ = some (.int .i64 L[i].size) ∧ w.cell? ⟨g, i * 5 + 3, none⟩ = some (sv L[i].first) ∧ w.cell? ⟨g, i * 5 + 4, none⟩ = some (sv L[i].last) := by
  have h0 : ∀ j u, j < 5 → (fic L[i])[j]? = some u → w.cell? ⟨g, i * 5 + j, none⟩ = some u := fun j u hj hu => by
    have := World.ownsRow.cells h (g := g) rfl (i * 5 + j) u (by rw [rflat_at fic_len L i j hi hj]; exact hu)
    rwa [add_lit] at this
  exact ⟨h0 0 _ (by omega) rfl, h0 1 _ (by omega) rfl, h0 2 _ (by omega) rfl, h0 3 _ (by omega) rfl, h0 4 _ (by omega) rfl⟩
theorem OwnF.frozenAt {w : World} {g n c : Nat} {L : List Fl} (h : OwnF w (.slice (some ⟨g, 0, none⟩) n c) L) (j : Nat) : w.frozen? ⟨g, j, none⟩ = false := by
  rcases h.2 with ⟨hv, _⟩ | ⟨g', cap, cur, hv, _, hh, _⟩
  · cases hv
  · injection hv with e1
    injection e1 with e1
    injection e1 with e1
    subst e1
    simp [World.frozen?, hh]
/-- M is L with i places at each end turned. -/
def Turned (L M : List Fl) (i : Nat) : Prop := M.length = L.length ∧ ∀ t, t < L.length → M[t]? = if t < i ∨ L.length ≤ t + i then L[L.length - 1 - t]? else L[t]?
theorem Turned.zero (L : List Fl) : Turned L L 0 := ⟨rfl, fun t ht => by rw [if_neg (by omega)]⟩
theorem Turned.done {L M : List Fl} {i : Nat} (h : Turned L M i) (hi : L.length ≤ i + i + 1) : M = L.reverse := by
  refine List.ext_getElem? fun t => ?_
  by_cases ht : t < L.length
  · rw [h.2 t ht, List.getElem?_reverse ht]
    split
    · rfl
    · rw [show L.length - 1 - t = t by omega]
  · rw [List.getElem?_eq_none (by rw [h.1]; omega), List.getElem?_eq_none (by rw [List.length_reverse]; omega)]
theorem Turned.step {L M : List Fl} {i : Nat} (h : Turned L M i) (hi : i + i + 1 < L.length) (h1 : i < M.length) (h2 : L.length - 1 - i < M.length) :
    Turned L ((M.set i M[L.length - 1 - i]).set (L.length - 1 - i) M[i]) (i + 1) := by
  have hl := h.1
  refine ⟨by rw [List.length_set, List.length_set]; exact hl, fun t ht => ?_⟩
  have ei := h.2 i (by omega)
  have ej := h.2 (L.length - 1 - i) (by omega)
  rw [if_neg (by omega), List.getElem?_eq_getElem h1] at ei
  rw [if_neg (by omega), List.getElem?_eq_getElem h2] at ej
  rw [List.getElem?_set]
  by_cases c1 : L.length - 1 - i = t
  · rw [if_pos c1, if_pos (by rw [List.length_set]; omega), if_pos (by omega), ei]
    congr 1; omega
  · rw [if_neg c1, List.getElem?_set]
    by_cases c2 : i = t
    · rw [if_pos c2, if_pos (by omega), if_pos (by omega), ej]
      congr 1; omega
    · rw [if_neg c2, h.2 t ht]
      by_cases c3 : t < i ∨ L.length ≤ t + i
      · rw [if_pos c3, if_pos (by omega)]
      · rw [if_neg c3, if_neg (by omega)]
section
variable {w : World} {v : Value} {L : List Fl}
set_option maxHeartbeats 8000000 in
theorem reverse_any (h : OwnF w v L) (hlen : L.length ≤ 1000000) : Calls Try.prog 53 #[v] w fun e w' => e = .returned (.tuple #[]) ∧ OwnF w' v L.reverse ∧ Mod (own v) w w' := by
  rcases OwnK.form h with ⟨rfl, h0⟩ | ⟨g, cp, rfl, h1, h2, h3⟩
  · have e0 : L = [] := List.eq_nil_of_length_eq_zero h0
    subst e0
    go_enter Try.func53, Try.ntmps53
    go_wp2_with fail
    go_loop [2, 3] (fun i j => i = .int .i64 0 ∧ j = .int .i64 (-1)) (fun _ _ => 0)
    case atStart => exact ⟨rfl, rfl⟩
    case round =>
      obtain ⟨rfl, rfl⟩ := hrel
      go_wp2_with fail
      go_end0
      exact ⟨rfl, h, Mod.refl _ _⟩
  · go_enter Try.func53, Try.ntmps53
    go_wp2_with fail
    go_loopw [2, 3] (fun a b wr => ∃ (i : Nat) (M : List Fl), a = .int .i64 i ∧ b = .int .i64 ((L.length : Int) - 1 - i) ∧ Turned L M i ∧ i ≤ L.length ∧ OwnF wr (.slice (some ⟨g, 0, none⟩) L.length cp) M ∧ Mod (fun k => k = g) w wr) (fun a _ _ => L.length - (intOf a).toNat)
    case atStart => exact ⟨0, L, rfl, by simp, Turned.zero L, by omega, h, Mod.refl _ _⟩
    case round =>
      obtain ⟨i, M, rfl, rfl, hT, hi, ho, hm⟩ := hrel
      have hml := hT.1
      by_cases hlt : i + i + 1 < L.length
      · have hst' : ∀ (j : Nat) (_ : j = L.length - 1 - i) (h1 : i < M.length) (h2 : j < M.length), Turned L ((M.set i M[j]).set j M[i]) (i + 1) := fun j h h1 h2 => by subst h; exact hT.step hlt h1 h2
        obtain ⟨j, hj⟩ : ∃ j : Nat, j = L.length - 1 - i := ⟨_, rfl⟩
        have ej : (L.length : Int) - 1 - i = (j : Int) := by omega
        rw [ej]
        have hbl : decide (i < j) = true := dtrue (by omega)
        clear ej
        have hjm : j < M.length := by omega
        have him : i < M.length := by omega
        have hst := hst' j hj him hjm
        clear hst'
        have hjI : Hid ((L.length : Int) - 1 - ((i + 1 : Nat) : Int) = (j : Int) - 1) := Lib.hid (by omega)
        obtain ⟨ci0, ci1, ci2, ci3, ci4⟩ := ho.cells him
        obtain ⟨cj0, cj1, cj2, cj3, cj4⟩ := ho.cells hjm
        have fz : ∀ k, wr.frozen? ⟨g, k, none⟩ = false := fun k => ho.frozenAt k
        have i0 : (0 : Int) ≤ (i : Int) := by omega
        have i1 : (i : Int) < (L.length : Int) := by omega
        have j0 : (0 : Int) ≤ (j : Int) := by omega
        have j1 : (j : Int) < (L.length : Int) := by omega
        have ij : i ≠ j := by omega
        have fi0 := fz (i * 5)
        have fi1 := fz (i * 5 + 1)
        have fi2 := fz (i * 5 + 2)
        have fi3 := fz (i * 5 + 3)
        have fi4 := fz (i * 5 + 4)
        have fj0 := fz (j * 5)
        have fj1 := fz (j * 5 + 1)
        have fj2 := fz (j * 5 + 2)
        have fj3 := fz (j * 5 + 3)
        have fj4 := fz (j * 5 + 4)
        clear fz hj
        have hml2 := Lib.hid hml
        have hjm2 := Lib.hid hjm
        replace hst := Lib.hid hst
        generalize M[i] = x at *
        generalize M[j] = y at *
        clear hml hT hjm him
        go_wp2_with fail
        refine wp_region_held_drew (S := fun _ => True) (by kernel_rfl) trivial (fun hH => ?_)
        (refine wpAnyH_take (i := 0) (oi := ⟨_, _, _, _, _, _⟩) (v := ?tv1) rfl (by kernel_rfl) (by kernel_rfl) (by kernel_rfl) (fun _ _ _ h => h) (Or.inl ⟨by kernel_rfl, ?hy1⟩) hH ?rs1; (case hy1 => (intro wx hSw; (try dsimp only at hSw); go_simp; try with_reducible rfl)); try simp only [Act.put, List.setIfInBounds_toArray, List.set_cons_zero, List.set_cons_succ]; try simp only [List.getElem_toArray, List.getElem_cons_succ, List.getElem_cons_zero])
        (refine wpAnyH_take (i := 1) (oi := ⟨_, _, _, _, _, _⟩) (v := ?tv2) rfl (by kernel_rfl) (by kernel_rfl) (by kernel_rfl) (fun _ _ _ h => h) (Or.inl ⟨by kernel_rfl, ?hy2⟩) hH ?rs2; (case hy2 => (intro wx hSw; (try dsimp only at hSw); go_simp; try with_reducible rfl)); try simp only [Act.put, List.setIfInBounds_toArray, List.set_cons_zero, List.set_cons_succ]; try simp only [List.getElem_toArray, List.getElem_cons_succ, List.getElem_cons_zero])
        (refine wpAnyH_take (i := 2) (oi := ⟨_, _, _, _, _, _⟩) (v := ?tv3) rfl (by kernel_rfl) (by kernel_rfl) (by kernel_rfl) (fun _ _ _ h => h) (Or.inl ⟨by kernel_rfl, ?hy3⟩) hH ?rs3; (case hy3 => (intro wx hSw; (try dsimp only at hSw); go_simp; try with_reducible rfl)); try simp only [Act.put, List.setIfInBounds_toArray, List.set_cons_zero, List.set_cons_succ]; try simp only [List.getElem_toArray, List.getElem_cons_succ, List.getElem_cons_zero])
        (refine wpAnyH_take (i := 3) (oi := ⟨_, _, _, _, _, _⟩) (v := ?tv4) rfl (by kernel_rfl) (by kernel_rfl) (by kernel_rfl) (fun _ _ _ h => h) (Or.inl ⟨by kernel_rfl, ?hy4⟩) hH ?rs4; (case hy4 => (intro wx hSw; (try dsimp only at hSw); go_simp; try with_reducible rfl)); try simp only [Act.put, List.setIfInBounds_toArray, List.set_cons_zero, List.set_cons_succ]; try simp only [List.getElem_toArray, List.getElem_cons_succ, List.getElem_cons_zero])
        (refine wpAnyH_take (i := 4) (oi := ⟨_, _, _, _, _, _⟩) (v := ?tv5) rfl (by kernel_rfl) (by kernel_rfl) (by kernel_rfl) (fun _ _ _ h => h) (Or.inl ⟨by kernel_rfl, ?hy5⟩) hH ?rs5; (case hy5 => (intro wx hSw; (try dsimp only at hSw); go_simp; try with_reducible rfl)); try simp only [Act.put, List.setIfInBounds_toArray, List.set_cons_zero, List.set_cons_succ]; try simp only [List.getElem_toArray, List.getElem_cons_succ, List.getElem_cons_zero])
        (refine wpAnyH_take (i := 5) (oi := ⟨_, _, _, _, _, _⟩) (v := ?tv6) rfl (by kernel_rfl) (by kernel_rfl) (by kernel_rfl) (fun _ _ _ h => h) (Or.inl ⟨by kernel_rfl, ?hy6⟩) hH ?rs6; (case hy6 => (intro wx hSw; (try dsimp only at hSw); go_simp; try with_reducible rfl)); try simp only [Act.put, List.setIfInBounds_toArray, List.set_cons_zero, List.set_cons_succ]; try simp only [List.getElem_toArray, List.getElem_cons_succ, List.getElem_cons_zero])
        (refine wpAnyH_take (i := 6) (oi := ⟨_, _, _, _, _, _⟩) (v := ?tv7) rfl (by kernel_rfl) (by kernel_rfl) (by kernel_rfl) (fun _ _ _ h => h) (Or.inl ⟨by kernel_rfl, ?hy7⟩) hH ?rs7; (case hy7 => (intro wx hSw; (try dsimp only at hSw); go_simp; try with_reducible rfl)); try simp only [Act.put, List.setIfInBounds_toArray, List.set_cons_zero, List.set_cons_succ]; try simp only [List.getElem_toArray, List.getElem_cons_succ, List.getElem_cons_zero])
        (refine wpAnyH_take (i := 8) (oi := ⟨_, _, _, _, _, _⟩) (v := ?tv8) rfl (by kernel_rfl) (by kernel_rfl) (by kernel_rfl) (fun _ _ _ h => h) (Or.inl ⟨by kernel_rfl, ?hy8⟩) hH ?rs8; (case hy8 => (intro wx hSw; (try dsimp only at hSw); go_simp; try with_reducible rfl)); try simp only [Act.put, List.setIfInBounds_toArray, List.set_cons_zero, List.set_cons_succ]; try simp only [List.getElem_toArray, List.getElem_cons_succ, List.getElem_cons_zero])
        (refine wpAnyH_take (i := 9) (oi := ⟨_, _, _, _, _, _⟩) (v := ?tv9) rfl (by kernel_rfl) (by kernel_rfl) (by kernel_rfl) (fun _ _ _ h => h) (Or.inl ⟨by kernel_rfl, ?hy9⟩) hH ?rs9; (case hy9 => (intro wx hSw; (try dsimp only at hSw); go_simp; try with_reducible rfl)); try simp only [Act.put, List.setIfInBounds_toArray, List.set_cons_zero, List.set_cons_succ]; try simp only [List.getElem_toArray, List.getElem_cons_succ, List.getElem_cons_zero])
        (refine wpAnyH_take (i := 10) (oi := ⟨_, _, _, _, _, _⟩) (v := ?tv10) rfl (by kernel_rfl) (by kernel_rfl) (by kernel_rfl) (fun _ _ _ h => h) (Or.inl ⟨by kernel_rfl, ?hy10⟩) hH ?rs10; (case hy10 => (intro wx hSw; (try dsimp only at hSw); go_simp; try with_reducible rfl)); try simp only [Act.put, List.setIfInBounds_toArray, List.set_cons_zero, List.set_cons_succ]; try simp only [List.getElem_toArray, List.getElem_cons_succ, List.getElem_cons_zero])
        refine wpAnyH_ready (rs := [7, 11]) (by kernel_rfl) (by simp) ?_
        refine AllReadyH.cons rfl (fun K hK => ?_) (AllReadyH.cons rfl (fun K hK => ?_) AllReadyH.nil)
        case' refine_1 =>
          go_simp
          (go_wp2_with fail; refine hK.out _ _ (trivial) (fun hH => ?_); clear hK K; try simp only [Act.put, List.setIfInBounds_toArray, List.set_cons_zero, List.set_cons_succ]; try simp only [List.getElem_toArray, List.getElem_cons_succ, List.getElem_cons_zero])
          refine wpAnyH_ready (rs := [11]) (by kernel_rfl) (by simp) ?_
          refine AllReadyH.cons rfl (fun K hK => ?_) AllReadyH.nil
          go_simp
          (go_wp2_with fail; refine hK.out _ _ (trivial) (fun hH => ?_); clear hK K; try simp only [Act.put, List.setIfInBounds_toArray, List.set_cons_zero, List.set_cons_succ]; try simp only [List.getElem_toArray, List.getElem_cons_succ, List.getElem_cons_zero])
          (refine wpAnyH_take (i := 12) (oi := ⟨_, _, _, _, _, _⟩) (v := ?tv11) rfl (by kernel_rfl) (by kernel_rfl) (by kernel_rfl) (fun _ _ _ h => h) (Or.inl ⟨by kernel_rfl, ?hy11⟩) hH ?rs11; (case hy11 => (intro wx hSw; (try dsimp only at hSw); go_simp; try with_reducible rfl)); try simp only [Act.put, List.setIfInBounds_toArray, List.set_cons_zero, List.set_cons_succ]; try simp only [List.getElem_toArray, List.getElem_cons_succ, List.getElem_cons_zero])
          refine wpAnyH_ready (rs := [13]) (by kernel_rfl) (by simp) ?_
          refine AllReadyH.cons rfl (fun K hK => ?_) AllReadyH.nil
          go_simp
          (go_wp2_with fail; refine hK.out _ _ (trivial) (fun hH => ?_); clear hK K; try simp only [Act.put, List.setIfInBounds_toArray, List.set_cons_zero, List.set_cons_succ]; try simp only [List.getElem_toArray, List.getElem_cons_succ, List.getElem_cons_zero])
          have k1 := OwnF.set ho hml2.out.symm i y
          have m1 := set5_mod wr g i y
          obtain ⟨wB, hwB⟩ : ∃ w', w' = (((((wr.setCell ⟨g, i * 5, none⟩ (.int .i64 y.id)).setCell ⟨g, i * 5 + 1, none⟩ (.int .i64 y.lev)).setCell ⟨g, i * 5 + 2, none⟩ (.int .i64 y.size)).setCell ⟨g, i * 5 + 3, none⟩ (sv y.first)).setCell ⟨g, i * 5 + 4, none⟩ (sv y.last)) := ⟨_, rfl⟩
          rw [← hwB] at k1 m1 ⊢
          clear hwB ci0 ci1 ci2 ci3 ci4 cj0 cj1 cj2 cj3 cj4 fi0 fi1 fi2 fi3 fi4 fj0 fj1 fj2 fj3 fj4
          obtain ⟨cj0, cj1, cj2, cj3, cj4⟩ := k1.cells (i := j) (by rw [List.length_set]; exact hjm2.out)
          generalize (M.set i y)[j]'(by rw [List.length_set]; exact hjm2.out) = zj at *
          have fz : ∀ k, wB.frozen? ⟨g, k, none⟩ = false := fun k => k1.frozenAt k
          have fj0 := fz (j * 5)
          have fj1 := fz (j * 5 + 1)
          have fj2 := fz (j * 5 + 2)
          have fj3 := fz (j * 5 + 3)
          have fj4 := fz (j * 5 + 4)
          clear fz
          (refine wpAnyH_take (i := 14) (oi := ⟨_, _, _, _, _, _⟩) (v := ?tv12) rfl (by kernel_rfl) (by kernel_rfl) (by kernel_rfl) (fun _ _ _ h => h) (Or.inl ⟨by kernel_rfl, ?hy12⟩) hH ?rs12; (case hy12 => (intro wx hSw; (try dsimp only at hSw); go_simp; try with_reducible rfl)); try simp only [Act.put, List.setIfInBounds_toArray, List.set_cons_zero, List.set_cons_succ]; try simp only [List.getElem_toArray, List.getElem_cons_succ, List.getElem_cons_zero])
          refine wpAnyH_ready (rs := [15]) (by kernel_rfl) (by simp) ?_
          refine AllReadyH.cons rfl (fun K hK => ?_) AllReadyH.nil
          go_simp
          (go_wp2_with fail; refine hK.out _ _ (trivial) (fun hH => ?_); clear hK K; try simp only [Act.put, List.setIfInBounds_toArray, List.set_cons_zero, List.set_cons_succ]; try simp only [List.getElem_toArray, List.getElem_cons_succ, List.getElem_cons_zero])
          refine wpAnyH_done (by kernel_rfl) ?_ _
        case' refine_2 =>
          go_simp
          (go_wp2_with fail; refine hK.out _ _ (trivial) (fun hH => ?_); clear hK K; try simp only [Act.put, List.setIfInBounds_toArray, List.set_cons_zero, List.set_cons_succ]; try simp only [List.getElem_toArray, List.getElem_cons_succ, List.getElem_cons_zero])
          refine wpAnyH_ready (rs := [7]) (by kernel_rfl) (by simp) ?_
          refine AllReadyH.cons rfl (fun K hK => ?_) AllReadyH.nil
          go_simp
          (go_wp2_with fail; refine hK.out _ _ (trivial) (fun hH => ?_); clear hK K; try simp only [Act.put, List.setIfInBounds_toArray, List.set_cons_zero, List.set_cons_succ]; try simp only [List.getElem_toArray, List.getElem_cons_succ, List.getElem_cons_zero])
          (refine wpAnyH_take (i := 12) (oi := ⟨_, _, _, _, _, _⟩) (v := ?tv13) rfl (by kernel_rfl) (by kernel_rfl) (by kernel_rfl) (fun _ _ _ h => h) (Or.inl ⟨by kernel_rfl, ?hy13⟩) hH ?rs13; (case hy13 => (intro wx hSw; (try dsimp only at hSw); go_simp; try with_reducible rfl)); try simp only [Act.put, List.setIfInBounds_toArray, List.set_cons_zero, List.set_cons_succ]; try simp only [List.getElem_toArray, List.getElem_cons_succ, List.getElem_cons_zero])
          refine wpAnyH_ready (rs := [13]) (by kernel_rfl) (by simp) ?_
          refine AllReadyH.cons rfl (fun K hK => ?_) AllReadyH.nil
          go_simp
          (go_wp2_with fail; refine hK.out _ _ (trivial) (fun hH => ?_); clear hK K; try simp only [Act.put, List.setIfInBounds_toArray, List.set_cons_zero, List.set_cons_succ]; try simp only [List.getElem_toArray, List.getElem_cons_succ, List.getElem_cons_zero])
          have k1 := OwnF.set ho hml2.out.symm i y
          have m1 := set5_mod wr g i y
          obtain ⟨wB, hwB⟩ : ∃ w', w' = (((((wr.setCell ⟨g, i * 5, none⟩ (.int .i64 y.id)).setCell ⟨g, i * 5 + 1, none⟩ (.int .i64 y.lev)).setCell ⟨g, i * 5 + 2, none⟩ (.int .i64 y.size)).setCell ⟨g, i * 5 + 3, none⟩ (sv y.first)).setCell ⟨g, i * 5 + 4, none⟩ (sv y.last)) := ⟨_, rfl⟩
          rw [← hwB] at k1 m1 ⊢
          clear hwB ci0 ci1 ci2 ci3 ci4 cj0 cj1 cj2 cj3 cj4 fi0 fi1 fi2 fi3 fi4 fj0 fj1 fj2 fj3 fj4
          obtain ⟨cj0, cj1, cj2, cj3, cj4⟩ := k1.cells (i := j) (by rw [List.length_set]; exact hjm2.out)
          generalize (M.set i y)[j]'(by rw [List.length_set]; exact hjm2.out) = zj at *
          have fz : ∀ k, wB.frozen? ⟨g, k, none⟩ = false := fun k => k1.frozenAt k
          have fj0 := fz (j * 5)
          have fj1 := fz (j * 5 + 1)
          have fj2 := fz (j * 5 + 2)
          have fj3 := fz (j * 5 + 3)
          have fj4 := fz (j * 5 + 4)
          clear fz
          (refine wpAnyH_take (i := 14) (oi := ⟨_, _, _, _, _, _⟩) (v := ?tv14) rfl (by kernel_rfl) (by kernel_rfl) (by kernel_rfl) (fun _ _ _ h => h) (Or.inl ⟨by kernel_rfl, ?hy14⟩) hH ?rs14; (case hy14 => (intro wx hSw; (try dsimp only at hSw); go_simp; try with_reducible rfl)); try simp only [Act.put, List.setIfInBounds_toArray, List.set_cons_zero, List.set_cons_succ]; try simp only [List.getElem_toArray, List.getElem_cons_succ, List.getElem_cons_zero])
          refine wpAnyH_ready (rs := [15]) (by kernel_rfl) (by simp) ?_
          refine AllReadyH.cons rfl (fun K hK => ?_) AllReadyH.nil
          go_simp
          (go_wp2_with fail; refine hK.out _ _ (trivial) (fun hH => ?_); clear hK K; try simp only [Act.put, List.setIfInBounds_toArray, List.set_cons_zero, List.set_cons_succ]; try simp only [List.getElem_toArray, List.getElem_cons_succ, List.getElem_cons_zero])
          refine wpAnyH_done (by kernel_rfl) ?_ _
        all_goals
          have k2 := OwnF.set k1 (by rw [List.length_set]; exact hml2.out.symm) j x
          have m2 := ((hm.then_ m1 (fun _ _ h => h)).then_ (set5_mod wB g j x) (fun _ _ h => h)).drew
          clear cj0 cj1 cj2 cj3 cj4 fj0 fj1 fj2 fj3 fj4 k1
          go_wp2_with fail
          exact ⟨⟨i + 1, (M.set i y).set j x, by go_num, by rw [hjI.out], hst.out, by omega, k2, m2⟩, by simp [intOf] <;> omega⟩
      · have hbl : decide ((i : Int) < (L.length : Int) - 1 - i) = false := dfalse (by omega)
        have hd := hT.done (by omega)
        subst hd
        go_wp2_with fail
        go_end0
        exact ⟨rfl, ho, hm.mono fun k _ hk => by rw [hk]; rfl⟩
end
end Go.Proofs.Ytmjkgibeljbloaa
