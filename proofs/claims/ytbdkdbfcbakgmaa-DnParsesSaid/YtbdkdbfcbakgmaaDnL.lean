/- dn: Same, Under, Is. -/
import Derived.Test.YtbdkdbfcbakgmaaDnG
namespace Go.Proofs.Ytbdkdbfcbakgmaa
open Go.RowKit
set_option maxRecDepth 100000

theorem normA_eq (x y : Av) : sameN [x] [y] ↔ normA x = normA y := by unfold sameN norm; simp
set_option maxHeartbeats 2000000 in
theorem same1_any {w : World} (x y : Av) (h1 : x.1.length ≤ 140737488351232 ∧ x.2.length ≤ 140737488351232) (h2 : y.1.length ≤ 140737488351232 ∧ y.2.length ≤ 140737488351232) :
    Calls Try.prog 61 #[.agg #[sv x.1, sv x.2], .agg #[sv y.1, sv y.2]] w fun e w' => e = .returned (.bool (decide (normA x = normA y))) ∧ Ext w w' := by
  have B0 : Blk ((w.alloc (.cells #[sv x.1, sv x.2] 37)).alloc (.cells #[sv y.1, sv y.2] 37)) w.heap.size 37 #[sv x.1, sv x.2] := (Blk.new w _ _).alloc _
  have B1 : Blk ((w.alloc (.cells #[sv x.1, sv x.2] 37)).alloc (.cells #[sv y.1, sv y.2] 37)) (w.heap.size + 1) 37 #[sv y.1, sv y.2] := by
    have := Blk.new (w.alloc (.cells #[sv x.1, sv x.2] 37)) 37 #[sv y.1, sv y.2]
    simpa using this
  have hx0 : Ext w ((w.alloc (.cells #[sv x.1, sv x.2] 37)).alloc (.cells #[sv y.1, sv y.2] 37)) := ((Mod.refl _ w).alloc _).alloc _
  have hq1 := fun wx => eqA wx (normA x) (normA y)
  have hq2 := fun wx => guardA wx .eql
  go_enter Try.func61, Try.ntmps61
  go_wp2_with fail
  generalize ((w.alloc (.cells #[sv x.1, sv x.2] 37)).alloc (.cells #[sv y.1, sv y.2] 37)) = w0 at *
  have hc : ∀ wx, Ext w0 wx → wx.cell? ⟨w.heap.size, 0, none⟩ = some (sv x.1) ∧ wx.cell? ⟨w.heap.size, 1, none⟩ = some (sv x.2) ∧ wx.cell? ⟨w.heap.size + 1, 0, none⟩ = some (sv y.1) ∧ wx.cell? ⟨w.heap.size + 1, 1, none⟩ = some (sv y.2) :=
    fun wx hx => ⟨(B0.mod hx (fun h => h)).cell 0, (B0.mod hx (fun h => h)).cell 1, (B1.mod hx (fun h => h)).cell 0, (B1.mod hx (fun h => h)).cell 1⟩
  clear B0 B1
  have q0 : Ext w0 w0.drew := (Mod.refl _ w0).drew
  go_region_held3 (fun w' => w'.cell? ⟨w.heap.size, 0, none⟩ = some (sv x.1) ∧ w'.cell? ⟨w.heap.size, 1, none⟩ = some (sv x.2) ∧ w'.cell? ⟨w.heap.size + 1, 0, none⟩ = some (sv y.1) ∧ w'.cell? ⟨w.heap.size + 1, 1, none⟩ = some (sv y.2)) (first | exact hc _ q0 | exact hc _ q1 | exact hc _ q2) (first | (go_at_call 57; (with_reducible show Calls _ _ #[.agg #[sv x.1, sv x.2]] _ _); refine (dfold_any x h1.1 h1.2).mono ?_; rintro e w2 ⟨rfl, r1⟩; have q1 := ext_trans q0 r1) | (go_at_call 57; (with_reducible show Calls _ _ #[.agg #[sv y.1, sv y.2]] _ _); refine (dfold_any y h2.1 h2.2).mono ?_; rintro e w3 ⟨rfl, r2⟩; have q2 := ext_trans q1 r2))
  go_wp2_with fail
  go_ret
  exact ⟨rfl, ext_trans hx0 q2⟩

theorem same_step {L M : List Av} : sameN L M ↔ L.length = M.length ∧ ∀ (j : Nat) (hj : j < L.length) (hj' : j < M.length), normA L[j] = normA M[j] := by
  unfold sameN norm
  constructor
  · intro h
    have hl : L.length = M.length := by have := congrArg List.length h; simpa using this
    refine ⟨hl, fun j hj hj' => ?_⟩
    have := congrArg (fun l => l[j]?) h
    simpa [hj, hj'] using this
  · rintro ⟨h1, h2⟩
    exact List.ext_getElem (by simpa using h1) (fun j hj hj' => by simpa using h2 j (by simpa using hj) (by simpa using hj'))

set_option maxHeartbeats 4000000 in
theorem equal_any {w : World} {S T : Nat → Prop} {v u : Value} {L M : List Av} (h : As w S v L) (h' : As w T u M) (hf : Fits L) (hf' : Fits M) :
    Calls Try.prog 60 #[v, u, .func (.func 61) #[] #[]] w fun e w' => e = .returned (.bool (decide (sameN L M))) ∧ Ext w w' := by
  have hl := hf.2
  have hl' := hf'.2
  obtain ⟨A1, c1, rfl, r1, r2, r3, r4⟩ := h.open_ avc_len
  obtain ⟨A2, c2, rfl, t1, t2, t3, t4⟩ := h'.open_ avc_len
  by_cases hne : L.length = M.length
  · have hb : ((L.length : Int) != (M.length : Int)) = false := by rw [hne]; simp
    have hlm : M.length = L.length := hne.symm
    replace hne := Lib.hid hne
    clear hlm
    go_enter Try.func60, Try.ntmps60
    go_wp2_with fail
    go_loopw [17] (fun i wr => ∃ k : Nat, k ≤ L.length ∧ i = .int .i64 k ∧ Ext w wr ∧ Hid (∀ (j : Nat) (hj : j < L.length) (hj' : j < M.length), j < k → normA L[j] = normA M[j])) (fun i _ => L.length - (intOf i).toNat)
    case atStart => exact ⟨0, by omega, rfl, Mod.refl _ _, Lib.hid fun j _ _ h => by omega⟩
    case round =>
      obtain ⟨k, hk, rfl, hxr, hall⟩ := hrel
      by_cases hlt : k < L.length
      · have hbl : decide ((k : Int) < (L.length : Int)) = true := dtrue (by omega)
        have hlt' : k < M.length := by have := hne.out; omega
        obtain ⟨ad, hA, hS, c0, c1⟩ := As.at_ (r4.ext hxr) hlt
        subst hA
        obtain ⟨ad', hA', hS', d0, d1⟩ := As.at_ (t4.ext hxr) hlt'
        subst hA'
        have hi0 : (0 : Int) ≤ (k : Int) := by omega
        have hi1 : (k : Int) < (L.length : Int) := by omega
        have hi2 : (k : Int) < (M.length : Int) := by omega
        have next : normA L[k] = normA M[k] → Hid (∀ (j : Nat) (hj : j < L.length) (hj' : j < M.length), j < k + 1 → normA L[j] = normA M[j]) := fun h4 => Lib.hid fun j hj hj' hjk => by
          by_cases hj2 : j < k
          · exact hall.out j hj hj' hj2
          · obtain rfl : j = k := by omega
            exact h4
        have nope : ¬ normA L[k] = normA M[k] → ¬ sameN L M := fun h4 h => h4 ((same_step.1 h).2 k hlt hlt')
        have k1 := hf.at_ hlt
        have k2 := hf'.at_ hlt'
        generalize L[k] = x at *
        generalize M[k] = y at *
        have e0 : Ext wr (wr.alloc (.cells #[sv x.1, sv x.2] 37)) := (Mod.refl _ wr).alloc _
        have d0' := (e0.cell (lt_of_cell d0) (fun h => h)).trans d0
        have d1' := (e0.cell (lt_of_cell d1) (fun h => h)).trans d1
        clear e0
        go_wp2_with fail
        refine (same1_any x y k1 k2).mono ?_
        rintro e w3 ⟨rfl, x3⟩
        have x3' : Ext w w3 := ext_trans hxr (ext_trans (((Mod.refl _ wr).alloc _).alloc _) x3)
        by_cases hxy : normA x = normA y
        · rw [decide_eq_true hxy]
          go_wp2_with fail
          exact ⟨⟨k + 1, by omega, by go_num, x3', next hxy⟩, by simp [intOf] <;> omega⟩
        · rw [decide_eq_false hxy]
          go_wp2_with fail
          go_ret
          exact ⟨by rw [decide_eq_false (nope hxy)]; rfl, x3'⟩
      · have hbl : decide ((k : Int) < (L.length : Int)) = false := dfalse (by omega)
        have yes : sameN L M := same_step.2 ⟨hne.out, fun j hj hj' => hall.out j hj hj' (by omega)⟩
        go_wp2_with fail
        go_ret
        exact ⟨by rw [decide_eq_true yes]; rfl, hxr⟩
  · have hb : ((L.length : Int) != (M.length : Int)) = true := by rw [bne_iff_ne]; omega
    have nope : ¬ sameN L M := fun h => hne (same_step.1 h).1
    go_enter Try.func60, Try.ntmps60
    go_wp2_with fail
    go_ret
    exact ⟨by rw [decide_eq_false nope]; rfl, Mod.refl _ _⟩

set_option maxHeartbeats 2000000 in
theorem same_any {w : World} {S T : Nat → Prop} {v u : Value} {L M : List Av} (h : As w S v L) (h' : As w T u M) (hf : Fits L) (hf' : Fits M) :
    Calls Try.prog 33 #[v, u] w fun e w' => e = .returned (.bool (decide (sameN L M))) ∧ Ext w w' := by
  go_enter Try.func33, Try.ntmps33
  go_wp2_with fail
  refine (equal_any h h' hf hf').mono ?_
  rintro e w2 ⟨rfl, hx⟩
  go_wp2_with fail
  go_ret
  exact ⟨rfl, hx⟩
set_option maxHeartbeats 2000000 in
theorem under_any {w : World} {S T : Nat → Prop} {v u : Value} {L M : List Av} (h : As w S v L) (h' : As w T u M) (hf : Fits L) (hf' : Fits M) :
    Calls Try.prog 35 #[v, u] w fun e w' => e = .returned (.bool (decide (underN L M))) ∧ Ext w w' := by
  have hl := hf.2
  have hl' := hf'.2
  have h0 := h
  obtain ⟨Au, cu, rfl⟩ := h'.shape
  obtain ⟨A, c, rfl, r1, r2, r3, r4⟩ := h.open_ avc_len
  by_cases hle : M.length ≤ L.length
  · have hb : decide ((M.length : Int) ≤ (L.length : Int)) = true := dtrue (by omega)
    have hu : underN L M ↔ sameN (L.drop (L.length - M.length)) M := ⟨fun h => h.2, fun h => ⟨hle, h⟩⟩
    obtain ⟨n, hn⟩ : ∃ n, n = L.length - M.length := ⟨_, rfl⟩
    rw [← hn] at hu
    have hsub : (L.length : Int) - (M.length : Int) = (n : Int) := by omega
    have x0 : (0 : Int) ≤ (n : Int) := by omega
    have x1 : (n : Int) ≤ (L.length : Int) := by omega
    have x2 : (L.length : Int) ≤ (c : Int) := by omega
    have x3 : (n : Int) ≤ (c : Int) := by omega
    have hfd : Fits (L.drop n) := ⟨fun a ha => hf.1 a (List.mem_of_mem_drop ha), by rw [List.length_drop]; omega⟩
    have hn2 : n ≤ L.length := by omega
    replace hn := Lib.hid hn
    go_enter Try.func35, Try.ntmps35
    go_wp2_with fail
    · refine (same_any (Rc.rest0 h0 hn2 (by assumption)) h' hfd hf').mono ?_
      rintro e w2 ⟨rfl, hx⟩
      go_wp2_with fail
      go_ret
      exact ⟨by rw [show decide (underN L M) = decide (sameN (L.drop n) M) from decide_eq_decide.2 hu]; rfl, hx⟩
    · refine (same_any (Rc.rest avc_len h0 hn2) h' hfd hf').mono ?_
      rintro e w2 ⟨rfl, hx⟩
      go_wp2_with fail
      go_ret
      exact ⟨by rw [show decide (underN L M) = decide (sameN (L.drop n) M) from decide_eq_decide.2 hu]; rfl, hx⟩
  · have hb : decide ((M.length : Int) ≤ (L.length : Int)) = false := dfalse (by omega)
    have nope : ¬ underN L M := fun h => hle h.1
    go_enter Try.func35, Try.ntmps35
    go_wp2_with fail
    go_ret
    exact ⟨by rw [decide_eq_false nope]; rfl, Mod.refl _ _⟩

end Go.Proofs.Ytbdkdbfcbakgmaa
