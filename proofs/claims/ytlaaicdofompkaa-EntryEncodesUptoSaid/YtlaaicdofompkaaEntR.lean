/- entry: two rows alike; Same. -/
import Derived.Test.YtlaaicdofompkaaEntQ
namespace Go.Proofs.Ytlaaicdofompkaa
open Go.RowKit
set_option maxRecDepth 100000

theorem Blk.twoN (w : World) (A B : Array Value) (s t : TypeId) : Blk ((w.alloc (.cells A s)).alloc (.cells B t)) w.heap.size s A ∧ Blk ((w.alloc (.cells A s)).alloc (.cells B t)) (w.heap.size + 1) t B ∧ Ext w ((w.alloc (.cells A s)).alloc (.cells B t)) := by
  refine ⟨(Blk.new w _ _).mod (F := fun _ => False) ((Mod.refl _ _).alloc _) (fun h => h), ?_, ((Mod.refl _ w).alloc _).alloc _⟩
  have h := Blk.new (w.alloc (.cells A s)) t B
  have hs : (w.alloc (.cells A s)).heap.size = w.heap.size + 1 := by simp
  rw [hs] at h
  exact h

set_option maxHeartbeats 4000000 in
theorem eqS20_any {w : World} {S T : Nat → Prop} {v u : Value} {L M : List (List UInt8)} (h : Ss w S v L) (h' : Ss w T u M) (hf : L.length ≤ 1000000) :
    Calls Try.prog 34 #[v, u] w fun e w' => e = .returned (.bool (decide (L = M))) ∧ Ext w w' := by
  obtain ⟨A, c, rfl, -, -, -, -⟩ := h.open_
  obtain ⟨B, d, rfl, -, -, -, -⟩ := h'.open_
  obtain ⟨R, hR⟩ : ∃ R, R = decide (L = M) := ⟨_, rfl⟩
  rw [← hR]
  have hRn : L ≠ M → R = false := fun g => by rw [hR]; exact decide_eq_false g
  have hRy : L = M → R = true := fun g => by rw [hR]; exact decide_eq_true g
  obtain ⟨n, hn⟩ : ∃ n, n = L.length := ⟨_, rfl⟩
  obtain ⟨m, hm⟩ : ∃ n, n = M.length := ⟨_, rfl⟩
  rw [← hn] at h hf
  rw [← hm] at h'
  rw [← hn, ← hm]
  replace hn := Lib.hid hn
  replace hm := Lib.hid hm
  clear hR
  by_cases e0 : n = m
  case neg =>
    have hb0 : ((n : Int) != (m : Int)) = true := by rw [bne_iff_ne]; omega
    have hR2 := Lib.hid (hRn (fun g => e0 (by rw [hn.out, hm.out, g])))
    clear hRn hRy e0
    go_enter Try.func34, Try.ntmps34
    go_wp2_with fail
    go_ret
    exact ⟨by rw [hR2.out]; rfl, Mod.refl _ _⟩
  subst e0
  have hb0 : ((n : Int) != (n : Int)) = false := by rw [bne_eq_false_iff_eq]
  replace hRn := Lib.hid hRn
  replace hRy := Lib.hid hRy
  go_enter Try.func34, Try.ntmps34
  go_wp2_with fail
  go_loopw [13] (fun i wr => ∃ k : Nat, k ≤ n ∧ i = .int .i64 k ∧ Hid (L.take k = M.take k) ∧ Ext w wr) (fun i _ => n - (intOf i).toNat)
  case atStart => exact ⟨0, Nat.zero_le _, rfl, Lib.hid (by simp), Mod.refl _ _⟩
  case round =>
    clear hb0
    obtain ⟨k, hk, rfl, hs, hx⟩ := hrel
    by_cases hlt : k < n
    case neg =>
      have hbl : decide ((k : Int) < (n : Int)) = false := dfalse (by omega)
      have hbn : decide (k < n) = false := dfalse (by omega)
      have hR2 := Lib.hid (hRy.out (take_all_eq (by have := hn.out; omega) (by have := hn.out; have := hm.out; omega) hs.out))
      go_wp2_with fail
      go_ret
      exact ⟨by rw [hR2.out]; rfl, hx⟩
    have hbl : decide ((k : Int) < (n : Int)) = true := dtrue (by omega)
    have hbn : decide (k < n) = true := dtrue (by omega)
    have l1 : k < L.length := by have := hn.out; omega
    have l2 : k < M.length := by have := hm.out; omega
    obtain ⟨A2, c2, e1, _, _, _, h5⟩ := (Sl.ext h hx).open_
    injection e1 with e1 _ e3
    subst e1
    subst e3
    obtain ⟨ad2, e2, _, h6⟩ := h5.at_ l1
    obtain ⟨A3, c3, f1, _, _, _, h7⟩ := (Sl.ext h' hx).open_
    injection f1 with f1 _ f3
    subst f1
    subst f3
    obtain ⟨bd2, f2, _, h8⟩ := h7.at_ l2
    subst e2
    subst f2
    have hsn2 := take_step l1 l2 hs.out
    have hno3 : L[k] ≠ M[k] → R = false := fun h => hRn.out (take_ne l1 l2 h)
    have hj0 : (0 : Int) ≤ (k : Int) := by omega
    have hj1 : (k : Int) < (n : Int) := by omega
    generalize L[k] = sx at *
    generalize M[k] = su at *
    have hdw : ∀ m, Ext w (wr.drewN m) := fun m => hx.drewN m
    clear h5 h7 l1 l2
    by_cases hss : sx = su
    · have hs3 := Lib.hid (hsn2.2 hss)
      have hb1 : (sx != su) = false := bne_eq_false_iff_eq.2 hss
      have hb2 : (sx == su) = true := beq_iff_eq.2 hss
      clear hsn2 hno3 hss
      go_wp2_with fail
      go_quiet (fail)
      go_wp2_with fail
      exact ⟨⟨k + 1, by omega, by go_num, hs3, hdw _⟩, by simp [intOf] <;> omega⟩
    · have hR2 := Lib.hid (hno3 hss)
      have hb1 : (sx != su) = true := bne_iff_ne.2 hss
      have hb2 : (sx == su) = false := beq_eq_false_iff_ne.2 hss
      clear hsn2 hno3 hss
      go_wp2_with fail
      go_quiet (fail)
      go_wp2_with fail
      go_ret
      exact ⟨by rw [hR2.out]; rfl, hdw _⟩

set_option maxHeartbeats 4000000 in
theorem texts20_any {w : World} {S T : Nat → Prop} {v u : Value} {L M : List (List UInt8)} (h : Ss w S v L) (h' : Ss w T u M) (hf : L.length ≤ 1000000) :
    Calls Try.prog 11 #[v, u] w fun e w' => e = .returned (.bool (decide (L = M))) ∧ Ext w w' := by
  obtain ⟨A, c, rfl, -, -, -, -⟩ := h.open_
  obtain ⟨B, d, rfl, -, -, -, -⟩ := h'.open_
  obtain ⟨R, hR⟩ : ∃ R, R = decide (L = M) := ⟨_, rfl⟩
  rw [← hR]
  have hRn : L ≠ M → R = false := fun g => by rw [hR]; exact decide_eq_false g
  have hRy : L = M → R = true := fun g => by rw [hR]; exact decide_eq_true g
  obtain ⟨n, hn⟩ : ∃ n, n = L.length := ⟨_, rfl⟩
  obtain ⟨m, hm⟩ : ∃ n, n = M.length := ⟨_, rfl⟩
  rw [← hn] at h hf
  rw [← hm] at h'
  rw [← hn, ← hm]
  replace hn := Lib.hid hn
  replace hm := Lib.hid hm
  clear hR
  by_cases e0 : n = m
  case neg =>
    have hb0 : ((n : Int) != (m : Int)) = true := by rw [bne_iff_ne]; omega
    have hR2 := Lib.hid (hRn (fun g => e0 (by rw [hn.out, hm.out, g])))
    clear hRn hRy e0
    go_enter Try.func11, Try.ntmps11
    go_wp2_with fail
    go_ret
    exact ⟨by rw [hR2.out]; rfl, Mod.refl _ _⟩
  subst e0
  have hb0 : ((n : Int) != (n : Int)) = false := by rw [bne_eq_false_iff_eq]
  replace hRn := Lib.hid hRn
  replace hRy := Lib.hid hRy
  go_enter Try.func11, Try.ntmps11
  go_wp2_with fail
  go_loopw [5] (fun i wr => ∃ k : Nat, k ≤ n ∧ i = .int .i64 k ∧ Hid (L.take k = M.take k) ∧ Ext w wr) (fun i _ => n - (intOf i).toNat)
  case atStart => exact ⟨0, Nat.zero_le _, rfl, Lib.hid (by simp), Mod.refl _ _⟩
  case round =>
    clear hb0
    obtain ⟨k, hk, rfl, hs, hx⟩ := hrel
    by_cases hlt : k < n
    case neg =>
      have hbl : decide ((k : Int) < (n : Int)) = false := dfalse (by omega)
      have hbn : decide (k < n) = false := dfalse (by omega)
      have hR2 := Lib.hid (hRy.out (take_all_eq (by have := hn.out; omega) (by have := hn.out; have := hm.out; omega) hs.out))
      go_wp2_with fail
      go_ret
      exact ⟨by rw [hR2.out]; rfl, hx⟩
    have hbl : decide ((k : Int) < (n : Int)) = true := dtrue (by omega)
    have hbn : decide (k < n) = true := dtrue (by omega)
    have l1 : k < L.length := by have := hn.out; omega
    have l2 : k < M.length := by have := hm.out; omega
    obtain ⟨A2, c2, e1, _, _, _, h5⟩ := (Sl.ext h hx).open_
    injection e1 with e1 _ e3
    subst e1
    subst e3
    obtain ⟨ad2, e2, _, h6⟩ := h5.at_ l1
    obtain ⟨A3, c3, f1, _, _, _, h7⟩ := (Sl.ext h' hx).open_
    injection f1 with f1 _ f3
    subst f1
    subst f3
    obtain ⟨bd2, f2, _, h8⟩ := h7.at_ l2
    subst e2
    subst f2
    have hsn2 := take_step l1 l2 hs.out
    have hno3 : L[k] ≠ M[k] → R = false := fun h => hRn.out (take_ne l1 l2 h)
    have hj0 : (0 : Int) ≤ (k : Int) := by omega
    have hj1 : (k : Int) < (n : Int) := by omega
    generalize L[k] = sx at *
    generalize M[k] = su at *
    have hdw : ∀ m, Ext w (wr.drewN m) := fun m => hx.drewN m
    clear h5 h7 l1 l2
    by_cases hss : sx = su
    · have hs3 := Lib.hid (hsn2.2 hss)
      have hb1 : (sx != su) = false := bne_eq_false_iff_eq.2 hss
      have hb2 : (sx == su) = true := beq_iff_eq.2 hss
      clear hsn2 hno3 hss
      go_wp2_with fail
      go_quiet (fail)
      go_wp2_with fail
      exact ⟨⟨k + 1, by omega, by go_num, hs3, hdw _⟩, by simp [intOf] <;> omega⟩
    · have hR2 := Lib.hid (hno3 hss)
      have hb1 : (sx != su) = true := bne_iff_ne.2 hss
      have hb2 : (sx == su) = false := beq_eq_false_iff_ne.2 hss
      clear hsn2 hno3 hss
      go_wp2_with fail
      go_quiet (fail)
      go_wp2_with fail
      go_ret
      exact ⟨by rw [hR2.out]; rfl, hdw _⟩

set_option maxHeartbeats 4000000 in
theorem eqA20_any {w : World} {S T : Nat → Prop} {v u : Value} {L M : List Av} (h : As w S v L) (h' : As w T u M) (hf : L.length ≤ 1000000) :
    Calls Try.prog 31 #[v, u] w fun e w' => e = .returned (.bool (decide (L = M))) ∧ Ext w w' := by
  obtain ⟨A, c, rfl, -, -, -, h4⟩ := h.open_ avc_len
  obtain ⟨B, d, rfl, -, -, -, j4⟩ := h'.open_ avc_len
  obtain ⟨R, hR⟩ : ∃ R, R = decide (L = M) := ⟨_, rfl⟩
  rw [← hR]
  have hRn : L ≠ M → R = false := fun g => by rw [hR]; exact decide_eq_false g
  have hRy : L = M → R = true := fun g => by rw [hR]; exact decide_eq_true g
  obtain ⟨n, hn⟩ : ∃ n, n = L.length := ⟨_, rfl⟩
  obtain ⟨m, hm⟩ : ∃ n, n = M.length := ⟨_, rfl⟩
  rw [← hn] at hf
  rw [← hn, ← hm]
  replace hn := Lib.hid hn
  replace hm := Lib.hid hm
  clear hR h h'
  by_cases e0 : n = m
  case neg =>
    have hb0 : ((n : Int) != (m : Int)) = true := by rw [bne_iff_ne]; omega
    have hR2 := Lib.hid (hRn (fun g => e0 (by rw [hn.out, hm.out, g])))
    clear hRn hRy e0
    go_enter Try.func31, Try.ntmps31
    go_wp2_with fail
    go_ret
    exact ⟨by rw [hR2.out]; rfl, Mod.refl _ _⟩
  subst e0
  have hb0 : ((n : Int) != (n : Int)) = false := by rw [bne_eq_false_iff_eq]
  replace hRn := Lib.hid hRn
  replace hRy := Lib.hid hRy
  go_enter Try.func31, Try.ntmps31
  go_wp2_with fail
  go_loopw [13] (fun i wr => ∃ k : Nat, k ≤ n ∧ i = .int .i64 k ∧ Hid (L.take k = M.take k) ∧ Ext w wr) (fun i _ => n - (intOf i).toNat)
  case atStart => exact ⟨0, Nat.zero_le _, rfl, Lib.hid (by simp), Mod.refl _ _⟩
  case round =>
    clear hb0
    obtain ⟨k, hk, rfl, hs, hx⟩ := hrel
    by_cases hlt : k < n
    case neg =>
      have hbl : decide ((k : Int) < (n : Int)) = false := dfalse (by omega)
      have hbn : decide (k < n) = false := dfalse (by omega)
      have hR2 := Lib.hid (hRy.out (take_all_eq (by have := hn.out; omega) (by have := hn.out; have := hm.out; omega) hs.out))
      go_wp2_with fail
      go_ret
      exact ⟨by rw [hR2.out]; rfl, hx⟩
    have hbl : decide ((k : Int) < (n : Int)) = true := dtrue (by omega)
    have hbn : decide (k < n) = true := dtrue (by omega)
    have l1 : k < L.length := by have := hn.out; omega
    have l2 : k < M.length := by have := hm.out; omega
    obtain ⟨ad, hA, -, c0', c1'⟩ := As.at_ (h4.ext hx) l1
    obtain ⟨bd, hB, -, d0', d1'⟩ := As.at_ (j4.ext hx) l2
    subst hA
    subst hB
    have hsn := take_step l1 l2 hs.out
    have hno : L[k] ≠ M[k] → R = false := fun h => hRn.out (take_ne l1 l2 h)
    have hi0 : (0 : Int) ≤ (k : Int) := by omega
    have hi1 : (k : Int) < (n : Int) := by omega
    generalize L[k] = x at *
    generalize M[k] = y at *
    have hgu := fun wx a b => guardA wx .neq a b #[sv x.1, sv x.2] #[sv y.1, sv y.2]
    have hdw : ∀ m, Ext w (wr.drewN m) := fun m => hx.drewN m
    by_cases hxy : x = y
    · have hs2 := Lib.hid (hsn.2 hxy)
      have hne : ∀ wx, (binOp .neq 49 (.agg #[sv x.1, sv x.2]) (.agg #[sv y.1, sv y.2])).run Try.prog wx = .ok (.bool false) wx := fun wx => by rw [neqA, dtrue hxy]; rfl
      clear hsn hno hxy l1 l2
      go_wp2_with fail
      go_quiet (fail)
      go_wp2_with fail
      exact ⟨⟨k + 1, by omega, by go_num, hs2, hdw _⟩, by simp [intOf] <;> omega⟩
    · have hne : ∀ wx, (binOp .neq 49 (.agg #[sv x.1, sv x.2]) (.agg #[sv y.1, sv y.2])).run Try.prog wx = .ok (.bool true) wx := fun wx => by rw [neqA, dfalse hxy]; rfl
      have hR2 := Lib.hid (hno hxy)
      clear hsn hno hxy l1 l2
      go_wp2_with fail
      go_quiet (fail)
      go_wp2_with fail
      go_ret
      exact ⟨by rw [hR2.out]; rfl, hdw _⟩

set_option maxHeartbeats 4000000 in
theorem same1_any {w : World} {S T : Nat → Prop} {vx vy : Value} {x y : Att} (hx : Ss w S vx x.vals) (hy : Ss w T vy y.vals) (hf : x.vals.length ≤ 1000000) :
    Calls Try.prog 33 #[.agg #[sv x.typ, vx], .agg #[sv y.typ, vy]] w fun e w' => e = .returned (.bool (decide (x = y))) ∧ Ext w w' := by
  obtain ⟨A, c, hvx, -⟩ := hx.open_
  obtain ⟨B, d, hvy, -⟩ := hy.open_
  subst hvx
  subst hvy
  obtain ⟨n, hn⟩ : ∃ n, n = x.vals.length := ⟨_, rfl⟩
  obtain ⟨m, hm⟩ : ∃ n, n = y.vals.length := ⟨_, rfl⟩
  rw [← hn] at hx ⊢
  rw [← hm] at hy ⊢
  replace hn := Lib.hid hn
  replace hm := Lib.hid hm
  obtain ⟨b0, b1, x2⟩ := Blk.twoN w #[sv x.typ, .slice A n c] #[sv y.typ, .slice B m d] 46 46
  have hc := eqS20_any (hx.ext x2) (hy.ext x2) hf
  obtain ⟨q, hq⟩ : ∃ q, q = w.heap.size + 1 := ⟨_, rfl⟩
  obtain ⟨p, hp⟩ : ∃ p, p = w.heap.size := ⟨_, rfl⟩
  obtain ⟨w2, hw2⟩ : ∃ x', x' = (w.alloc (.cells #[sv x.typ, .slice A n c] 46)).alloc (.cells #[sv y.typ, .slice B m d] 46) := ⟨_, rfl⟩
  rw [← hw2] at b0 b1 x2 hc
  rw [← hq] at b1
  rw [← hp] at b0
  replace hw2 := Lib.hid hw2
  replace hq := Lib.hid hq
  replace hp := Lib.hid hp
  have b00 : w2.cell? ⟨p, 0, none⟩ = some (sv x.typ) := b0.cell 0
  have b01 : w2.cell? ⟨p, 1, none⟩ = some (.slice A n c) := b0.cell 1
  have b10 : w2.cell? ⟨q, 0, none⟩ = some (sv y.typ) := b1.cell 0
  have b11 : w2.cell? ⟨q, 1, none⟩ = some (.slice B m d) := b1.cell 1
  obtain ⟨Q, hQ⟩ : ∃ Q, Q = decide (x = y) := ⟨_, rfl⟩
  rw [← hQ]
  replace hQ := Lib.hid hQ
  go_enter Try.func33, Try.ntmps33
  go_upto_region 1 with fail
  rw [← hw2.out, ← hq.out, ← hp.out]
  clear hw2 hq hp hx hy
  by_cases ht : x.typ = y.typ
  case neg =>
    have hb1 : (x.typ == y.typ) = false := beq_eq_false_iff_ne.2 ht
    have hR : Hid (Q = false) := Lib.hid (hQ.out.trans (decide_eq_false (fun e => ht (by rw [e]))))
    clear ht hQ
    go_wp2_with fail
    go_ret
    exact ⟨by rw [hR.out]; rfl, x2⟩
  have hb1 : (x.typ == y.typ) = true := beq_iff_eq.2 ht
  have hR : Hid (Q = decide (x.vals = y.vals)) := Lib.hid (hQ.out.trans (by rw [decide_eq_decide]; exact ⟨fun e => by rw [e], fun e => att_ext ht e⟩))
  generalize decide (x.vals = y.vals) = R at *
  replace ht := Lib.hid ht
  clear hQ
  go_wp2_with fail
  refine hc.mono ?_
  rintro e w3 ⟨rfl, x3⟩
  go_wp2_with fail
  go_ret
  exact ⟨by rw [hR.out]; rfl, ext_trans x2 x3⟩

set_option maxHeartbeats 8000000 in
theorem eqF20_any {w : World} {v u : Value} {L M : List Att} (h : Ats w v L) (h' : Ats w u M) (hf : wA L ≤ 1000000) :
    Calls Try.prog 32 #[v, u, .func (.func 33) #[] #[]] w fun e w' => e = .returned (.bool (decide (L = M))) ∧ Ext w w' := by
  have hfl := wA_ge L
  have hfm : ∀ x ∈ L, x.vals.length ≤ 1000000 := fun x hx => by have := wA_mem hx; have := wV_ge x.vals; omega
  have hax := fun {wx : World} (x : Ext w wx) => (h.ext x).open_
  have hbx := fun {wx : World} (x : Ext w wx) => (h'.ext x).open_
  obtain ⟨A, c, rfl, -⟩ := h.open_
  obtain ⟨B, d, rfl, -⟩ := h'.open_
  obtain ⟨R, hR⟩ : ∃ R, R = decide (L = M) := ⟨_, rfl⟩
  rw [← hR]
  have hRn : L ≠ M → R = false := fun g => by rw [hR]; exact decide_eq_false g
  have hRy : L = M → R = true := fun g => by rw [hR]; exact decide_eq_true g
  obtain ⟨n, hn⟩ : ∃ n, n = L.length := ⟨_, rfl⟩
  obtain ⟨m, hm⟩ : ∃ n, n = M.length := ⟨_, rfl⟩
  have hN : n ≤ 1000000 := by omega
  rw [← hn, ← hm]
  replace hn := Lib.hid hn
  replace hm := Lib.hid hm
  clear hR h h' hfl hf
  by_cases e0 : n = m
  case neg =>
    have hb0 : ((n : Int) != (m : Int)) = true := by rw [bne_iff_ne]; omega
    have hR2 := Lib.hid (hRn (fun g => e0 (by rw [hn.out, hm.out, g])))
    clear hRn hRy e0 hax hbx
    go_enter Try.func32, Try.ntmps32
    go_wp2_with fail
    go_ret
    exact ⟨by rw [hR2.out]; rfl, Mod.refl _ _⟩
  subst e0
  have hb0 : ((n : Int) != (n : Int)) = false := by rw [bne_eq_false_iff_eq]
  replace hRn := Lib.hid hRn
  replace hRy := Lib.hid hRy
  go_enter Try.func32, Try.ntmps32
  go_wp2_with fail
  go_loopw [17] (fun i wr => ∃ k : Nat, k ≤ n ∧ i = .int .i64 k ∧ Hid (L.take k = M.take k) ∧ Ext w wr) (fun i _ => n - (intOf i).toNat)
  case atStart => exact ⟨0, Nat.zero_le _, rfl, Lib.hid (by simp), Mod.refl _ _⟩
  case round =>
    clear hb0
    obtain ⟨k, hk, rfl, hs, hx⟩ := hrel
    by_cases hlt : k < n
    case neg =>
      have hbl : decide ((k : Int) < (n : Int)) = false := dfalse (by omega)
      have hbn : decide (k < n) = false := dfalse (by omega)
      have hR2 := Lib.hid (hRy.out (take_all_eq (by have := hn.out; omega) (by have := hn.out; have := hm.out; omega) hs.out))
      go_wp2_with fail
      go_ret
      exact ⟨by rw [hR2.out]; rfl, hx⟩
    have hbl : decide ((k : Int) < (n : Int)) = true := dtrue (by omega)
    have hbn : decide (k < n) = true := dtrue (by omega)
    have l1 : k < L.length := by have := hn.out; omega
    have l2 : k < M.length := by have := hm.out; omega
    obtain ⟨A', c', hv, hat⟩ := hax hx
    obtain ⟨ad, y, hA, a0, a1, hy⟩ := hat k l1
    injection hv with hv1 _ hv3
    subst hv1
    subst hv3
    subst hA
    obtain ⟨B', d', hv', hbt⟩ := hbx hx
    obtain ⟨bd, z, hB, b0, b1, hz⟩ := hbt k l2
    injection hv' with hv1 _ hv3
    subst hv1
    subst hv3
    subst hB
    have hsn := take_step l1 l2 hs.out
    have hno : L[k] ≠ M[k] → R = false := fun h => hRn.out (take_ne l1 l2 h)
    have v1 := hfm _ (List.getElem_mem l1)
    have hi0 : (0 : Int) ≤ (k : Int) := by omega
    have hi1 : (k : Int) < (n : Int) := by omega
    generalize L[k] = x at *
    generalize M[k] = u at *
    clear hat hbt l1 l2 hax hbx hs
    obtain ⟨Ay, cy, hvy, -, -, -, -⟩ := hy.open_
    obtain ⟨Az, cz, hvz, -, -, -, -⟩ := hz.open_
    obtain ⟨nx, hnx⟩ : ∃ n, n = x.vals.length := ⟨_, rfl⟩
    obtain ⟨nu, hnu⟩ : ∃ n, n = u.vals.length := ⟨_, rfl⟩
    rw [← hnx] at hvy
    rw [← hnu] at hvz
    subst hvy
    subst hvz
    replace hnx := Lib.hid hnx
    replace hnu := Lib.hid hnu
    obtain ⟨wa, hwa⟩ : ∃ wa, wa = wr.alloc (.cells #[sv x.typ, .slice Ay nx cy] 46) := ⟨_, rfl⟩
    obtain ⟨ga, hga⟩ : ∃ ga, ga = wr.heap.size := ⟨_, rfl⟩
    have xa : Ext wr wa := by rw [hwa]; exact (Mod.refl _ wr).alloc _
    have BA : Blk wa ga 46 #[sv x.typ, .slice Ay nx cy] := by rw [hwa, hga]; exact Blk.new wr _ _
    have b0' := ext_cell xa b0
    have b1' := ext_cell xa b1
    obtain ⟨wb, hwb⟩ : ∃ wb, wb = wa.alloc (.cells #[sv u.typ, .slice Az nu cz] 46) := ⟨_, rfl⟩
    obtain ⟨gb, hgb⟩ : ∃ gb, gb = wa.heap.size := ⟨_, rfl⟩
    have xb : Ext wa wb := by rw [hwb]; exact (Mod.refl _ wa).alloc _
    have BB : Blk wb gb 46 #[sv u.typ, .slice Az nu cz] := by rw [hwb, hgb]; exact Blk.new wa _ _
    have BA2 := BA.mod xb (fun h => h)
    have a20 : wb.cell? ⟨ga, 0, none⟩ = some (sv x.typ) := BA2.cell 0
    have a21 : wb.cell? ⟨ga, 1, none⟩ = some (.slice Ay nx cy) := BA2.cell 1
    have b20 : wb.cell? ⟨gb, 0, none⟩ = some (sv u.typ) := BB.cell 0
    have b21 : wb.cell? ⟨gb, 1, none⟩ = some (.slice Az nu cz) := BB.cell 1
    have hc := same1_any (x := x) (y := u) (hy.ext (ext_trans xa xb)) (hz.ext (ext_trans xa xb)) v1
    have hxb := ext_trans hx (ext_trans xa xb)
    replace hwa := Lib.hid hwa
    replace hga := Lib.hid hga
    replace hwb := Lib.hid hwb
    replace hgb := Lib.hid hgb
    clear hy hz xa xb BA BB BA2 v1 hx
    go_upto_region 6 with fail
    rw [← hwa.out, ← hga.out]
    clear hwa hga a0 a1 b0 b1
    go_upto_region 7 with fail
    rw [← hwb.out, ← hgb.out]
    clear hwb hgb b0' b1'
    go_wp2_with fail
    refine hc.mono ?_
    rintro e w3 ⟨rfl, x3⟩
    have x3' := ext_trans hxb x3
    clear hc
    by_cases hxy : x = u
    · rw [decide_eq_true hxy]
      have hs2 := Lib.hid (hsn.2 hxy)
      clear hsn hno hxy
      go_wp2_with fail
      exact ⟨⟨k + 1, by omega, by go_num, hs2, x3'⟩, by simp [intOf] <;> omega⟩
    · rw [decide_eq_false hxy]
      have hR2 := Lib.hid (hno hxy)
      clear hsn hno hxy
      go_wp2_with fail
      go_ret
      exact ⟨by rw [hR2.out]; rfl, x3'⟩

set_option maxHeartbeats 4000000 in
theorem same20_any {w : World} {S S' : Nat → Prop} {vd va vd' va' : Value} {a b : Ent} (hd : As w S vd a.dn) (ha : Ats w va a.ats) (hd' : As w S' vd' b.dn) (ha' : Ats w va' b.ats) (hwa : wE a ≤ 1000000) :
    Calls Try.prog 14 #[.agg #[vd, va], .agg #[vd', va']] w fun e w' => e = .returned (.bool (sameE a b)) ∧ Ext w w' := by
  have hgD := wD_ge a.dn
  unfold wE at hwa
  obtain ⟨x2a, x2b, x2⟩ := Blk.twoN w #[vd, va] #[vd', va'] 25 25
  have hc1 := eqA20_any (hd.ext x2) (hd'.ext x2) (by omega)
  have hc2 := fun {wx : World} (x : Ext w wx) => eqF20_any (ha.ext x) (ha'.ext x) (by omega)
  obtain ⟨A, c, rfl, -⟩ := ha.open_
  obtain ⟨B, d, rfl, -⟩ := ha'.open_
  obtain ⟨A0, c0, rfl⟩ := Rc.shape hd
  obtain ⟨B0, d0, rfl⟩ := Rc.shape hd'
  obtain ⟨n0, hn0⟩ : ∃ n, n = a.dn.length := ⟨_, rfl⟩
  obtain ⟨m0, hm0⟩ : ∃ n, n = b.dn.length := ⟨_, rfl⟩
  obtain ⟨n1, hn1⟩ : ∃ n, n = a.ats.length := ⟨_, rfl⟩
  obtain ⟨m1, hm1⟩ : ∃ n, n = b.ats.length := ⟨_, rfl⟩
  rw [← hn0, ← hm0, ← hn1, ← hm1] at x2a x2b x2 hc1 ⊢
  rw [← hn1, ← hm1] at hc2
  obtain ⟨w2, hw2⟩ : ∃ x, x = (w.alloc (.cells #[.slice A0 n0 c0, .slice A n1 c] 25)).alloc (.cells #[.slice B0 m0 d0, .slice B m1 d] 25) := ⟨_, rfl⟩
  rw [← hw2] at x2a x2b x2 hc1
  obtain ⟨q, hq⟩ : ∃ q, q = w.heap.size + 1 := ⟨_, rfl⟩
  obtain ⟨p, hp⟩ : ∃ p, p = w.heap.size := ⟨_, rfl⟩
  rw [← hq] at x2b
  rw [← hp] at x2a
  have hpq := fun {wx : World} (x : Ext w2 wx) => And.intro (x2a.mod x (fun h => h)) (x2b.mod x (fun h => h))
  have p0 : w2.cell? ⟨p, 0, none⟩ = some (.slice A0 n0 c0) := x2a.cell 0
  have q0 : w2.cell? ⟨q, 0, none⟩ = some (.slice B0 m0 d0) := x2b.cell 0
  have hsE : sameE a b = (decide (a.dn = b.dn) && decide (a.ats = b.ats)) := by unfold sameE; exact Bool.decide_and ..
  rw [hsE]
  generalize decide (a.dn = b.dn) = r1 at *
  generalize decide (a.ats = b.ats) = r2 at *
  replace hw2 := Lib.hid hw2
  replace hq := Lib.hid hq
  replace hp := Lib.hid hp
  clear hn0 hm0 hn1 hm1 hsE hd ha hd' ha' hgD
  go_enter Try.func14, Try.ntmps14
  go_upto_region 1 with fail
  rw [← hw2.out, ← hq.out, ← hp.out]
  clear hw2 hq hp
  go_wp2_with fail
  refine hc1.mono ?_
  rintro e w3 ⟨rfl, x3⟩
  cases r1
  · go_wp2_with fail
    go_ret
    exact ⟨rfl, ext_trans x2 x3⟩
  have p1 : w3.cell? ⟨p, 1, none⟩ = some (.slice A n1 c) := (hpq x3).1.cell 1
  have q1 : w3.cell? ⟨q, 1, none⟩ = some (.slice B m1 d) := (hpq x3).2.cell 1
  have hc3 := hc2 (ext_trans x2 x3)
  clear hc1 hc2 p0 q0
  go_wp2_with fail
  refine hc3.mono ?_
  rintro e w4 ⟨rfl, x4⟩
  go_wp2_with fail
  go_ret
  exact ⟨by simp, ext_trans x2 (ext_trans x3 x4)⟩
end Go.Proofs.Ytlaaicdofompkaa
