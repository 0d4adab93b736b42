/- dnkey: the key of a name that may be, read back: the law Back. -/
import Derived.Test.YtgghjkefbfbopaaDoorKyC
import Derived.Test.YtgghjkefbfbopaaDoorDnG
import Derived.Test.YtgghjkefbfbopaaDoorDnPI
import Derived.Test.YtgghjkefbfbopaaDoorDnPL
namespace Go.Proofs.YtgghjkefbfbopaaDoor
open Go.Shelf Go.RowKit
set_option maxRecDepth 100000

theorem typ_low {b : UInt8} (h : typN b.toNat) : typN (low b).toNat ∧ low b ≠ 32 ∧ low b ≠ 0 := by
  have hk : typN (low b).toNat := by
    by_cases hup : 65 ≤ b.toNat ∧ b.toNat ≤ 90
    · rw [low_up hup]; unfold typN letN; omega
    · rw [low_no hup]; exact h
  refine ⟨hk, fun e => ?_, fun e => ?_⟩
  · rw [e] at hk; revert hk; decide
  · rw [e] at hk; revert hk; decide
theorem fold_typF : ∀ (s o : List UInt8), (∀ b ∈ s, typN b.toNat) → s.foldl fstep o = o ++ s.map low
  | [], o, _ => by simp
  | b :: s, o, h => by
    rw [List.foldl_cons, fstep_yes (fun e => (typ_low (h b List.mem_cons_self)).2.1 e.1), fold_typF s _ (fun b hb => h b (List.mem_cons_of_mem _ hb))]
    simp
theorem fold_typ {t : List UInt8} (h : isTyp t) : foldB t = t.map low := by
  unfold foldB
  rw [fold_typF t [] h.2.2.2, List.nil_append]
  unfold fcut
  rw [if_neg]
  intro e
  have hm := List.mem_of_getLast? e
  obtain ⟨b, hb, e2⟩ := List.mem_map.1 hm
  exact (typ_low (h.2.2.2 b hb)).2.1 e2
theorem isTyp_fold {t : List UInt8} (h : isTyp t) : isTyp (foldB t) := by
  rw [fold_typ h]
  obtain ⟨h1, h2, h3, h4⟩ := h
  refine ⟨by simpa using h1, by simpa using h2, ?_, fun b hb => ?_⟩
  · cases t with
    | nil => simp at h1
    | cons c t =>
      simp only [List.map_cons, List.getD_cons_zero] at h3 ⊢
      by_cases hup : 65 ≤ c.toNat ∧ c.toNat ≤ 90
      · rw [low_up hup]; unfold letN; omega
      · rw [low_no hup]; exact h3
  · obtain ⟨c, hc, rfl⟩ := List.mem_map.1 hb
    exact (typ_low (h4 c hc)).1
theorem isName_norm {L : List Av} (h : isName L) : isName (norm L) := by
  refine ⟨by unfold norm; rw [List.length_map]; exact h.1, fun a ha => ?_⟩
  obtain ⟨b, hb, rfl⟩ := List.mem_map.1 ha
  obtain ⟨h1, h2, h3⟩ := h.2 b hb
  refine ⟨isTyp_fold h1, ?_, Nat.le_trans (normV_len b.2) h3⟩
  show 1 ≤ (normV b.2).length
  unfold normV
  split
  · simp
  · rename_i hn
    cases he : foldB b.2 with
    | nil => exact absurd ⟨he, by intro e; rw [e] at h2; simp at h2⟩ hn
    | cons c r => simp
theorem norm_clean {L : List Av} (h : isName L) : ∀ a ∈ (norm L).reverse, (0 : UInt8) ∉ a.1 ∧ (61 : UInt8) ∉ a.1 := by
  intro a ha
  refine ⟨?_, norm_no h.2 a ha⟩
  rw [List.mem_reverse] at ha
  have ht := ((isName_norm h).2 a ha).1
  intro h0
  have := ht.2.2.2 0 h0
  revert this; decide
theorem back_key {L : List Av} (h : isName L) : backB (keyB L) = some (norm L) := by
  have hp : partsR (keyB L) [] = some (norm L).reverse := by
    have := partsR_key (norm L).reverse [] (norm_clean h) (by have := (isName_norm h).1; simp; exact this)
    rw [List.nil_append] at this
    exact this
  have := back_yes hp (by rw [List.reverse_reverse]; exact isName_norm h) (by rw [List.reverse_reverse]; unfold keyB; rw [norm_twice])
  rw [List.reverse_reverse] at this
  exact this
theorem count_parts : ∀ (M : List Av), (∀ a ∈ M, (0 : UInt8) ∉ a.1 ∧ (61 : UInt8) ∉ a.1) → Lib.count (M.flatMap partK) [0, 1] = M.length
  | [], _ => Lib.count_miss (by rfl)
  | a :: M, h => by
    have hf := partK_first (h a List.mem_cons_self).1 (M.flatMap partK)
    obtain ⟨_, d2⟩ := first_drop hf
    rw [List.flatMap_cons, Lib.count_hit (by simp) (index_first hf), d2, count_parts M (fun b hb => h b (List.mem_cons_of_mem _ hb)), List.length_cons]
    omega
theorem count_key {L : List Av} (h : isName L) : Lib.count (keyB L) [0, 1] = L.length := by
  have := count_parts (norm L).reverse (norm_clean h)
  rw [List.length_reverse] at this
  have hl : (norm L).length = L.length := by unfold norm; rw [List.length_map]
  rw [hl] at this
  exact this
set_option maxHeartbeats 2000000 in
theorem names19_any {w : World} {S S' : Nat → Prop} {v v' : Value} {L M : List Av} (h : As w S v L) (h' : As w S' v' M) (hf : L.length * 32 ≤ 140737488351232) :
    Calls Tryd.prog 19 #[v, v'] w fun e w' => e = .returned (.bool (decide (L = M))) ∧ Ext w w' := by
  obtain ⟨A, c, rfl, h1, h2, h3, h4⟩ := h.open_ avc_len
  obtain ⟨B, d, rfl, j1, j2, j3, j4⟩ := h'.open_ avc_len
  by_cases hl : L.length = M.length
  case neg =>
    have hb : ((L.length : Int) != (M.length : Int)) = true := by rw [bne_iff_ne]; omega
    go_enter Tryd.func19, Tryd.ntmps19
    go_wp2_with fail
    go_ret
    exact ⟨by rw [dfalse (fun h => hl (by rw [h]))]; rfl, Mod.refl _ _⟩
  have hb : ((L.length : Int) != (M.length : Int)) = false := by rw [bne_eq_false_iff_eq]; omega
  replace hl := Lib.hid hl
  go_enter Tryd.func19, Tryd.ntmps19
  go_wp2_with fail
  go_loopw [5] (fun i wr => ∃ k : Nat, k ≤ L.length ∧ i = .int .i64 k ∧ Hid (L.take k = M.take k) ∧ Ext w wr) (fun i _ => L.length - (intOf i).toNat)
  case atStart => exact ⟨0, Nat.zero_le _, rfl, Lib.hid (by simp), Mod.refl _ _⟩
  case round =>
    obtain ⟨k, hk, rfl, hs, q3⟩ := hrel
    by_cases hlt : k < L.length
    case neg =>
      have hbl : decide ((k : Int) < (L.length : Int)) = false := dfalse (by omega)
      have hres : L = M := by
        have := hs.out
        rwa [List.take_of_length_le (by omega), List.take_of_length_le (by have := hl.out; omega)] at this
      replace hres := Lib.hid hres
      go_wp2_with fail
      go_ret
      exact ⟨by rw [dtrue hres.out]; rfl, q3⟩
    have hbl : decide ((k : Int) < (L.length : Int)) = true := dtrue (by omega)
    have hlm : k < M.length := by have := hl.out; omega
    obtain ⟨ad, hA, hS, c0, c1⟩ := As.at_ (h4.ext q3) hlt
    subst hA
    obtain ⟨bd, hB, hT, d0, d1⟩ := As.at_ (j4.ext q3) hlm
    subst hB
    have hsn : L.take (k + 1) = M.take (k + 1) ↔ L[k] = M[k] := by
      rw [List.take_succ_eq_append_getElem hlt, List.take_succ_eq_append_getElem hlm, hs.out]
      exact ⟨fun h => List.singleton_inj.1 (List.append_cancel_left h), fun h => by rw [h]⟩
    have hno : L[k] ≠ M[k] → L ≠ M := fun hn he => hn (by subst he; rfl)
    have hi0 : (0 : Int) ≤ (k : Int) := by omega
    have hi1 : (k : Int) < (L.length : Int) := by omega
    have hi2 : (k : Int) < (M.length : Int) := by omega
    generalize L[k] = x at *
    generalize M[k] = y at *
    have hgu := fun wx a b => guardA wx .neq a b #[sv x.1, sv x.2] #[sv y.1, sv y.2]
    have hdw : ∀ m, Ext w (wr.drewN m) := fun m => q3.drewN m
    by_cases hxy : x = y
    · have hs2 := Lib.hid (hsn.2 hxy)
      have hne : ∀ wx, (binOp .neq 48 (.agg #[sv x.1, sv x.2]) (.agg #[sv y.1, sv y.2])).run Tryd.prog wx = .ok (.bool false) wx := fun wx => by rw [neqA, dtrue hxy]; rfl
      clear hsn hno hxy
      go_wp2_with fail
      go_quiet (fail)
      go_wp2_with fail
      exact ⟨⟨k + 1, by omega, by go_num, hs2, hdw _⟩, by simp [intOf] <;> omega⟩
    · have hne : ∀ wx, (binOp .neq 48 (.agg #[sv x.1, sv x.2]) (.agg #[sv y.1, sv y.2])).run Tryd.prog wx = .ok (.bool true) wx := fun wx => by rw [neqA, dfalse hxy]; rfl
      have hno2 := Lib.hid (hno hxy)
      clear hsn hno hxy
      go_wp2_with fail
      go_quiet (fail)
      go_wp2_with fail
      go_ret
      exact ⟨by rw [dfalse hno2.out]; rfl, hdw _⟩
theorem depth_any {w : World} (s : List UInt8) (hs : s.length ≤ 1000000) (hm : Mxl w) : Calls Tryd.prog 22 #[sv s] w fun e w' => e = .returned (.int .i64 (Lib.count s [0, 1] : Nat)) ∧ w' = w := by
  have h := count_any s [0, 1] hs (by simp) hm
  go_enter Tryd.func22, Tryd.ntmps22
  go_wp2_with fail
  refine h.mono ?_
  rintro e w1 ⟨rfl, rfl⟩
  go_wp2_with fail
  go_ret
  exact ⟨rfl, rfl⟩
end Go.Proofs.YtgghjkefbfbopaaDoor
