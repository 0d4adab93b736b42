/- mem: heavy, cells; what is told of nothing; All. -/
import Derived.Test.YtlfooppmdgddkaaMemH
import Derived.Deep.DeepCutAuto
namespace Go.Proofs.Ytlfooppmdgddkaa
open Go.RowKit
set_option maxRecDepth 100000

set_option maxHeartbeats 4000000 in
theorem heavy9_any {w : World} {S : Nat → Prop} {v : Value} {L : List Ce} (h : Cs w S v L) (hf : LFits L) :
    Calls Try.prog 36 #[v] w fun e w' => ∃ q : Bool, e = .returned (.bool q) ∧ (q = false → wC L ≤ 6000 ∧ L.length ≤ 201) ∧ Ext w w' := by
  have hl := hf.2
  obtain ⟨A, c, rfl, h1, h2, h3, h4⟩ := h.open_ cel_len
  go_enter Try.func36, Try.ntmps36
  go_wp2_with fail
  go_loopw [3, 4] (fun n i wr => ∃ k : Nat, k ≤ L.length ∧ i = .int .i64 k ∧ n = .int .i64 (wC (L.take k) : Nat) ∧ Hid (wC (L.take k) ≤ 6000 ∧ k ≤ 201) ∧ Ext w wr) (fun _ i _ => L.length - (intOf i).toNat)
  case atStart => exact ⟨0, by omega, rfl, rfl, Lib.hid (by simp [wC]), Mod.refl _ _⟩
  case round =>
    obtain ⟨k, hk, rfl, rfl, hw0, hxr⟩ := hrel
    by_cases hlt : k < L.length
    · have hbl : decide ((k : Int) < (L.length : Int)) = true := dtrue (by omega)
      obtain ⟨ad, hA, hS, c0, c1, _, _⟩ := Cs.at_ (h4.ext hxr) hlt
      subst hA
      obtain ⟨k1, k2⟩ := hf.at_ hlt
      have hsn := wC_snoc L hlt
      obtain ⟨hw, hk2⟩ := hw0.out
      have hi0 : (0 : Int) ≤ (k : Int) := by omega
      have hi1 : (k : Int) < (L.length : Int) := by omega
      generalize L[k] = x at *
      generalize wC (L.take k) = n at *
      have hz1 := sv_size x.key
      have hz2 := sv_size x.val
      have hdw : ∀ m, Ext w (wr.drewN m) := fun m => hxr.drewN m
      by_cases hgt : 6000 < n + 1 + x.key.length + x.val.length
      · have hbg : decide ((6000 : Int) < (n : Int) + 1 + (x.key.length : Int) + (x.val.length : Int)) = true := dtrue (by omega)
        go_wp2_with fail
        go_quiet (fail)
        go_wp2_with fail
        go_ret
        exact ⟨true, rfl, by simp, hdw _⟩
      · have hbg : decide ((6000 : Int) < (n : Int) + 1 + (x.key.length : Int) + (x.val.length : Int)) = false := dfalse (by omega)
        by_cases hk3 : 200 < k
        · have hbk : decide ((200 : Int) < (k : Int)) = true := dtrue (by omega)
          replace hsn := Lib.hid hsn
          go_wp2_with fail
          go_quiet (fail)
          go_wp2_with fail
          go_ret
          exact ⟨true, rfl, by simp, hdw _⟩
        · have hbk : decide ((200 : Int) < (k : Int)) = false := dfalse (by omega)
          replace hsn := Lib.hid hsn
          go_wp2_with fail
          go_quiet (fail)
          go_wp2_with fail
          exact ⟨⟨k + 1, by omega, by go_num, by rw [hsn.out]; congr 1; omega, Lib.hid (by rw [hsn.out]; omega), hdw _⟩, by simp [intOf] <;> omega⟩
    · have hbl : decide ((k : Int) < (L.length : Int)) = false := dfalse (by omega)
      have hw2 : wC L ≤ 6000 ∧ L.length ≤ 201 := by
        have := hw0.out
        rw [List.take_of_length_le (by omega)] at this
        exact ⟨this.1, by omega⟩
      replace hw2 := Lib.hid hw2
      go_wp2_with fail
      go_ret
      exact ⟨false, rfl, fun _ => hw2.out, hxr⟩

set_option maxHeartbeats 4000000 in
theorem cells9_any {w : World} {S S' : Nat → Prop} {v v' : Value} {L M : List Ce} (h : Cs w S v L) (h' : Cs w S' v' M) :
    Calls Try.prog 42 #[v, v'] w fun e w' => e = .returned (.bool (decide (L = M))) ∧ Ext w w' := by
  obtain ⟨A, c, rfl, h1, h2, h3, h4⟩ := h.open_ cel_len
  obtain ⟨B, d, rfl, j1, j2, j3, j4⟩ := h'.open_ cel_len
  by_cases hl : L.length = M.length
  case neg =>
    have hb : ((L.length : Int) != (M.length : Int)) = true := by rw [bne_iff_ne]; omega
    go_enter Try.func42, Try.ntmps42
    go_wp2_with fail
    go_ret
    exact ⟨by rw [dfalse (fun h => hl (by rw [h]))]; rfl, Mod.refl _ _⟩
  have hb : ((L.length : Int) != (M.length : Int)) = false := by rw [bne_eq_false_iff_eq]; omega
  replace hl := Lib.hid hl
  go_enter Try.func42, Try.ntmps42
  go_wp2_with fail
  go_loopw [5] (fun i wr => ∃ k : Nat, k ≤ L.length ∧ i = .int .i64 k ∧ Hid (L.take k = M.take k) ∧ Ext w wr) (fun i _ => L.length - (intOf i).toNat)
  case atStart => exact ⟨0, Nat.zero_le _, rfl, Lib.hid (by simp), Mod.refl _ _⟩
  case round =>
    obtain ⟨k, hk, rfl, hs, q3⟩ := hrel
    by_cases hlt : k < L.length
    case neg =>
      have hbl : decide ((k : Int) < (L.length : Int)) = false := dfalse (by omega)
      have hres : L = M := by
        have := hs.out
        rwa [List.take_of_length_le (by omega), List.take_of_length_le (by have := hl.out; omega)] at this
      replace hres := Lib.hid hres
      go_wp2_with fail
      go_ret
      exact ⟨by rw [dtrue hres.out]; rfl, q3⟩
    have hbl : decide ((k : Int) < (L.length : Int)) = true := dtrue (by omega)
    have hlm : k < M.length := by have := hl.out; omega
    obtain ⟨ad, hA, hS, c0, c1, c2, c3⟩ := Cs.at_ (h4.ext q3) hlt
    subst hA
    obtain ⟨bd, hB, hT, d0, d1, d2, d3⟩ := Cs.at_ (j4.ext q3) hlm
    subst hB
    have hsn : L.take (k + 1) = M.take (k + 1) ↔ L[k] = M[k] := by
      rw [List.take_succ_eq_append_getElem hlt, List.take_succ_eq_append_getElem hlm, hs.out]
      exact ⟨fun h => List.singleton_inj.1 (List.append_cancel_left h), fun h => by rw [h]⟩
    have hno : L[k] ≠ M[k] → L ≠ M := fun hn he => hn (by subst he; rfl)
    have hi0 : (0 : Int) ≤ (k : Int) := by omega
    have hi1 : (k : Int) < (L.length : Int) := by omega
    have hi2 : (k : Int) < (M.length : Int) := by omega
    generalize L[k] = x at *
    generalize M[k] = y at *
    have hgu := fun wx a b => guardC wx .neq a b (car x) (car y)
    have hdw : ∀ m, Ext w (wr.drewN m) := fun m => q3.drewN m
    by_cases hxy : x = y
    · have hs2 := Lib.hid (hsn.2 hxy)
      have hne : ∀ wx, (binOp .neq 23 (.agg (car x)) (.agg (car y))).run Try.prog wx = .ok (.bool false) wx := fun wx => by rw [neqC, dtrue hxy]; rfl
      clear hsn hno hxy
      go_wp2_with fail
      go_quiet (fail)
      go_wp2_with fail
      exact ⟨⟨k + 1, by omega, by go_num, hs2, hdw _⟩, by simp [intOf] <;> omega⟩
    · have hne : ∀ wx, (binOp .neq 23 (.agg (car x)) (.agg (car y))).run Try.prog wx = .ok (.bool true) wx := fun wx => by rw [neqC, dfalse hxy]; rfl
      have hno2 := Lib.hid (hno hxy)
      clear hsn hno hxy
      go_wp2_with fail
      go_quiet (fail)
      go_wp2_with fail
      go_ret
      exact ⟨by rw [dfalse hno2.out]; rfl, hdw _⟩

theorem scanC_all (L : List Ce) : scanC L [] [] = L := by
  unfold scanC
  refine List.filter_eq_self.2 fun c _ => ?_
  have : Op.bytesLess c.key [] = false := by cases c.key <;> rfl
  rw [this]
  rfl
set_option maxHeartbeats 4000000 in
theorem all9_any {w : World} {S : Nat → Prop} {g n : Nat} {D : List Int} {N : List Nd} {A : List Nat} {L : List Ce} {vd vn va : Value} (m : Mx w S g D N A n vd vn va) (ok : Ok N A L) (hC : ∀ c ∈ L, isC c) (hL : L.length ≤ 1000000) :
    Calls Try.prog 45 #[.pointer (some ⟨g, 0, none⟩)] w fun e w' => ∃ v', e = .returned v' ∧ OwnC w' v' L ∧ Fresh w.heap.size v' ∧ Ext w w' := by
  have hsc := scan9_any m ok hC hL [] []
  rw [scanC_all] at hsc
  go_enter Try.func45, Try.ntmps45
  go_wp2_with fail
  refine hsc.mono ?_
  rintro e w1 ⟨v1, rfl, o1, f1, x1⟩
  go_wp2_with fail
  go_ret
  exact ⟨v1, rfl, o1, f1, x1⟩

set_option maxHeartbeats 4000000 in
theorem first0_any {w : World} (c : Ce) : Calls Try.prog 79 #[.pointer none, .agg (car c)] w fun e w' => e = .returned (.int .i64 0) ∧ Ext w w' := by
  have x0 : Ext w (w.alloc (.cells (car c) 23)) := (Mod.refl _ w).alloc _
  go_enter Try.func79, Try.ntmps79
  go_wp2_with fail
  go_ret
  exact ⟨rfl, x0⟩
set_option maxHeartbeats 4000000 in
theorem get0_any {w : World} (key : List UInt8) (seq : Int) : Calls Try.prog 40 #[.pointer none, sv key, .int .i64 seq] w fun e w' => e = .returned (.tuple #[.agg (car cz), .bool false]) ∧ Ext w w' := by
  have B1 : Blk (w.alloc (.cells #[sv [], sv [], .bool false, .int .i64 0] 23)) w.heap.size 23 #[sv [], sv [], .bool false, .int .i64 0] := Blk.new w _ _
  have x1 : Ext w (w.alloc (.cells #[sv [], sv [], .bool false, .int .i64 0] 23)) := (Mod.refl _ w).alloc _
  have hfi := fun wx => first0_any (w := wx) ⟨key, [], false, seq⟩
  go_enter Try.func40, Try.ntmps40
  go_wp2_with fail
  refine (hfi _).mono ?_
  rintro e w2 ⟨rfl, x2⟩
  have B2 := B1.mod x2 (fun h => h)
  replace x2 := ext_trans x1 x2
  have f0 := Blk.frozen B2 0
  have f1 := Blk.frozen B2 1
  have f2 := Blk.frozen B2 2
  have f3 := Blk.frozen B2 3
  have e0 : _ = some _ := Blk.cell B2 0
  have e1 : _ = some _ := Blk.cell B2 1
  have e2 : _ = some _ := Blk.cell B2 2
  have e3 : _ = some _ := Blk.cell B2 3
  have R5 := fun p q r s => (((B2.set_ 0 p).set_ 1 q).set_ 2 r).set_ 3 s
  have m9 := fun p q r s => (set4_mod w2 w.heap.size p q r s)
  clear hfi B1 x1
  go_wp2_with fail
  refine bodyPost_ret (results_cell_row2 Try.results40 _ _ _ _ _ _ _ rfl (R5 _ _ _ _) Try.underlying23 rfl (by kernel_rfl)) rfl ?_
  exact ⟨rfl, x2.trans (m9 _ _ _ _) (fun _ _ h => h) (fun k hk h => by omega)⟩
set_option maxHeartbeats 4000000 in
theorem put0_any {w : World} (c : Ce) : Calls Try.prog 38 #[.pointer none, .agg (car c)] w fun e w' => e = .returned (.bool false) ∧ Ext w w' := by
  have x0 : Ext w (w.alloc (.cells (car c) 23)) := (Mod.refl _ w).alloc _
  go_enter Try.func38, Try.ntmps38
  go_wp2_with fail
  go_ret
  exact ⟨rfl, x0⟩
set_option maxHeartbeats 4000000 in
theorem scan0_any {w : World} (a b : List UInt8) : Calls Try.prog 43 #[.pointer none, sv a, sv b] w fun e w' => e = .returned (.slice none 0 0) ∧ Ext w w' := by
  have hfi := fun wx => first0_any (w := wx) ⟨a, [], false, 9223372036854775807⟩
  go_enter Try.func43, Try.ntmps43
  go_wp2_with fail
  refine (hfi _).mono ?_
  rintro e w2 ⟨rfl, x2⟩
  go_wp2_with fail
  go_loopw [7, 8] (fun vo i wr => vo = .slice none 0 0 ∧ i = .int .i64 0 ∧ wr = w2) (fun _ _ _ => 0)
  case atStart => exact ⟨rfl, rfl, rfl⟩
  case round =>
    obtain ⟨rfl, rfl, rfl⟩ := hrel
    go_wp2_with fail
    go_ret
    exact ⟨rfl, x2⟩
set_option maxHeartbeats 4000000 in
theorem all0_any {w : World} : Calls Try.prog 45 #[.pointer none] w fun e w' => e = .returned (.slice none 0 0) ∧ Ext w w' := by
  have hsc := fun wx => scan0_any (w := wx) [] []
  go_enter Try.func45, Try.ntmps45
  go_wp2_with fail
  refine (hsc _).mono ?_
  rintro e w1 ⟨rfl, x1⟩
  go_wp2_with fail
  go_ret
  exact ⟨rfl, x1⟩
set_option maxHeartbeats 4000000 in
theorem size0_any {w : World} : Calls Try.prog 47 #[.pointer none] w fun e w' => e = .returned (.int .i64 0) ∧ Ext w w' := by
  go_enter Try.func47, Try.ntmps47
  go_wp2_with fail
  go_ret
  exact ⟨rfl, Mod.refl _ _⟩
set_option maxHeartbeats 4000000 in
theorem len0_any {w : World} : Calls Try.prog 46 #[.pointer none] w fun e w' => e = .returned (.int .i64 0) ∧ Ext w w' := by
  go_enter Try.func46, Try.ntmps46
  go_wp2_with fail
  go_ret
  exact ⟨rfl, Mod.refl _ _⟩
end Go.Proofs.Ytlfooppmdgddkaa
