/- msg: encode, Encode, Is. -/
import Derived.Test.YtoockogceobfgaaGreatMgHam
import Derived.Test.YtoockogceobfgaaGreatMgV2
import Derived.Deep.RegionHeld3
import Derived.Deep.MidRow
namespace Go.Proofs.YtoockogceobfgaaGreat
open Go.RowKit
set_option maxRecDepth 100000

theorem fitsQ_op {n : Nat} {r : Rq} (h : fitsQ n r = true) : isOp r.kind := by
  unfold fitsQ at h
  unfold isOp
  by_cases q0 : r.kind = 0 ∨ r.kind = 2 ∨ r.kind = 10 ∨ r.kind = 14
  · omega
  rw [if_neg q0] at h
  by_cases q1 : r.kind = 3
  · omega
  rw [if_neg q1] at h
  by_cases q2 : r.kind = 6
  · omega
  rw [if_neg q2] at h
  by_cases q3 : r.kind = 8
  · omega
  rw [if_neg q3] at h
  by_cases q4 : r.kind = 12
  · omega
  rw [if_neg q4] at h
  by_cases q5 : r.kind = 16
  · omega
  rw [if_neg q5] at h
  cases h
set_option maxHeartbeats 16000000 in
theorem encode25_any {n : Nat} {w : World} {r : Rq} {A0 A1 A2 A3 A4 : Option Addr} {A0n A0c A1n A1c A2n A2c A3n A3c A4n A4c : Nat} (h : RqAt n w r (.slice A0 A0n A0c) (.slice A1 A1n A1c) (.slice A2 A2n A2c) (.slice A3 A3n A3c) (.slice A4 A4n A4c)) (hn0 : -9223372036854775808 ≤ r.num) (hn1 : r.num ≤ 9223372036854775807) (hk : fitsQ n r = true → sameQ n r (bareQ r) = true → RFit r ∧ (r.kind = 3 → KdN n r.fil) ∧ (reqB n r).length ≤ 65536) :
    Calls Tryz.prog 47 #[.agg #[.int .i64 r.num, .int .i64 r.kind, sv r.dn, sv r.pass, .int .i64 r.scope, .int .i64 r.limit, .int .i64 r.fil.kind, sv r.fil.typ, sv r.fil.val, .slice A0 A0n A0c, .slice A1 A1n A1c, .slice A2 A2n A2c, .slice A3 A3n A3c, .slice A4 A4n A4c, sv r.rdn, .bool r.keep, .bool r.above, sv r.up, sv r.avt, sv r.avv, .int .i64 r.which]] w fun e w' => ∃ v', e = .returned (.tuple #[v', .bool (mayQ n r)]) ∧ (mayQ n r = true → Own w' 5 v' ((reqB n r).map bv)) ∧ (mayQ n r = false → v' = .slice none 0 0) ∧ Ext w w' := by
  obtain ⟨M, hM⟩ : ∃ M, M = mayQ n r := ⟨_, rfl⟩
  rw [← hM]
  unfold mayQ at hM
  obtain ⟨Zr, hZr⟩ : ∃ Z, Z = reqB n r := ⟨_, rfl⟩
  rw [← hZr] at hM hk ⊢
  replace hZr := Lib.hid hZr
  obtain ⟨w1, hw1⟩ : ∃ x, x = w.alloc (.cells #[.int .i64 r.num, .int .i64 r.kind, sv r.dn, sv r.pass, .int .i64 r.scope, .int .i64 r.limit, .int .i64 r.fil.kind, sv r.fil.typ, sv r.fil.val, .slice A0 A0n A0c, .slice A1 A1n A1c, .slice A2 A2n A2c, .slice A3 A3n A3c, .slice A4 A4n A4c, sv r.rdn, .bool r.keep, .bool r.above, sv r.up, sv r.avt, sv r.avv, .int .i64 r.which] 32) := ⟨_, rfl⟩
  obtain ⟨p, hp⟩ : ∃ p, p = w.heap.size := ⟨_, rfl⟩
  have x1 : Ext w w1 := by rw [hw1]; exact (Mod.refl _ w).alloc _
  have BP : Blk w1 p 32 #[.int .i64 r.num, .int .i64 r.kind, sv r.dn, sv r.pass, .int .i64 r.scope, .int .i64 r.limit, .int .i64 r.fil.kind, sv r.fil.typ, sv r.fil.val, .slice A0 A0n A0c, .slice A1 A1n A1c, .slice A2 A2n A2c, .slice A3 A3n A3c, .slice A4 A4n A4c, sv r.rdn, .bool r.keep, .bool r.above, sv r.up, sv r.avt, sv r.avv, .int .i64 r.which] := by rw [hw1, hp]; exact Blk.new w _ _
  have hcc : ∀ {wx : World}, Ext w1 wx → wx.cell? ⟨p, 0, none⟩ = some (.int .i64 r.num) ∧ wx.cell? ⟨p, 1, none⟩ = some (.int .i64 r.kind) ∧ wx.rangeAt p 0 [.int .i64 r.num, .int .i64 r.kind, sv r.dn, sv r.pass, .int .i64 r.scope, .int .i64 r.limit, .int .i64 r.fil.kind, sv r.fil.typ, sv r.fil.val, .slice A0 A0n A0c, .slice A1 A1n A1c, .slice A2 A2n A2c, .slice A3 A3n A3c, .slice A4 A4n A4c, sv r.rdn, .bool r.keep, .bool r.above, sv r.up, sv r.avt, sv r.avv, .int .i64 r.which] :=
    fun x => ⟨(BP.mod x (fun h => h)).cell 0, (BP.mod x (fun h => h)).cell 1, fun j v hj => by rw [Nat.zero_add, (BP.mod x (fun h => h)).cell]; simpa using hj⟩
  have hN := isNum_any (w := w1.drew) r.num
  obtain ⟨Nq, hNq⟩ : ∃ N, N = numQ r.num := ⟨_, rfl⟩
  rw [show decide (0 ≤ r.num ∧ r.num ≤ 2147483647) = Nq from hNq.symm] at hN
  rw [← hNq] at hM
  obtain ⟨Fq, hFq⟩ : ∃ F, F = fitsQ n r := ⟨_, rfl⟩
  have hF := fun {wx : World} (x : Ext w wx) => fits25_any (h.ext x)
  simp only [← hFq] at hF hM
  obtain ⟨Sq, hSq⟩ : ∃ S, S = sameQ n r (bareQ r) := ⟨_, rfl⟩
  rw [← hSq] at hM hk
  rw [← hFq] at hk
  have hop : Fq = true → isOp r.kind := fun e => fitsQ_op (by rw [← hFq, e])
  replace hSq := Lib.hid hSq
  clear hFq
  replace hw1 := Lib.hid hw1
  replace hp := Lib.hid hp
  replace hM := Lib.hid hM
  have z0 : Ext w1 w1.drew := (Mod.refl _ w1).drew
  have z0' : Ext w w1.drew := ext_trans x1 z0
  clear BP hNq
  go_enter Tryz.func47, Tryz.ntmps47
  go_upto_region 1 with fail
  rw [← hw1.out, ← hp.out]
  clear hw1 hp
  refine wp_region_held_drew (S := fun wx => wx.cell? ⟨p, 0, none⟩ = some (.int .i64 r.num) ∧ wx.cell? ⟨p, 1, none⟩ = some (.int .i64 r.kind) ∧ wx.rangeAt p 0 [.int .i64 r.num, .int .i64 r.kind, sv r.dn, sv r.pass, .int .i64 r.scope, .int .i64 r.limit, .int .i64 r.fil.kind, sv r.fil.typ, sv r.fil.val, .slice A0 A0n A0c, .slice A1 A1n A1c, .slice A2 A2n A2c, .slice A3 A3n A3c, .slice A4 A4n A4c, sv r.rdn, .bool r.keep, .bool r.above, sv r.up, sv r.avt, sv r.avv, .int .i64 r.which]) (by kernel_rfl) (hcc z0) (fun hH => ?_)
  (refine wpAnyH_take (i := 0) (oi := ⟨_, _, _, _, _, _⟩) (v := ?_) rfl (by kernel_rfl) (by kernel_rfl) (by kernel_rfl) (fun _ _ _ h => h) (Or.inl ⟨by kernel_rfl, ?_⟩) hH ?_; rotate_left; focus (intro wx hSw; obtain ⟨hS0, hS1, -⟩ := hSw; go_simp; try with_reducible rfl)); try simp only [Act.put, List.setIfInBounds_toArray, List.set_cons_zero, List.set_cons_succ]; try simp only [List.getElem_toArray, List.getElem_cons_succ, List.getElem_cons_zero]
  (refine wpAnyH_take (i := 1) (oi := ⟨_, _, _, _, _, _⟩) (v := ?_) rfl (by kernel_rfl) (by kernel_rfl) (by kernel_rfl) (fun _ _ _ h => h) (Or.inl ⟨by kernel_rfl, ?_⟩) hH ?_; rotate_left; focus (intro wx hSw; obtain ⟨hS0, hS1, -⟩ := hSw; go_simp; try with_reducible rfl)); try simp only [Act.put, List.setIfInBounds_toArray, List.set_cons_zero, List.set_cons_succ]; try simp only [List.getElem_toArray, List.getElem_cons_succ, List.getElem_cons_zero]
  (refine wpAnyH_ready (rs := [2]) (by kernel_rfl) (by simp) ?_; refine AllReadyH.cons rfl (fun K' hK => ?_) AllReadyH.nil); go_simp
  refine hN.mono ?_
  rintro e2 w2 ⟨rfl, rfl⟩
  (go_wp2_with fail; refine hK.out _ _ (hH) (fun hH => ?_); clear hK K'; try simp only [Act.put, List.setIfInBounds_toArray, List.set_cons_zero, List.set_cons_succ]; try simp only [List.getElem_toArray, List.getElem_cons_succ, List.getElem_cons_zero])
  cases Nq
  · have hr : Hid (M = false) := Lib.hid (by rw [hM.out]; rfl)
    clear hM hF hSq hk hop hN
    (refine wpAnyH_take (i := 3) (oi := ⟨_, _, _, _, _, _⟩) (v := ?_) rfl (by kernel_rfl) (by kernel_rfl) (by kernel_rfl) (fun _ _ _ h => h) (Or.inl ⟨by kernel_rfl, ?_⟩) hH ?_; rotate_left; focus (intro wx hSw; obtain ⟨hS0, hS1, -⟩ := hSw; go_simp; try with_reducible rfl)); try simp only [Act.put, List.setIfInBounds_toArray, List.set_cons_zero, List.set_cons_succ]; try simp only [List.getElem_toArray, List.getElem_cons_succ, List.getElem_cons_zero]
    (refine wpAnyH_take (i := 4) (oi := ⟨_, _, _, _, _, _⟩) (v := ?_) rfl (by kernel_rfl) (by kernel_rfl) (by kernel_rfl) (fun _ _ _ h => h) (Or.inl ⟨by kernel_rfl, ?_⟩) hH ?_; rotate_left; focus (intro wx hSw; obtain ⟨hS0, hS1, -⟩ := hSw; go_simp; try with_reducible rfl)); try simp only [Act.put, List.setIfInBounds_toArray, List.set_cons_zero, List.set_cons_succ]; try simp only [List.getElem_toArray, List.getElem_cons_succ, List.getElem_cons_zero]
    (refine wpAnyH_take (i := 5) (oi := ⟨_, _, _, _, _, _⟩) (v := undef) rfl (by kernel_rfl) (by kernel_rfl) (by kernel_rfl) (fun _ _ _ h => h) (Or.inr ⟨by kernel_rfl, rfl⟩) hH ?_); try simp only [Act.put, List.setIfInBounds_toArray, List.set_cons_zero, List.set_cons_succ]; try simp only [List.getElem_toArray, List.getElem_cons_succ, List.getElem_cons_zero]
    (refine wpAnyH_take (i := 6) (oi := ⟨_, _, _, _, _, _⟩) (v := undef) rfl (by kernel_rfl) (by kernel_rfl) (by kernel_rfl) (fun _ _ _ h => h) (Or.inr ⟨by kernel_rfl, rfl⟩) hH ?_); try simp only [Act.put, List.setIfInBounds_toArray, List.set_cons_zero, List.set_cons_succ]; try simp only [List.getElem_toArray, List.getElem_cons_succ, List.getElem_cons_zero]
    (refine wpAnyH_take (i := 7) (oi := ⟨_, _, _, _, _, _⟩) (v := undef) rfl (by kernel_rfl) (by kernel_rfl) (by kernel_rfl) (fun _ _ _ h => h) (Or.inr ⟨by kernel_rfl, rfl⟩) hH ?_); try simp only [Act.put, List.setIfInBounds_toArray, List.set_cons_zero, List.set_cons_succ]; try simp only [List.getElem_toArray, List.getElem_cons_succ, List.getElem_cons_zero]
    (refine wpAnyH_take (i := 8) (oi := ⟨_, _, _, _, _, _⟩) (v := ?_) rfl (by kernel_rfl) (by kernel_rfl) (by kernel_rfl) (fun _ _ _ h => h) (Or.inl ⟨by kernel_rfl, ?_⟩) hH ?_; rotate_left; focus (intro wx hSw; obtain ⟨hS0, hS1, -⟩ := hSw; go_simp; try with_reducible rfl)); try simp only [Act.put, List.setIfInBounds_toArray, List.set_cons_zero, List.set_cons_succ]; try simp only [List.getElem_toArray, List.getElem_cons_succ, List.getElem_cons_zero]
    (refine wpAnyH_take (i := 9) (oi := ⟨_, _, _, _, _, _⟩) (v := ?_) rfl (by kernel_rfl) (by kernel_rfl) (by kernel_rfl) (fun _ _ _ h => h) (Or.inl ⟨by kernel_rfl, ?_⟩) hH ?_; rotate_left; focus (intro wx hSw; obtain ⟨hS0, hS1, -⟩ := hSw; go_simp; try with_reducible rfl)); try simp only [Act.put, List.setIfInBounds_toArray, List.set_cons_zero, List.set_cons_succ]; try simp only [List.getElem_toArray, List.getElem_cons_succ, List.getElem_cons_zero]
    (refine wpAnyH_take (i := 10) (oi := ⟨_, _, _, _, _, _⟩) (v := undef) rfl (by kernel_rfl) (by kernel_rfl) (by kernel_rfl) (fun _ _ _ h => h) (Or.inr ⟨by kernel_rfl, rfl⟩) hH ?_); try simp only [Act.put, List.setIfInBounds_toArray, List.set_cons_zero, List.set_cons_succ]; try simp only [List.getElem_toArray, List.getElem_cons_succ, List.getElem_cons_zero]
    (refine wpAnyH_take (i := 11) (oi := ⟨_, _, _, _, _, _⟩) (v := undef) rfl (by kernel_rfl) (by kernel_rfl) (by kernel_rfl) (fun _ _ _ h => h) (Or.inr ⟨by kernel_rfl, rfl⟩) hH ?_); try simp only [Act.put, List.setIfInBounds_toArray, List.set_cons_zero, List.set_cons_succ]; try simp only [List.getElem_toArray, List.getElem_cons_succ, List.getElem_cons_zero]
    (refine wpAnyH_take (i := 12) (oi := ⟨_, _, _, _, _, _⟩) (v := undef) rfl (by kernel_rfl) (by kernel_rfl) (by kernel_rfl) (fun _ _ _ h => h) (Or.inr ⟨by kernel_rfl, rfl⟩) hH ?_); try simp only [Act.put, List.setIfInBounds_toArray, List.set_cons_zero, List.set_cons_succ]; try simp only [List.getElem_toArray, List.getElem_cons_succ, List.getElem_cons_zero]
    (refine wpAnyH_take (i := 13) (oi := ⟨_, _, _, _, _, _⟩) (v := ?_) rfl (by kernel_rfl) (by kernel_rfl) (by kernel_rfl) (fun _ _ _ h => h) (Or.inl ⟨by kernel_rfl, ?_⟩) hH ?_; rotate_left; focus (intro wx hSw; obtain ⟨hS0, hS1, -⟩ := hSw; go_simp; try with_reducible rfl)); try simp only [Act.put, List.setIfInBounds_toArray, List.set_cons_zero, List.set_cons_succ]; try simp only [List.getElem_toArray, List.getElem_cons_succ, List.getElem_cons_zero]
    (refine wpAnyH_take (i := 14) (oi := ⟨_, _, _, _, _, _⟩) (v := ?_) rfl (by kernel_rfl) (by kernel_rfl) (by kernel_rfl) (fun _ _ _ h => h) (Or.inl ⟨by kernel_rfl, ?_⟩) hH ?_; rotate_left; focus (intro wx hSw; obtain ⟨hS0, hS1, -⟩ := hSw; go_simp; try with_reducible rfl)); try simp only [Act.put, List.setIfInBounds_toArray, List.set_cons_zero, List.set_cons_succ]; try simp only [List.getElem_toArray, List.getElem_cons_succ, List.getElem_cons_zero]
    (refine wpAnyH_take (i := 15) (oi := ⟨_, _, _, _, _, _⟩) (v := undef) rfl (by kernel_rfl) (by kernel_rfl) (by kernel_rfl) (fun _ _ _ h => h) (Or.inr ⟨by kernel_rfl, rfl⟩) hH ?_); try simp only [Act.put, List.setIfInBounds_toArray, List.set_cons_zero, List.set_cons_succ]; try simp only [List.getElem_toArray, List.getElem_cons_succ, List.getElem_cons_zero]
    (refine wpAnyH_take (i := 16) (oi := ⟨_, _, _, _, _, _⟩) (v := undef) rfl (by kernel_rfl) (by kernel_rfl) (by kernel_rfl) (fun _ _ _ h => h) (Or.inr ⟨by kernel_rfl, rfl⟩) hH ?_); try simp only [Act.put, List.setIfInBounds_toArray, List.set_cons_zero, List.set_cons_succ]; try simp only [List.getElem_toArray, List.getElem_cons_succ, List.getElem_cons_zero]
    (refine wpAnyH_take (i := 17) (oi := ⟨_, _, _, _, _, _⟩) (v := undef) rfl (by kernel_rfl) (by kernel_rfl) (by kernel_rfl) (fun _ _ _ h => h) (Or.inr ⟨by kernel_rfl, rfl⟩) hH ?_); try simp only [Act.put, List.setIfInBounds_toArray, List.set_cons_zero, List.set_cons_succ]; try simp only [List.getElem_toArray, List.getElem_cons_succ, List.getElem_cons_zero]
    (refine wpAnyH_take (i := 18) (oi := ⟨_, _, _, _, _, _⟩) (v := undef) rfl (by kernel_rfl) (by kernel_rfl) (by kernel_rfl) (fun _ _ _ h => h) (Or.inr ⟨by kernel_rfl, rfl⟩) hH ?_); try simp only [Act.put, List.setIfInBounds_toArray, List.set_cons_zero, List.set_cons_succ]; try simp only [List.getElem_toArray, List.getElem_cons_succ, List.getElem_cons_zero]
    (refine wpAnyH_take (i := 19) (oi := ⟨_, _, _, _, _, _⟩) (v := undef) rfl (by kernel_rfl) (by kernel_rfl) (by kernel_rfl) (fun _ _ _ h => h) (Or.inr ⟨by kernel_rfl, rfl⟩) hH ?_); try simp only [Act.put, List.setIfInBounds_toArray, List.set_cons_zero, List.set_cons_succ]; try simp only [List.getElem_toArray, List.getElem_cons_succ, List.getElem_cons_zero]
    (refine wpAnyH_take (i := 20) (oi := ⟨_, _, _, _, _, _⟩) (v := ?_) rfl (by kernel_rfl) (by kernel_rfl) (by kernel_rfl) (fun _ _ _ h => h) (Or.inl ⟨by kernel_rfl, ?_⟩) hH ?_; rotate_left; focus (intro wx hSw; obtain ⟨hS0, hS1, -⟩ := hSw; go_simp; try with_reducible rfl)); try simp only [Act.put, List.setIfInBounds_toArray, List.set_cons_zero, List.set_cons_succ]; try simp only [List.getElem_toArray, List.getElem_cons_succ, List.getElem_cons_zero]
    refine wpAnyH_done (by kernel_rfl) ?_ _
    clear hH hcc
    go_wp2_with fail
    go_ret2
    exact ⟨_, (by rw [hr.out]; rfl), (fun h => by rw [hr.out] at h; cases h), (fun _ => rfl), z0'⟩
  (refine wpAnyH_take (i := 3) (oi := ⟨_, _, _, _, _, _⟩) (v := ?_) rfl (by kernel_rfl) (by kernel_rfl) (by kernel_rfl) (fun _ _ _ h => h) (Or.inl ⟨by kernel_rfl, ?_⟩) hH ?_; rotate_left; focus (intro wx hSw; obtain ⟨hS0, hS1, -⟩ := hSw; go_simp; try with_reducible rfl)); try simp only [Act.put, List.setIfInBounds_toArray, List.set_cons_zero, List.set_cons_succ]; try simp only [List.getElem_toArray, List.getElem_cons_succ, List.getElem_cons_zero]
  (refine wpAnyH_take (i := 4) (oi := ⟨_, _, _, _, _, _⟩) (v := ?_) rfl (by kernel_rfl) (by kernel_rfl) (by kernel_rfl) (fun _ _ _ h => h) (Or.inl ⟨by kernel_rfl, ?_⟩) hH ?_; rotate_left; focus (intro wx hSw; obtain ⟨hS0, hS1, -⟩ := hSw; go_simp; try with_reducible rfl)); try simp only [Act.put, List.setIfInBounds_toArray, List.set_cons_zero, List.set_cons_succ]; try simp only [List.getElem_toArray, List.getElem_cons_succ, List.getElem_cons_zero]
  by_cases hz : r.num = 0
  · have hb : (r.num == 0) = true := beq_iff_eq.2 hz
    have hr : Hid (M = false) := Lib.hid (by rw [hM.out, dfalse (fun h => h hz)]; rfl)
    clear hM hF hSq hk hop hN hz
    (refine wpAnyH_take (i := 5) (oi := ⟨_, _, _, _, _, _⟩) (v := ?_) rfl (by kernel_rfl) (by kernel_rfl) (by kernel_rfl) (fun _ _ _ h => h) (Or.inl ⟨by kernel_rfl, ?_⟩) hH ?_; rotate_left; focus (intro wx hSw; obtain ⟨hS0, hS1, -⟩ := hSw; go_simp; try with_reducible rfl)); try simp only [Act.put, List.setIfInBounds_toArray, List.set_cons_zero, List.set_cons_succ]; try simp only [List.getElem_toArray, List.getElem_cons_succ, List.getElem_cons_zero]
    (refine wpAnyH_take (i := 6) (oi := ⟨_, _, _, _, _, _⟩) (v := ?_) rfl (by kernel_rfl) (by kernel_rfl) (by kernel_rfl) (fun _ _ _ h => h) (Or.inl ⟨by kernel_rfl, ?_⟩) hH ?_; rotate_left; focus (intro wx hSw; obtain ⟨hS0, hS1, -⟩ := hSw; go_simp; try with_reducible rfl)); try simp only [Act.put, List.setIfInBounds_toArray, List.set_cons_zero, List.set_cons_succ]; try simp only [List.getElem_toArray, List.getElem_cons_succ, List.getElem_cons_zero]
    (refine wpAnyH_take (i := 7) (oi := ⟨_, _, _, _, _, _⟩) (v := ?_) rfl (by kernel_rfl) (by kernel_rfl) (by kernel_rfl) (fun _ _ _ h => h) (Or.inl ⟨by kernel_rfl, ?_⟩) hH ?_; rotate_left; focus (intro wx hSw; obtain ⟨hS0, hS1, -⟩ := hSw; go_simp; try with_reducible rfl)); try simp only [Act.put, List.setIfInBounds_toArray, List.set_cons_zero, List.set_cons_succ]; try simp only [List.getElem_toArray, List.getElem_cons_succ, List.getElem_cons_zero]
    (refine wpAnyH_take (i := 8) (oi := ⟨_, _, _, _, _, _⟩) (v := ?_) rfl (by kernel_rfl) (by kernel_rfl) (by kernel_rfl) (fun _ _ _ h => h) (Or.inl ⟨by kernel_rfl, ?_⟩) hH ?_; rotate_left; focus (intro wx hSw; obtain ⟨hS0, hS1, -⟩ := hSw; go_simp; try with_reducible rfl)); try simp only [Act.put, List.setIfInBounds_toArray, List.set_cons_zero, List.set_cons_succ]; try simp only [List.getElem_toArray, List.getElem_cons_succ, List.getElem_cons_zero]
    (refine wpAnyH_take (i := 9) (oi := ⟨_, _, _, _, _, _⟩) (v := ?_) rfl (by kernel_rfl) (by kernel_rfl) (by kernel_rfl) (fun _ _ _ h => h) (Or.inl ⟨by kernel_rfl, ?_⟩) hH ?_; rotate_left; focus (intro wx hSw; obtain ⟨hS0, hS1, -⟩ := hSw; go_simp; try with_reducible rfl)); try simp only [Act.put, List.setIfInBounds_toArray, List.set_cons_zero, List.set_cons_succ]; try simp only [List.getElem_toArray, List.getElem_cons_succ, List.getElem_cons_zero]
    (refine wpAnyH_take (i := 10) (oi := ⟨_, _, _, _, _, _⟩) (v := undef) rfl (by kernel_rfl) (by kernel_rfl) (by kernel_rfl) (fun _ _ _ h => h) (Or.inr ⟨by kernel_rfl, rfl⟩) hH ?_); try simp only [Act.put, List.setIfInBounds_toArray, List.set_cons_zero, List.set_cons_succ]; try simp only [List.getElem_toArray, List.getElem_cons_succ, List.getElem_cons_zero]
    (refine wpAnyH_take (i := 11) (oi := ⟨_, _, _, _, _, _⟩) (v := undef) rfl (by kernel_rfl) (by kernel_rfl) (by kernel_rfl) (fun _ _ _ h => h) (Or.inr ⟨by kernel_rfl, rfl⟩) hH ?_); try simp only [Act.put, List.setIfInBounds_toArray, List.set_cons_zero, List.set_cons_succ]; try simp only [List.getElem_toArray, List.getElem_cons_succ, List.getElem_cons_zero]
    (refine wpAnyH_take (i := 12) (oi := ⟨_, _, _, _, _, _⟩) (v := undef) rfl (by kernel_rfl) (by kernel_rfl) (by kernel_rfl) (fun _ _ _ h => h) (Or.inr ⟨by kernel_rfl, rfl⟩) hH ?_); try simp only [Act.put, List.setIfInBounds_toArray, List.set_cons_zero, List.set_cons_succ]; try simp only [List.getElem_toArray, List.getElem_cons_succ, List.getElem_cons_zero]
    (refine wpAnyH_take (i := 13) (oi := ⟨_, _, _, _, _, _⟩) (v := ?_) rfl (by kernel_rfl) (by kernel_rfl) (by kernel_rfl) (fun _ _ _ h => h) (Or.inl ⟨by kernel_rfl, ?_⟩) hH ?_; rotate_left; focus (intro wx hSw; obtain ⟨hS0, hS1, -⟩ := hSw; go_simp; try with_reducible rfl)); try simp only [Act.put, List.setIfInBounds_toArray, List.set_cons_zero, List.set_cons_succ]; try simp only [List.getElem_toArray, List.getElem_cons_succ, List.getElem_cons_zero]
    (refine wpAnyH_take (i := 14) (oi := ⟨_, _, _, _, _, _⟩) (v := ?_) rfl (by kernel_rfl) (by kernel_rfl) (by kernel_rfl) (fun _ _ _ h => h) (Or.inl ⟨by kernel_rfl, ?_⟩) hH ?_; rotate_left; focus (intro wx hSw; obtain ⟨hS0, hS1, -⟩ := hSw; go_simp; try with_reducible rfl)); try simp only [Act.put, List.setIfInBounds_toArray, List.set_cons_zero, List.set_cons_succ]; try simp only [List.getElem_toArray, List.getElem_cons_succ, List.getElem_cons_zero]
    (refine wpAnyH_take (i := 15) (oi := ⟨_, _, _, _, _, _⟩) (v := undef) rfl (by kernel_rfl) (by kernel_rfl) (by kernel_rfl) (fun _ _ _ h => h) (Or.inr ⟨by kernel_rfl, rfl⟩) hH ?_); try simp only [Act.put, List.setIfInBounds_toArray, List.set_cons_zero, List.set_cons_succ]; try simp only [List.getElem_toArray, List.getElem_cons_succ, List.getElem_cons_zero]
    (refine wpAnyH_take (i := 16) (oi := ⟨_, _, _, _, _, _⟩) (v := undef) rfl (by kernel_rfl) (by kernel_rfl) (by kernel_rfl) (fun _ _ _ h => h) (Or.inr ⟨by kernel_rfl, rfl⟩) hH ?_); try simp only [Act.put, List.setIfInBounds_toArray, List.set_cons_zero, List.set_cons_succ]; try simp only [List.getElem_toArray, List.getElem_cons_succ, List.getElem_cons_zero]
    (refine wpAnyH_take (i := 17) (oi := ⟨_, _, _, _, _, _⟩) (v := undef) rfl (by kernel_rfl) (by kernel_rfl) (by kernel_rfl) (fun _ _ _ h => h) (Or.inr ⟨by kernel_rfl, rfl⟩) hH ?_); try simp only [Act.put, List.setIfInBounds_toArray, List.set_cons_zero, List.set_cons_succ]; try simp only [List.getElem_toArray, List.getElem_cons_succ, List.getElem_cons_zero]
    (refine wpAnyH_take (i := 18) (oi := ⟨_, _, _, _, _, _⟩) (v := undef) rfl (by kernel_rfl) (by kernel_rfl) (by kernel_rfl) (fun _ _ _ h => h) (Or.inr ⟨by kernel_rfl, rfl⟩) hH ?_); try simp only [Act.put, List.setIfInBounds_toArray, List.set_cons_zero, List.set_cons_succ]; try simp only [List.getElem_toArray, List.getElem_cons_succ, List.getElem_cons_zero]
    (refine wpAnyH_take (i := 19) (oi := ⟨_, _, _, _, _, _⟩) (v := undef) rfl (by kernel_rfl) (by kernel_rfl) (by kernel_rfl) (fun _ _ _ h => h) (Or.inr ⟨by kernel_rfl, rfl⟩) hH ?_); try simp only [Act.put, List.setIfInBounds_toArray, List.set_cons_zero, List.set_cons_succ]; try simp only [List.getElem_toArray, List.getElem_cons_succ, List.getElem_cons_zero]
    (refine wpAnyH_take (i := 20) (oi := ⟨_, _, _, _, _, _⟩) (v := ?_) rfl (by kernel_rfl) (by kernel_rfl) (by kernel_rfl) (fun _ _ _ h => h) (Or.inl ⟨by kernel_rfl, ?_⟩) hH ?_; rotate_left; focus (intro wx hSw; obtain ⟨hS0, hS1, -⟩ := hSw; go_simp; try with_reducible rfl)); try simp only [Act.put, List.setIfInBounds_toArray, List.set_cons_zero, List.set_cons_succ]; try simp only [List.getElem_toArray, List.getElem_cons_succ, List.getElem_cons_zero]
    refine wpAnyH_done (by kernel_rfl) ?_ _
    clear hH hcc
    go_wp2_with fail
    go_ret2
    exact ⟨_, (by rw [hr.out]; rfl), (fun h => by rw [hr.out] at h; cases h), (fun _ => rfl), z0'⟩
  have hb : (r.num == 0) = false := beq_eq_false_iff_ne.2 hz
  have hM2 := hM.out
  rw [dtrue hz] at hM2
  replace hM2 := Lib.hid hM2
  clear hM hN hz
  (refine wpAnyH_take (i := 5) (oi := ⟨_, _, _, _, _, _⟩) (v := ?_) rfl (by kernel_rfl) (by kernel_rfl) (by kernel_rfl) (fun _ _ _ h => h) (Or.inl ⟨by kernel_rfl, ?_⟩) hH ?_; rotate_left; focus (intro wx hSw; obtain ⟨hS0, hS1, -⟩ := hSw; go_simp; try with_reducible rfl)); try simp only [Act.put, List.setIfInBounds_toArray, List.set_cons_zero, List.set_cons_succ]; try simp only [List.getElem_toArray, List.getElem_cons_succ, List.getElem_cons_zero]
  (refine wpAnyH_take (i := 6) (oi := ⟨_, _, _, _, _, _⟩) (v := ?_) rfl (by kernel_rfl) (by kernel_rfl) (by kernel_rfl) (fun _ _ _ h => h) (Or.inl ⟨by kernel_rfl, ?_⟩) hH ?_; rotate_left; focus (intro wx hSw; obtain ⟨hS0, hS1, -⟩ := hSw; go_simp; try with_reducible rfl)); try simp only [Act.put, List.setIfInBounds_toArray, List.set_cons_zero, List.set_cons_succ]; try simp only [List.getElem_toArray, List.getElem_cons_succ, List.getElem_cons_zero]
  (refine wpAnyH_take (i := 7) (oi := ⟨_, _, _, _, _, _⟩) (v := ?_) rfl (by kernel_rfl) (by kernel_rfl) (by kernel_rfl) (fun _ _ _ h => h) (Or.inl ⟨by kernel_rfl, ?_⟩) hH ?_; rotate_left; focus (intro wx hSw; obtain ⟨hS0, hS1, -⟩ := hSw; go_simp; try with_reducible rfl)); try simp only [Act.put, List.setIfInBounds_toArray, List.set_cons_zero, List.set_cons_succ]; try simp only [List.getElem_toArray, List.getElem_cons_succ, List.getElem_cons_zero]
  (refine wpAnyH_take (i := 8) (oi := ⟨_, _, _, _, _, _⟩) (v := ?_) rfl (by kernel_rfl) (by kernel_rfl) (by kernel_rfl) (fun _ _ _ h => h) (Or.inl ⟨by kernel_rfl, ?_⟩) hH ?_; rotate_left; focus (intro wx hSw; obtain ⟨hS0, hS1, -⟩ := hSw; go_simp; try with_reducible rfl)); try simp only [Act.put, List.setIfInBounds_toArray, List.set_cons_zero, List.set_cons_succ]; try simp only [List.getElem_toArray, List.getElem_cons_succ, List.getElem_cons_zero]
  (refine wpAnyH_take (i := 9) (oi := ⟨_, _, _, _, _, _⟩) (v := ?_) rfl (by kernel_rfl) (by kernel_rfl) (by kernel_rfl) (fun _ _ _ h => h) (Or.inl ⟨by kernel_rfl, ?_⟩) hH ?_; rotate_left; focus (intro wx hSw; obtain ⟨hS0, hS1, -⟩ := hSw; go_simp; try with_reducible rfl)); try simp only [Act.put, List.setIfInBounds_toArray, List.set_cons_zero, List.set_cons_succ]; try simp only [List.getElem_toArray, List.getElem_cons_succ, List.getElem_cons_zero]
  clear hb
  (refine wpAnyH_take (i := 10) (oi := ⟨_, _, _, _, _, _⟩) (v := .agg #[.int .i64 r.num, .int .i64 r.kind, sv r.dn, sv r.pass, .int .i64 r.scope, .int .i64 r.limit, .int .i64 r.fil.kind, sv r.fil.typ, sv r.fil.val, .slice A0 A0n A0c, .slice A1 A1n A1c, .slice A2 A2n A2c, .slice A3 A3n A3c, .slice A4 A4n A4c, sv r.rdn, .bool r.keep, .bool r.above, sv r.up, sv r.avt, sv r.avv, .int .i64 r.which]) rfl (by kernel_rfl) (by kernel_rfl) (by kernel_rfl) (fun _ _ _ h => h) (yieldsIf_load_mid (by rfl) 32 (.tmp 1) rfl p 0 rfl [.int .i64 r.num, .int .i64 r.kind, sv r.dn, sv r.pass, .int .i64 r.scope, .int .i64 r.limit, .int .i64 r.fil.kind, sv r.fil.typ, sv r.fil.val, .slice A0 A0n A0c, .slice A1 A1n A1c, .slice A2 A2n A2c, .slice A3 A3n A3c, .slice A4 A4n A4c, sv r.rdn, .bool r.keep, .bool r.above, sv r.up, sv r.avt, sv r.avv, .int .i64 r.which] _ (fun _ h => h.2.2) Tryz.underlying32 rfl (by kernel_rfl)) hH ?_); try simp only [Act.put, List.setIfInBounds_toArray, List.set_cons_zero, List.set_cons_succ]; try simp only [List.getElem_toArray, List.getElem_cons_succ, List.getElem_cons_zero]
  (refine wpAnyH_ready (rs := [11]) (by kernel_rfl) (by simp) ?_; refine AllReadyH.cons rfl (fun K' hK => ?_) AllReadyH.nil); go_simp
  refine (hF z0').mono ?_
  rintro e3 w3 ⟨rfl, x3⟩
  have z1 := ext_trans z0 x3
  have z1' := ext_trans z0' x3
  clear hF
  (go_wp2_with fail; refine hK.out _ _ (hcc z1) (fun hH => ?_); clear hK K'; try simp only [Act.put, List.setIfInBounds_toArray, List.set_cons_zero, List.set_cons_succ]; try simp only [List.getElem_toArray, List.getElem_cons_succ, List.getElem_cons_zero])
  cases Fq
  · have hr : Hid (M = false) := Lib.hid (by rw [hM2.out]; rfl)
    clear hM2 hSq hk hop
    (refine wpAnyH_take (i := 12) (oi := ⟨_, _, _, _, _, _⟩) (v := ?_) rfl (by kernel_rfl) (by kernel_rfl) (by kernel_rfl) (fun _ _ _ h => h) (Or.inl ⟨by kernel_rfl, ?_⟩) hH ?_; rotate_left; focus (intro wx hSw; obtain ⟨hS0, hS1, -⟩ := hSw; go_simp; try with_reducible rfl)); try simp only [Act.put, List.setIfInBounds_toArray, List.set_cons_zero, List.set_cons_succ]; try simp only [List.getElem_toArray, List.getElem_cons_succ, List.getElem_cons_zero]
    (refine wpAnyH_take (i := 13) (oi := ⟨_, _, _, _, _, _⟩) (v := ?_) rfl (by kernel_rfl) (by kernel_rfl) (by kernel_rfl) (fun _ _ _ h => h) (Or.inl ⟨by kernel_rfl, ?_⟩) hH ?_; rotate_left; focus (intro wx hSw; obtain ⟨hS0, hS1, -⟩ := hSw; go_simp; try with_reducible rfl)); try simp only [Act.put, List.setIfInBounds_toArray, List.set_cons_zero, List.set_cons_succ]; try simp only [List.getElem_toArray, List.getElem_cons_succ, List.getElem_cons_zero]
    (refine wpAnyH_take (i := 14) (oi := ⟨_, _, _, _, _, _⟩) (v := ?_) rfl (by kernel_rfl) (by kernel_rfl) (by kernel_rfl) (fun _ _ _ h => h) (Or.inl ⟨by kernel_rfl, ?_⟩) hH ?_; rotate_left; focus (intro wx hSw; obtain ⟨hS0, hS1, -⟩ := hSw; go_simp; try with_reducible rfl)); try simp only [Act.put, List.setIfInBounds_toArray, List.set_cons_zero, List.set_cons_succ]; try simp only [List.getElem_toArray, List.getElem_cons_succ, List.getElem_cons_zero]
    (refine wpAnyH_take (i := 15) (oi := ⟨_, _, _, _, _, _⟩) (v := undef) rfl (by kernel_rfl) (by kernel_rfl) (by kernel_rfl) (fun _ _ _ h => h) (Or.inr ⟨by kernel_rfl, rfl⟩) hH ?_); try simp only [Act.put, List.setIfInBounds_toArray, List.set_cons_zero, List.set_cons_succ]; try simp only [List.getElem_toArray, List.getElem_cons_succ, List.getElem_cons_zero]
    (refine wpAnyH_take (i := 16) (oi := ⟨_, _, _, _, _, _⟩) (v := undef) rfl (by kernel_rfl) (by kernel_rfl) (by kernel_rfl) (fun _ _ _ h => h) (Or.inr ⟨by kernel_rfl, rfl⟩) hH ?_); try simp only [Act.put, List.setIfInBounds_toArray, List.set_cons_zero, List.set_cons_succ]; try simp only [List.getElem_toArray, List.getElem_cons_succ, List.getElem_cons_zero]
    (refine wpAnyH_take (i := 17) (oi := ⟨_, _, _, _, _, _⟩) (v := undef) rfl (by kernel_rfl) (by kernel_rfl) (by kernel_rfl) (fun _ _ _ h => h) (Or.inr ⟨by kernel_rfl, rfl⟩) hH ?_); try simp only [Act.put, List.setIfInBounds_toArray, List.set_cons_zero, List.set_cons_succ]; try simp only [List.getElem_toArray, List.getElem_cons_succ, List.getElem_cons_zero]
    (refine wpAnyH_take (i := 18) (oi := ⟨_, _, _, _, _, _⟩) (v := undef) rfl (by kernel_rfl) (by kernel_rfl) (by kernel_rfl) (fun _ _ _ h => h) (Or.inr ⟨by kernel_rfl, rfl⟩) hH ?_); try simp only [Act.put, List.setIfInBounds_toArray, List.set_cons_zero, List.set_cons_succ]; try simp only [List.getElem_toArray, List.getElem_cons_succ, List.getElem_cons_zero]
    (refine wpAnyH_take (i := 19) (oi := ⟨_, _, _, _, _, _⟩) (v := undef) rfl (by kernel_rfl) (by kernel_rfl) (by kernel_rfl) (fun _ _ _ h => h) (Or.inr ⟨by kernel_rfl, rfl⟩) hH ?_); try simp only [Act.put, List.setIfInBounds_toArray, List.set_cons_zero, List.set_cons_succ]; try simp only [List.getElem_toArray, List.getElem_cons_succ, List.getElem_cons_zero]
    (refine wpAnyH_take (i := 20) (oi := ⟨_, _, _, _, _, _⟩) (v := ?_) rfl (by kernel_rfl) (by kernel_rfl) (by kernel_rfl) (fun _ _ _ h => h) (Or.inl ⟨by kernel_rfl, ?_⟩) hH ?_; rotate_left; focus (intro wx hSw; obtain ⟨hS0, hS1, -⟩ := hSw; go_simp; try with_reducible rfl)); try simp only [Act.put, List.setIfInBounds_toArray, List.set_cons_zero, List.set_cons_succ]; try simp only [List.getElem_toArray, List.getElem_cons_succ, List.getElem_cons_zero]
    refine wpAnyH_done (by kernel_rfl) ?_ _
    clear hH hcc
    go_wp2_with fail
    go_ret2
    exact ⟨_, (by rw [hr.out]; rfl), (fun h => by rw [hr.out] at h; cases h), (fun _ => rfl), z1'⟩
  (refine wpAnyH_take (i := 12) (oi := ⟨_, _, _, _, _, _⟩) (v := ?_) rfl (by kernel_rfl) (by kernel_rfl) (by kernel_rfl) (fun _ _ _ h => h) (Or.inl ⟨by kernel_rfl, ?_⟩) hH ?_; rotate_left; focus (intro wx hSw; obtain ⟨hS0, hS1, -⟩ := hSw; go_simp; try with_reducible rfl)); try simp only [Act.put, List.setIfInBounds_toArray, List.set_cons_zero, List.set_cons_succ]; try simp only [List.getElem_toArray, List.getElem_cons_succ, List.getElem_cons_zero]
  (refine wpAnyH_take (i := 13) (oi := ⟨_, _, _, _, _, _⟩) (v := ?_) rfl (by kernel_rfl) (by kernel_rfl) (by kernel_rfl) (fun _ _ _ h => h) (Or.inl ⟨by kernel_rfl, ?_⟩) hH ?_; rotate_left; focus (intro wx hSw; obtain ⟨hS0, hS1, -⟩ := hSw; go_simp; try with_reducible rfl)); try simp only [Act.put, List.setIfInBounds_toArray, List.set_cons_zero, List.set_cons_succ]; try simp only [List.getElem_toArray, List.getElem_cons_succ, List.getElem_cons_zero]
  (refine wpAnyH_take (i := 14) (oi := ⟨_, _, _, _, _, _⟩) (v := ?_) rfl (by kernel_rfl) (by kernel_rfl) (by kernel_rfl) (fun _ _ _ h => h) (Or.inl ⟨by kernel_rfl, ?_⟩) hH ?_; rotate_left; focus (intro wx hSw; obtain ⟨hS0, hS1, -⟩ := hSw; go_simp; try with_reducible rfl)); try simp only [Act.put, List.setIfInBounds_toArray, List.set_cons_zero, List.set_cons_succ]; try simp only [List.getElem_toArray, List.getElem_cons_succ, List.getElem_cons_zero]
  (refine wpAnyH_take (i := 15) (oi := ⟨_, _, _, _, _, _⟩) (v := .agg #[.int .i64 r.num, .int .i64 r.kind, sv r.dn, sv r.pass, .int .i64 r.scope, .int .i64 r.limit, .int .i64 r.fil.kind, sv r.fil.typ, sv r.fil.val, .slice A0 A0n A0c, .slice A1 A1n A1c, .slice A2 A2n A2c, .slice A3 A3n A3c, .slice A4 A4n A4c, sv r.rdn, .bool r.keep, .bool r.above, sv r.up, sv r.avt, sv r.avv, .int .i64 r.which]) rfl (by kernel_rfl) (by kernel_rfl) (by kernel_rfl) (fun _ _ _ h => h) (yieldsIf_load_mid (by rfl) 32 (.tmp 1) rfl p 0 rfl [.int .i64 r.num, .int .i64 r.kind, sv r.dn, sv r.pass, .int .i64 r.scope, .int .i64 r.limit, .int .i64 r.fil.kind, sv r.fil.typ, sv r.fil.val, .slice A0 A0n A0c, .slice A1 A1n A1c, .slice A2 A2n A2c, .slice A3 A3n A3c, .slice A4 A4n A4c, sv r.rdn, .bool r.keep, .bool r.above, sv r.up, sv r.avt, sv r.avv, .int .i64 r.which] _ (fun _ h => h.2.2) Tryz.underlying32 rfl (by kernel_rfl)) hH ?_); try simp only [Act.put, List.setIfInBounds_toArray, List.set_cons_zero, List.set_cons_succ]; try simp only [List.getElem_toArray, List.getElem_cons_succ, List.getElem_cons_zero]
  (refine wpAnyH_take (i := 16) (oi := ⟨_, _, _, _, _, _⟩) (v := .agg #[.int .i64 r.num, .int .i64 r.kind, sv r.dn, sv r.pass, .int .i64 r.scope, .int .i64 r.limit, .int .i64 r.fil.kind, sv r.fil.typ, sv r.fil.val, .slice A0 A0n A0c, .slice A1 A1n A1c, .slice A2 A2n A2c, .slice A3 A3n A3c, .slice A4 A4n A4c, sv r.rdn, .bool r.keep, .bool r.above, sv r.up, sv r.avt, sv r.avv, .int .i64 r.which]) rfl (by kernel_rfl) (by kernel_rfl) (by kernel_rfl) (fun _ _ _ h => h) (yieldsIf_load_mid (by rfl) 32 (.tmp 1) rfl p 0 rfl [.int .i64 r.num, .int .i64 r.kind, sv r.dn, sv r.pass, .int .i64 r.scope, .int .i64 r.limit, .int .i64 r.fil.kind, sv r.fil.typ, sv r.fil.val, .slice A0 A0n A0c, .slice A1 A1n A1c, .slice A2 A2n A2c, .slice A3 A3n A3c, .slice A4 A4n A4c, sv r.rdn, .bool r.keep, .bool r.above, sv r.up, sv r.avt, sv r.avv, .int .i64 r.which] _ (fun _ h => h.2.2) Tryz.underlying32 rfl (by kernel_rfl)) hH ?_); try simp only [Act.put, List.setIfInBounds_toArray, List.set_cons_zero, List.set_cons_succ]; try simp only [List.getElem_toArray, List.getElem_cons_succ, List.getElem_cons_zero]
  have ho := hop rfl
  (refine wpAnyH_ready (rs := [17]) (by kernel_rfl) (by simp) ?_; refine AllReadyH.cons rfl (fun K' hK => ?_) AllReadyH.nil); go_simp
  refine (bare25_any (h.ext z1') ho).mono ?_
  rintro e4 w4 ⟨B0, B1, B2, B3, B4, B0n, B0c, B1n, B1c, B2n, B2c, B3n, B3c, B4n, B4c, rfl, hb, x4⟩
  have z2 := ext_trans z1 x4
  have z2' := ext_trans z1' x4
  (go_wp2_with fail; refine hK.out _ _ (hcc z2) (fun hH => ?_); clear hK K'; try simp only [Act.put, List.setIfInBounds_toArray, List.set_cons_zero, List.set_cons_succ]; try simp only [List.getElem_toArray, List.getElem_cons_succ, List.getElem_cons_zero])
  have hsame := same25_any (h.ext z2') hb
  rw [← hSq.out] at hsame
  (refine wpAnyH_ready (rs := [18]) (by kernel_rfl) (by simp) ?_; refine AllReadyH.cons rfl (fun K' hK => ?_) AllReadyH.nil); go_simp
  refine hsame.mono ?_
  rintro e5 w5 ⟨rfl, x5⟩
  have z3 := ext_trans z2 x5
  have z3' := ext_trans z2' x5
  clear hsame hb
  (go_wp2_with fail; refine hK.out _ _ (hcc z3) (fun hH => ?_); clear hK K'; try simp only [Act.put, List.setIfInBounds_toArray, List.set_cons_zero, List.set_cons_succ]; try simp only [List.getElem_toArray, List.getElem_cons_succ, List.getElem_cons_zero])
  cases Sq
  · have hr : Hid (M = false) := Lib.hid (by rw [hM2.out]; rfl)
    clear hM2 hSq hk hop
    (refine wpAnyH_take (i := 19) (oi := ⟨_, _, _, _, _, _⟩) (v := ?_) rfl (by kernel_rfl) (by kernel_rfl) (by kernel_rfl) (fun _ _ _ h => h) (Or.inl ⟨by kernel_rfl, ?_⟩) hH ?_; rotate_left; focus (intro wx hSw; obtain ⟨hS0, hS1, -⟩ := hSw; go_simp; try with_reducible rfl)); try simp only [Act.put, List.setIfInBounds_toArray, List.set_cons_zero, List.set_cons_succ]; try simp only [List.getElem_toArray, List.getElem_cons_succ, List.getElem_cons_zero]
    (refine wpAnyH_take (i := 20) (oi := ⟨_, _, _, _, _, _⟩) (v := ?_) rfl (by kernel_rfl) (by kernel_rfl) (by kernel_rfl) (fun _ _ _ h => h) (Or.inl ⟨by kernel_rfl, ?_⟩) hH ?_; rotate_left; focus (intro wx hSw; obtain ⟨hS0, hS1, -⟩ := hSw; go_simp; try with_reducible rfl)); try simp only [Act.put, List.setIfInBounds_toArray, List.set_cons_zero, List.set_cons_succ]; try simp only [List.getElem_toArray, List.getElem_cons_succ, List.getElem_cons_zero]
    refine wpAnyH_done (by kernel_rfl) ?_ _
    clear hH hcc
    go_wp2_with fail
    go_ret2
    exact ⟨_, (by rw [hr.out]; rfl), (fun h => by rw [hr.out] at h; cases h), (fun _ => rfl), z3'⟩
  (refine wpAnyH_take (i := 19) (oi := ⟨_, _, _, _, _, _⟩) (v := ?_) rfl (by kernel_rfl) (by kernel_rfl) (by kernel_rfl) (fun _ _ _ h => h) (Or.inl ⟨by kernel_rfl, ?_⟩) hH ?_; rotate_left; focus (intro wx hSw; obtain ⟨hS0, hS1, -⟩ := hSw; go_simp; try with_reducible rfl)); try simp only [Act.put, List.setIfInBounds_toArray, List.set_cons_zero, List.set_cons_succ]; try simp only [List.getElem_toArray, List.getElem_cons_succ, List.getElem_cons_zero]
  (refine wpAnyH_take (i := 20) (oi := ⟨_, _, _, _, _, _⟩) (v := ?_) rfl (by kernel_rfl) (by kernel_rfl) (by kernel_rfl) (fun _ _ _ h => h) (Or.inl ⟨by kernel_rfl, ?_⟩) hH ?_; rotate_left; focus (intro wx hSw; obtain ⟨hS0, hS1, -⟩ := hSw; go_simp; try with_reducible rfl)); try simp only [Act.put, List.setIfInBounds_toArray, List.set_cons_zero, List.set_cons_succ]; try simp only [List.getElem_toArray, List.getElem_cons_succ, List.getElem_cons_zero]
  have hk2 := hk (by first | rfl | trivial) (by first | rfl | trivial)
  obtain ⟨hf, hk3, hlz⟩ := hk2
  have hr : Hid (M = true) := Lib.hid (by rw [hM2.out, dtrue hlz]; rfl)
  refine wpAnyH_done (by kernel_rfl) ?_ _
  clear hH z0 z1 z2 x3 x4 x5 hM2 hk hop
  go_wp2_with fail
  have y0 := ext_trans z3 ((Mod.refl _ w5).drew)
  have y0' := ext_trans z3' ((Mod.refl (fun _ => False) w5).drew)
  refine wp_region_held_drew (S := fun wx => wx.cell? ⟨p, 0, none⟩ = some (.int .i64 r.num) ∧ wx.cell? ⟨p, 1, none⟩ = some (.int .i64 r.kind) ∧ wx.rangeAt p 0 [.int .i64 r.num, .int .i64 r.kind, sv r.dn, sv r.pass, .int .i64 r.scope, .int .i64 r.limit, .int .i64 r.fil.kind, sv r.fil.typ, sv r.fil.val, .slice A0 A0n A0c, .slice A1 A1n A1c, .slice A2 A2n A2c, .slice A3 A3n A3c, .slice A4 A4n A4c, sv r.rdn, .bool r.keep, .bool r.above, sv r.up, sv r.avt, sv r.avv, .int .i64 r.which]) (by kernel_rfl) (hcc y0) (fun hH => ?_)
  (refine wpAnyH_take (i := 0) (oi := ⟨_, _, _, _, _, _⟩) (v := ?_) rfl (by kernel_rfl) (by kernel_rfl) (by kernel_rfl) (fun _ _ _ h => h) (Or.inl ⟨by kernel_rfl, ?_⟩) hH ?_; rotate_left; focus (intro wx hSw; obtain ⟨hS0, hS1, -⟩ := hSw; go_simp; try with_reducible rfl)); try simp only [Act.put, List.setIfInBounds_toArray, List.set_cons_zero, List.set_cons_succ]; try simp only [List.getElem_toArray, List.getElem_cons_succ, List.getElem_cons_zero]
  (refine wpAnyH_take (i := 1) (oi := ⟨_, _, _, _, _, _⟩) (v := ?_) rfl (by kernel_rfl) (by kernel_rfl) (by kernel_rfl) (fun _ _ _ h => h) (Or.inl ⟨by kernel_rfl, ?_⟩) hH ?_; rotate_left; focus (intro wx hSw; obtain ⟨hS0, hS1, -⟩ := hSw; go_simp; try with_reducible rfl)); try simp only [Act.put, List.setIfInBounds_toArray, List.set_cons_zero, List.set_cons_succ]; try simp only [List.getElem_toArray, List.getElem_cons_succ, List.getElem_cons_zero]
  (refine wpAnyH_take (i := 3) (oi := ⟨_, _, _, _, _, _⟩) (v := ?_) rfl (by kernel_rfl) (by kernel_rfl) (by kernel_rfl) (fun _ _ _ h => h) (Or.inl ⟨by kernel_rfl, ?_⟩) hH ?_; rotate_left; focus (intro wx hSw; obtain ⟨hS0, hS1, -⟩ := hSw; go_simp; try with_reducible rfl)); try simp only [Act.put, List.setIfInBounds_toArray, List.set_cons_zero, List.set_cons_succ]; try simp only [List.getElem_toArray, List.getElem_cons_succ, List.getElem_cons_zero]
  (refine wpAnyH_take (i := 4) (oi := ⟨_, _, _, _, _, _⟩) (v := ?_) rfl (by kernel_rfl) (by kernel_rfl) (by kernel_rfl) (fun _ _ _ h => h) (Or.inl ⟨by kernel_rfl, ?_⟩) hH ?_; rotate_left; focus (intro wx hSw; obtain ⟨hS0, hS1, -⟩ := hSw; go_simp; try with_reducible rfl)); try simp only [Act.put, List.setIfInBounds_toArray, List.set_cons_zero, List.set_cons_succ]; try simp only [List.getElem_toArray, List.getElem_cons_succ, List.getElem_cons_zero]
  (refine wpAnyH_take (i := 6) (oi := ⟨_, _, _, _, _, _⟩) (v := .agg #[.int .i64 r.num, .int .i64 r.kind, sv r.dn, sv r.pass, .int .i64 r.scope, .int .i64 r.limit, .int .i64 r.fil.kind, sv r.fil.typ, sv r.fil.val, .slice A0 A0n A0c, .slice A1 A1n A1c, .slice A2 A2n A2c, .slice A3 A3n A3c, .slice A4 A4n A4c, sv r.rdn, .bool r.keep, .bool r.above, sv r.up, sv r.avt, sv r.avv, .int .i64 r.which]) rfl (by kernel_rfl) (by kernel_rfl) (by kernel_rfl) (fun _ _ _ h => h) (yieldsIf_load_mid (by rfl) 32 (.tmp 1) rfl p 0 rfl [.int .i64 r.num, .int .i64 r.kind, sv r.dn, sv r.pass, .int .i64 r.scope, .int .i64 r.limit, .int .i64 r.fil.kind, sv r.fil.typ, sv r.fil.val, .slice A0 A0n A0c, .slice A1 A1n A1c, .slice A2 A2n A2c, .slice A3 A3n A3c, .slice A4 A4n A4c, sv r.rdn, .bool r.keep, .bool r.above, sv r.up, sv r.avt, sv r.avv, .int .i64 r.which] _ (fun _ h => h.2.2) Tryz.underlying32 rfl (by kernel_rfl)) hH ?_); try simp only [Act.put, List.setIfInBounds_toArray, List.set_cons_zero, List.set_cons_succ]; try simp only [List.getElem_toArray, List.getElem_cons_succ, List.getElem_cons_zero]
  have hlz2 : (reqB n r).length ≤ 65536 := by rw [← hZr.out]; exact hlz
  have hl1 := tlv_le (show (tlv 48 (nuB 2 r.num ++ tlv (opT r.kind) (bodyB n r))).length ≤ 65536 from hlz2)
  clear hlz2
  have hl2 : (tlv (opT r.kind) (bodyB n r)).length ≤ 65536 := by rw [List.length_append] at hl1; omega
  have hl3 := tlv_le hl2
  have hbody := fun {wx : World} (x : Ext w wx) => body_any (h.ext x) hf ho hk3 hl3
  obtain ⟨Y, hY⟩ : ∃ Y, Y = bodyB n r := ⟨_, rfl⟩
  rw [← hY] at hl1 hl2 hl3
  simp only [← hY] at hbody
  have hZr2 : Hid (tlv 48 (nuB 2 r.num ++ tlv (opT r.kind) Y) = Zr) := Lib.hid (by rw [hZr.out, hY])
  replace hY := Lib.hid hY
  have hnum := fun (wx : World) => num_any (w := wx) 2 r.num hn0 hn1
  obtain ⟨X, hX⟩ : ∃ X, X = nuB 2 r.num := ⟨_, rfl⟩
  simp only [← hX] at hnum
  rw [← hX] at hl1 hZr2
  replace hX := Lib.hid hX
  (refine wpAnyH_ready (rs := [2]) (by kernel_rfl) (by simp) ?_; refine AllReadyH.cons rfl (fun K' hK => ?_) AllReadyH.nil); go_simp
  refine (hnum _).mono ?_
  rintro e6 w6 ⟨v6, rfl, o6, o6f, x6⟩
  have y1 := ext_trans y0 x6
  have y1' := ext_trans y0' x6
  obtain ⟨A6, c6, hv6⟩ := o6.shape
  rw [List.length_map] at hv6
  subst hv6
  (go_wp2_with fail; refine hK.out _ _ (hcc y1) (fun hH => ?_); clear hK K'; try simp only [Act.put, List.setIfInBounds_toArray, List.set_cons_zero, List.set_cons_succ]; try simp only [List.getElem_toArray, List.getElem_cons_succ, List.getElem_cons_zero])
  (refine wpAnyH_ready (rs := [5]) (by kernel_rfl) (by simp) ?_; refine AllReadyH.cons rfl (fun K' hK => ?_) AllReadyH.nil); go_simp
  refine (opTag_any ho).mono ?_
  rintro e7 w7 ⟨rfl, rfl⟩
  (go_wp2_with fail; refine hK.out _ _ (hH) (fun hH => ?_); clear hK K'; try simp only [Act.put, List.setIfInBounds_toArray, List.set_cons_zero, List.set_cons_succ]; try simp only [List.getElem_toArray, List.getElem_cons_succ, List.getElem_cons_zero])
  (refine wpAnyH_ready (rs := [7]) (by kernel_rfl) (by simp) ?_; refine AllReadyH.cons rfl (fun K' hK => ?_) AllReadyH.nil); go_simp
  refine (hbody y1').mono ?_
  rintro e8 w8 ⟨v8, rfl, b8, x8⟩
  have y2 := ext_trans y1 x8
  have y2' := ext_trans y1' x8
  have o8 := o6.mod x8 (fun _ _ h => h)
  obtain ⟨A8, c8, e8, -⟩ := id b8.open_
  subst e8
  have xl : Ext w8 (w8.alloc (.cells #[.slice A8 Y.length c8] 22)) := (Mod.refl _ w8).alloc _
  have y3 := ext_trans y2 xl
  have y3' := ext_trans y2' xl
  have hr1 := Rw.one 22 b8
  (go_wp2_with fail; refine hK.out _ _ (hcc y2) (fun hH => ?_); clear hK K'; try simp only [Act.put, List.setIfInBounds_toArray, List.set_cons_zero, List.set_cons_succ]; try simp only [List.getElem_toArray, List.getElem_cons_succ, List.getElem_cons_zero])
  (refine wpAnyH_ready (rs := [8]) (by kernel_rfl) (by simp) ?_; refine AllReadyH.cons rfl (fun K' hK => ?_) AllReadyH.nil); go_simp
  (go_wp2_with fail; refine hK.out _ _ (hcc y3) (fun hH => ?_); clear hK K'; try simp only [Act.put, List.setIfInBounds_toArray, List.set_cons_zero, List.set_cons_succ]; try simp only [List.getElem_toArray, List.getElem_cons_succ, List.getElem_cons_zero])
  (refine wpAnyH_ready (rs := [9]) (by kernel_rfl) (by simp) ?_; refine AllReadyH.cons rfl (fun K' hK => ?_) AllReadyH.nil); go_simp
  refine (tag_any (opT r.kind) hr1 (by rw [one_flat]; exact hl3)).mono ?_
  rintro e9 w9 ⟨v9, rfl, o9, -, x9⟩
  rw [one_flat] at o9
  obtain ⟨D, hD⟩ : ∃ D, D = tlv (opT r.kind) Y := ⟨_, rfl⟩
  change Own w9 _ v9 ((tlv (opT r.kind) Y).map bv) at o9
  rw [← hD] at o9 hl1 hZr2
  replace hD := Lib.hid hD
  have y4 := ext_trans y3 x9
  have y4' := ext_trans y3' x9
  have oA := (o8.mod xl (fun _ _ h => h)).mod x9 (fun _ _ h => h)
  obtain ⟨A9, c9, hv9⟩ := o9.shape
  rw [List.length_map] at hv9
  subst hv9
  have hr2 := Rw.two 22 oA.sl o9.sl
  have y5 := fun cs => ext_trans y4 ((Mod.refl (fun _ => False) w9).alloc (.cells cs 22))
  have y5' := fun cs => ext_trans y4' ((Mod.refl (fun _ => False) w9).alloc (.cells cs 22))
  have hfl : [X, D].flatten = X ++ D := by simp
  (go_wp2_with fail; refine hK.out _ _ (hcc y4) (fun hH => ?_); clear hK K'; try simp only [Act.put, List.setIfInBounds_toArray, List.set_cons_zero, List.set_cons_succ]; try simp only [List.getElem_toArray, List.getElem_cons_succ, List.getElem_cons_zero])
  (refine wpAnyH_ready (rs := [10]) (by kernel_rfl) (by simp) ?_; refine AllReadyH.cons rfl (fun K' hK => ?_) AllReadyH.nil); go_simp
  (go_wp2_with fail; refine hK.out _ _ (hcc (y5 _)) (fun hH => ?_); clear hK K'; try simp only [Act.put, List.setIfInBounds_toArray, List.set_cons_zero, List.set_cons_succ]; try simp only [List.getElem_toArray, List.getElem_cons_succ, List.getElem_cons_zero])
  (refine wpAnyH_ready (rs := [11]) (by kernel_rfl) (by simp) ?_; refine AllReadyH.cons rfl (fun K' hK => ?_) AllReadyH.nil); go_simp
  refine (tag_any 48 hr2 (by rw [hfl]; exact hl1)).mono ?_
  rintro e10 w10 ⟨v10, rfl, o10, -, x10⟩
  rw [hfl] at o10
  change Own w10 _ v10 ((tlv 48 (X ++ D)).map bv) at o10
  rw [hZr2.out] at o10
  have y6 := ext_trans (y5 _) x10
  have y6' := ext_trans (y5' _) x10
  obtain ⟨A10, c10, hv10⟩ := o10.shape
  rw [List.length_map] at hv10
  subst hv10
  (go_wp2_with fail; refine hK.out _ _ (hcc y6) (fun hH => ?_); clear hK K'; try simp only [Act.put, List.setIfInBounds_toArray, List.set_cons_zero, List.set_cons_succ]; try simp only [List.getElem_toArray, List.getElem_cons_succ, List.getElem_cons_zero])
  (refine wpAnyH_take (i := 12) (oi := ⟨_, _, _, _, _, _⟩) (v := ?_) rfl (by kernel_rfl) (by kernel_rfl) (by kernel_rfl) (fun _ _ _ h => h) (Or.inl ⟨by kernel_rfl, ?_⟩) hH ?_; rotate_left; focus (intro wx hSw; obtain ⟨hS0, hS1, -⟩ := hSw; go_simp; try with_reducible rfl)); try simp only [Act.put, List.setIfInBounds_toArray, List.set_cons_zero, List.set_cons_succ]; try simp only [List.getElem_toArray, List.getElem_cons_succ, List.getElem_cons_zero]
  refine wpAnyH_done (by kernel_rfl) ?_ _
  have hlzi : decide ((Zr.length : Int) ≤ 65536) = true := dtrue (by omega)
  have hlzn : decide (Zr.length ≤ 65536) = true := dtrue hlz
  clear hH hcc hr1 hr2 oA o9 o8 o6 xl x6 x8 x9 x10 hfl hl1 hl2 hl3 hbody hnum b8
  go_wp2_with fail
  go_ret2
  exact ⟨_, (by rw [hr.out]; rfl), (fun _ => o10), (fun h => by rw [hr.out] at h; cases h), y6'⟩
set_option maxHeartbeats 8000000 in
theorem Encode25_any {n : Nat} {w : World} {r : Rq} {A0 A1 A2 A3 A4 : Option Addr} {A0n A0c A1n A1c A2n A2c A3n A3c A4n A4c : Nat} (h : RqAt n w r (.slice A0 A0n A0c) (.slice A1 A1n A1c) (.slice A2 A2n A2c) (.slice A3 A3n A3c) (.slice A4 A4n A4c)) (hn0 : -9223372036854775808 ≤ r.num) (hn1 : r.num ≤ 9223372036854775807) (hk : fitsQ n r = true → sameQ n r (bareQ r) = true → RFit r ∧ (r.kind = 3 → KdN n r.fil) ∧ (reqB n r).length ≤ 65536) :
    Calls Tryz.prog 15 #[.agg #[.int .i64 r.num, .int .i64 r.kind, sv r.dn, sv r.pass, .int .i64 r.scope, .int .i64 r.limit, .int .i64 r.fil.kind, sv r.fil.typ, sv r.fil.val, .slice A0 A0n A0c, .slice A1 A1n A1c, .slice A2 A2n A2c, .slice A3 A3n A3c, .slice A4 A4n A4c, sv r.rdn, .bool r.keep, .bool r.above, sv r.up, sv r.avt, sv r.avv, .int .i64 r.which]] w fun e w' => ∃ v', e = .returned (.tuple #[v', .int .i64 (if mayQ n r then 0 else 1)]) ∧ Own w' 5 v' ((if mayQ n r then reqB n r else []).map bv) ∧ Ext w w' := by
  have BP : Blk (w.alloc (.cells #[.int .i64 r.num, .int .i64 r.kind, sv r.dn, sv r.pass, .int .i64 r.scope, .int .i64 r.limit, .int .i64 r.fil.kind, sv r.fil.typ, sv r.fil.val, .slice A0 A0n A0c, .slice A1 A1n A1c, .slice A2 A2n A2c, .slice A3 A3n A3c, .slice A4 A4n A4c, sv r.rdn, .bool r.keep, .bool r.above, sv r.up, sv r.avt, sv r.avv, .int .i64 r.which] 32)) w.heap.size 32 #[.int .i64 r.num, .int .i64 r.kind, sv r.dn, sv r.pass, .int .i64 r.scope, .int .i64 r.limit, .int .i64 r.fil.kind, sv r.fil.typ, sv r.fil.val, .slice A0 A0n A0c, .slice A1 A1n A1c, .slice A2 A2n A2c, .slice A3 A3n A3c, .slice A4 A4n A4c, sv r.rdn, .bool r.keep, .bool r.above, sv r.up, sv r.avt, sv r.avv, .int .i64 r.which] := Blk.new w _ _
  have x0 : Ext w (w.alloc (.cells #[.int .i64 r.num, .int .i64 r.kind, sv r.dn, sv r.pass, .int .i64 r.scope, .int .i64 r.limit, .int .i64 r.fil.kind, sv r.fil.typ, sv r.fil.val, .slice A0 A0n A0c, .slice A1 A1n A1c, .slice A2 A2n A2c, .slice A3 A3n A3c, .slice A4 A4n A4c, sv r.rdn, .bool r.keep, .bool r.above, sv r.up, sv r.avt, sv r.avv, .int .i64 r.which] 32)) := (Mod.refl _ w).alloc _
  have hE := Lib.hid (encode25_any (h.ext x0) hn0 hn1 hk)
  obtain ⟨M, hM⟩ : ∃ M, M = mayQ n r := ⟨_, rfl⟩
  rw [← hM] at hE ⊢
  obtain ⟨Zr, hZr⟩ : ∃ Z, Z = reqB n r := ⟨_, rfl⟩
  rw [← hZr] at hE ⊢
  clear hk h hM hZr
  cases M
  all_goals
    go_enter Tryz.func15, Tryz.ntmps15
    go_wp2_with ((with_reducible show wpList _ _ _ (⟨some 7, _, _, _, _, _⟩ :: _) _ _); refine wpList_load_row rfl 32 (.tmp 1) rfl _ rfl _ _ _ _ BP Tryz.underlying32 rfl size21 ?_)
    refine hE.out.mono ?_
    rintro e w1 ⟨v1, rfl, o1, o2, x1⟩
  · obtain rfl := o2 (by first | rfl | trivial)
    go_wp2_with fail
    go_ret2
    exact ⟨_, rfl, Own.nil _ 5, ext_trans x0 x1⟩
  · replace o1 := o1 (by first | rfl | trivial)
    obtain ⟨A1, c1, hv1⟩ := o1.shape
    rw [List.length_map] at hv1
    subst hv1
    go_wp2_with fail
    go_ret2
    exact ⟨_, rfl, o1, ext_trans x0 x1⟩
set_option maxHeartbeats 8000000 in
theorem Is25_any {n : Nat} {w : World} {r : Rq} {A0 A1 A2 A3 A4 : Option Addr} {A0n A0c A1n A1c A2n A2c A3n A3c A4n A4c : Nat} (h : RqAt n w r (.slice A0 A0n A0c) (.slice A1 A1n A1c) (.slice A2 A2n A2c) (.slice A3 A3n A3c) (.slice A4 A4n A4c)) (hn0 : -9223372036854775808 ≤ r.num) (hn1 : r.num ≤ 9223372036854775807) (hk : fitsQ n r = true → sameQ n r (bareQ r) = true → RFit r ∧ (r.kind = 3 → KdN n r.fil) ∧ (reqB n r).length ≤ 65536) :
    Calls Tryz.prog 29 #[.agg #[.int .i64 r.num, .int .i64 r.kind, sv r.dn, sv r.pass, .int .i64 r.scope, .int .i64 r.limit, .int .i64 r.fil.kind, sv r.fil.typ, sv r.fil.val, .slice A0 A0n A0c, .slice A1 A1n A1c, .slice A2 A2n A2c, .slice A3 A3n A3c, .slice A4 A4n A4c, sv r.rdn, .bool r.keep, .bool r.above, sv r.up, sv r.avt, sv r.avv, .int .i64 r.which]] w fun e w' => e = .returned (.bool (mayQ n r)) ∧ Ext w w' := by
  have BP : Blk (w.alloc (.cells #[.int .i64 r.num, .int .i64 r.kind, sv r.dn, sv r.pass, .int .i64 r.scope, .int .i64 r.limit, .int .i64 r.fil.kind, sv r.fil.typ, sv r.fil.val, .slice A0 A0n A0c, .slice A1 A1n A1c, .slice A2 A2n A2c, .slice A3 A3n A3c, .slice A4 A4n A4c, sv r.rdn, .bool r.keep, .bool r.above, sv r.up, sv r.avt, sv r.avv, .int .i64 r.which] 32)) w.heap.size 32 #[.int .i64 r.num, .int .i64 r.kind, sv r.dn, sv r.pass, .int .i64 r.scope, .int .i64 r.limit, .int .i64 r.fil.kind, sv r.fil.typ, sv r.fil.val, .slice A0 A0n A0c, .slice A1 A1n A1c, .slice A2 A2n A2c, .slice A3 A3n A3c, .slice A4 A4n A4c, sv r.rdn, .bool r.keep, .bool r.above, sv r.up, sv r.avt, sv r.avv, .int .i64 r.which] := Blk.new w _ _
  have x0 : Ext w (w.alloc (.cells #[.int .i64 r.num, .int .i64 r.kind, sv r.dn, sv r.pass, .int .i64 r.scope, .int .i64 r.limit, .int .i64 r.fil.kind, sv r.fil.typ, sv r.fil.val, .slice A0 A0n A0c, .slice A1 A1n A1c, .slice A2 A2n A2c, .slice A3 A3n A3c, .slice A4 A4n A4c, sv r.rdn, .bool r.keep, .bool r.above, sv r.up, sv r.avt, sv r.avv, .int .i64 r.which] 32)) := (Mod.refl _ w).alloc _
  have hE := Lib.hid (encode25_any (h.ext x0) hn0 hn1 hk)
  obtain ⟨M, hM⟩ : ∃ M, M = mayQ n r := ⟨_, rfl⟩
  rw [← hM] at hE ⊢
  clear hk h hM
  go_enter Tryz.func29, Tryz.ntmps29
  go_wp2_with ((with_reducible show wpList _ _ _ (⟨some 6, _, _, _, _, _⟩ :: _) _ _); refine wpList_load_row rfl 32 (.tmp 1) rfl _ rfl _ _ _ _ BP Tryz.underlying32 rfl size21 ?_)
  refine hE.out.mono ?_
  rintro e w1 ⟨v1, rfl, -, -, x1⟩
  go_wp2_with fail
  go_ret
  exact ⟨rfl, ext_trans x0 x1⟩
end Go.Proofs.YtoockogceobfgaaGreat
