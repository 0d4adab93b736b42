/- msg: the document's operation and bytes of a request. -/
import Derived.Test.YtoockogceobfgaaGreatMgX
import Derived.Test.YtoockogceobfgaaGreatMgOcm
import Derived.Test.YtoockogceobfgaaGreatMgOd
namespace Go.Proofs.YtoockogceobfgaaGreat
open Go.RowKit
set_option maxRecDepth 100000

theorem rop25_any {n : Nat} {w : World} {r : Rq} {A0 A1 A2 A3 A4 : Option Addr} {A0n A0c A1n A1c A2n A2c A3n A3c A4n A4c : Nat} (h : RqAt n w r (.slice A0 A0n A0c) (.slice A1 A1n A1c) (.slice A2 A2n A2c) (.slice A3 A3n A3c) (.slice A4 A4n A4c)) (hf : RFit r) (ho : isOp r.kind) (hk : r.kind = 3 → KrN n r.fil) (hl : (bodyB n r).length ≤ 65536) :
    Calls Tryz.prog 74 #[.agg #[.int .i64 r.num, .int .i64 r.kind, sv r.dn, sv r.pass, .int .i64 r.scope, .int .i64 r.limit, .int .i64 r.fil.kind, sv r.fil.typ, sv r.fil.val, .slice A0 A0n A0c, .slice A1 A1n A1c, .slice A2 A2n A2c, .slice A3 A3n A3c, .slice A4 A4n A4c, sv r.rdn, .bool r.keep, .bool r.above, sv r.up, sv r.avt, sv r.avv, .int .i64 r.which]] w fun e w' => ∃ v', e = .returned v' ∧ Own w' 5 v' ((tlv (opT r.kind) (bodyB n r)).map bv) ∧ Fresh w.heap.size v' ∧ Ext w w' := by
  rcases ho with e | e | e | e | e | e | e | e | e
  · have hb : bodyB n r = nuB 2 3 ++ txB r.dn ++ tlv 128 r.pass := by unfold bodyB; rw [if_pos e]
    have ht : opT r.kind = 96 := by rw [e]; rfl
    rw [hb] at hl ⊢
    rw [ht, e]
    exact rop0_any hl
  · have hb : bodyB n r = [] := by unfold bodyB; rw [if_neg (by omega), if_neg (by omega), if_neg (by omega), if_neg (by omega), if_neg (by omega), if_neg (by omega), if_neg (by omega), if_neg (by omega)]
    have ht : opT r.kind = 66 := by rw [e]; rfl
    rw [hb] at hl ⊢
    rw [ht, e]
    exact rop2_any hl
  · have hb : bodyB n r = txB r.dn ++ nuB 10 r.scope ++ nuB 10 0 ++ nuB 2 r.limit ++ nuB 2 0 ++ boB false ++ filB n r.fil ++ txsB 48 r.want := by unfold bodyB; rw [if_neg (by omega), if_pos e]
    have ht : opT r.kind = 99 := by rw [e]; rfl
    rw [hb] at hl ⊢
    rw [ht, e]
    exact rop3_any (fun wx x => rf_any n (h.fil.ext x) (hk e) (by simp only [List.length_append] at hl ⊢; omega)) h.want hf.sc hf.li hl
  · have hb : bodyB n r = txB r.dn ++ tlv 48 (r.mods.flatMap mdB) := by unfold bodyB; rw [if_neg (by omega), if_neg (by omega), if_pos e]
    have ht : opT r.kind = 102 := by rw [e]; rfl
    rw [hb] at hl ⊢
    rw [ht, e]
    exact rop6_any h.mods hf.md hl
  · have hb : bodyB n r = txB r.dn ++ atsB r.ats := by unfold bodyB; rw [if_neg (by omega), if_neg (by omega), if_neg (by omega), if_pos e]
    have ht : opT r.kind = 104 := by rw [e]; rfl
    rw [hb] at hl ⊢
    rw [ht, e]
    exact rop8_any h.ats hl
  · have hb : bodyB n r = r.dn := by unfold bodyB; rw [if_neg (by omega), if_neg (by omega), if_neg (by omega), if_neg (by omega), if_pos e]
    have ht : opT r.kind = 74 := by rw [e]; rfl
    rw [hb] at hl ⊢
    rw [ht, e]
    exact rop10_any hl
  · have hb : bodyB n r = txB r.dn ++ txB r.rdn ++ boB (!r.keep) ++ (if r.above then tlv 128 r.up else []) := by unfold bodyB; rw [if_neg (by omega), if_neg (by omega), if_neg (by omega), if_neg (by omega), if_neg (by omega), if_pos e]
    have ht : opT r.kind = 108 := by rw [e]; rfl
    rw [hb] at hl ⊢
    rw [ht, e]
    exact rop12_any hl
  · have hb : bodyB n r = txB r.dn ++ tlv 48 (txB r.avt ++ txB r.avv) := by unfold bodyB; rw [if_neg (by omega), if_neg (by omega), if_neg (by omega), if_neg (by omega), if_neg (by omega), if_neg (by omega), if_pos e]
    have ht : opT r.kind = 110 := by rw [e]; rfl
    rw [hb] at hl ⊢
    rw [ht, e]
    exact rop14_any hl
  · have hb : bodyB n r = iB r.which := by unfold bodyB; rw [if_neg (by omega), if_neg (by omega), if_neg (by omega), if_neg (by omega), if_neg (by omega), if_neg (by omega), if_neg (by omega), if_pos e]
    have ht : opT r.kind = 80 := by rw [e]; rfl
    rw [hb] at hl ⊢
    rw [ht, e]
    exact rop16_any hf.wh.1 hf.wh.2 hl
set_option maxHeartbeats 16000000 in
theorem rbytes25_any {n : Nat} {w : World} {r : Rq} {A0 A1 A2 A3 A4 : Option Addr} {A0n A0c A1n A1c A2n A2c A3n A3c A4n A4c : Nat} (h : RqAt n w r (.slice A0 A0n A0c) (.slice A1 A1n A1c) (.slice A2 A2n A2c) (.slice A3 A3n A3c) (.slice A4 A4n A4c)) (hf : RFit r) (hn0 : -9223372036854775808 ≤ r.num) (hn1 : r.num ≤ 9223372036854775807) (ho : isOp r.kind) (hk : r.kind = 3 → KrN n r.fil) (hlz : (reqB n r).length ≤ 65536) :
    Calls Tryz.prog 46 #[.agg #[.int .i64 r.num, .int .i64 r.kind, sv r.dn, sv r.pass, .int .i64 r.scope, .int .i64 r.limit, .int .i64 r.fil.kind, sv r.fil.typ, sv r.fil.val, .slice A0 A0n A0c, .slice A1 A1n A1c, .slice A2 A2n A2c, .slice A3 A3n A3c, .slice A4 A4n A4c, sv r.rdn, .bool r.keep, .bool r.above, sv r.up, sv r.avt, sv r.avv, .int .i64 r.which]] w fun e w' => ∃ v', e = .returned v' ∧ Own w' 5 v' ((reqB n r).map bv) ∧ Fresh w.heap.size v' ∧ Ext w w' := by
  have hl1 := tlv_le (show (tlv 48 (nuB 2 r.num ++ tlv (opT r.kind) (bodyB n r))).length ≤ 65536 from hlz)
  have hl2 : (tlv (opT r.kind) (bodyB n r)).length ≤ 65536 := by rw [List.length_append] at hl1; omega
  have hl3 := tlv_le hl2
  have hop := fun {wx : World} (x : Ext w wx) => rop25_any (h.ext x) hf ho hk hl3
  have hnum := fun (wx : World) => rnum25_any (w := wx) 2 r.num hn0 hn1
  obtain ⟨Zr, hZr⟩ : ∃ Z, Z = reqB n r := ⟨_, rfl⟩
  rw [← hZr]
  replace hZr := Lib.hid (show tlv 48 (nuB 2 r.num ++ tlv (opT r.kind) (bodyB n r)) = Zr from hZr.symm)
  obtain ⟨X, hX⟩ : ∃ X, X = nuB 2 r.num := ⟨_, rfl⟩
  simp only [← hX] at hnum
  obtain ⟨D, hD⟩ : ∃ D, D = tlv (opT r.kind) (bodyB n r) := ⟨_, rfl⟩
  simp only [← hD] at hop
  rw [← hX, ← hD] at hl1
  have hZr2 : Hid (tlv 48 (X ++ D) = Zr) := Lib.hid (by rw [hX, hD]; exact hZr.out)
  have hfl : [X, D].flatten = X ++ D := by simp
  have htag : ∀ (wx : World) (S : Nat → Prop) (y : Value), Rw wx S y [X, D] → Calls Tryz.prog 72 #[.int .u8 48, y] wx fun e w' => ∃ v', e = .returned v' ∧ Own w' 5 v' (Zr.map bv) ∧ Fresh wx.heap.size v' ∧ Ext wx w' := fun wx S y hr => by
    have h := rtag25_any 48 hr (by rw [hfl]; exact hl1)
    rw [hfl, hZr2.out] at h
    exact h
  obtain ⟨w1, hw1⟩ : ∃ x, x = w.alloc (.cells #[.int .i64 r.num, .int .i64 r.kind, sv r.dn, sv r.pass, .int .i64 r.scope, .int .i64 r.limit, .int .i64 r.fil.kind, sv r.fil.typ, sv r.fil.val, .slice A0 A0n A0c, .slice A1 A1n A1c, .slice A2 A2n A2c, .slice A3 A3n A3c, .slice A4 A4n A4c, sv r.rdn, .bool r.keep, .bool r.above, sv r.up, sv r.avt, sv r.avv, .int .i64 r.which] 32) := ⟨_, rfl⟩
  obtain ⟨p, hp⟩ : ∃ p, p = w.heap.size := ⟨_, rfl⟩
  have x1 : Ext w w1 := by rw [hw1]; exact (Mod.refl _ w).alloc _
  have BP : Blk w1 p 32 #[.int .i64 r.num, .int .i64 r.kind, sv r.dn, sv r.pass, .int .i64 r.scope, .int .i64 r.limit, .int .i64 r.fil.kind, sv r.fil.typ, sv r.fil.val, .slice A0 A0n A0c, .slice A1 A1n A1c, .slice A2 A2n A2c, .slice A3 A3n A3c, .slice A4 A4n A4c, sv r.rdn, .bool r.keep, .bool r.above, sv r.up, sv r.avt, sv r.avv, .int .i64 r.which] := by rw [hw1, hp]; exact Blk.new w _ _
  have hcc : ∀ {wx : World}, Ext w1 wx → wx.cell? ⟨p, 0, none⟩ = some (.int .i64 r.num) ∧ wx.rangeAt p 0 [.int .i64 r.num, .int .i64 r.kind, sv r.dn, sv r.pass, .int .i64 r.scope, .int .i64 r.limit, .int .i64 r.fil.kind, sv r.fil.typ, sv r.fil.val, .slice A0 A0n A0c, .slice A1 A1n A1c, .slice A2 A2n A2c, .slice A3 A3n A3c, .slice A4 A4n A4c, sv r.rdn, .bool r.keep, .bool r.above, sv r.up, sv r.avt, sv r.avv, .int .i64 r.which] :=
    fun x => ⟨(BP.mod x (fun h => h)).cell 0, fun j v hj => by rw [Nat.zero_add, (BP.mod x (fun h => h)).cell]; simpa using hj⟩
  have z0 : Ext w1 w1.drew := (Mod.refl _ w1).drew
  replace hw1 := Lib.hid hw1
  replace hp := Lib.hid hp
  clear BP hX hD hl1 hl2 hl3 hlz hZr hZr2 hfl
  go_enter Tryz.func46, Tryz.ntmps46
  go_upto_region 1 with fail
  rw [← hw1.out, ← hp.out]
  clear hw1 hp
  refine wp_region_held_drew (S := fun wx => wx.cell? ⟨p, 0, none⟩ = some (.int .i64 r.num) ∧ wx.rangeAt p 0 [.int .i64 r.num, .int .i64 r.kind, sv r.dn, sv r.pass, .int .i64 r.scope, .int .i64 r.limit, .int .i64 r.fil.kind, sv r.fil.typ, sv r.fil.val, .slice A0 A0n A0c, .slice A1 A1n A1c, .slice A2 A2n A2c, .slice A3 A3n A3c, .slice A4 A4n A4c, sv r.rdn, .bool r.keep, .bool r.above, sv r.up, sv r.avt, sv r.avv, .int .i64 r.which]) (by kernel_rfl) (hcc z0) (fun hH => ?_)
  (refine wpAnyH_take (i := 0) (oi := ⟨_, _, _, _, _, _⟩) (v := ?_) rfl (by kernel_rfl) (by kernel_rfl) (by kernel_rfl) (fun _ _ _ h => h) (Or.inl ⟨by kernel_rfl, ?_⟩) hH ?_; rotate_left; focus (intro wx hSw; obtain ⟨hS0, -⟩ := hSw; go_simp; try with_reducible rfl)); try simp only [Act.put, List.setIfInBounds_toArray, List.set_cons_zero, List.set_cons_succ]; try simp only [List.getElem_toArray, List.getElem_cons_succ, List.getElem_cons_zero]
  (refine wpAnyH_take (i := 1) (oi := ⟨_, _, _, _, _, _⟩) (v := ?_) rfl (by kernel_rfl) (by kernel_rfl) (by kernel_rfl) (fun _ _ _ h => h) (Or.inl ⟨by kernel_rfl, ?_⟩) hH ?_; rotate_left; focus (intro wx hSw; obtain ⟨hS0, -⟩ := hSw; go_simp; try with_reducible rfl)); try simp only [Act.put, List.setIfInBounds_toArray, List.set_cons_zero, List.set_cons_succ]; try simp only [List.getElem_toArray, List.getElem_cons_succ, List.getElem_cons_zero]
  (refine wpAnyH_take (i := 3) (oi := ⟨_, _, _, _, _, _⟩) (v := .agg #[.int .i64 r.num, .int .i64 r.kind, sv r.dn, sv r.pass, .int .i64 r.scope, .int .i64 r.limit, .int .i64 r.fil.kind, sv r.fil.typ, sv r.fil.val, .slice A0 A0n A0c, .slice A1 A1n A1c, .slice A2 A2n A2c, .slice A3 A3n A3c, .slice A4 A4n A4c, sv r.rdn, .bool r.keep, .bool r.above, sv r.up, sv r.avt, sv r.avv, .int .i64 r.which]) rfl (by kernel_rfl) (by kernel_rfl) (by kernel_rfl) (fun _ _ _ h => h) (yieldsIf_load_mid (by rfl) 32 (.tmp 1) rfl p 0 rfl [.int .i64 r.num, .int .i64 r.kind, sv r.dn, sv r.pass, .int .i64 r.scope, .int .i64 r.limit, .int .i64 r.fil.kind, sv r.fil.typ, sv r.fil.val, .slice A0 A0n A0c, .slice A1 A1n A1c, .slice A2 A2n A2c, .slice A3 A3n A3c, .slice A4 A4n A4c, sv r.rdn, .bool r.keep, .bool r.above, sv r.up, sv r.avt, sv r.avv, .int .i64 r.which] _ (fun _ h => h.2) Tryz.underlying32 rfl (by kernel_rfl)) hH ?_); try simp only [Act.put, List.setIfInBounds_toArray, List.set_cons_zero, List.set_cons_succ]; try simp only [List.getElem_toArray, List.getElem_cons_succ, List.getElem_cons_zero]
  (refine wpAnyH_ready (rs := [2]) (by kernel_rfl) (by simp) ?_; refine AllReadyH.cons rfl (fun K' hK => ?_) AllReadyH.nil); go_simp
  refine (hnum _).mono ?_
  rintro e w2 ⟨v2, rfl, a1, a2, a3⟩
  have z1 := ext_trans z0 a3
  (go_wp2_with fail; refine hK.out _ _ (hcc z1) (fun hH => ?_); clear hK K'; try simp only [Act.put, List.setIfInBounds_toArray, List.set_cons_zero, List.set_cons_succ]; try simp only [List.getElem_toArray, List.getElem_cons_succ, List.getElem_cons_zero])
  (refine wpAnyH_ready (rs := [4]) (by kernel_rfl) (by simp) ?_; refine AllReadyH.cons rfl (fun K' hK => ?_) AllReadyH.nil); go_simp
  refine (hop (ext_trans x1 z1)).mono ?_
  rintro e w3 ⟨v3, rfl, b1, b2, b3⟩
  have z2 := ext_trans z1 b3
  obtain ⟨Aa, ca, ea⟩ := a1.shape
  obtain ⟨Ab, cb, eb⟩ := b1.shape
  rw [List.length_map] at ea eb
  subst ea eb
  have hr := Rw.two 22 (a1.mod b3 (fun _ _ h => h)).sl b1.sl
  have z3 := ext_trans z2 ((Mod.refl (fun _ => False) w3).alloc (.cells #[.slice Aa X.length ca, .slice Ab D.length cb] 22))
  (go_wp2_with fail; refine hK.out _ _ (hcc z2) (fun hH => ?_); clear hK K'; try simp only [Act.put, List.setIfInBounds_toArray, List.set_cons_zero, List.set_cons_succ]; try simp only [List.getElem_toArray, List.getElem_cons_succ, List.getElem_cons_zero])
  (refine wpAnyH_ready (rs := [5]) (by kernel_rfl) (by simp) ?_; refine AllReadyH.cons rfl (fun K' hK => ?_) AllReadyH.nil); go_simp
  (go_wp2_with fail; refine hK.out _ _ (hcc z3) (fun hH => ?_); clear hK K'; try simp only [Act.put, List.setIfInBounds_toArray, List.set_cons_zero, List.set_cons_succ]; try simp only [List.getElem_toArray, List.getElem_cons_succ, List.getElem_cons_zero])
  (refine wpAnyH_ready (rs := [6]) (by kernel_rfl) (by simp) ?_; refine AllReadyH.cons rfl (fun K' hK => ?_) AllReadyH.nil); go_simp
  refine (htag _ _ _ hr).mono ?_
  rintro e w4 ⟨v4, rfl, c1, c2, c3⟩
  have z4 := ext_trans z3 c3
  obtain ⟨Ac, cc, ec⟩ := c1.shape
  rw [List.length_map] at ec
  subst ec
  (go_wp2_with fail; refine hK.out _ _ (hcc z4) (fun hH => ?_); clear hK K'; try simp only [Act.put, List.setIfInBounds_toArray, List.set_cons_zero, List.set_cons_succ]; try simp only [List.getElem_toArray, List.getElem_cons_succ, List.getElem_cons_zero])
  (refine wpAnyH_take (i := 7) (oi := ⟨_, _, _, _, _, _⟩) (v := ?_) rfl (by kernel_rfl) (by kernel_rfl) (by kernel_rfl) (fun _ _ _ h => h) (Or.inl ⟨by kernel_rfl, ?_⟩) hH ?_; rotate_left; focus (intro wx hSw; obtain ⟨hS0, -⟩ := hSw; go_simp; try with_reducible rfl)); try simp only [Act.put, List.setIfInBounds_toArray, List.set_cons_zero, List.set_cons_succ]; try simp only [List.getElem_toArray, List.getElem_cons_succ, List.getElem_cons_zero]
  refine wpAnyH_done (by kernel_rfl) ?_ _
  clear hH hcc hop hnum htag a1 a3 b1 b3 hr
  go_wp2_with fail
  go_ret
  exact ⟨_, rfl, c1, fresh_le c2 (ext_trans x1 z3).size, ext_trans x1 z4⟩
end Go.Proofs.YtoockogceobfgaaGreat
