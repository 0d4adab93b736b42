/- msg: a filter's bytes. -/
import Derived.Test.YtoockogceobfgaaGreatMgEm
import Derived.Test.YtoockogceobfgaaGreatFlE
namespace Go.Proofs.YtoockogceobfgaaGreat
open Go.RowKit
set_option maxRecDepth 100000

theorem filB_succ (n : Nat) (F : Fi) : filB (n + 1) F = if F.kind = 7 then tlv 135 F.typ else
    if F.kind = 4 then tlv 164 (txB F.typ ++ tlv 48 (pieB F.subs).flatten) else
    if F.kind = 3 ∨ F.kind = 5 ∨ F.kind = 6 then tlv (UInt8.ofNat (160 + F.kind).toNat) (txB F.typ ++ txB F.val) else
    tlv (UInt8.ofNat (160 + F.kind).toNat) (F.kids.map (filB n)).flatten := rfl
/-- What the bytes of a filter ask of it. -/
def KdN : Nat → Fi → Prop
  | 0, _ => False
  | n + 1, F => 0 ≤ F.kind ∧ F.kind ≤ 7 ∧ F.typ.length ≤ 1000 ∧ F.subs.length ≤ 1000 ∧ F.kids.length ≤ 1000 ∧ ∀ K ∈ F.kids, KdN n K
def FbIH (n : Nat) : Prop := ∀ {w : World} {F : Fi} {vs vk : Value}, FilN n w F vs vk → KdN n F → (filB n F).length ≤ 65536 →
  Calls Tryz.prog 117 #[.agg #[.int .i64 F.kind, sv F.typ, sv F.val, vs, vk]] w fun e w' => ∃ v', e = .returned v' ∧ Own w' 5 v' ((filB n F).map bv) ∧ Fresh w.heap.size v' ∧ Ext w w'
theorem tlv_le {t : UInt8} {l : List UInt8} {m : Nat} (h : (tlv t l).length ≤ m) : l.length ≤ m := by
  simp only [tlv, List.length_append, List.length_cons] at h
  omega

set_option maxHeartbeats 32000000 in
theorem fb_step {n : Nat} (ih : FbIH n) {w : World} {F : Fi} {vs vk : Value} (h : FilN (n + 1) w F vs vk) (hk : KdN (n + 1) F) (hl : (filB (n + 1) F).length ≤ 65536) :
    Calls Tryz.prog 117 #[.agg #[.int .i64 F.kind, sv F.typ, sv F.val, vs, vk]] w fun e w' => ∃ v', e = .returned v' ∧ Own w' 5 v' ((filB (n + 1) F).map bv) ∧ Fresh w.heap.size v' ∧ Ext w w' := by
  have hax := fun {wx : World} (x : Ext w wx) => (h.ext x).open_
  obtain ⟨hb, ⟨A1, c1, e1⟩, hss, A2, c2, e2, -⟩ := h.open_
  subst e1 e2
  obtain ⟨k1, k2, k3, k4, k5, k6⟩ := hk
  rw [filB_succ] at hl ⊢
  have B0 : Blk (w.alloc (.cells #[.int .i64 F.kind, sv F.typ, sv F.val, .slice A1 F.subs.length c1, .slice A2 F.kids.length c2] 26)) w.heap.size 26 #[.int .i64 F.kind, sv F.typ, sv F.val, .slice A1 F.subs.length c1, .slice A2 F.kids.length c2] := Blk.new w _ _
  have x0 : Ext w (w.alloc (.cells #[.int .i64 F.kind, sv F.typ, sv F.val, .slice A1 F.subs.length c1, .slice A2 F.kids.length c2] 26)) := (Mod.refl _ w).alloc _
  have hkl : ∀ K ∈ F.kids, (filB n K).length ≤ (F.kids.map (filB n)).flatten.length := fun K hK => by
    obtain ⟨p, q, e⟩ := List.append_of_mem hK
    rw [e, List.map_append, List.map_cons, List.flatten_append, List.flatten_cons, List.length_append, List.length_append]
    omega
  clear h hb
  generalize F.kind = kd at *
  generalize F.typ = T at *
  generalize F.val = V at *
  generalize F.subs = B at *
  generalize F.kids = Ks at *
  by_cases h7 : kd = 7
  · subst h7
    rw [if_pos rfl] at hl ⊢
    clear hkl hax
    go_enter Tryz.func117, Tryz.ntmps117
    go_wp2_with fail
    refine (mtext_any 4 T (by omega)).mono ?_
    rintro e w1 ⟨v1, rfl, m1, m2, m3⟩
    have B1 := B0.mod m3 (fun h => h)
    have x1 := ext_trans x0 m3
    have p0 : w1.cell? ⟨w.heap.size, 0, none⟩ = some (.int .i64 7) := B1.cell 0
    have p1 : w1.cell? ⟨w.heap.size, 1, none⟩ = some (sv T) := B1.cell 1
    have p2 : w1.cell? ⟨w.heap.size, 2, none⟩ = some (sv V) := B1.cell 2
    have p3 : w1.cell? ⟨w.heap.size, 3, none⟩ = some (.slice A1 B.length c1) := B1.cell 3
    have p4 : w1.cell? ⟨w.heap.size, 4, none⟩ = some (.slice A2 Ks.length c2) := B1.cell 4
    replace m2 := fresh_le m2 x0.size
    clear B0 B1 x0 m3
    clear m1 m2
    go_wp2_with fail
    refine (mtext_any 135 T (by omega)).mono ?_
    rintro e w2 ⟨v2, rfl, q1, q2, q3⟩
    go_wp2_with fail
    go_ret
    exact ⟨_, rfl, q1, fresh_le q2 x1.size, ext_trans x1 q3⟩
  rw [if_neg h7] at hl ⊢
  by_cases h4 : kd = 4
  · subst h4
    rw [if_pos rfl] at hl ⊢
    have hl2 := tlv_le hl
    rw [List.length_append] at hl2
    have hl3 : (tlv 48 (pieB B).flatten).length ≤ 65536 := by omega
    have hl4 := tlv_le hl3
    clear hkl hax h7 hl
    generalize hX : txB T = X at *
    obtain ⟨Y, hY⟩ : ∃ Y, Y = tlv 48 (pieB B).flatten := ⟨_, rfl⟩
    rw [← hY] at hl2 hl3 ⊢
    replace hX := Lib.hid hX
    replace hY := Lib.hid hY
    go_enter Tryz.func117, Tryz.ntmps117
    go_wp2_with fail
    refine (mtext_any 4 T (by omega)).mono ?_
    rintro e w1 ⟨v1, rfl, m1, m2, m3⟩
    have B1 := B0.mod m3 (fun h => h)
    have x1 := ext_trans x0 m3
    have p0 : w1.cell? ⟨w.heap.size, 0, none⟩ = some (.int .i64 4) := B1.cell 0
    have p1 : w1.cell? ⟨w.heap.size, 1, none⟩ = some (sv T) := B1.cell 1
    have p2 : w1.cell? ⟨w.heap.size, 2, none⟩ = some (sv V) := B1.cell 2
    have p3 : w1.cell? ⟨w.heap.size, 3, none⟩ = some (.slice A1 B.length c1) := B1.cell 3
    have p4 : w1.cell? ⟨w.heap.size, 4, none⟩ = some (.slice A2 Ks.length c2) := B1.cell 4
    replace m2 := fresh_le m2 x0.size
    clear B0 B1 x0 m3
    change Own w1 _ v1 ((txB T).map bv) at m1
    rw [hX.out] at m1
    obtain ⟨A3, c3, e3⟩ := m1.shape
    rw [List.length_map] at e3
    subst e3
    go_wp2_with fail
    refine (pieces_any (hss.ext x1) (by omega) hl4).mono ?_
    rintro e w2 ⟨v2, vs2, rfl, q1, q2⟩
    have x2 := ext_trans x1 q2
    obtain ⟨A4, c4, e4⟩ := q1.own.shape
    subst e4
    go_wp2_with fail
    refine (tag_any 48 q1.rw hl4).mono ?_
    rintro e w3 ⟨v3, rfl, r1, r2, r3⟩
    have x3 := ext_trans x2 r3
    change Own w3 _ v3 ((tlv 48 (pieB B).flatten).map bv) at r1
    rw [← hY.out] at r1
    obtain ⟨A5, c5, e5⟩ := r1.shape
    rw [List.length_map] at e5
    subst e5
    have m5 := (m1.mod (ext_trans q2 r3) (fun _ _ h => h))
    have hr := Rw.two 22 m5.sl r1.sl
    have x4 := ext_trans x3 ((Mod.refl (fun _ => False) w3).alloc (.cells #[.slice A3 X.length c3, .slice A5 Y.length c5] 22))
    have hfl : [X, Y].flatten = X ++ Y := by simp
    clear hl3 hl4
    go_wp2_with fail
    refine (tag_any 164 hr (by rw [hfl, List.length_append]; omega)).mono ?_
    rintro e w5 ⟨v5, rfl, s1, s2, s3⟩
    rw [hfl] at s1
    go_wp2_with fail
    go_ret
    exact ⟨_, rfl, s1, fresh_le s2 x4.size, ext_trans x4 s3⟩
  rw [if_neg h4] at hl ⊢
  by_cases h3 : kd = 3 ∨ kd = 5 ∨ kd = 6
  · rw [if_pos h3] at hl ⊢
    have hl2 := tlv_le hl
    rw [List.length_append] at hl2
    have hl3 : V.length ≤ 65536 := tlv_le (t := 4) (show (txB V).length ≤ 65536 by omega)
    clear hkl hax h7 h4 hl
    generalize hX : txB T = X at *
    generalize hY : txB V = Y at *
    replace hX := Lib.hid hX
    replace hY := Lib.hid hY
    rcases h3 with rfl | rfl | rfl
    · rw [show UInt8.ofNat (160 + (3 : Int)).toNat = 163 from rfl]
      go_enter Tryz.func117, Tryz.ntmps117
      go_wp2_with fail
      refine (mtext_any 4 T (by omega)).mono ?_
      rintro e w1 ⟨v1, rfl, m1, m2, m3⟩
      have B1 := B0.mod m3 (fun h => h)
      have x1 := ext_trans x0 m3
      have p0 : w1.cell? ⟨w.heap.size, 0, none⟩ = some (.int .i64 3) := B1.cell 0
      have p1 : w1.cell? ⟨w.heap.size, 1, none⟩ = some (sv T) := B1.cell 1
      have p2 : w1.cell? ⟨w.heap.size, 2, none⟩ = some (sv V) := B1.cell 2
      have p3 : w1.cell? ⟨w.heap.size, 3, none⟩ = some (.slice A1 B.length c1) := B1.cell 3
      have p4 : w1.cell? ⟨w.heap.size, 4, none⟩ = some (.slice A2 Ks.length c2) := B1.cell 4
      replace m2 := fresh_le m2 x0.size
      clear B0 B1 x0 m3
      change Own w1 _ v1 ((txB T).map bv) at m1
      rw [hX.out] at m1
      obtain ⟨A3, c3, e3⟩ := m1.shape
      rw [List.length_map] at e3
      subst e3
      go_wp2_with fail
      refine (mtext_any 4 V (by omega)).mono ?_
      rintro e w3 ⟨v3, rfl, r1, r2, r3⟩
      have x3 := ext_trans x1 r3
      change Own w3 _ v3 ((txB V).map bv) at r1
      rw [hY.out] at r1
      obtain ⟨A5, c5, e5⟩ := r1.shape
      rw [List.length_map] at e5
      subst e5
      have m5 := (m1.mod r3 (fun _ _ h => h))
      have hr := Rw.two 22 m5.sl r1.sl
      have x4 := ext_trans x3 ((Mod.refl (fun _ => False) w3).alloc (.cells #[.slice A3 X.length c3, .slice A5 Y.length c5] 22))
      have hfl : [X, Y].flatten = X ++ Y := by simp
      go_wp2_with fail
      refine (tag_any 163 hr (by rw [hfl, List.length_append]; omega)).mono ?_
      rintro e w5 ⟨v5, rfl, s1, s2, s3⟩
      rw [hfl] at s1
      go_wp2_with fail
      go_ret
      exact ⟨_, rfl, s1, fresh_le s2 x4.size, ext_trans x4 s3⟩
    · rw [show UInt8.ofNat (160 + (5 : Int)).toNat = 165 from rfl]
      go_enter Tryz.func117, Tryz.ntmps117
      go_wp2_with fail
      refine (mtext_any 4 T (by omega)).mono ?_
      rintro e w1 ⟨v1, rfl, m1, m2, m3⟩
      have B1 := B0.mod m3 (fun h => h)
      have x1 := ext_trans x0 m3
      have p0 : w1.cell? ⟨w.heap.size, 0, none⟩ = some (.int .i64 5) := B1.cell 0
      have p1 : w1.cell? ⟨w.heap.size, 1, none⟩ = some (sv T) := B1.cell 1
      have p2 : w1.cell? ⟨w.heap.size, 2, none⟩ = some (sv V) := B1.cell 2
      have p3 : w1.cell? ⟨w.heap.size, 3, none⟩ = some (.slice A1 B.length c1) := B1.cell 3
      have p4 : w1.cell? ⟨w.heap.size, 4, none⟩ = some (.slice A2 Ks.length c2) := B1.cell 4
      replace m2 := fresh_le m2 x0.size
      clear B0 B1 x0 m3
      change Own w1 _ v1 ((txB T).map bv) at m1
      rw [hX.out] at m1
      obtain ⟨A3, c3, e3⟩ := m1.shape
      rw [List.length_map] at e3
      subst e3
      go_wp2_with fail
      refine (mtext_any 4 V (by omega)).mono ?_
      rintro e w3 ⟨v3, rfl, r1, r2, r3⟩
      have x3 := ext_trans x1 r3
      change Own w3 _ v3 ((txB V).map bv) at r1
      rw [hY.out] at r1
      obtain ⟨A5, c5, e5⟩ := r1.shape
      rw [List.length_map] at e5
      subst e5
      have m5 := (m1.mod r3 (fun _ _ h => h))
      have hr := Rw.two 22 m5.sl r1.sl
      have x4 := ext_trans x3 ((Mod.refl (fun _ => False) w3).alloc (.cells #[.slice A3 X.length c3, .slice A5 Y.length c5] 22))
      have hfl : [X, Y].flatten = X ++ Y := by simp
      go_wp2_with fail
      refine (tag_any 165 hr (by rw [hfl, List.length_append]; omega)).mono ?_
      rintro e w5 ⟨v5, rfl, s1, s2, s3⟩
      rw [hfl] at s1
      go_wp2_with fail
      go_ret
      exact ⟨_, rfl, s1, fresh_le s2 x4.size, ext_trans x4 s3⟩
    · rw [show UInt8.ofNat (160 + (6 : Int)).toNat = 166 from rfl]
      go_enter Tryz.func117, Tryz.ntmps117
      go_wp2_with fail
      refine (mtext_any 4 T (by omega)).mono ?_
      rintro e w1 ⟨v1, rfl, m1, m2, m3⟩
      have B1 := B0.mod m3 (fun h => h)
      have x1 := ext_trans x0 m3
      have p0 : w1.cell? ⟨w.heap.size, 0, none⟩ = some (.int .i64 6) := B1.cell 0
      have p1 : w1.cell? ⟨w.heap.size, 1, none⟩ = some (sv T) := B1.cell 1
      have p2 : w1.cell? ⟨w.heap.size, 2, none⟩ = some (sv V) := B1.cell 2
      have p3 : w1.cell? ⟨w.heap.size, 3, none⟩ = some (.slice A1 B.length c1) := B1.cell 3
      have p4 : w1.cell? ⟨w.heap.size, 4, none⟩ = some (.slice A2 Ks.length c2) := B1.cell 4
      replace m2 := fresh_le m2 x0.size
      clear B0 B1 x0 m3
      change Own w1 _ v1 ((txB T).map bv) at m1
      rw [hX.out] at m1
      obtain ⟨A3, c3, e3⟩ := m1.shape
      rw [List.length_map] at e3
      subst e3
      go_wp2_with fail
      refine (mtext_any 4 V (by omega)).mono ?_
      rintro e w3 ⟨v3, rfl, r1, r2, r3⟩
      have x3 := ext_trans x1 r3
      change Own w3 _ v3 ((txB V).map bv) at r1
      rw [hY.out] at r1
      obtain ⟨A5, c5, e5⟩ := r1.shape
      rw [List.length_map] at e5
      subst e5
      have m5 := (m1.mod r3 (fun _ _ h => h))
      have hr := Rw.two 22 m5.sl r1.sl
      have x4 := ext_trans x3 ((Mod.refl (fun _ => False) w3).alloc (.cells #[.slice A3 X.length c3, .slice A5 Y.length c5] 22))
      have hfl : [X, Y].flatten = X ++ Y := by simp
      go_wp2_with fail
      refine (tag_any 166 hr (by rw [hfl, List.length_append]; omega)).mono ?_
      rintro e w5 ⟨v5, rfl, s1, s2, s3⟩
      rw [hfl] at s1
      go_wp2_with fail
      go_ret
      exact ⟨_, rfl, s1, fresh_le s2 x4.size, ext_trans x4 s3⟩
  rw [if_neg h3] at hl ⊢
  have hl2 := tlv_le hl
  have hkd : kd = 0 ∨ kd = 1 ∨ kd = 2 := by omega
  clear h7 h4 h3 hl k1 k2 hss
  obtain ⟨q, hq⟩ : ∃ q, q = Ks.length := ⟨_, rfl⟩
  rw [← hq] at k5 B0 x0 ⊢
  replace hq := Lib.hid hq
  have hkl2 : ∀ K ∈ Ks, (filB n K).length ≤ 65536 := fun K hK => Nat.le_trans (hkl K hK) hl2
  clear hkl
  have hkl := hkl2
  clear hkl2
  rcases hkd with rfl | rfl | rfl
  · rw [show UInt8.ofNat (160 + (0 : Int)).toNat = 160 from rfl]
    go_enter Tryz.func117, Tryz.ntmps117
    go_wp2_with fail
    refine (mtext_any 4 T (by omega)).mono ?_
    rintro e w1 ⟨v1, rfl, m1, m2, m3⟩
    have B1 := B0.mod m3 (fun h => h)
    have x1 := ext_trans x0 m3
    have p0 : w1.cell? ⟨w.heap.size, 0, none⟩ = some (.int .i64 0) := B1.cell 0
    have p1 : w1.cell? ⟨w.heap.size, 1, none⟩ = some (sv T) := B1.cell 1
    have p2 : w1.cell? ⟨w.heap.size, 2, none⟩ = some (sv V) := B1.cell 2
    have p3 : w1.cell? ⟨w.heap.size, 3, none⟩ = some (.slice A1 B.length c1) := B1.cell 3
    have p4 : w1.cell? ⟨w.heap.size, 4, none⟩ = some (.slice A2 q c2) := B1.cell 4
    replace m2 := fresh_le m2 x0.size
    clear B0 B1 x0 m3
    clear m1 m2 p1 p2 p3
    go_wp2_with fail
    go_loopw [5, 48] (fun v i wr => ∃ (vs : List Value) (k : Nat), i = .int .i64 k ∧ k ≤ q ∧ Orw wr w.heap.size v vs ((Ks.take k).map (filB n)) ∧ Ext w wr) (fun _ i _ => q - (intOf i).toNat)
    case atStart => exact ⟨[], 0, rfl, Nat.zero_le _, Orw.nil _ _, x1⟩
    case round =>
      clear x1 p0 p4
      obtain ⟨vs, k, rfl, hkq, ho, hx⟩ := hrel
      have hqq := hq.out
      by_cases hlt : k < q
      · have hb : decide ((k : Int) < (q : Int)) = true := dtrue (by omega)
        obtain ⟨-, -, -, A', c', hv, hat⟩ := hax hx
        obtain ⟨ad, ys, yk, hA, d0, d1, d2, d3, d4, hf⟩ := hat k (by omega)
        injection hv with hv1 hv2 hv3
        subst hv1
        subst hv3
        subst hA
        clear hv2 hat
        have hmem : Ks[k]'(by omega) ∈ Ks := List.getElem_mem _
        have hkk := k6 _ hmem
        have hkb := hkl _ hmem
        have hmp : (Ks.take (k + 1)).map (filB n) = (Ks.take k).map (filB n) ++ [filB n (Ks[k]'(by omega))] := by
          rw [List.take_succ_eq_append_getElem (by omega), List.map_append]; rfl
        generalize Ks[k]'(by omega) = a at *
        have hvl2 := Lib.hid (show vs.length ≤ k by rw [ho.len, List.length_map, List.length_take]; omega)
        have hk0 : (0 : Int) ≤ (k : Int) := by omega
        have hk1 : (k : Int) < (q : Int) := by omega
        obtain ⟨M, hM⟩ : ∃ M, M = (Ks.take k).map (filB n) := ⟨_, rfl⟩
        rw [← hM] at ho hmp
        have hmp2 := Lib.hid hmp
        obtain ⟨⟨Y1, Y2, Y3, rfl⟩, Z1, Z2, Z3, rfl⟩ := hf.shape
        have hcall := fun (wx : World) (x : Ext _ wx) => ih (hf.ext x) hkk (by omega)
        generalize a.kind = ak at *
        generalize a.typ = at_ at *
        generalize a.val = av at *
        generalize filB n a = X at *
        clear hmp hM hqq hax hkl k6 hkk hkb hmem hf hlt
        go_wp2_with fail
        refine (hcall _ ((Mod.refl (fun _ => False) _).alloc _)).mono ?_
        rintro e w1 ⟨v1, rfl, m1, m2, m3⟩
        have y0 := (Mod.refl (fun _ => False) wr).alloc (.cells #[.int .i64 ak, sv at_, sv av, .slice Y1 Y2 Y3, .slice Z1 Z2 Z3] 26)
        have hx0 := ext_trans hx y0
        obtain ⟨A1, c1, e1⟩ := m1.shape
        rw [List.length_map] at e1
        subst e1
        have hx1 := ext_trans hx0 m3
        have ho1 := ho.ext (ext_trans y0 m3)
        have ho2 := ho1.ext ((Mod.refl (fun _ => False) w1).alloc (.cells #[.slice A1 X.length c1] 22))
        have hx2 := ext_trans hx1 ((Mod.refl (fun _ => False) w1).alloc (.cells #[.slice A1 X.length c1] 22))
        have m4 := m1.alloc (.cells #[.slice A1 X.length c1] 22)
        have hsl := Sl.one w1 22 (.slice A1 X.length c1)
        have m5 := fresh_le m2 hx0.size
        clear hcall
        go_wp2_with ((with_reducible show wpList _ _ _ (⟨some 56, _, _, _, _, _⟩ :: _) _ _); refine wp_app tyR ho2.own hsl (one_ok _ rfl) rfl (.tmp 52) (.tmp 55) rfl rfl rfl (by have := hvl2.out; simp only [List.length_singleton]; omega) ?_; intro v4 w4 q1 q2 q3)
        have ho3 := ho2.snoc q1 q2 q3 m4 m5 hx2.size
        rw [← hmp2.out] at ho3
        have hx4 : Ext w w4 := hx2.trans q2 (fun _ _ h => h) (fun b hb h => by have := ho2.fresh b h; omega)
        exact ⟨⟨_, k + 1, by go_num, by omega, ho3, hx4⟩, by simp [intOf] <;> omega⟩
      · have hb : decide ((k : Int) < (q : Int)) = false := dfalse (by omega)
        have hkn : k = q := by omega
        subst hkn
        have hr := ho.rw
        rw [hqq, List.take_length] at hr
        clear hax hqq hkl k6
        go_wp2_with fail
        refine (tag_any 160 hr hl2).mono ?_
        rintro e w2 ⟨v2, rfl, m1, m2, m3⟩
        go_wp2_with fail
        go_ret
        exact ⟨_, rfl, m1, fresh_le m2 hx.size, ext_trans hx m3⟩
  · rw [show UInt8.ofNat (160 + (1 : Int)).toNat = 161 from rfl]
    go_enter Tryz.func117, Tryz.ntmps117
    go_wp2_with fail
    refine (mtext_any 4 T (by omega)).mono ?_
    rintro e w1 ⟨v1, rfl, m1, m2, m3⟩
    have B1 := B0.mod m3 (fun h => h)
    have x1 := ext_trans x0 m3
    have p0 : w1.cell? ⟨w.heap.size, 0, none⟩ = some (.int .i64 1) := B1.cell 0
    have p1 : w1.cell? ⟨w.heap.size, 1, none⟩ = some (sv T) := B1.cell 1
    have p2 : w1.cell? ⟨w.heap.size, 2, none⟩ = some (sv V) := B1.cell 2
    have p3 : w1.cell? ⟨w.heap.size, 3, none⟩ = some (.slice A1 B.length c1) := B1.cell 3
    have p4 : w1.cell? ⟨w.heap.size, 4, none⟩ = some (.slice A2 q c2) := B1.cell 4
    replace m2 := fresh_le m2 x0.size
    clear B0 B1 x0 m3
    clear m1 m2 p1 p2 p3
    go_wp2_with fail
    go_loopw [5, 48] (fun v i wr => ∃ (vs : List Value) (k : Nat), i = .int .i64 k ∧ k ≤ q ∧ Orw wr w.heap.size v vs ((Ks.take k).map (filB n)) ∧ Ext w wr) (fun _ i _ => q - (intOf i).toNat)
    case atStart => exact ⟨[], 0, rfl, Nat.zero_le _, Orw.nil _ _, x1⟩
    case round =>
      clear x1 p0 p4
      obtain ⟨vs, k, rfl, hkq, ho, hx⟩ := hrel
      have hqq := hq.out
      by_cases hlt : k < q
      · have hb : decide ((k : Int) < (q : Int)) = true := dtrue (by omega)
        obtain ⟨-, -, -, A', c', hv, hat⟩ := hax hx
        obtain ⟨ad, ys, yk, hA, d0, d1, d2, d3, d4, hf⟩ := hat k (by omega)
        injection hv with hv1 hv2 hv3
        subst hv1
        subst hv3
        subst hA
        clear hv2 hat
        have hmem : Ks[k]'(by omega) ∈ Ks := List.getElem_mem _
        have hkk := k6 _ hmem
        have hkb := hkl _ hmem
        have hmp : (Ks.take (k + 1)).map (filB n) = (Ks.take k).map (filB n) ++ [filB n (Ks[k]'(by omega))] := by
          rw [List.take_succ_eq_append_getElem (by omega), List.map_append]; rfl
        generalize Ks[k]'(by omega) = a at *
        have hvl2 := Lib.hid (show vs.length ≤ k by rw [ho.len, List.length_map, List.length_take]; omega)
        have hk0 : (0 : Int) ≤ (k : Int) := by omega
        have hk1 : (k : Int) < (q : Int) := by omega
        obtain ⟨M, hM⟩ : ∃ M, M = (Ks.take k).map (filB n) := ⟨_, rfl⟩
        rw [← hM] at ho hmp
        have hmp2 := Lib.hid hmp
        obtain ⟨⟨Y1, Y2, Y3, rfl⟩, Z1, Z2, Z3, rfl⟩ := hf.shape
        have hcall := fun (wx : World) (x : Ext _ wx) => ih (hf.ext x) hkk (by omega)
        generalize a.kind = ak at *
        generalize a.typ = at_ at *
        generalize a.val = av at *
        generalize filB n a = X at *
        clear hmp hM hqq hax hkl k6 hkk hkb hmem hf hlt
        go_wp2_with fail
        refine (hcall _ ((Mod.refl (fun _ => False) _).alloc _)).mono ?_
        rintro e w1 ⟨v1, rfl, m1, m2, m3⟩
        have y0 := (Mod.refl (fun _ => False) wr).alloc (.cells #[.int .i64 ak, sv at_, sv av, .slice Y1 Y2 Y3, .slice Z1 Z2 Z3] 26)
        have hx0 := ext_trans hx y0
        obtain ⟨A1, c1, e1⟩ := m1.shape
        rw [List.length_map] at e1
        subst e1
        have hx1 := ext_trans hx0 m3
        have ho1 := ho.ext (ext_trans y0 m3)
        have ho2 := ho1.ext ((Mod.refl (fun _ => False) w1).alloc (.cells #[.slice A1 X.length c1] 22))
        have hx2 := ext_trans hx1 ((Mod.refl (fun _ => False) w1).alloc (.cells #[.slice A1 X.length c1] 22))
        have m4 := m1.alloc (.cells #[.slice A1 X.length c1] 22)
        have hsl := Sl.one w1 22 (.slice A1 X.length c1)
        have m5 := fresh_le m2 hx0.size
        clear hcall
        go_wp2_with ((with_reducible show wpList _ _ _ (⟨some 56, _, _, _, _, _⟩ :: _) _ _); refine wp_app tyR ho2.own hsl (one_ok _ rfl) rfl (.tmp 52) (.tmp 55) rfl rfl rfl (by have := hvl2.out; simp only [List.length_singleton]; omega) ?_; intro v4 w4 q1 q2 q3)
        have ho3 := ho2.snoc q1 q2 q3 m4 m5 hx2.size
        rw [← hmp2.out] at ho3
        have hx4 : Ext w w4 := hx2.trans q2 (fun _ _ h => h) (fun b hb h => by have := ho2.fresh b h; omega)
        exact ⟨⟨_, k + 1, by go_num, by omega, ho3, hx4⟩, by simp [intOf] <;> omega⟩
      · have hb : decide ((k : Int) < (q : Int)) = false := dfalse (by omega)
        have hkn : k = q := by omega
        subst hkn
        have hr := ho.rw
        rw [hqq, List.take_length] at hr
        clear hax hqq hkl k6
        go_wp2_with fail
        refine (tag_any 161 hr hl2).mono ?_
        rintro e w2 ⟨v2, rfl, m1, m2, m3⟩
        go_wp2_with fail
        go_ret
        exact ⟨_, rfl, m1, fresh_le m2 hx.size, ext_trans hx m3⟩
  · rw [show UInt8.ofNat (160 + (2 : Int)).toNat = 162 from rfl]
    go_enter Tryz.func117, Tryz.ntmps117
    go_wp2_with fail
    refine (mtext_any 4 T (by omega)).mono ?_
    rintro e w1 ⟨v1, rfl, m1, m2, m3⟩
    have B1 := B0.mod m3 (fun h => h)
    have x1 := ext_trans x0 m3
    have p0 : w1.cell? ⟨w.heap.size, 0, none⟩ = some (.int .i64 2) := B1.cell 0
    have p1 : w1.cell? ⟨w.heap.size, 1, none⟩ = some (sv T) := B1.cell 1
    have p2 : w1.cell? ⟨w.heap.size, 2, none⟩ = some (sv V) := B1.cell 2
    have p3 : w1.cell? ⟨w.heap.size, 3, none⟩ = some (.slice A1 B.length c1) := B1.cell 3
    have p4 : w1.cell? ⟨w.heap.size, 4, none⟩ = some (.slice A2 q c2) := B1.cell 4
    replace m2 := fresh_le m2 x0.size
    clear B0 B1 x0 m3
    clear m1 m2 p1 p2 p3
    go_wp2_with fail
    go_loopw [5, 48] (fun v i wr => ∃ (vs : List Value) (k : Nat), i = .int .i64 k ∧ k ≤ q ∧ Orw wr w.heap.size v vs ((Ks.take k).map (filB n)) ∧ Ext w wr) (fun _ i _ => q - (intOf i).toNat)
    case atStart => exact ⟨[], 0, rfl, Nat.zero_le _, Orw.nil _ _, x1⟩
    case round =>
      clear x1 p0 p4
      obtain ⟨vs, k, rfl, hkq, ho, hx⟩ := hrel
      have hqq := hq.out
      by_cases hlt : k < q
      · have hb : decide ((k : Int) < (q : Int)) = true := dtrue (by omega)
        obtain ⟨-, -, -, A', c', hv, hat⟩ := hax hx
        obtain ⟨ad, ys, yk, hA, d0, d1, d2, d3, d4, hf⟩ := hat k (by omega)
        injection hv with hv1 hv2 hv3
        subst hv1
        subst hv3
        subst hA
        clear hv2 hat
        have hmem : Ks[k]'(by omega) ∈ Ks := List.getElem_mem _
        have hkk := k6 _ hmem
        have hkb := hkl _ hmem
        have hmp : (Ks.take (k + 1)).map (filB n) = (Ks.take k).map (filB n) ++ [filB n (Ks[k]'(by omega))] := by
          rw [List.take_succ_eq_append_getElem (by omega), List.map_append]; rfl
        generalize Ks[k]'(by omega) = a at *
        have hvl2 := Lib.hid (show vs.length ≤ k by rw [ho.len, List.length_map, List.length_take]; omega)
        have hk0 : (0 : Int) ≤ (k : Int) := by omega
        have hk1 : (k : Int) < (q : Int) := by omega
        obtain ⟨M, hM⟩ : ∃ M, M = (Ks.take k).map (filB n) := ⟨_, rfl⟩
        rw [← hM] at ho hmp
        have hmp2 := Lib.hid hmp
        obtain ⟨⟨Y1, Y2, Y3, rfl⟩, Z1, Z2, Z3, rfl⟩ := hf.shape
        have hcall := fun (wx : World) (x : Ext _ wx) => ih (hf.ext x) hkk (by omega)
        generalize a.kind = ak at *
        generalize a.typ = at_ at *
        generalize a.val = av at *
        generalize filB n a = X at *
        clear hmp hM hqq hax hkl k6 hkk hkb hmem hf hlt
        go_wp2_with fail
        refine (hcall _ ((Mod.refl (fun _ => False) _).alloc _)).mono ?_
        rintro e w1 ⟨v1, rfl, m1, m2, m3⟩
        have y0 := (Mod.refl (fun _ => False) wr).alloc (.cells #[.int .i64 ak, sv at_, sv av, .slice Y1 Y2 Y3, .slice Z1 Z2 Z3] 26)
        have hx0 := ext_trans hx y0
        obtain ⟨A1, c1, e1⟩ := m1.shape
        rw [List.length_map] at e1
        subst e1
        have hx1 := ext_trans hx0 m3
        have ho1 := ho.ext (ext_trans y0 m3)
        have ho2 := ho1.ext ((Mod.refl (fun _ => False) w1).alloc (.cells #[.slice A1 X.length c1] 22))
        have hx2 := ext_trans hx1 ((Mod.refl (fun _ => False) w1).alloc (.cells #[.slice A1 X.length c1] 22))
        have m4 := m1.alloc (.cells #[.slice A1 X.length c1] 22)
        have hsl := Sl.one w1 22 (.slice A1 X.length c1)
        have m5 := fresh_le m2 hx0.size
        clear hcall
        go_wp2_with ((with_reducible show wpList _ _ _ (⟨some 56, _, _, _, _, _⟩ :: _) _ _); refine wp_app tyR ho2.own hsl (one_ok _ rfl) rfl (.tmp 52) (.tmp 55) rfl rfl rfl (by have := hvl2.out; simp only [List.length_singleton]; omega) ?_; intro v4 w4 q1 q2 q3)
        have ho3 := ho2.snoc q1 q2 q3 m4 m5 hx2.size
        rw [← hmp2.out] at ho3
        have hx4 : Ext w w4 := hx2.trans q2 (fun _ _ h => h) (fun b hb h => by have := ho2.fresh b h; omega)
        exact ⟨⟨_, k + 1, by go_num, by omega, ho3, hx4⟩, by simp [intOf] <;> omega⟩
      · have hb : decide ((k : Int) < (q : Int)) = false := dfalse (by omega)
        have hkn : k = q := by omega
        subst hkn
        have hr := ho.rw
        rw [hqq, List.take_length] at hr
        clear hax hqq hkl k6
        go_wp2_with fail
        refine (tag_any 162 hr hl2).mono ?_
        rintro e w2 ⟨v2, rfl, m1, m2, m3⟩
        go_wp2_with fail
        go_ret
        exact ⟨_, rfl, m1, fresh_le m2 hx.size, ext_trans hx m3⟩

theorem fb_any : ∀ n, FbIH n
  | 0 => fun h => h.elim
  | n + 1 => fb_step (fb_any n)
end Go.Proofs.YtoockogceobfgaaGreat
