/- msg: changes in memory; the bodies of Unbind, Add, Delete and Abandon. -/
import Derived.Test.YtoockogceobfgaaGreatMgF
import Derived.Deep.RegionHeld3
import Derived.Test.YtoockogceobfgaaGreatRegAm
namespace Go.Proofs.YtoockogceobfgaaGreat
open Go.RowKit
set_option maxRecDepth 100000

theorem Own.late {w : World} {B : Nat} {v : Value} {l : List UInt8} (h : Own w 5 v (l.map bv)) (hf : Fresh B v) : Bs w (fun k => B ≤ k) v l := Sl.mono h.sl (fun k _ hk => hf k hk)
abbrev MdV : Type := Int × List UInt8 × Value
abbrev mdc (x : MdV) : List Value := [.int .i64 x.1, sv x.2.1, x.2.2]
theorem mdc_len (x : MdV) : (mdc x).length = 3 := rfl
/-- Changes in memory. -/
def Mds (w : World) (v : Value) (L : List Md) : Prop :=
  ∃ rs : List MdV, Rc mdc 3 w AllE v rs ∧ rs.length = L.length ∧ ∀ (k : Nat) (r : MdV) (a : Md), rs[k]? = some r → L[k]? = some a → r.1 = a.kind ∧ r.2.1 = a.typ ∧ Ss w AllE r.2.2 a.vals
theorem Mds.ext {w w' : World} {v : Value} {L : List Md} (h : Mds w v L) (hm : Ext w w') : Mds w' v L := by
  obtain ⟨rs, h1, h2, h3⟩ := h
  exact ⟨rs, h1.ext hm, h2, fun k r a hr ha => ⟨(h3 k r a hr ha).1, (h3 k r a hr ha).2.1, (h3 k r a hr ha).2.2.ext hm⟩⟩
theorem Mds.open_ {w : World} {v : Value} {L : List Md} (h : Mds w v L) : ∃ A c, v = .slice A L.length c ∧ ∀ (i : Nat) (hi : i < L.length), ∃ ad y, A = some ad ∧ w.cell? (ad.add (i * 3)) = some (.int .i64 L[i].kind) ∧ w.cell? ⟨(ad.add (i * 3)).block, (ad.add (i * 3)).off + 1, none⟩ = some (sv L[i].typ) ∧
    w.cell? ⟨(ad.add (i * 3)).block, (ad.add (i * 3)).off + 2, none⟩ = some y ∧ Ss w AllE y L[i].vals := by
  obtain ⟨rs, h1, h2, h3⟩ := h
  obtain ⟨A, c, rfl, _, _, _, h4⟩ := h1.open_ mdc_len
  refine ⟨A, c, by rw [h2], fun i hi => ?_⟩
  obtain ⟨ad, e0, _, c0⟩ := h4 i 0 _ (by omega) (by omega) rfl
  obtain ⟨ad1, e1, _, c1⟩ := h4 i 1 _ (by omega) (by omega) rfl
  obtain ⟨ad2, e2, _, c2⟩ := h4 i 2 _ (by omega) (by omega) rfl
  rw [e0] at e1 e2
  injection e1 with e1
  injection e2 with e2
  subst e1 e2
  obtain ⟨k1, k2, k3⟩ := h3 i rs[i] L[i] (by simp [h2, hi]) (by simp [hi])
  rw [Nat.add_zero] at c0
  rw [add_next _ _ _ (by omega)] at c1 c2
  exact ⟨ad, rs[i].2.2, e0, by rw [← k1]; exact c0, by rw [← k2]; exact c1, c2, k3⟩

set_option maxHeartbeats 4000000 in
theorem isNum_any {w : World} (n : Int) : Calls Tryz.prog 75 #[.int .i64 n] w fun e w' => e = .returned (.bool (decide (0 ≤ n ∧ n ≤ 2147483647))) ∧ w' = w := by
  by_cases h0 : 0 ≤ n
  · have b1 : decide (0 ≤ n) = true := dtrue h0
    have b1' : decide (n ≥ 0) = true := dtrue h0
    by_cases h1 : n ≤ 2147483647
    · have b2 : decide (n ≤ 2147483647) = true := dtrue h1
      rw [dtrue ⟨h0, h1⟩]
      go_enter Tryz.func75, Tryz.ntmps75
      go_wp2_with fail
      go_ret
      exact ⟨rfl, rfl⟩
    · have b2 : decide (n ≤ 2147483647) = false := dfalse h1
      rw [dfalse (fun h => h1 h.2)]
      go_enter Tryz.func75, Tryz.ntmps75
      go_wp2_with fail
      go_ret
      exact ⟨rfl, rfl⟩
  · have b1 : decide (0 ≤ n) = false := dfalse h0
    rw [dfalse (fun h => h0 h.1)]
    go_enter Tryz.func75, Tryz.ntmps75
    go_wp2_with fail
    go_ret
    exact ⟨rfl, rfl⟩

set_option maxHeartbeats 8000000 in
theorem body2_any {w : World} {num scope limit fk which : Int} {dn pass ft fv rdn up avt avv : List UInt8} {keep above : Bool} {Y1 Z1 W1 M1 A1 : Option Addr} {Y2 Y3 Z2 Z3 W2 W3 M2 M3 A2 A3 : Nat} (hd : dn.length ≤ 65536) :
    Calls Tryz.prog 80 #[.agg #[.int .i64 num, .int .i64 2, sv dn, sv pass, .int .i64 scope, .int .i64 limit, .int .i64 fk, sv ft, sv fv, .slice Y1 Y2 Y3, .slice Z1 Z2 Z3, .slice W1 W2 W3, .slice M1 M2 M3, .slice A1 A2 A3, sv rdn, .bool keep, .bool above, sv up, sv avt, sv avv, .int .i64 which]] w fun e w' => ∃ v', e = .returned v' ∧ Bs w' (fun k => w.heap.size ≤ k) v' ([] : List UInt8) ∧ Ext w w' := by
  obtain ⟨Z, hZ⟩ : ∃ Z, Z = ([] : List UInt8) := ⟨_, rfl⟩
  rw [← hZ]
  replace hZ := Lib.hid hZ
  have B0 : Blk (w.alloc (.cells #[.int .i64 num, .int .i64 2, sv dn, sv pass, .int .i64 scope, .int .i64 limit, .int .i64 fk, sv ft, sv fv, .slice Y1 Y2 Y3, .slice Z1 Z2 Z3, .slice W1 W2 W3, .slice M1 M2 M3, .slice A1 A2 A3, sv rdn, .bool keep, .bool above, sv up, sv avt, sv avv, .int .i64 which] 32)) w.heap.size 32 #[.int .i64 num, .int .i64 2, sv dn, sv pass, .int .i64 scope, .int .i64 limit, .int .i64 fk, sv ft, sv fv, .slice Y1 Y2 Y3, .slice Z1 Z2 Z3, .slice W1 W2 W3, .slice M1 M2 M3, .slice A1 A2 A3, sv rdn, .bool keep, .bool above, sv up, sv avt, sv avv, .int .i64 which] := Blk.new w _ _
  have x0 : Ext w (w.alloc (.cells #[.int .i64 num, .int .i64 2, sv dn, sv pass, .int .i64 scope, .int .i64 limit, .int .i64 fk, sv ft, sv fv, .slice Y1 Y2 Y3, .slice Z1 Z2 Z3, .slice W1 W2 W3, .slice M1 M2 M3, .slice A1 A2 A3, sv rdn, .bool keep, .bool above, sv up, sv avt, sv avv, .int .i64 which] 32)) := (Mod.refl _ w).alloc _
  go_enter Tryz.func80, Tryz.ntmps80
  go_wp2_with fail
  refine (mtext_any 4 dn hd).mono ?_
  rintro e w1 ⟨v1, rfl, m1, m2, m3⟩
  have B1 := B0.mod m3 (fun h => h)
  have x1 := ext_trans x0 m3
  have p1 : w1.cell? ⟨w.heap.size, 1, none⟩ = some (.int .i64 2) := B1.cell 1
  replace m2 := fresh_le m2 x0.size
  clear B0 B1 x0 m3
  go_wp2_with fail
  go_ret
  exact ⟨_, rfl, by rw [hZ.out]; exact (Own.nil w1 5 : Own w1 5 (.slice none 0 0) (([] : List UInt8).map bv)).late (fresh_nil _ _ _), x1⟩
set_option maxHeartbeats 8000000 in
theorem body10_any {w : World} {num scope limit fk which : Int} {dn pass ft fv rdn up avt avv : List UInt8} {keep above : Bool} {Y1 Z1 W1 M1 A1 : Option Addr} {Y2 Y3 Z2 Z3 W2 W3 M2 M3 A2 A3 : Nat} (hd : dn.length ≤ 65536) :
    Calls Tryz.prog 80 #[.agg #[.int .i64 num, .int .i64 10, sv dn, sv pass, .int .i64 scope, .int .i64 limit, .int .i64 fk, sv ft, sv fv, .slice Y1 Y2 Y3, .slice Z1 Z2 Z3, .slice W1 W2 W3, .slice M1 M2 M3, .slice A1 A2 A3, sv rdn, .bool keep, .bool above, sv up, sv avt, sv avv, .int .i64 which]] w fun e w' => ∃ v', e = .returned v' ∧ Bs w' (fun k => w.heap.size ≤ k) v' (dn) ∧ Ext w w' := by
  have B0 : Blk (w.alloc (.cells #[.int .i64 num, .int .i64 10, sv dn, sv pass, .int .i64 scope, .int .i64 limit, .int .i64 fk, sv ft, sv fv, .slice Y1 Y2 Y3, .slice Z1 Z2 Z3, .slice W1 W2 W3, .slice M1 M2 M3, .slice A1 A2 A3, sv rdn, .bool keep, .bool above, sv up, sv avt, sv avv, .int .i64 which] 32)) w.heap.size 32 #[.int .i64 num, .int .i64 10, sv dn, sv pass, .int .i64 scope, .int .i64 limit, .int .i64 fk, sv ft, sv fv, .slice Y1 Y2 Y3, .slice Z1 Z2 Z3, .slice W1 W2 W3, .slice M1 M2 M3, .slice A1 A2 A3, sv rdn, .bool keep, .bool above, sv up, sv avt, sv avv, .int .i64 which] := Blk.new w _ _
  have x0 : Ext w (w.alloc (.cells #[.int .i64 num, .int .i64 10, sv dn, sv pass, .int .i64 scope, .int .i64 limit, .int .i64 fk, sv ft, sv fv, .slice Y1 Y2 Y3, .slice Z1 Z2 Z3, .slice W1 W2 W3, .slice M1 M2 M3, .slice A1 A2 A3, sv rdn, .bool keep, .bool above, sv up, sv avt, sv avv, .int .i64 which] 32)) := (Mod.refl _ w).alloc _
  go_enter Tryz.func80, Tryz.ntmps80
  go_wp2_with fail
  refine (mtext_any 4 dn hd).mono ?_
  rintro e w1 ⟨v1, rfl, m1, m2, m3⟩
  have B1 := B0.mod m3 (fun h => h)
  have x1 := ext_trans x0 m3
  have p1 : w1.cell? ⟨w.heap.size, 1, none⟩ = some (.int .i64 10) := B1.cell 1
  have p2 : w1.cell? ⟨w.heap.size, 2, none⟩ = some (sv dn) := B1.cell 2
  replace m2 := fresh_le m2 x0.size
  clear B0 B1 x0 m3
  clear m1 m2
  go_wp2_with ((with_reducible show wpList _ _ _ (⟨some 84, _, _, _, _, _⟩ :: _) _ _); refine wp_tob Tryz.underlying9 Tryz.underlying22 Tryz.underlying5 (l := dn) (by omega) rfl (.tmp 83) rfl rfl ?_; intro cp w2 k1 k2 k3)
  go_wp2_with fail
  go_ret
  exact ⟨_, rfl, Sl.mono k1 (fun k _ hk => by have := x1.size; omega), ext_trans x1 k2⟩
set_option maxHeartbeats 8000000 in
theorem body16_any {w : World} {num scope limit fk which : Int} {dn pass ft fv rdn up avt avv : List UInt8} {keep above : Bool} {Y1 Z1 W1 M1 A1 : Option Addr} {Y2 Y3 Z2 Z3 W2 W3 M2 M3 A2 A3 : Nat} (hd : dn.length ≤ 65536) (h0 : -9223372036854775808 ≤ which) (h1 : which ≤ 9223372036854775807) :
    Calls Tryz.prog 80 #[.agg #[.int .i64 num, .int .i64 16, sv dn, sv pass, .int .i64 scope, .int .i64 limit, .int .i64 fk, sv ft, sv fv, .slice Y1 Y2 Y3, .slice Z1 Z2 Z3, .slice W1 W2 W3, .slice M1 M2 M3, .slice A1 A2 A3, sv rdn, .bool keep, .bool above, sv up, sv avt, sv avv, .int .i64 which]] w fun e w' => ∃ v', e = .returned v' ∧ Bs w' (fun k => w.heap.size ≤ k) v' (iB which) ∧ Ext w w' := by
  obtain ⟨Z, hZ⟩ : ∃ Z, Z = (iB which) := ⟨_, rfl⟩
  rw [← hZ]
  replace hZ := Lib.hid hZ
  have B0 : Blk (w.alloc (.cells #[.int .i64 num, .int .i64 16, sv dn, sv pass, .int .i64 scope, .int .i64 limit, .int .i64 fk, sv ft, sv fv, .slice Y1 Y2 Y3, .slice Z1 Z2 Z3, .slice W1 W2 W3, .slice M1 M2 M3, .slice A1 A2 A3, sv rdn, .bool keep, .bool above, sv up, sv avt, sv avv, .int .i64 which] 32)) w.heap.size 32 #[.int .i64 num, .int .i64 16, sv dn, sv pass, .int .i64 scope, .int .i64 limit, .int .i64 fk, sv ft, sv fv, .slice Y1 Y2 Y3, .slice Z1 Z2 Z3, .slice W1 W2 W3, .slice M1 M2 M3, .slice A1 A2 A3, sv rdn, .bool keep, .bool above, sv up, sv avt, sv avv, .int .i64 which] := Blk.new w _ _
  have x0 : Ext w (w.alloc (.cells #[.int .i64 num, .int .i64 16, sv dn, sv pass, .int .i64 scope, .int .i64 limit, .int .i64 fk, sv ft, sv fv, .slice Y1 Y2 Y3, .slice Z1 Z2 Z3, .slice W1 W2 W3, .slice M1 M2 M3, .slice A1 A2 A3, sv rdn, .bool keep, .bool above, sv up, sv avt, sv avv, .int .i64 which] 32)) := (Mod.refl _ w).alloc _
  go_enter Tryz.func80, Tryz.ntmps80
  go_wp2_with fail
  refine (mtext_any 4 dn hd).mono ?_
  rintro e w1 ⟨v1, rfl, m1, m2, m3⟩
  have B1 := B0.mod m3 (fun h => h)
  have x1 := ext_trans x0 m3
  have p1 : w1.cell? ⟨w.heap.size, 1, none⟩ = some (.int .i64 16) := B1.cell 1
  have p20 : w1.cell? ⟨w.heap.size, 20, none⟩ = some (.int .i64 which) := B1.cell 20
  replace m2 := fresh_le m2 x0.size
  clear B0 B1 x0 m3
  clear m1 m2
  go_wp2_with fail
  refine (int_any (w := w1) which h0 h1).mono ?_
  rintro e w2 ⟨k, v2, rfl, hk, g1, g2, g3⟩
  rw [isw_iB hk] at g1
  clear hk
  go_wp2_with fail
  go_ret
  exact ⟨_, rfl, by rw [hZ.out]; exact g1.late (fresh_le g2 x1.size), ext_trans x1 g3⟩
set_option maxHeartbeats 8000000 in
theorem body8_any {w : World} {num scope limit fk which : Int} {dn pass ft fv rdn up avt avv : List UInt8} {keep above : Bool} {Y1 Z1 W1 M1 A1 : Option Addr} {Y2 Y3 Z2 Z3 W2 W3 M2 M3 A2 A3 : Nat} (hd : dn.length ≤ 65536) {L : List Att} (ha : Ats w (.slice A1 A2 A3) L) (hl : (txB dn ++ atsB L).length ≤ 65536) :
    Calls Tryz.prog 80 #[.agg #[.int .i64 num, .int .i64 8, sv dn, sv pass, .int .i64 scope, .int .i64 limit, .int .i64 fk, sv ft, sv fv, .slice Y1 Y2 Y3, .slice Z1 Z2 Z3, .slice W1 W2 W3, .slice M1 M2 M3, .slice A1 A2 A3, sv rdn, .bool keep, .bool above, sv up, sv avt, sv avv, .int .i64 which]] w fun e w' => ∃ v', e = .returned v' ∧ Bs w' (fun k => w.heap.size ≤ k) v' (txB dn ++ atsB L) ∧ Ext w w' := by
  obtain ⟨Z, hZ⟩ : ∃ Z, Z = (txB dn ++ atsB L) := ⟨_, rfl⟩
  rw [← hZ]
  replace hZ := Lib.hid hZ
  rw [List.length_append] at hl
  have hl2 := tlv_le (t := 48) (show (atsB L).length ≤ 65536 by omega)
  have B0 : Blk (w.alloc (.cells #[.int .i64 num, .int .i64 8, sv dn, sv pass, .int .i64 scope, .int .i64 limit, .int .i64 fk, sv ft, sv fv, .slice Y1 Y2 Y3, .slice Z1 Z2 Z3, .slice W1 W2 W3, .slice M1 M2 M3, .slice A1 A2 A3, sv rdn, .bool keep, .bool above, sv up, sv avt, sv avv, .int .i64 which] 32)) w.heap.size 32 #[.int .i64 num, .int .i64 8, sv dn, sv pass, .int .i64 scope, .int .i64 limit, .int .i64 fk, sv ft, sv fv, .slice Y1 Y2 Y3, .slice Z1 Z2 Z3, .slice W1 W2 W3, .slice M1 M2 M3, .slice A1 A2 A3, sv rdn, .bool keep, .bool above, sv up, sv avt, sv avv, .int .i64 which] := Blk.new w _ _
  have x0 : Ext w (w.alloc (.cells #[.int .i64 num, .int .i64 8, sv dn, sv pass, .int .i64 scope, .int .i64 limit, .int .i64 fk, sv ft, sv fv, .slice Y1 Y2 Y3, .slice Z1 Z2 Z3, .slice W1 W2 W3, .slice M1 M2 M3, .slice A1 A2 A3, sv rdn, .bool keep, .bool above, sv up, sv avt, sv avv, .int .i64 which] 32)) := (Mod.refl _ w).alloc _
  go_enter Tryz.func80, Tryz.ntmps80
  go_wp2_with fail
  refine (mtext_any 4 dn hd).mono ?_
  rintro e w1 ⟨v1, rfl, m1, m2, m3⟩
  have B1 := B0.mod m3 (fun h => h)
  have x1 := ext_trans x0 m3
  have p1 : w1.cell? ⟨w.heap.size, 1, none⟩ = some (.int .i64 8) := B1.cell 1
  have p13 : w1.cell? ⟨w.heap.size, 13, none⟩ = some (.slice A1 A2 A3) := B1.cell 13
  replace m2 := fresh_le m2 x0.size
  clear B0 B1 x0 m3
  go_wp2_with fail
  refine (mattrs_any (ha.ext x1) hl2).mono ?_
  rintro e w2 ⟨v2, rfl, q1, q2, q3⟩
  change Own w1 _ v1 ((txB dn).map bv) at m1
  have hpos : 0 < (txB dn).length := by simp
  obtain ⟨X, hX⟩ : ∃ X, X = txB dn := ⟨_, rfl⟩
  obtain ⟨Y, hY⟩ : ∃ Y, Y = atsB L := ⟨_, rfl⟩
  rw [← hX] at m1 hl hpos
  rw [← hY] at q1 hl
  replace hX := Lib.hid hX
  replace hY := Lib.hid hY
  obtain ⟨A4, c4, e4⟩ := m1.shape
  obtain ⟨A5, c5, e5⟩ := q1.shape
  rw [List.length_map] at e4 e5
  subst e4 e5
  have m5 := (m1.mod q3 (fun _ _ h => h))
  have hr := Rw.two 22 m5.sl q1.sl
  have x4 := ext_trans (ext_trans x1 q3) ((Mod.refl (fun _ => False) w2).alloc (.cells #[.slice A4 X.length c4, .slice A5 Y.length c5] 22))
  have hfl : [X, Y].flatten = X ++ Y := by simp
  clear hl2
  go_wp2_with fail
  refine (join_any hr (by rw [hfl, List.length_append]; omega) (by rw [hfl, List.length_append]; omega)).mono ?_
  rintro e w5 ⟨v5, rfl, s1, s2, s3⟩
  rw [hfl] at s1
  go_wp2_with fail
  go_ret
  exact ⟨_, rfl, by rw [hZ.out, ← hX.out, ← hY.out]; exact s1.late (fresh_le s2 x4.size), ext_trans x4 s3⟩
end Go.Proofs.YtoockogceobfgaaGreat
namespace Go.Proofs.YtoockogceobfgaaGreat
open Go.RowKit
set_option maxRecDepth 100000

section
variable {P : Program} {w : World} {t e : TypeId} {z : Value} {bytes : Nat} {ops : Array Oper} {o : Oper} {a : Act} {Q : Exit → Act → World → Prop}
theorem step_app {K : Act → World → Prop} {E : Prop} (d : Tmp) (hT : SliceTy P t e z bytes) {v y : Value} {S : Nat → Prop} {xs news : List Value} (hown : Own w e v xs) (hr : Sl w S y news) (h1 : ∀ u ∈ news, u.oneCell' = true)
    (hn : (xs.length + news.length) * bytes ≤ 140737488355328) (hgd : o.guard = none) (hd : o.dst = some d) (s yy : Operand) (ho : o.op = .call { callee := .builtin .append, args := #[s, yy], argTypes := #[t, t] }) (hs : a.eval s = v) (hy : a.eval yy = y)
    (h : ∀ v' w', Own w' e v' (xs ++ news) → Mod (own v) w w' → Next w.heap.size v v' → K (a.put o.dst v') w') : if Region.wanted o (yielded ops a.tmps) = true then Oper.wp P o a w K Q else E := by
  have hw : Region.wanted o (yielded ops a.tmps) = true := by simp [Region.wanted, hgd]
  rw [if_pos hw]
  obtain ⟨v', w', hrun, h2, h3, h4⟩ := run_app (P := P) hT o.type hown hr h1 hn
  unfold Oper.wp execOp
  simp only [ho, resolve, invoke, builtin, Sem.run_bind, Sem.run_pure, Result.andThen_ok, List.map_toArray, List.map_cons, List.map_nil, hs, hy, hrun]
  simp only [Oper.upon, hd]
  have := h v' w' h2 h3 h4
  rw [hd] at this
  exact this
end
theorem mdB_pos (a : Md) : 2 ≤ (mdB a).length := by
  have := (lay_len (nuB 10 a.kind ++ atB a.typ a.vals).length).1
  simp only [mdB, tlv, List.length_append, List.length_cons] at *
  omega
set_option maxHeartbeats 16000000 in
theorem body6_any {w : World} {num scope limit fk which : Int} {dn pass ft fv rdn up avt avv : List UInt8} {keep above : Bool} {Y1 Z1 W1 M1 A1 : Option Addr} {Y2 Y3 Z2 Z3 W2 W3 M2 M3 A2 A3 : Nat} (hd : dn.length ≤ 65536) {L : List Md} (hm : Mds w (.slice M1 M2 M3) L) (hk : ∀ m ∈ L, -9223372036854775808 ≤ m.kind ∧ m.kind ≤ 9223372036854775807) (hl : (txB dn ++ tlv 48 (L.flatMap mdB)).length ≤ 65536) :
    Calls Tryz.prog 80 #[.agg #[.int .i64 num, .int .i64 6, sv dn, sv pass, .int .i64 scope, .int .i64 limit, .int .i64 fk, sv ft, sv fv, .slice Y1 Y2 Y3, .slice Z1 Z2 Z3, .slice W1 W2 W3, .slice M1 M2 M3, .slice A1 A2 A3, sv rdn, .bool keep, .bool above, sv up, sv avt, sv avv, .int .i64 which]] w fun e w' => ∃ v', e = .returned v' ∧ Bs w' (fun k => w.heap.size ≤ k) v' (txB dn ++ tlv 48 (L.flatMap mdB)) ∧ Ext w w' := by
  obtain ⟨Z, hZ⟩ : ∃ Z, Z = (txB dn ++ tlv 48 (L.flatMap mdB)) := ⟨_, rfl⟩
  rw [← hZ]
  replace hZ := Lib.hid hZ
  rw [List.length_append] at hl
  have hl1 : (tlv 48 (L.flatMap mdB)).length ≤ 65536 := by omega
  have hl2 := tlv_le (t := 48) hl1
  have hax := fun {wx : World} (x : Ext w wx) => (hm.ext x).open_
  obtain ⟨M1', M3', hv, -⟩ := hm.open_
  injection hv with hv1 hv2 hv3
  subst hv1
  subst hv3
  clear hm
  have hsn := fun k h => @fmB_snoc Md UInt8 mdB L k h
  have htk := fun k => @fmB_take Md UInt8 mdB L k
  have hLl := fm_ge mdB mdB_pos L
  have hLl : L.length * 2 ≤ 65536 := by omega
  rw [← hv2] at hLl
  replace hv2 := Lib.hid hv2
  have B0 : Blk (w.alloc (.cells #[.int .i64 num, .int .i64 6, sv dn, sv pass, .int .i64 scope, .int .i64 limit, .int .i64 fk, sv ft, sv fv, .slice Y1 Y2 Y3, .slice Z1 Z2 Z3, .slice W1 W2 W3, .slice M1 M2 M3, .slice A1 A2 A3, sv rdn, .bool keep, .bool above, sv up, sv avt, sv avv, .int .i64 which] 32)) w.heap.size 32 #[.int .i64 num, .int .i64 6, sv dn, sv pass, .int .i64 scope, .int .i64 limit, .int .i64 fk, sv ft, sv fv, .slice Y1 Y2 Y3, .slice Z1 Z2 Z3, .slice W1 W2 W3, .slice M1 M2 M3, .slice A1 A2 A3, sv rdn, .bool keep, .bool above, sv up, sv avt, sv avv, .int .i64 which] := Blk.new w _ _
  have x0 : Ext w (w.alloc (.cells #[.int .i64 num, .int .i64 6, sv dn, sv pass, .int .i64 scope, .int .i64 limit, .int .i64 fk, sv ft, sv fv, .slice Y1 Y2 Y3, .slice Z1 Z2 Z3, .slice W1 W2 W3, .slice M1 M2 M3, .slice A1 A2 A3, sv rdn, .bool keep, .bool above, sv up, sv avt, sv avv, .int .i64 which] 32)) := (Mod.refl _ w).alloc _
  go_enter Tryz.func80, Tryz.ntmps80
  go_wp2_with fail
  refine (mtext_any 4 dn hd).mono ?_
  rintro e w1 ⟨v1, rfl, m1, m2, m3⟩
  have B1 := B0.mod m3 (fun h => h)
  have x1 := ext_trans x0 m3
  have p1 : w1.cell? ⟨w.heap.size, 1, none⟩ = some (.int .i64 6) := B1.cell 1
  have p12 : w1.cell? ⟨w.heap.size, 12, none⟩ = some (.slice M1 M2 M3) := B1.cell 12
  replace m2 := fresh_le m2 x0.size
  change Own w1 _ v1 ((txB dn).map bv) at m1
  obtain ⟨X, hX⟩ : ∃ X, X = txB dn := ⟨_, rfl⟩
  rw [← hX] at m1 hl
  replace hX := Lib.hid hX
  obtain ⟨A4, c4, e4⟩ := m1.shape
  rw [List.length_map] at e4
  subst e4
  clear B0 B1 x0 m3
  go_wp2_with fail
  go_loopw [4, 49] (fun v i wr => ∃ (vs : List Value) (k : Nat), i = .int .i64 k ∧ k ≤ M2 ∧ Orw wr w1.heap.size v vs ((L.take k).map mdB) ∧ Ext w1 wr) (fun _ i _ => M2 - (intOf i).toNat)
  case atStart => exact ⟨[], 0, rfl, Nat.zero_le _, Orw.nil _ _, Mod.refl _ _⟩
  case round =>
    clear p1 p12
    obtain ⟨vs, k, rfl, hkq, ho, hx⟩ := hrel
    have hqq := hv2.out
    by_cases hlt : k < M2
    · have hb : decide ((k : Int) < (M2 : Int)) = true := dtrue (by omega)
      obtain ⟨A', c', hv, hat⟩ := hax (ext_trans x1 hx)
      obtain ⟨ad, y, hA, d0, d1, d2, hy⟩ := hat k (by omega)
      injection hv with hv1 hv2' hv3
      subst hv1
      subst hv3
      subst hA
      clear hv2' hat
      have h1 := hsn k (by omega)
      have h2 := htk (k + 1)
      have hkk := hk _ (List.getElem_mem (show k < L.length by omega))
      have hmp : (L.take (k + 1)).map mdB = (L.take k).map mdB ++ [mdB (L[k]'(by omega))] := by
        rw [List.take_succ_eq_append_getElem (by omega), List.map_append]; rfl
      rw [h1] at h2
      generalize L[k]'(by omega) = a at *
      have hal : (mdB a).length ≤ 65536 := by
        rw [List.length_append] at h2
        omega
      have hal2 := tlv_le (t := 48) hal
      have hal3 : (atB a.typ a.vals).length ≤ 65536 := by rw [List.length_append] at hal2; omega
      have hk0 : (0 : Int) ≤ (k : Int) := by omega
      have hk1 : (k : Int) < (M2 : Int) := by omega
      have hvl2 := Lib.hid (show vs.length ≤ k by rw [ho.len, List.length_map, List.length_take]; omega)
      obtain ⟨M, hM⟩ : ∃ M, M = (L.take k).map mdB := ⟨_, rfl⟩
      rw [← hM] at ho hmp
      have hmp2 := Lib.hid hmp
      obtain ⟨Ay, cy, rfl, -, -, -, -⟩ := hy.open_
      have y0 := (Mod.refl (fun _ => False) wr).alloc (.cells #[.int .i64 a.kind, sv a.typ, .slice Ay a.vals.length cy] 86)
      have hnum : ∀ wx, Calls Tryz.prog 79 #[.int .u8 10, .int .i64 a.kind] wx fun e w' => ∃ v', e = .returned v' ∧ Own w' 5 v' ((nuB 10 a.kind).map bv) ∧ Fresh wx.heap.size v' ∧ Ext wx w' := fun wx => num_any (w := wx) 10 a.kind hkk.1 hkk.2
      have hattr := fun wx (x : Ext (wr.alloc (.cells #[.int .i64 a.kind, sv a.typ, .slice Ay a.vals.length cy] 86)) wx) => mattr_any (typ := a.typ) ((Sl.mod hy y0 (fun _ _ _ h => h)).mod x (fun _ _ _ h => h)) hal3
      have hmd : mdB a = tlv 48 (nuB 10 a.kind ++ atB a.typ a.vals) := rfl
      rw [hmd] at hmp2
      clear h1 h2 hmp hM hqq hsn htk hax hal hal3 hmd hkk hlt hk
      generalize nuB 10 a.kind = P at *
      generalize atB a.typ a.vals = Q at *
      rw [List.length_append] at hal2
      generalize a.kind = ak at *
      generalize a.typ = at_ at *
      generalize a.vals.length = al at *
      have hfl : [P, Q].flatten = P ++ Q := by simp
      obtain ⟨R, hR⟩ : ∃ R, R = tlv 48 (P ++ Q) := ⟨_, rfl⟩
      rw [← hR] at hmp2
      have htag : ∀ (wx : World) (S : Nat → Prop) (y : Value), Rw wx S y [P, Q] → Calls Tryz.prog 18 #[.int .u8 48, y] wx fun e w' => ∃ v', e = .returned v' ∧ Own w' 5 v' (R.map bv) ∧ Fresh wx.heap.size v' ∧ Ext wx w' := fun wx S y hr => by
        have h := tag_any 48 hr (by rw [hfl, List.length_append]; exact hal2)
        rw [hfl] at h
        rw [hR]
        exact h
      clear hR hfl
      have hn3 := Lib.hid (show (vs.length + [(Value.int .u8 0)].length) * 24 ≤ 140737488355328 by have := hvl2.out; simp only [List.length_singleton]; omega)
      have BM : Blk (wr.alloc (.cells #[.int .i64 ak, sv at_, .slice Ay al cy] 86)) wr.heap.size 86 #[.int .i64 ak, sv at_, .slice Ay al cy] := Blk.new wr _ _
      have hS : ∀ wx, Ext (wr.alloc (.cells #[.int .i64 ak, sv at_, .slice Ay al cy] 86)) wx → wx.cell? ⟨wr.heap.size, 0, none⟩ = some (.int .i64 ak) ∧ wx.cell? ⟨wr.heap.size, 1, none⟩ = some (sv at_) ∧ wx.cell? ⟨wr.heap.size, 2, none⟩ = some (.slice Ay al cy) :=
        fun wx x => ⟨(BM.mod x (fun h => h)).cell 0, (BM.mod x (fun h => h)).cell 1, (BM.mod x (fun h => h)).cell 2⟩
      have hSU : ∀ wx, Mod (own u4) (wr.alloc (.cells #[.int .i64 ak, sv at_, .slice Ay al cy] 86)) wx → wx.cell? ⟨wr.heap.size, 0, none⟩ = some (.int .i64 ak) ∧ wx.cell? ⟨wr.heap.size, 1, none⟩ = some (sv at_) ∧ wx.cell? ⟨wr.heap.size, 2, none⟩ = some (.slice Ay al cy) :=
        fun wx x => have ne := fun h => absurd (ho.own.lt (k := wr.heap.size) h) (by omega); ⟨(BM.mod x ne).cell 0, (BM.mod x ne).cell 1, (BM.mod x ne).cell 2⟩
      have q0 := (Mod.refl (fun _ => False) (wr.alloc (.cells #[.int .i64 ak, sv at_, .slice Ay al cy] 86))).drew
      go_wp2_with fail
      go_region_held3 (fun wx => wx.cell? ⟨wr.heap.size, 0, none⟩ = some (.int .i64 ak) ∧ wx.cell? ⟨wr.heap.size, 1, none⟩ = some (sv at_) ∧ wx.cell? ⟨wr.heap.size, 2, none⟩ = some (.slice Ay al cy)) (first | exact qe | exact hS _ qd | exact hS _ qc | exact hS _ qb | exact hS _ qa | exact hS _ q0 | go_keep) (first
        | (go_at_call 79; (with_reducible refine (hnum _).mono ?_); rintro e wa ⟨va, rfl, a1, a2, a3⟩; have qa := ext_trans q0 a3)
        | (go_at_call 119; (with_reducible refine (hattr _ qa).mono ?_); rintro e wb ⟨vb, rfl, b1, b2, b3⟩; have qb := ext_trans qa b3; obtain ⟨Aa, ca, ea⟩ := a1.shape; obtain ⟨Ab, cb, eb⟩ := b1.shape; rw [List.length_map] at ea eb; subst ea eb; have hr := Rw.two 22 (a1.mod b3 (fun _ _ h => h)).sl b1.sl; have qc := ext_trans qb ((Mod.refl (fun _ => False) wb).alloc (.cells #[.slice Aa P.length ca, .slice Ab Q.length cb] 22)))
        | (go_at_call 18; (with_reducible refine (htag _ _ _ hr).mono ?_); rintro e wc ⟨vc, rfl, t1, t2, t3⟩; have qd := ext_trans qc t3; obtain ⟨Ac, cc, ec⟩ := t1.shape; rw [List.length_map] at ec; subst ec; have hsl := Sl.one wc 22 (.slice Ac R.length cc); have ho2 := (ho.ext (ext_trans y0 qd)).ext ((Mod.refl (fun _ => False) wc).alloc (.cells #[.slice Ac R.length cc] 22)))
        | (refine step_app 65 tyR ho2.own hsl (one_ok _ rfl) (by have := hn3.out; simpa using this) rfl rfl (.tmp 53) (.tmp 64) rfl rfl rfl ?_; intro v4 w4 q1 q2 q3; have qe := hSU w4 (Mod.trans (H := own u4) (ext_trans qd ((Mod.refl (fun _ => False) wc).alloc (.cells #[.slice Ac R.length cc] 22))) q2 (fun _ _ h => h.elim) (fun _ _ h => h))))
      have hx5 := ext_trans (ext_trans hx y0) (ext_trans qd ((Mod.refl (fun _ => False) wc).alloc (.cells #[.slice Ac R.length cc] 22)))
      have ho3 := ho2.snoc q1 q2 q3 (t1.alloc _) (fresh_le t2 (ext_trans (ext_trans hx y0) qc).size) hx5.size
      have hx6 : Ext w1 w4 := hx5.trans q2 (fun _ _ h => h) (fun b hb h => by have := ho2.fresh b h; omega)
      rw [← hmp2.out] at ho3
      clear hS hSU qe q0 qa qb qc qd hr BM a1 b1 hnum hattr htag hy hsl
      go_wp2_with fail
      exact ⟨⟨_, k + 1, by go_num, by omega, ho3, hx6⟩, by simp [intOf] <;> omega⟩
    · have hb : decide ((k : Int) < (M2 : Int)) = false := dfalse (by omega)
      have hkn : k = M2 := by omega
      subst hkn
      have hr := ho.rw
      rw [hqq, List.take_length] at hr
      have hfm : (L.map mdB).flatten = L.flatMap mdB := flat_map mdB L
      obtain ⟨Y, hY⟩ : ∃ Y, Y = tlv 48 (L.flatMap mdB) := ⟨_, rfl⟩
      rw [← hY] at hl
      have hpos : 0 < X.length := by rw [hX.out]; simp
      have htag : ∀ (S : Nat → Prop) (y : Value), Rw wr S y (L.map mdB) → Calls Tryz.prog 18 #[.int .u8 48, y] wr fun e w' => ∃ v', e = .returned v' ∧ Own w' 5 v' (Y.map bv) ∧ Fresh wr.heap.size v' ∧ Ext wr w' := fun S y hr => by
        have h := tag_any 48 hr (by rw [hfm]; exact hl2)
        rw [hfm] at h
        rw [hY]
        exact h
      replace hY := Lib.hid hY
      have m5 := m1.mod hx (fun _ _ h => h)
      clear hax hqq hsn htk hk hfm hl1 hl2 m1
      go_wp2_with fail
      refine (htag _ _ hr).mono ?_
      rintro e w2 ⟨v2, rfl, q1, q2, q3⟩
      obtain ⟨A5, c5, e5⟩ := q1.shape
      rw [List.length_map] at e5
      subst e5
      have m6 := (m5.mod q3 (fun _ _ h => h))
      have hr2 := Rw.two 22 m6.sl q1.sl
      have x4 := ext_trans (ext_trans (ext_trans x1 hx) q3) ((Mod.refl (fun _ => False) w2).alloc (.cells #[.slice A4 X.length c4, .slice A5 Y.length c5] 22))
      have hfl : [X, Y].flatten = X ++ Y := by simp
      clear htag hr
      go_wp2_with fail
      refine (join_any hr2 (by rw [hfl, List.length_append]; omega) (by rw [hfl, List.length_append]; omega)).mono ?_
      rintro e w5 ⟨v5, rfl, s1, s2, s3⟩
      rw [hfl] at s1
      go_wp2_with fail
      go_ret
      exact ⟨_, rfl, by rw [hZ.out, ← hX.out, ← hY.out]; exact s1.late (fresh_le s2 x4.size), ext_trans x4 s3⟩
end Go.Proofs.YtoockogceobfgaaGreat
namespace Go.Proofs.YtoockogceobfgaaGreat
open Go.RowKit
set_option maxRecDepth 100000

/-- Rows of bytes, one by one. -/
def RwL (w : World) (vs : List Value) (L : List (List UInt8)) : Prop := vs.length = L.length ∧ ∀ (k : Nat) (x : Value) (l : List UInt8), vs[k]? = some x → L[k]? = some l → Bs w AllE x l
theorem RwL.nil (w : World) : RwL w [] [] := ⟨rfl, fun k x l h => by simp at h⟩
theorem RwL.cons {w : World} {S : Nat → Prop} {v : Value} {l : List UInt8} {vs : List Value} {L : List (List UInt8)} (h : Bs w S v l) (ht : RwL w vs L) : RwL w (v :: vs) (l :: L) := by
  refine ⟨by rw [List.length_cons, List.length_cons, ht.1], fun k x m hx hm => ?_⟩
  cases k with
  | zero =>
    simp only [List.getElem?_cons_zero, Option.some.injEq] at hx hm
    subst hx; subst hm
    exact Sl.mono h (fun _ _ _ => trivial)
  | succ k =>
    rw [List.getElem?_cons_succ] at hx hm
    exact ht.2 k x m hx hm
theorem RwL.made {w : World} {vs : List Value} {L : List (List UInt8)} (e : TypeId) (h : RwL w vs L) (hm : vs.length ≤ maxLen) : Rw (w.alloc (.cells vs.toArray e)) AllE (.slice (some ⟨w.heap.size, 0, none⟩) vs.length vs.length) L :=
  ⟨vs, h.1, (Sl.lit w e vs hm).mono (fun _ _ _ => trivial), fun k x l hx hl => (h.2 k x l hx hl).alloc _⟩

set_option maxHeartbeats 16000000 in
theorem body0_any {w : World} {num scope limit fk which : Int} {dn pass ft fv rdn up avt avv : List UInt8} {keep above : Bool} {Y1 Z1 W1 M1 A1 : Option Addr} {Y2 Y3 Z2 Z3 W2 W3 M2 M3 A2 A3 : Nat} (hd : dn.length ≤ 65536) (hp : pass.length ≤ 65536) (hl : (nuB 2 3 ++ txB dn ++ tlv 128 pass).length ≤ 65536) :
    Calls Tryz.prog 80 #[.agg #[.int .i64 num, .int .i64 0, sv dn, sv pass, .int .i64 scope, .int .i64 limit, .int .i64 fk, sv ft, sv fv, .slice Y1 Y2 Y3, .slice Z1 Z2 Z3, .slice W1 W2 W3, .slice M1 M2 M3, .slice A1 A2 A3, sv rdn, .bool keep, .bool above, sv up, sv avt, sv avv, .int .i64 which]] w fun e w' => ∃ v', e = .returned v' ∧ Bs w' (fun k => w.heap.size ≤ k) v' (nuB 2 3 ++ txB dn ++ tlv 128 pass) ∧ Ext w w' := by
  obtain ⟨Z, hZ⟩ : ∃ Z, Z = (nuB 2 3 ++ txB dn ++ tlv 128 pass) := ⟨_, rfl⟩
  rw [← hZ]
  replace hZ := Lib.hid hZ
  have B0 : Blk (w.alloc (.cells #[.int .i64 num, .int .i64 0, sv dn, sv pass, .int .i64 scope, .int .i64 limit, .int .i64 fk, sv ft, sv fv, .slice Y1 Y2 Y3, .slice Z1 Z2 Z3, .slice W1 W2 W3, .slice M1 M2 M3, .slice A1 A2 A3, sv rdn, .bool keep, .bool above, sv up, sv avt, sv avv, .int .i64 which] 32)) w.heap.size 32 #[.int .i64 num, .int .i64 0, sv dn, sv pass, .int .i64 scope, .int .i64 limit, .int .i64 fk, sv ft, sv fv, .slice Y1 Y2 Y3, .slice Z1 Z2 Z3, .slice W1 W2 W3, .slice M1 M2 M3, .slice A1 A2 A3, sv rdn, .bool keep, .bool above, sv up, sv avt, sv avv, .int .i64 which] := Blk.new w _ _
  have x0 : Ext w (w.alloc (.cells #[.int .i64 num, .int .i64 0, sv dn, sv pass, .int .i64 scope, .int .i64 limit, .int .i64 fk, sv ft, sv fv, .slice Y1 Y2 Y3, .slice Z1 Z2 Z3, .slice W1 W2 W3, .slice M1 M2 M3, .slice A1 A2 A3, sv rdn, .bool keep, .bool above, sv up, sv avt, sv avv, .int .i64 which] 32)) := (Mod.refl _ w).alloc _
  go_enter Tryz.func80, Tryz.ntmps80
  go_wp2_with fail
  refine (mtext_any 4 dn hd).mono ?_
  rintro e w1 ⟨v1, rfl, m1, m2, m3⟩
  have B1 := B0.mod m3 (fun h => h)
  have x1 := ext_trans x0 m3
  have p1 : w1.cell? ⟨w.heap.size, 1, none⟩ = some (.int .i64 0) := B1.cell 1
  have p3 : w1.cell? ⟨w.heap.size, 3, none⟩ = some (sv pass) := B1.cell 3
  have hS : ∀ wx, Ext w1 wx → wx.cell? ⟨w.heap.size, 3, none⟩ = some (sv pass) := fun wx x => (B1.mod x (fun h => h)).cell 3
  have q0 : Ext w1 w1.drew := (Mod.refl _ w1).drew
  change Own w1 _ v1 ((txB dn).map bv) at m1
  obtain ⟨X, hX⟩ : ∃ X, X = txB dn := ⟨_, rfl⟩
  rw [← hX] at m1 hl
  replace hX := Lib.hid hX
  obtain ⟨A4, c4, e4⟩ := m1.shape
  rw [List.length_map] at e4
  subst e4
  clear B0 B1 x0 m3
  have hnum : ∀ wx, Calls Tryz.prog 79 #[.int .u8 2, .int .i64 3] wx fun e w' => ∃ v', e = .returned v' ∧ Own w' 5 v' ((nuB 2 3).map bv) ∧ Fresh wx.heap.size v' ∧ Ext wx w' := fun wx => num_any (w := wx) 2 3 (by omega) (by omega)
  have htx : ∀ wx, Calls Tryz.prog 114 #[.int .u8 128, sv pass] wx fun e w' => ∃ v', e = .returned v' ∧ Own w' 5 v' ((tlv 128 pass).map bv) ∧ Fresh wx.heap.size v' ∧ Ext wx w' := fun wx => mtext_any (w := wx) 128 pass hp
  have hpos : 0 < X.length := by rw [hX.out]; simp
  generalize nuB 2 3 = P at *
  generalize tlv 128 pass = Q at *
  simp only [List.length_append] at hl
  have hfl : [P, X, Q].flatten = P ++ X ++ Q := by simp
  go_wp2_with fail
  go_region_held3 (fun wx => wx.cell? ⟨w.heap.size, 3, none⟩ = some (sv pass)) (first | exact hS _ qd | exact hS _ qc | exact hS _ qb | exact hS _ qa | exact hS _ q0 | go_keep) (first
    | (go_at_call 79; (with_reducible refine (hnum _).mono ?_); rintro e wa ⟨va, rfl, a1, a2, a3⟩; have qa := ext_trans q0 a3)
    | (go_at_call 114; (with_reducible refine (htx _).mono ?_); rintro e wb ⟨vb, rfl, b1, b2, b3⟩; have qb := ext_trans qa b3; obtain ⟨Aa, ca, ea⟩ := a1.shape; obtain ⟨Ab, cb, eb⟩ := b1.shape; rw [List.length_map] at ea eb; subst ea eb; have hr := (RwL.cons (a1.mod b3 (fun _ _ h => h)).sl (RwL.cons (m1.mod qb (fun _ _ h => h)).sl (RwL.cons b1.sl (RwL.nil wb)))).made 22 (by simp [maxLen]); have qc := ext_trans qb ((Mod.refl (fun _ => False) wb).alloc (.cells #[.slice Aa P.length ca, .slice A4 X.length c4, .slice Ab Q.length cb] 22)))
    | (go_at_call 115; refine (join_any hr (by rw [hfl]; simp only [List.length_append]; omega) (by rw [hfl]; simp only [List.length_append]; omega)).mono ?_; rintro e wc ⟨vc, rfl, t1, t2, t3⟩; rw [hfl] at t1; have qd := ext_trans qc t3))
  go_wp2_with fail
  go_ret
  exact ⟨_, rfl, by rw [hZ.out, ← hX.out]; exact t1.late (fresh_le t2 (ext_trans x1 qc).size), ext_trans x1 qd⟩
end Go.Proofs.YtoockogceobfgaaGreat
namespace Go.Proofs.YtoockogceobfgaaGreat
open Go.RowKit
set_option maxRecDepth 100000

set_option maxHeartbeats 16000000 in
theorem body14_any {w : World} {num scope limit fk which : Int} {dn pass ft fv rdn up avt avv : List UInt8} {keep above : Bool} {Y1 Z1 W1 M1 A1 : Option Addr} {Y2 Y3 Z2 Z3 W2 W3 M2 M3 A2 A3 : Nat} (hd : dn.length ≤ 65536) (hp : avt.length ≤ 65536) (hq : avv.length ≤ 65536) (hl : (txB dn ++ tlv 48 (txB avt ++ txB avv)).length ≤ 65536) :
    Calls Tryz.prog 80 #[.agg #[.int .i64 num, .int .i64 14, sv dn, sv pass, .int .i64 scope, .int .i64 limit, .int .i64 fk, sv ft, sv fv, .slice Y1 Y2 Y3, .slice Z1 Z2 Z3, .slice W1 W2 W3, .slice M1 M2 M3, .slice A1 A2 A3, sv rdn, .bool keep, .bool above, sv up, sv avt, sv avv, .int .i64 which]] w fun e w' => ∃ v', e = .returned v' ∧ Bs w' (fun k => w.heap.size ≤ k) v' (txB dn ++ tlv 48 (txB avt ++ txB avv)) ∧ Ext w w' := by
  obtain ⟨Z, hZ⟩ : ∃ Z, Z = (txB dn ++ tlv 48 (txB avt ++ txB avv)) := ⟨_, rfl⟩
  rw [← hZ]
  replace hZ := Lib.hid hZ
  have B0 : Blk (w.alloc (.cells #[.int .i64 num, .int .i64 14, sv dn, sv pass, .int .i64 scope, .int .i64 limit, .int .i64 fk, sv ft, sv fv, .slice Y1 Y2 Y3, .slice Z1 Z2 Z3, .slice W1 W2 W3, .slice M1 M2 M3, .slice A1 A2 A3, sv rdn, .bool keep, .bool above, sv up, sv avt, sv avv, .int .i64 which] 32)) w.heap.size 32 #[.int .i64 num, .int .i64 14, sv dn, sv pass, .int .i64 scope, .int .i64 limit, .int .i64 fk, sv ft, sv fv, .slice Y1 Y2 Y3, .slice Z1 Z2 Z3, .slice W1 W2 W3, .slice M1 M2 M3, .slice A1 A2 A3, sv rdn, .bool keep, .bool above, sv up, sv avt, sv avv, .int .i64 which] := Blk.new w _ _
  have x0 : Ext w (w.alloc (.cells #[.int .i64 num, .int .i64 14, sv dn, sv pass, .int .i64 scope, .int .i64 limit, .int .i64 fk, sv ft, sv fv, .slice Y1 Y2 Y3, .slice Z1 Z2 Z3, .slice W1 W2 W3, .slice M1 M2 M3, .slice A1 A2 A3, sv rdn, .bool keep, .bool above, sv up, sv avt, sv avv, .int .i64 which] 32)) := (Mod.refl _ w).alloc _
  go_enter Tryz.func80, Tryz.ntmps80
  go_wp2_with fail
  refine (mtext_any 4 dn hd).mono ?_
  rintro e w1 ⟨v1, rfl, m1, m2, m3⟩
  have B1 := B0.mod m3 (fun h => h)
  have x1 := ext_trans x0 m3
  have p1 : w1.cell? ⟨w.heap.size, 1, none⟩ = some (.int .i64 14) := B1.cell 1
  have p18 : w1.cell? ⟨w.heap.size, 18, none⟩ = some (sv avt) := B1.cell 18
  have p19 : w1.cell? ⟨w.heap.size, 19, none⟩ = some (sv avv) := B1.cell 19
  have hS : ∀ wx, Ext w1 wx → wx.cell? ⟨w.heap.size, 18, none⟩ = some (sv avt) ∧ wx.cell? ⟨w.heap.size, 19, none⟩ = some (sv avv) := fun wx x => ⟨(B1.mod x (fun h => h)).cell 18, (B1.mod x (fun h => h)).cell 19⟩
  have q0 : Ext w1 w1.drew := (Mod.refl _ w1).drew
  change Own w1 _ v1 ((txB dn).map bv) at m1
  obtain ⟨X, hX⟩ : ∃ X, X = txB dn := ⟨_, rfl⟩
  rw [← hX] at m1 hl
  replace hX := Lib.hid hX
  obtain ⟨A4, c4, e4⟩ := m1.shape
  rw [List.length_map] at e4
  subst e4
  clear B0 B1 x0 m3
  have htx1 : ∀ wx, Calls Tryz.prog 114 #[.int .u8 4, sv avt] wx fun e w' => ∃ v', e = .returned v' ∧ Own w' 5 v' ((txB avt).map bv) ∧ Fresh wx.heap.size v' ∧ Ext wx w' := fun wx => mtext_any (w := wx) 4 avt hp
  have htx2 : ∀ wx, Calls Tryz.prog 114 #[.int .u8 4, sv avv] wx fun e w' => ∃ v', e = .returned v' ∧ Own w' 5 v' ((txB avv).map bv) ∧ Fresh wx.heap.size v' ∧ Ext wx w' := fun wx => mtext_any (w := wx) 4 avv hq
  have hpos : 0 < X.length := by rw [hX.out]; simp
  generalize txB avt = P at *
  generalize txB avv = Q at *
  rw [List.length_append] at hl
  obtain ⟨R, hR⟩ : ∃ R, R = tlv 48 (P ++ Q) := ⟨_, rfl⟩
  rw [← hR] at hl
  have hPQ : P.length + Q.length ≤ 65536 := by
    have h1 : (tlv 48 (P ++ Q)).length ≤ 65536 := by rw [← hR]; omega
    have := tlv_le h1
    rwa [List.length_append] at this
  have hf2 : [P, Q].flatten = P ++ Q := by simp
  have htag : ∀ (wx : World) (S : Nat → Prop) (y : Value), Rw wx S y [P, Q] → Calls Tryz.prog 18 #[.int .u8 48, y] wx fun e w' => ∃ v', e = .returned v' ∧ Own w' 5 v' ((R).map bv) ∧ Fresh wx.heap.size v' ∧ Ext wx w' := fun wx S y hr => by
    have h := tag_any 48 hr (by rw [hf2, List.length_append]; exact hPQ)
    rw [hf2] at h
    rw [hR]
    exact h
  replace hR := Lib.hid hR
  have hfl : [X, R].flatten = X ++ R := by simp
  clear hf2 hPQ hp hq
  go_wp2_with fail
  go_region_held3 (fun wx => wx.cell? ⟨w.heap.size, 18, none⟩ = some (sv avt) ∧ wx.cell? ⟨w.heap.size, 19, none⟩ = some (sv avv)) (first | exact hS _ qf | exact hS _ qe | exact hS _ qd | exact hS _ qc | exact hS _ qb | exact hS _ qa | exact hS _ q0 | go_keep) (first
    | (go_at_call 114; (with_reducible refine (htx1 _).mono ?_); rintro e wa ⟨va, rfl, a1, a2, a3⟩; have qa := ext_trans q0 a3)
    | (go_at_call 114; (with_reducible refine (htx2 _).mono ?_); rintro e wb ⟨vb, rfl, b1, b2, b3⟩; have qb := ext_trans qa b3; obtain ⟨Aa, ca, ea⟩ := a1.shape; obtain ⟨Ab, cb, eb⟩ := b1.shape; rw [List.length_map] at ea eb; subst ea eb; have hr := Rw.two 22 (a1.mod b3 (fun _ _ h => h)).sl b1.sl; have qc := ext_trans qb ((Mod.refl (fun _ => False) wb).alloc (.cells #[.slice Aa P.length ca, .slice Ab Q.length cb] 22)))
    | (go_at_call 18; (with_reducible refine (htag _ _ _ hr).mono ?_); rintro e wc ⟨vc, rfl, t1, t2, t3⟩; have qd := ext_trans qc t3; obtain ⟨Ac, cc, ec⟩ := t1.shape; rw [List.length_map] at ec; subst ec; have hr2 := Rw.two 22 (m1.mod qd (fun _ _ h => h)).sl t1.sl; have qe := ext_trans qd ((Mod.refl (fun _ => False) wc).alloc (.cells #[.slice A4 X.length c4, .slice Ac R.length cc] 22)))
    | (go_at_call 115; refine (join_any hr2 (by rw [hfl, List.length_append]; omega) (by rw [hfl, List.length_append]; omega)).mono ?_; rintro e wd ⟨vd, rfl, s1, s2, s3⟩; rw [hfl] at s1; have qf := ext_trans qe s3))
  go_wp2_with fail
  go_ret
  exact ⟨_, rfl, by rw [hZ.out, ← hX.out, ← hR.out]; exact s1.late (fresh_le s2 (ext_trans x1 qe).size), ext_trans x1 qf⟩
end Go.Proofs.YtoockogceobfgaaGreat
namespace Go.Proofs.YtoockogceobfgaaGreat
open Go.RowKit
set_option maxRecDepth 100000

set_option maxHeartbeats 16000000 in
theorem body12_any {w : World} {num scope limit fk which : Int} {dn pass ft fv rdn up avt avv : List UInt8} {keep above : Bool} {Y1 Z1 W1 M1 A1 : Option Addr} {Y2 Y3 Z2 Z3 W2 W3 M2 M3 A2 A3 : Nat} (hd : dn.length ≤ 65536) (hp : rdn.length ≤ 65536) (hq : up.length ≤ 65536) (hl : (txB dn ++ txB rdn ++ boB (!keep) ++ (if above then tlv 128 up else [])).length ≤ 65536) :
    Calls Tryz.prog 80 #[.agg #[.int .i64 num, .int .i64 12, sv dn, sv pass, .int .i64 scope, .int .i64 limit, .int .i64 fk, sv ft, sv fv, .slice Y1 Y2 Y3, .slice Z1 Z2 Z3, .slice W1 W2 W3, .slice M1 M2 M3, .slice A1 A2 A3, sv rdn, .bool keep, .bool above, sv up, sv avt, sv avv, .int .i64 which]] w fun e w' => ∃ v', e = .returned v' ∧ Bs w' (fun k => w.heap.size ≤ k) v' (txB dn ++ txB rdn ++ boB (!keep) ++ (if above then tlv 128 up else [])) ∧ Ext w w' := by
  obtain ⟨Z, hZ⟩ : ∃ Z, Z = (txB dn ++ txB rdn ++ boB (!keep) ++ (if above then tlv 128 up else [])) := ⟨_, rfl⟩
  rw [← hZ]
  replace hZ := Lib.hid hZ
  have B0 : Blk (w.alloc (.cells #[.int .i64 num, .int .i64 12, sv dn, sv pass, .int .i64 scope, .int .i64 limit, .int .i64 fk, sv ft, sv fv, .slice Y1 Y2 Y3, .slice Z1 Z2 Z3, .slice W1 W2 W3, .slice M1 M2 M3, .slice A1 A2 A3, sv rdn, .bool keep, .bool above, sv up, sv avt, sv avv, .int .i64 which] 32)) w.heap.size 32 #[.int .i64 num, .int .i64 12, sv dn, sv pass, .int .i64 scope, .int .i64 limit, .int .i64 fk, sv ft, sv fv, .slice Y1 Y2 Y3, .slice Z1 Z2 Z3, .slice W1 W2 W3, .slice M1 M2 M3, .slice A1 A2 A3, sv rdn, .bool keep, .bool above, sv up, sv avt, sv avv, .int .i64 which] := Blk.new w _ _
  have x0 : Ext w (w.alloc (.cells #[.int .i64 num, .int .i64 12, sv dn, sv pass, .int .i64 scope, .int .i64 limit, .int .i64 fk, sv ft, sv fv, .slice Y1 Y2 Y3, .slice Z1 Z2 Z3, .slice W1 W2 W3, .slice M1 M2 M3, .slice A1 A2 A3, sv rdn, .bool keep, .bool above, sv up, sv avt, sv avv, .int .i64 which] 32)) := (Mod.refl _ w).alloc _
  go_enter Tryz.func80, Tryz.ntmps80
  go_wp2_with fail
  refine (mtext_any 4 dn hd).mono ?_
  rintro e w1 ⟨v1, rfl, m1, m2, m3⟩
  have B1 := B0.mod m3 (fun h => h)
  have x1 := ext_trans x0 m3
  have p1 : w1.cell? ⟨w.heap.size, 1, none⟩ = some (.int .i64 12) := B1.cell 1
  have p14 : w1.cell? ⟨w.heap.size, 14, none⟩ = some (sv rdn) := B1.cell 14
  have p15 : w1.cell? ⟨w.heap.size, 15, none⟩ = some (.bool keep) := B1.cell 15
  have hc16 : ∀ wx, Ext w1 wx → wx.cell? ⟨w.heap.size, 16, none⟩ = some (.bool above) := fun wx x => (B1.mod x (fun h => h)).cell 16
  have hc17 : ∀ wx, Ext w1 wx → wx.cell? ⟨w.heap.size, 17, none⟩ = some (sv up) := fun wx x => (B1.mod x (fun h => h)).cell 17
  have hS : ∀ wx, Ext w1 wx → wx.cell? ⟨w.heap.size, 14, none⟩ = some (sv rdn) ∧ wx.cell? ⟨w.heap.size, 15, none⟩ = some (.bool keep) := fun wx x => ⟨(B1.mod x (fun h => h)).cell 14, (B1.mod x (fun h => h)).cell 15⟩
  have q0 : Ext w1 w1.drew := (Mod.refl _ w1).drew
  change Own w1 _ v1 ((txB dn).map bv) at m1
  obtain ⟨X, hX⟩ : ∃ X, X = txB dn := ⟨_, rfl⟩
  rw [← hX] at m1 hl
  replace hX := Lib.hid hX
  obtain ⟨A4, c4, e4⟩ := m1.shape
  rw [List.length_map] at e4
  subst e4
  clear B0 B1 x0 m3
  have htx : ∀ wx, Calls Tryz.prog 114 #[.int .u8 4, sv rdn] wx fun e w' => ∃ v', e = .returned v' ∧ Own w' 5 v' ((txB rdn).map bv) ∧ Fresh wx.heap.size v' ∧ Ext wx w' := fun wx => mtext_any (w := wx) 4 rdn hp
  have hup : ∀ wx, Calls Tryz.prog 114 #[.int .u8 128, sv up] wx fun e w' => ∃ v', e = .returned v' ∧ Own w' 5 v' ((tlv 128 up).map bv) ∧ Fresh wx.heap.size v' ∧ Ext wx w' := fun wx => mtext_any (w := wx) 128 up hq
  have hpos : 0 < X.length := by rw [hX.out]; simp
  have hbo : boB (!keep) = tlv 1 [if (!keep) = true then 255 else 0] := rfl
  rw [hbo] at hl
  have hZ2 := Lib.hid (show Z = txB dn ++ txB rdn ++ tlv 1 [if (!keep) = true then 255 else 0] ++ (if above then tlv 128 up else []) from hZ.out)
  have hbool : ∀ wx, Calls Tryz.prog 116 #[.bool (!keep)] wx fun e w' => ∃ A c, e = .returned (.slice A 1 c) ∧ Bs w' AllE (.slice A 1 c) [if (!keep) = true then 255 else 0] ∧ Ext wx w' := fun wx => (bool_any (w := wx) (!keep)).mono (by
    rintro e w' ⟨v, rfl, h1, h2⟩
    obtain ⟨A, c, rfl, -, -, -, -⟩ := h1.open_
    exact ⟨A, c, rfl, h1, h2⟩)
  clear hZ hbo
  generalize (if (!keep) = true then (255 : UInt8) else 0) = BB at *
  generalize txB rdn = P at *
  simp only [List.length_append] at hl
  obtain ⟨R, hR⟩ : ∃ R, R = tlv 1 [BB] := ⟨_, rfl⟩
  rw [← hR] at hZ2
  have hRl : R.length = 3 := by rw [hR]; simp [tlv, lay]
  have htag : ∀ (wx : World) (S : Nat → Prop) (y : Value), Rw wx S y [[BB]] → Calls Tryz.prog 18 #[.int .u8 1, y] wx fun e w' => ∃ v', e = .returned v' ∧ Own w' 5 v' ((R).map bv) ∧ Fresh wx.heap.size v' ∧ Ext wx w' := fun wx S y hr => by
    have h := tag_any 1 hr (by simp)
    rw [one_flat] at h
    rw [hR]
    exact h
  have hl' : X.length + P.length + 3 ≤ 65536 := by
    have h1 : (tlv 1 [BB]).length = 3 := by rw [← hR]; exact hRl
    simp only [List.length_append] at h1
    omega
  have hul : X.length + P.length + 3 + (if above then tlv 128 up else []).length ≤ 65536 := by
    have h1 : (tlv 1 [BB]).length = 3 := by rw [← hR]; exact hRl
    simp only [List.length_append] at h1
    omega
  clear hR hl
  have hfl : [X, P, R].flatten = X ++ P ++ R := by simp
  have hRl2 := Lib.hid hRl
  replace hul := Lib.hid hul
  clear hp hq hRl
  go_wp2_with fail
  go_region_held3 (fun wx => wx.cell? ⟨w.heap.size, 14, none⟩ = some (sv rdn) ∧ wx.cell? ⟨w.heap.size, 15, none⟩ = some (.bool keep)) (first | exact hS _ qf | exact hS _ qe | exact hS _ qd | exact hS _ qc | exact hS _ qb | exact hS _ qa | exact hS _ q0 | go_keep) (first
    | (go_at_call 114; (with_reducible refine (htx _).mono ?_); rintro e wa ⟨va, rfl, a1, a2, a3⟩; have qa := ext_trans q0 a3)
    | (go_at_call 116; (with_reducible refine (hbool _).mono ?_); rintro e wb ⟨Ab, cb, rfl, b1, b3⟩; have qb := ext_trans qa b3; have hr := Rw.one 22 b1; have qc := ext_trans qb ((Mod.refl (fun _ => False) wb).alloc (.cells #[.slice Ab 1 cb] 22)))
    | (go_at_call 18; (with_reducible refine (htag _ _ _ hr).mono ?_); rintro e wc ⟨vc, rfl, t1, t2, t3⟩; have qd := ext_trans qc t3; obtain ⟨Ac, cc, ec⟩ := t1.shape; obtain ⟨Aa, ca, ea⟩ := a1.shape; rw [List.length_map] at ec ea; subst ec ea; have hr2 := (RwL.cons (m1.mod qd (fun _ _ h => h)).sl (RwL.cons (a1.mod (ext_trans b3 (ext_trans ((Mod.refl (fun _ => False) wb).alloc (.cells #[.slice Ab 1 cb] 22)) t3)) (fun _ _ h => h)).sl (RwL.cons t1.sl (RwL.nil wc)))).made 22 (by simp [maxLen]); have qe := ext_trans qd ((Mod.refl (fun _ => False) wc).alloc (.cells #[.slice A4 X.length c4, .slice Aa P.length ca, .slice Ac R.length cc] 22)))
    | (go_at_call 115; refine (join_any hr2 (by rw [hfl]; simp only [List.length_append]; omega) (by rw [hfl]; simp only [List.length_append]; have := hRl2.out; omega)).mono ?_; rintro e wd ⟨vd, rfl, s1, s2, s3⟩; rw [hfl] at s1; have qf := ext_trans qe s3))
  have r16 := hc16 _ qf
  have r17 := hc17 _ qf
  have z0 := fresh_le s2 (ext_trans x1 qe).size
  have z1 := ext_trans x1 qf
  clear hS q0 qa qb qc qd qe a1 b1 t1 hr hr2 hc16 hc17 htx hbool htag
  generalize hY : X ++ P ++ R = Y at *
  have hYl := Lib.hid (show Y.length + (if above then tlv 128 up else []).length ≤ 65536 by rw [← hY]; simp only [List.length_append]; have := hul.out; have := hRl2.out; omega)
  rw [← hX.out, hY] at hZ2
  replace hY := Lib.hid hY
  cases above
  · go_wp2_with fail
    go_ret
    exact ⟨_, rfl, by rw [hZ2.out]; simpa using s1.late z0, z1⟩
  · obtain ⟨Ad, cd, ed⟩ := s1.shape
    rw [List.length_map] at ed
    subst ed
    go_wp2_with fail
    refine (hup _).mono ?_
    rintro e we ⟨ve, rfl, u1, u2, u3⟩
    generalize tlv 128 up = U at *
    obtain ⟨Ae, ce, ee⟩ := u1.shape
    rw [List.length_map] at ee
    subst ee
    have s4 := s1.mod u3 (fun _ _ h => h)
    have z3 := ext_trans z1 u3
    go_wp2_with ((with_reducible show wpList _ _ _ (⟨some 105, _, _, _, _, _⟩ :: _) _ _); refine wp_app tyB s4 u1.sl (bv_one _) rfl (.tmp 101) (.tmp 104) rfl rfl rfl (by have := hYl.out; simp only [List.length_map, if_true] at *; omega) ?_; intro v9 w9 n1 n2 n3)
    go_ret
    exact ⟨_, rfl, by rw [hZ2.out]; simpa using Own.late (l := Y ++ U) (by rw [List.map_append]; exact n1) (n3.fresh z0 z3.size), ext_app0 z3 z0 n2⟩
end Go.Proofs.YtoockogceobfgaaGreat
namespace Go.Proofs.YtoockogceobfgaaGreat
open Go.RowKit
set_option maxRecDepth 100000

set_option maxHeartbeats 16000000 in
theorem body3_any {w : World} {num scope limit fk which : Int} {dn pass ft fv rdn up avt avv : List UInt8} {keep above : Bool} {Y1 Z1 W1 M1 A1 : Option Addr} {Y2 Y3 Z2 Z3 W2 W3 M2 M3 A2 A3 : Nat} (hd : dn.length ≤ 65536) {FB : List UInt8} {Wn : List (List UInt8)} (hfb : ∀ wx, Ext w wx → Calls Tryz.prog 117 #[.agg #[.int .i64 fk, sv ft, sv fv, .slice Y1 Y2 Y3, .slice Z1 Z2 Z3]] wx fun e w' => ∃ v', e = .returned v' ∧ Own w' 5 v' ((FB).map bv) ∧ Fresh wx.heap.size v' ∧ Ext wx w') (hw : Ss w AllE (.slice W1 W2 W3) Wn) (hs1 : -9223372036854775808 ≤ scope ∧ scope ≤ 9223372036854775807) (hs2 : -9223372036854775808 ≤ limit ∧ limit ≤ 9223372036854775807) (hl : (txB dn ++ nuB 10 scope ++ nuB 10 0 ++ nuB 2 limit ++ nuB 2 0 ++ boB false ++ FB ++ txsB 48 Wn).length ≤ 65536) :
    Calls Tryz.prog 80 #[.agg #[.int .i64 num, .int .i64 3, sv dn, sv pass, .int .i64 scope, .int .i64 limit, .int .i64 fk, sv ft, sv fv, .slice Y1 Y2 Y3, .slice Z1 Z2 Z3, .slice W1 W2 W3, .slice M1 M2 M3, .slice A1 A2 A3, sv rdn, .bool keep, .bool above, sv up, sv avt, sv avv, .int .i64 which]] w fun e w' => ∃ v', e = .returned v' ∧ Bs w' (fun k => w.heap.size ≤ k) v' (txB dn ++ nuB 10 scope ++ nuB 10 0 ++ nuB 2 limit ++ nuB 2 0 ++ boB false ++ FB ++ txsB 48 Wn) ∧ Ext w w' := by
  obtain ⟨Z, hZ⟩ : ∃ Z, Z = (txB dn ++ nuB 10 scope ++ nuB 10 0 ++ nuB 2 limit ++ nuB 2 0 ++ boB false ++ FB ++ txsB 48 Wn) := ⟨_, rfl⟩
  rw [← hZ]
  replace hZ := Lib.hid hZ
  have B0 : Blk (w.alloc (.cells #[.int .i64 num, .int .i64 3, sv dn, sv pass, .int .i64 scope, .int .i64 limit, .int .i64 fk, sv ft, sv fv, .slice Y1 Y2 Y3, .slice Z1 Z2 Z3, .slice W1 W2 W3, .slice M1 M2 M3, .slice A1 A2 A3, sv rdn, .bool keep, .bool above, sv up, sv avt, sv avv, .int .i64 which] 32)) w.heap.size 32 #[.int .i64 num, .int .i64 3, sv dn, sv pass, .int .i64 scope, .int .i64 limit, .int .i64 fk, sv ft, sv fv, .slice Y1 Y2 Y3, .slice Z1 Z2 Z3, .slice W1 W2 W3, .slice M1 M2 M3, .slice A1 A2 A3, sv rdn, .bool keep, .bool above, sv up, sv avt, sv avv, .int .i64 which] := Blk.new w _ _
  have x0 : Ext w (w.alloc (.cells #[.int .i64 num, .int .i64 3, sv dn, sv pass, .int .i64 scope, .int .i64 limit, .int .i64 fk, sv ft, sv fv, .slice Y1 Y2 Y3, .slice Z1 Z2 Z3, .slice W1 W2 W3, .slice M1 M2 M3, .slice A1 A2 A3, sv rdn, .bool keep, .bool above, sv up, sv avt, sv avv, .int .i64 which] 32)) := (Mod.refl _ w).alloc _
  go_enter Tryz.func80, Tryz.ntmps80
  go_wp2_with fail
  refine (mtext_any 4 dn hd).mono ?_
  rintro e w1 ⟨v1, rfl, m1, m2, m3⟩
  have B1 := B0.mod m3 (fun h => h)
  have x1 := ext_trans x0 m3
  have p1 : w1.cell? ⟨w.heap.size, 1, none⟩ = some (.int .i64 3) := B1.cell 1
  have p4 : w1.cell? ⟨w.heap.size, 4, none⟩ = some (.int .i64 scope) := B1.cell 4
  have p5 : w1.cell? ⟨w.heap.size, 5, none⟩ = some (.int .i64 limit) := B1.cell 5
  have p6 : w1.cell? ⟨w.heap.size, 6, none⟩ = some (.int .i64 fk) := B1.cell 6
  have p7 : w1.cell? ⟨w.heap.size, 7, none⟩ = some (sv ft) := B1.cell 7
  have p8 : w1.cell? ⟨w.heap.size, 8, none⟩ = some (sv fv) := B1.cell 8
  have p9 : w1.cell? ⟨w.heap.size, 9, none⟩ = some (.slice Y1 Y2 Y3) := B1.cell 9
  have p10 : w1.cell? ⟨w.heap.size, 10, none⟩ = some (.slice Z1 Z2 Z3) := B1.cell 10
  have p11 : w1.cell? ⟨w.heap.size, 11, none⟩ = some (.slice W1 W2 W3) := B1.cell 11
  have hS : ∀ wx, Ext w1 wx → wx.cell? ⟨w.heap.size, 4, none⟩ = some (.int .i64 scope) ∧ wx.cell? ⟨w.heap.size, 5, none⟩ = some (.int .i64 limit) ∧ wx.cell? ⟨w.heap.size, 6, none⟩ = some (.int .i64 fk) ∧ wx.cell? ⟨w.heap.size, 7, none⟩ = some (sv ft) ∧ wx.cell? ⟨w.heap.size, 8, none⟩ = some (sv fv) ∧ wx.cell? ⟨w.heap.size, 9, none⟩ = some (.slice Y1 Y2 Y3) ∧ wx.cell? ⟨w.heap.size, 10, none⟩ = some (.slice Z1 Z2 Z3) ∧ wx.cell? ⟨w.heap.size, 11, none⟩ = some (.slice W1 W2 W3) := fun wx x => ⟨(B1.mod x (fun h => h)).cell 4, (B1.mod x (fun h => h)).cell 5, (B1.mod x (fun h => h)).cell 6, (B1.mod x (fun h => h)).cell 7, (B1.mod x (fun h => h)).cell 8, (B1.mod x (fun h => h)).cell 9, (B1.mod x (fun h => h)).cell 10, (B1.mod x (fun h => h)).cell 11⟩
  have q0 : Ext w1 w1.drew := (Mod.refl _ w1).drew
  change Own w1 _ v1 ((txB dn).map bv) at m1
  obtain ⟨X, hX⟩ : ∃ X, X = txB dn := ⟨_, rfl⟩
  rw [← hX] at m1 hl
  replace hX := Lib.hid hX
  obtain ⟨A4, c4, e4⟩ := m1.shape
  rw [List.length_map] at e4
  subst e4
  clear B0 B1 x0 m3
  have ha : ∀ wx, Calls Tryz.prog 79 #[.int .u8 10, .int .i64 scope] wx fun e w' => ∃ v', e = .returned v' ∧ Own w' 5 v' ((nuB 10 scope).map bv) ∧ Fresh wx.heap.size v' ∧ Ext wx w' := fun wx => num_any (w := wx) 10 scope hs1.1 hs1.2
  have hb : ∀ wx, Calls Tryz.prog 79 #[.int .u8 10, .int .i64 0] wx fun e w' => ∃ v', e = .returned v' ∧ Own w' 5 v' ((nuB 10 0).map bv) ∧ Fresh wx.heap.size v' ∧ Ext wx w' := fun wx => num_any (w := wx) 10 0 (by omega) (by omega)
  have hc : ∀ wx, Calls Tryz.prog 79 #[.int .u8 2, .int .i64 limit] wx fun e w' => ∃ v', e = .returned v' ∧ Own w' 5 v' ((nuB 2 limit).map bv) ∧ Fresh wx.heap.size v' ∧ Ext wx w' := fun wx => num_any (w := wx) 2 limit hs2.1 hs2.2
  have hd : ∀ wx, Calls Tryz.prog 79 #[.int .u8 2, .int .i64 0] wx fun e w' => ∃ v', e = .returned v' ∧ Own w' 5 v' ((nuB 2 0).map bv) ∧ Fresh wx.heap.size v' ∧ Ext wx w' := fun wx => num_any (w := wx) 2 0 (by omega) (by omega)
  have hbool : ∀ wx, Calls Tryz.prog 116 #[.bool false] wx fun e w' => ∃ A c, e = .returned (.slice A 1 c) ∧ Bs w' AllE (.slice A 1 c) [0] ∧ Ext wx w' := fun wx => (bool_any (w := wx) false).mono (by
    rintro e w' ⟨v, rfl, h1, h2⟩
    obtain ⟨A, c, rfl, -, -, -, -⟩ := h1.open_
    exact ⟨A, c, rfl, h1, h2⟩)
  have hbo : boB false = [1, 1, 0] := rfl
  rw [hbo] at hl
  replace hZ := Lib.hid (show Z = txB dn ++ nuB 10 scope ++ nuB 10 0 ++ nuB 2 limit ++ nuB 2 0 ++ [1, 1, 0] ++ FB ++ txsB 48 Wn from hZ.out)
  obtain ⟨R, hR⟩ : ∃ R : List UInt8, R = [1, 1, 0] := ⟨_, rfl⟩
  have htag : ∀ (wx : World) (S : Nat → Prop) (y : Value), Rw wx S y [[0]] → Calls Tryz.prog 18 #[.int .u8 1, y] wx fun e w' => ∃ v', e = .returned v' ∧ Own w' 5 v' ((R).map bv) ∧ Fresh wx.heap.size v' ∧ Ext wx w' := fun wx S y hr => by
    have h := tag_any 1 hr (by simp)
    rw [hR]
    exact h
  have htl : (Wn.flatMap txB).length ≤ 65536 := tlv_le (t := 48) (show (txsB 48 Wn).length ≤ 65536 by simp only [List.length_append] at hl ⊢; omega)
  have htx : ∀ wx, Ext w wx → Calls Tryz.prog 118 #[.int .u8 48, .slice W1 W2 W3] wx fun e w' => ∃ v', e = .returned v' ∧ Own w' 5 v' ((txsB 48 Wn).map bv) ∧ Fresh wx.heap.size v' ∧ Ext wx w' := fun wx x => mtexts_any (w := wx) 48 (Sl.mod hw x (fun _ _ _ h => h)) htl
  have hpos : 0 < X.length := by rw [hX.out]; simp
  rw [← hR] at hl
  replace hZ := Lib.hid (show Z = txB dn ++ nuB 10 scope ++ nuB 10 0 ++ nuB 2 limit ++ nuB 2 0 ++ R ++ FB ++ txsB 48 Wn by rw [hR]; exact hZ.out)
  replace hR := Lib.hid hR
  generalize nuB 10 scope = P1 at *
  generalize nuB 10 0 = P2 at *
  generalize nuB 2 limit = P3 at *
  generalize nuB 2 0 = P4 at *
  generalize txsB 48 Wn = WB at *
  have hfl : [X, P1, P2, P3, P4, R, FB, WB].flatten = X ++ P1 ++ P2 ++ P3 ++ P4 ++ R ++ FB ++ WB := by simp
  have hl9 : [X, P1, P2, P3, P4, R, FB, WB].flatten.length ≤ 65536 := by rw [hfl]; exact hl
  have hl8 : 0 < [X, P1, P2, P3, P4, R, FB, WB].flatten.length := by rw [hfl]; simp only [List.length_append]; omega
  have hjoin : ∀ (wx : World) (S : Nat → Prop) (y : Value), Rw wx S y [X, P1, P2, P3, P4, R, FB, WB] → Calls Tryz.prog 115 #[y] wx fun e w' => ∃ v', e = .returned v' ∧ Own w' 5 v' ((X ++ P1 ++ P2 ++ P3 ++ P4 ++ R ++ FB ++ WB).map bv) ∧ Fresh wx.heap.size v' ∧ Ext wx w' := fun wx S y hr => by
    have h := join_any hr hl8 hl9
    rw [hfl] at h
    exact h
  clear hl hl8 hl9 hfl hbo htl hw hs1 hs2
  go_wp2_with fail
  go_region_held3 (fun wx => wx.cell? ⟨w.heap.size, 4, none⟩ = some (.int .i64 scope) ∧ wx.cell? ⟨w.heap.size, 5, none⟩ = some (.int .i64 limit) ∧ wx.cell? ⟨w.heap.size, 6, none⟩ = some (.int .i64 fk) ∧ wx.cell? ⟨w.heap.size, 7, none⟩ = some (sv ft) ∧ wx.cell? ⟨w.heap.size, 8, none⟩ = some (sv fv) ∧ wx.cell? ⟨w.heap.size, 9, none⟩ = some (.slice Y1 Y2 Y3) ∧ wx.cell? ⟨w.heap.size, 10, none⟩ = some (.slice Z1 Z2 Z3) ∧ wx.cell? ⟨w.heap.size, 11, none⟩ = some (.slice W1 W2 W3)) (first | exact hS _ qk | exact hS _ qj | exact hS _ qi | exact hS _ qh | exact hS _ qg | exact hS _ qf | exact hS _ qe | exact hS _ qd | exact hS _ qc | exact hS _ qb | exact hS _ qa | exact hS _ q0 | go_keep) (first
    | (go_at_call 79; (with_reducible refine (ha _).mono ?_); rintro e wa ⟨va, rfl, a1, a2, a3⟩; have qa := ext_trans q0 a3)
    | (go_at_call 79; (with_reducible refine (hb _).mono ?_); rintro e wb ⟨vb, rfl, b1, b2, b3⟩; have qb := ext_trans qa b3)
    | (go_at_call 79; (with_reducible refine (hc _).mono ?_); rintro e wc ⟨vc, rfl, c1, c2, c3⟩; have qc := ext_trans qb c3)
    | (go_at_call 79; (with_reducible refine (hd _).mono ?_); rintro e wd ⟨vd, rfl, d1, d2, d3⟩; have qd := ext_trans qc d3)
    | (go_at_call 116; (with_reducible refine (hbool _).mono ?_); rintro e we ⟨Ae, ce, rfl, e1, e3⟩; have qe := ext_trans qd e3; have hr := Rw.one 22 e1; have e4 := (Mod.refl (fun _ => False) we).alloc (.cells #[.slice Ae 1 ce] 22); have qf := ext_trans qe e4)
    | (go_at_call 18; (with_reducible refine (htag _ _ _ hr).mono ?_); rintro e wg ⟨vg, rfl, g1, g2, g3⟩; have qg := ext_trans qf g3)
    | (go_at_call 117; (with_reducible refine (hfb _ (ext_trans x1 qg)).mono ?_); rintro e wh ⟨vh, rfl, h1, h2, h3⟩; have qh := ext_trans qg h3)
    | (go_at_call 118; (with_reducible refine (htx _ (ext_trans x1 qh)).mono ?_); rintro e wi ⟨vi, rfl, i1, i2, i3⟩; have qi := ext_trans qh i3; have yh := i3; have yg := ext_trans h3 yh; have yd := ext_trans e3 (ext_trans e4 (ext_trans g3 yg)); have yc := ext_trans d3 yd; have yb := ext_trans c3 yc; have ya := ext_trans b3 yb; obtain ⟨Sa, ka, sa⟩ := a1.shape; rw [List.length_map] at sa; subst sa; obtain ⟨Sb, kb, sb⟩ := b1.shape; rw [List.length_map] at sb; subst sb; obtain ⟨Sc, kc, sc⟩ := c1.shape; rw [List.length_map] at sc; subst sc; obtain ⟨Sd, kd, sd⟩ := d1.shape; rw [List.length_map] at sd; subst sd; obtain ⟨Sg, kg, sg⟩ := g1.shape; rw [List.length_map] at sg; subst sg; obtain ⟨Sh, kh, sh⟩ := h1.shape; rw [List.length_map] at sh; subst sh; obtain ⟨Si, ki, si⟩ := i1.shape; rw [List.length_map] at si; subst si; have hr2 := (RwL.cons (m1.mod qi (fun _ _ h => h)).sl (RwL.cons (a1.mod ya (fun _ _ h => h)).sl (RwL.cons (b1.mod yb (fun _ _ h => h)).sl (RwL.cons (c1.mod yc (fun _ _ h => h)).sl (RwL.cons (d1.mod yd (fun _ _ h => h)).sl (RwL.cons (g1.mod yg (fun _ _ h => h)).sl (RwL.cons (h1.mod yh (fun _ _ h => h)).sl (RwL.cons i1.sl (RwL.nil wi))))))))).made 22 (by simp [maxLen]); have qj := ext_trans qi ((Mod.refl (fun _ => False) wi).alloc (.cells #[.slice A4 X.length c4, .slice Sa P1.length ka, .slice Sb P2.length kb, .slice Sc P3.length kc, .slice Sd P4.length kd, .slice Sg R.length kg, .slice Sh FB.length kh, .slice Si WB.length ki] 22)))
    | (go_at_call 115; refine (hjoin _ _ _ hr2).mono ?_; rintro e wk ⟨vk, rfl, k1, k2, k3⟩; have qk := ext_trans qj k3))
  go_wp2_with fail
  go_ret
  exact ⟨_, rfl, by rw [hZ.out, ← hX.out]; exact k1.late (fresh_le k2 (ext_trans x1 qj).size), ext_trans x1 qk⟩
end Go.Proofs.YtoockogceobfgaaGreat
namespace Go.Proofs.YtoockogceobfgaaGreat
open Go.RowKit
set_option maxRecDepth 100000

def isOp (k : Int) : Prop := k = 0 ∨ k = 2 ∨ k = 3 ∨ k = 6 ∨ k = 8 ∨ k = 10 ∨ k = 12 ∨ k = 14 ∨ k = 16
set_option maxHeartbeats 8000000 in
theorem opTag_any {w : World} {k : Int} (h : isOp k) : Calls Tryz.prog 57 #[.int .i64 k] w fun e w' => e = .returned (.int .u8 (opT k).toNat) ∧ w' = w := by
  obtain ⟨T, hT⟩ : ∃ T, T = opT k := ⟨_, rfl⟩
  rw [← hT]
  rcases h with rfl | rfl | rfl | rfl | rfl | rfl | rfl | rfl | rfl
  all_goals
    rw [hT]
    clear hT
    go_enter Tryz.func57, Tryz.ntmps57
    go_wp2_with fail
    go_ret
    exact ⟨rfl, rfl⟩
end Go.Proofs.YtoockogceobfgaaGreat
namespace Go.Proofs.YtoockogceobfgaaGreat
open Go.RowKit
set_option maxRecDepth 100000

/-- A request's parts in memory. -/
structure RqAt (n : Nat) (w : World) (r : Rq) (vs vk vW vM vA : Value) : Prop where
  fil : FilN n w r.fil vs vk
  want : Ss w AllE vW r.want
  mods : Mds w vM r.mods
  ats : Ats w vA r.ats
theorem RqAt.ext {n : Nat} {w w' : World} {r : Rq} {vs vk vW vM vA : Value} (h : RqAt n w r vs vk vW vM vA) (x : Ext w w') : RqAt n w' r vs vk vW vM vA :=
  ⟨h.fil.ext x, Sl.mod h.want x (fun _ _ _ h => h), h.mods.ext x, h.ats.ext x⟩
/-- Ints are ints, texts are short. -/
structure RFit (r : Rq) : Prop where
  sc : -9223372036854775808 ≤ r.scope ∧ r.scope ≤ 9223372036854775807
  li : -9223372036854775808 ≤ r.limit ∧ r.limit ≤ 9223372036854775807
  wh : -9223372036854775808 ≤ r.which ∧ r.which ≤ 9223372036854775807
  md : ∀ m ∈ r.mods, -9223372036854775808 ≤ m.kind ∧ m.kind ≤ 9223372036854775807
  dn : r.dn.length ≤ 65536
  pa : r.pass.length ≤ 65536
  rd : r.rdn.length ≤ 65536
  up : r.up.length ≤ 65536
  at1 : r.avt.length ≤ 65536
  at2 : r.avv.length ≤ 65536
theorem body_any {n : Nat} {w : World} {r : Rq} {Y1 Z1 W1 M1 A1 : Option Addr} {Y2 Y3 Z2 Z3 W2 W3 M2 M3 A2 A3 : Nat} (h : RqAt n w r (.slice Y1 Y2 Y3) (.slice Z1 Z2 Z3) (.slice W1 W2 W3) (.slice M1 M2 M3) (.slice A1 A2 A3)) (hf : RFit r) (ho : isOp r.kind) (hk : r.kind = 3 → KdN n r.fil)
    (hl : (bodyB n r).length ≤ 65536) :
    Calls Tryz.prog 80 #[.agg #[.int .i64 r.num, .int .i64 r.kind, sv r.dn, sv r.pass, .int .i64 r.scope, .int .i64 r.limit, .int .i64 r.fil.kind, sv r.fil.typ, sv r.fil.val, .slice Y1 Y2 Y3, .slice Z1 Z2 Z3, .slice W1 W2 W3, .slice M1 M2 M3, .slice A1 A2 A3, sv r.rdn, .bool r.keep, .bool r.above, sv r.up, sv r.avt, sv r.avv, .int .i64 r.which]] w fun e w' => ∃ v', e = .returned v' ∧ Bs w' (fun k => w.heap.size ≤ k) v' (bodyB n r) ∧ Ext w w' := by
  rcases ho with e | e | e | e | e | e | e | e | e
  · have hb : bodyB n r = nuB 2 3 ++ txB r.dn ++ tlv 128 r.pass := by simp [bodyB, e]
    rw [hb] at hl ⊢
    rw [e]
    exact body0_any hf.dn hf.pa hl
  · have hb : bodyB n r = [] := by simp [bodyB, e]
    rw [hb, e]
    exact body2_any hf.dn
  · have hb : bodyB n r = txB r.dn ++ nuB 10 r.scope ++ nuB 10 0 ++ nuB 2 r.limit ++ nuB 2 0 ++ boB false ++ filB n r.fil ++ txsB 48 r.want := by unfold bodyB; rw [if_neg (by omega), if_pos e]
    rw [hb] at hl ⊢
    rw [e]
    refine body3_any hf.dn (fun wx x => fb_any n (h.fil.ext x) (hk e) ?_) h.want hf.sc hf.li hl
    have := hl
    simp only [List.length_append] at this ⊢
    omega
  · have hb : bodyB n r = txB r.dn ++ tlv 48 (r.mods.flatMap mdB) := by simp [bodyB, e]
    rw [hb] at hl ⊢
    rw [e]
    exact body6_any hf.dn h.mods hf.md hl
  · have hb : bodyB n r = txB r.dn ++ atsB r.ats := by simp [bodyB, e]
    rw [hb] at hl ⊢
    rw [e]
    exact body8_any hf.dn h.ats hl
  · have hb : bodyB n r = r.dn := by simp [bodyB, e]
    rw [hb, e]
    exact body10_any hf.dn
  · have hb : bodyB n r = txB r.dn ++ txB r.rdn ++ boB (!r.keep) ++ (if r.above then tlv 128 r.up else []) := by unfold bodyB; rw [if_neg (by omega), if_neg (by omega), if_neg (by omega), if_neg (by omega), if_neg (by omega), if_pos e]
    rw [hb] at hl ⊢
    rw [e]
    exact body12_any hf.dn hf.rd hf.up hl
  · have hb : bodyB n r = txB r.dn ++ tlv 48 (txB r.avt ++ txB r.avv) := by simp [bodyB, e]
    rw [hb] at hl ⊢
    rw [e]
    exact body14_any hf.dn hf.at1 hf.at2 hl
  · have hb : bodyB n r = iB r.which := by simp [bodyB, e]
    rw [hb, e]
    exact body16_any hf.dn hf.wh.1 hf.wh.2
end Go.Proofs.YtoockogceobfgaaGreat
namespace Go.Proofs.YtoockogceobfgaaGreat
open Go.RowKit
set_option maxRecDepth 100000

set_option maxHeartbeats 2000000 in
theorem rlen_any {w : World} {n : Nat} (hn : n < 16777216) :
    Calls Tryz.prog 129 #[.int .i64 n] w fun e w' => ∃ v', e = .returned v' ∧ Own w' 5 v' ((lay n).map bv) ∧ Fresh w.heap.size v' ∧ Ext w w' := by
  by_cases h128 : n < 128
  · have hlay : lay n = [UInt8.ofNat n] := by unfold lay; rw [if_pos h128]
    rw [hlay]
    have hown := Own.lit w 5 [.int .u8 (n : Int)] (by simp [maxLen])
    have hbv := byte_of (n := n) (by omega)
    replace hbv := Lib.hid hbv
    go_enter Tryz.func129, Tryz.ntmps129
    go_wp2_with fail
    go_ret
    exact ⟨_, rfl, by rw [hbv.out] at hown ⊢; exact hown, (fun x hk => by have : w.heap.size = x := Option.some.inj hk; omega), (Mod.refl _ _).alloc _⟩
  · have hlay : lay n = UInt8.ofNat (128 + lw n) :: bes n (lw n) := by unfold lay; rw [if_neg h128]
    replace hlay := Lib.hid hlay
    go_enter Tryz.func129, Tryz.ntmps129
    go_wp2_with fail
    go_loopw [0, 3] (fun m v wr => ∃ j : Nat, j ≤ 3 ∧ m = .int .i64 ((n : Int) / 2 ^ (8 * j)) ∧ Own wr 5 v ((bes n j).map bv) ∧ Fresh w.heap.size v ∧ Ext w wr ∧ Hid (j = 0 ∨ 2 ^ (8 * (j - 1)) ≤ n)) (fun _ v _ => 4 - slen v)
    case atStart => exact ⟨0, by omega, by simp, Own.nil _ _, fresh_nil _ _ _, Mod.refl _ _, Lib.hid (.inl rfl)⟩
    case round =>
      obtain ⟨j, hj, rfl, p0, p1, p2, pf⟩ := hrel
      obtain ⟨A, c, rfl⟩ := p0.shape
      rw [List.length_map, bes_len] at p0 p1 ⊢
      have hd1 : ((n / 2 ^ (8 * j) : Nat) : Int) = (n : Int) / 2 ^ (8 * j) := by simp
      by_cases hlt : n < 2 ^ (8 * j)
      · have hx0 : (n : Int) / 2 ^ (8 * j) = 0 := by rw [← hd1, Nat.div_eq_of_lt hlt]; rfl
        rw [hx0]
        have hj1 : 1 ≤ j := by
          rcases Nat.eq_zero_or_pos j with h | h
          · subst h; simp at hlt; omega
          · exact h
        have hw : lw n = j := lw_of hj1 hlt (by rcases pf.out with h | h; exact .inl (by omega); exact .inr h) hj
        rw [hw] at hlay
        have hbv := byte_of (n := 128 + j) (by omega)
        rw [Int.natCast_add] at hbv
        replace hbv := Lib.hid hbv
        have hlit := Own.lit wr 5 [.int .u8 (128 + (j : Int))] (by simp [maxLen])
        have hfl : Fresh w.heap.size (.slice (some ⟨wr.heap.size, 0, none⟩) 1 1) := fun q hk => by have : wr.heap.size = q := Option.some.inj hk; have := p2.size; omega
        have hsl := (p0.alloc (.cells [.int .u8 (128 + (j : Int))].toArray 5)).sl
        have hn1 : (([.int .u8 (128 + (j : Int))] : List Value).length + ((bes n j).map bv).length) * 1 ≤ 140737488355328 := by rw [List.length_map, bes_len]; simp; omega
        replace hn1 := Lib.hid hn1
        clear hlt hd1 hx0 hw pf
        go_wp2_with ((with_reducible show wpList _ _ _ (⟨some 24, _, _, _, _, _⟩ :: _) _ _); refine wp_app tyB hlit hsl (bv_one _) rfl (.tmp 22) (.tmp 23) rfl rfl rfl hn1.out ?_; intro v2 w2 k1 k2 k3)
        go_ret
        refine ⟨_, rfl, ?_, (k3.sooner (B' := w.heap.size) (by have := p2.size; simp; omega)).fresh hfl (Nat.le_refl _), ext_app p2 hfl k2⟩
        rw [hlay.out, List.map_cons, ← hbv.out]
        exact k1
      · have hlt' : 2 ^ (8 * j) ≤ n := by omega
        have hj2 : j < 3 := by
          rcases Nat.lt_or_ge j 3 with h | h
          · exact h
          · obtain rfl : j = 3 := by omega
            have : 16777216 ≤ n := hlt'
            omega
        have hx1 : 1 ≤ n / 2 ^ (8 * j) := (Nat.le_div_iff_mul_le (Nat.two_pow_pos _)).2 (by omega)
        have hxn : n / 2 ^ (8 * j) ≤ n := Nat.div_le_self _ _
        have hdn := div_next n j
        have hbt := bt_val n j
        rw [← hd1] at hdn hbt ⊢
        generalize n / 2 ^ (8 * j) = x at *
        have hbs : bes n (j + 1) = bt n j :: bes n j := rfl
        have hbv : (.int .u8 ((x : Int) % 256) : Value) = bv (bt n j) := by show _ = Value.int .u8 ((bt n j).toNat : Int); rw [hbt]
        have hlit := Own.lit wr 5 [.int .u8 ((x : Int) % 256)] (by simp [maxLen])
        have hfl : Fresh w.heap.size (.slice (some ⟨wr.heap.size, 0, none⟩) 1 1) := fun q hk => by have : wr.heap.size = q := Option.some.inj hk; have := p2.size; omega
        have hsl := (p0.alloc (.cells [.int .u8 ((x : Int) % 256)].toArray 5)).sl
        have hn1 : (([.int .u8 ((x : Int) % 256)] : List Value).length + ((bes n j).map bv).length) * 1 ≤ 140737488355328 := by rw [List.length_map, bes_len]; simp; omega
        replace hn1 := Lib.hid hn1
        replace hdn := Lib.hid hdn
        replace hbs := Lib.hid hbs
        replace hbv := Lib.hid hbv
        replace hlt' := Lib.hid hlt'
        clear hbt hlt hd1 pf
        go_wp2_with ((with_reducible show wpList _ _ _ (⟨some 15, _, _, _, _, _⟩ :: _) _ _); refine wp_app tyB hlit hsl (bv_one _) rfl (.tmp 13) (.tmp 14) rfl rfl rfl hn1.out ?_; intro v2 w2 k1 k2 k3; rw [hbv.out] at k1; replace k1 : Own w2 5 v2 ((bt n j :: bes n j).map bv) := k1)
        have hfv := (k3.sooner (B' := w.heap.size) (by have := p2.size; simp; omega)).fresh hfl (Nat.le_refl _)
        obtain ⟨A2, c2, rfl⟩ := k1.shape
        rw [List.length_map, List.length_cons, bes_len] at k1 hfv ⊢
        exact ⟨⟨j + 1, by omega, by rw [← hdn.out], by rw [hbs.out]; exact k1, hfv, ext_app p2 hfl k2, Lib.hid (.inr hlt'.out)⟩, by simp only [slen]; omega⟩

set_option maxHeartbeats 2000000 in
theorem rtag_any {w : World} {S : Nat → Prop} {y : Value} {l : List UInt8} (t : UInt8) (hy : Bs w S y l) (hl : l.length ≤ 65536) :
    Calls Tryz.prog 95 #[.int .u8 t.toNat, y] w fun e w' => ∃ v', e = .returned v' ∧ Own w' 5 v' ((t :: lay l.length ++ l).map bv) ∧ Fresh w.heap.size v' ∧ Ext w w' := by
  have hy0 := hy
  obtain ⟨A, c, rfl, h1, h2, h3, h4⟩ := hy.open_
  clear h3 h4 hy
  go_enter Tryz.func95, Tryz.ntmps95
  go_wp2_with fail
  refine (rlen_any (by omega)).mono ?_
  rintro e w1 ⟨v1, rfl, g1, gf, hx1a⟩
  have hlit0 : Own (w.alloc (.cells #[.int .u8 (t.toNat : Int)] 5)) 5 (.slice (some ⟨w.heap.size, 0, none⟩) 1 1) ([t].map bv) := Own.lit w 5 [bv t] (by simp [maxLen])
  have hfl : Fresh w.heap.size (.slice (some ⟨w.heap.size, 0, none⟩) 1 1) := fun q hk => by have : w.heap.size = q := Option.some.inj hk; omega
  have hlit := hlit0.mod hx1a (fun _ _ h => h)
  have hx1 : Ext w w1 := ext_trans ((Mod.refl _ w).alloc _) hx1a
  have hll := lay_len l.length
  obtain ⟨ly, hly⟩ : ∃ ly, ly = lay l.length := ⟨_, rfl⟩
  rw [← hly] at g1 hll
  replace hly := Lib.hid hly
  have hn1 : (([t].map bv).length + (ly.map bv).length) * 1 ≤ 140737488355328 := by rw [List.length_map, List.length_map]; simp; omega
  have hn2 : (((t :: ly).map bv).length + (l.map bv).length) * 1 ≤ 140737488355328 := by rw [List.length_map, List.length_map]; simp; omega
  replace hn1 := Lib.hid hn1
  replace hn2 := Lib.hid hn2
  have g1s := g1.sl
  clear hlit0 g1 gf hll
  go_wp2_with (first
    | ((with_reducible show wpList _ _ _ (⟨some 10, _, _, _, _, _⟩ :: _) _ _); refine wp_app tyB hlit g1s (bv_one _) rfl (.tmp 6) (.tmp 9) rfl rfl rfl hn1.out ?_; intro v2 w2 k1 k2 k3; rw [← List.map_append] at k1; replace k1 : Own w2 5 v2 ((t :: ly).map bv) := k1; have hx2 := ext_app0 hx1 hfl k2; have hf2 := k3.fresh hfl hx1.size; clear k2 k3)
    | ((with_reducible show wpList _ _ _ (⟨some 12, _, _, _, _, _⟩ :: _) _ _); refine wp_app tyB k1 (hy0.ext hx2) (bv_one _) rfl (.tmp 10) (.tmp 11) rfl rfl rfl hn2.out ?_; intro v3 w3 q1 q2 q3; rw [← List.map_append] at q1))
  go_ret
  exact ⟨_, rfl, by rw [← hly.out]; exact q1, q3.fresh hf2 hx2.size, ext_app0 hx2 hf2 q2⟩
end Go.Proofs.YtoockogceobfgaaGreat
namespace Go.Proofs.YtoockogceobfgaaGreat
open Go.RowKit
set_option maxRecDepth 100000

set_option maxHeartbeats 4000000 in
theorem rtag25_any {w : World} {S : Nat → Prop} {y : Value} {L : List (List UInt8)} (t : UInt8) (hy : Rw w S y L) (hl : L.flatten.length ≤ 65536) :
    Calls Tryz.prog 72 #[.int .u8 t.toNat, y] w fun e w' => ∃ v', e = .returned v' ∧ Own w' 5 v' ((tlv t L.flatten).map bv) ∧ Fresh w.heap.size v' ∧ Ext w w' := by
  obtain ⟨A, c, vs, rfl, h1, h2, h3, h4, h5, h6⟩ := hy.open_
  obtain ⟨Z, hZ⟩ : ∃ Z, Z = tlv t L.flatten := ⟨_, rfl⟩
  rw [← hZ]
  replace hZ := Lib.hid hZ
  go_enter Tryz.func72, Tryz.ntmps72
  go_wp2_with fail
  obtain ⟨n, hn⟩ : ∃ n, n = L.flatten.length := ⟨_, rfl⟩
  rw [← hn] at hl
  replace hn := Lib.hid hn
  go_loopw [5, 6] (fun v i wr => ∃ k : Nat, k ≤ L.length ∧ i = .int .i64 k ∧ Own wr 5 v (((L.take k).flatten).map bv) ∧ Fresh w.heap.size v ∧ Ext w wr) (fun _ i _ => L.length - (intOf i).toNat)
  case atStart => exact ⟨0, Nat.zero_le _, rfl, by simpa using Own.nil w 5, fresh_nil _ _ _, Mod.refl _ _⟩
  case round =>
    obtain ⟨k, hk, rfl, hown, hf, hm⟩ := hrel
    by_cases hlt : k < L.length
    · obtain ⟨ad, x, rfl, hs, hc, hbs⟩ := row_at h4 (h5.mod hm (fun _ _ _ h => h)) (fun k x l hx hl => (h6 k x l hx hl).ext hm) hlt
      have hsn := Lib.hid (flat_snoc L k hlt)
      have hle1 := flatR_take L (k + 1)
      rw [hsn.out, List.length_append, ← hn.out] at hle1
      have hln : (((L.take k).flatten.map bv).length + (L[k].map bv).length) * 1 ≤ 140737488355328 := by
        rw [List.length_map, List.length_map]; omega
      replace hle1 := Lib.hid hle1
      replace hln := Lib.hid hln
      go_wp2_with ((with_reducible show wpList _ _ _ (⟨some 18, _, _, _, _, _⟩ :: _) _ _); refine wp_app tyB hown hbs (bv_one _) rfl (.tmp 13) (.tmp 17) rfl rfl rfl hln.out ?_; intro v2 w2 hown2 hmod2 hnx2)
      exact ⟨⟨k + 1, by omega, by go_num, by rw [hsn.out, List.map_append]; exact hown2, hnx2.fresh hf hm.size, ext_app0 hm hf hmod2⟩, by simp [intOf] <;> omega⟩
    · rw [List.take_of_length_le (by omega)] at hown
      obtain ⟨F, hF⟩ : ∃ F, F = L.flatten := ⟨_, rfl⟩
      rw [← hF] at hown hn hZ
      have hFl : F.length ≤ 65536 := by rw [← hn.out]; exact hl
      clear hF hn hl h5 h6 hy
      obtain ⟨A2, c2, e2⟩ := hown.shape
      rw [List.length_map] at e2
      subst e2
      go_wp2_with fail
      refine (rtag_any t hown.sl hFl).mono ?_
      rintro e w2 ⟨v2, rfl, k1, k2, k3⟩
      go_wp2_with fail
      go_ret
      exact ⟨_, rfl, by rw [hZ.out]; exact k1, fresh_le k2 hm.size, ext_trans hm k3⟩

set_option maxHeartbeats 4000000 in
theorem rtext25_any {w : World} (l : List UInt8) (hl : l.length ≤ 65536) :
    Calls Tryz.prog 97 #[sv l] w fun e w' => ∃ v', e = .returned v' ∧ Own w' 5 v' ((txB l).map bv) ∧ Fresh w.heap.size v' ∧ Ext w w' := by
  go_enter Tryz.func97, Tryz.ntmps97
  go_wp2_with ((with_reducible show wpList _ _ _ (⟨some 4, _, _, _, _, _⟩ :: _) _ _); refine wp_tob Tryz.underlying9 Tryz.underlying22 Tryz.underlying5 (l := l) (by omega) rfl (.tmp 3) rfl rfl ?_; intro cp w1 k1 k2 k3; clear k3)
  have hr := Rw.one 22 k1
  have hx2 := mext_trans k2 ((Mod.refl (fun _ => False) w1).alloc (.cells #[.slice (some ⟨w.heap.size, 0, none⟩) l.length cp] 22))
  refine (rtag25_any 4 hr (by rw [one_flat]; exact hl)).mono ?_
  rintro e w2 ⟨v2, rfl, m1, m2, m3⟩
  rw [one_flat] at m1
  go_wp2_with fail
  go_ret
  exact ⟨_, rfl, m1, fresh_le m2 hx2.size, mext_trans hx2 m3⟩

set_option maxHeartbeats 4000000 in
theorem rnum25_any {w : World} (t : UInt8) (n : Int) (h0 : -9223372036854775808 ≤ n) (h1 : n ≤ 9223372036854775807) :
    Calls Tryz.prog 73 #[.int .u8 t.toNat, .int .i64 n] w fun e w' => ∃ v', e = .returned v' ∧ Own w' 5 v' ((nuB t n).map bv) ∧ Fresh w.heap.size v' ∧ Ext w w' := by
  have hil := iB_len n
  obtain ⟨Z, hZ⟩ : ∃ Z, Z = nuB t n := ⟨_, rfl⟩
  rw [← hZ]
  replace hZ := Lib.hid (show Z = tlv t (iB n) from hZ)
  go_enter Tryz.func73, Tryz.ntmps73
  go_wp2_with fail
  refine (rint_any (w := w) n h0 h1).mono ?_
  rintro e w1 ⟨k, v1, rfl, hk, g1, g2, g3⟩
  rw [isw_iB hk] at g1
  generalize iB n = B at *
  obtain ⟨A1, c1, hv1⟩ := g1.shape
  rw [List.length_map] at hv1
  subst hv1
  have hr := Rw.one 22 g1.sl
  have hx2 := fun cs => mext_trans g3 ((Mod.refl (fun _ => False) w1).alloc (.cells cs 22))
  clear hk
  go_wp2_with fail
  refine (rtag25_any t hr (by rw [one_flat]; omega)).mono ?_
  rintro e w2 ⟨v2, rfl, m1, m2, m3⟩
  rw [one_flat] at m1
  go_wp2_with fail
  go_ret
  exact ⟨_, rfl, by rw [hZ.out]; exact m1, fresh_le m2 (hx2 _).size, mext_trans (hx2 _) m3⟩
end Go.Proofs.YtoockogceobfgaaGreat
namespace Go.Proofs.YtoockogceobfgaaGreat
open Go.RowKit
set_option maxRecDepth 100000

theorem txB_le {L : List (List UInt8)} (m : Nat) (h : (L.flatMap txB).length ≤ m) : L.length * 2 ≤ m := Nat.le_trans (fm_ge txB (fun a => by have := (lay_len a.length).1; simp only [List.length_append, List.length_cons]; omega) L) h
set_option maxHeartbeats 8000000 in
theorem rrows_any {w : World} {S : Nat → Prop} {v : Value} {L : List (List UInt8)} (t : UInt8) (h : Ss w S v L) (hl : (L.flatMap txB).length ≤ 65536) :
    Calls Tryz.prog 100 #[.int .u8 t.toNat, v] w fun e w' => ∃ v', e = .returned v' ∧ Own w' 5 v' ((txsB t L).map bv) ∧ Fresh w.heap.size v' ∧ Ext w w' := by
  obtain ⟨A, c, rfl, -, -, -, h4⟩ := h.open_
  have hsn := fun k h => @fmB_snoc (List UInt8) UInt8 txB L k h
  have htk := fun k => @fmB_take (List UInt8) UInt8 txB L k
  have hLl := txB_le _ hl
  obtain ⟨Z, hZ⟩ : ∃ Z, Z = txsB t L := ⟨_, rfl⟩
  rw [← hZ]
  replace hZ := Lib.hid (show Z = tlv t (L.flatMap txB) from hZ)
  obtain ⟨n, hn⟩ : ∃ n, n = L.length := ⟨_, rfl⟩
  rw [← hn] at hLl ⊢
  replace hn := Lib.hid hn
  have hcv : ∀ {wx : World} (j : Nat) (hj : j < L.length), Ext w wx → ∃ ad, A = some ad ∧ wx.cell? (ad.add j) = some (sv L[j]) := fun j hj x => by
    obtain ⟨ad, h1, h2, h3⟩ := h4.at_ hj
    exact ⟨ad, h1, ext_cell x h3⟩
  clear h
  go_enter Tryz.func100, Tryz.ntmps100
  go_wp2_with fail
  go_loopw [5, 6] (fun v i wr => ∃ k : Nat, i = .int .i64 k ∧ k ≤ n ∧ Own wr 5 v (((L.take k).flatMap txB).map bv) ∧ Fresh w.heap.size v ∧ Ext w wr) (fun _ i _ => n - (intOf i).toNat)
  case atStart => exact ⟨0, rfl, Nat.zero_le _, by simpa using Own.nil w 5, fresh_nil _ _ _, Mod.refl _ _⟩
  case round =>
    obtain ⟨k, rfl, hk, ho, hf, hx⟩ := hrel
    have hnn := hn.out
    by_cases hlt : k < n
    · have hb : decide ((k : Int) < (n : Int)) = true := dtrue (by omega)
      obtain ⟨ad, hA, cv⟩ := hcv k (by omega) hx
      subst hA
      have h1 := hsn k (by omega)
      have h2 := htk (k + 1)
      rw [h1] at h2
      generalize L[k]'(by omega) = x at *
      have hxl : x.length ≤ 65536 := by
        rw [List.length_append] at h2
        exact tlv_le (t := 4) (show (txB x).length ≤ 65536 by omega)
      have hk0 : (0 : Int) ≤ (k : Int) := by omega
      have hk1 : (k : Int) < (n : Int) := by omega
      obtain ⟨M, hM⟩ : ∃ M, M = (L.take k).flatMap txB := ⟨_, rfl⟩
      rw [← hM] at ho h1 h2
      have hst := Lib.hid h1
      have hln := Lib.hid (show ((M.map bv).length + ((txB x).map bv).length) * 1 ≤ 140737488355328 by rw [List.length_append] at h2; rw [List.length_map, List.length_map]; omega)
      clear h1 h2 hM hnn hsn htk hcv
      go_wp2_with fail
      refine (rtext25_any x hxl).mono ?_
      rintro e w1 ⟨v1, rfl, m1, m2, m3⟩
      generalize txB x = X at *
      obtain ⟨A1, c1, e1⟩ := m1.shape
      rw [List.length_map] at e1
      subst e1
      have ho1 := ho.mod m3 (fun _ _ h => h)
      have hx1 := ext_trans hx m3
      go_wp2_with ((with_reducible show wpList _ _ _ (⟨some 19, _, _, _, _, _⟩ :: _) _ _); refine wp_app tyB ho1 m1.sl (bv_one _) rfl (.tmp 13) (.tmp 18) rfl rfl rfl hln.out ?_; intro v4 w4 q1 q2 q3)
      exact ⟨⟨k + 1, by go_num, by omega, by rw [hst.out, List.map_append]; exact q1, q3.fresh hf hx1.size, ext_app0 hx1 hf q2⟩, by simp [intOf] <;> omega⟩
    · have hb : decide ((k : Int) < (n : Int)) = false := dfalse (by omega)
      have hkn : k = n := by omega
      subst hkn
      rw [hnn, List.take_length] at ho
      generalize L.flatMap txB = F at *
      clear hsn htk hcv hnn
      obtain ⟨A2, c2, e2⟩ := ho.shape
      rw [List.length_map] at e2
      subst e2
      have hr := Rw.one 22 ho.sl
      have hx2 := fun cs => ext_trans hx ((Mod.refl (fun _ => False) wr).alloc (.cells cs 22))
      go_wp2_with fail
      refine (rtag25_any t hr (by rw [one_flat]; exact hl)).mono ?_
      rintro e w2 ⟨v2, rfl, m1, m2, m3⟩
      rw [one_flat] at m1
      go_wp2_with fail
      go_ret
      exact ⟨_, rfl, by rw [hZ.out]; exact m1, fresh_le m2 (hx2 _).size, ext_trans (hx2 _) m3⟩

set_option maxHeartbeats 4000000 in
theorem rattr25_any {w : World} {S : Nat → Prop} {v : Value} {typ : List UInt8} {L : List (List UInt8)} (h : Ss w S v L) (hl : (atB typ L).length ≤ 65536) :
    Calls Tryz.prog 130 #[sv typ, v] w fun e w' => ∃ v', e = .returned v' ∧ Own w' 5 v' ((atB typ L).map bv) ∧ Fresh w.heap.size v' ∧ Ext w w' := by
  have hl' := hl
  simp only [atB, txB, txsB, tlv, List.length_append, List.length_cons] at hl'
  obtain ⟨A, c, hv, -, -, -, -⟩ := h.open_
  subst hv
  obtain ⟨Z, hZ⟩ : ∃ Z, Z = atB typ L := ⟨_, rfl⟩
  rw [← hZ] at hl ⊢
  replace hZ := Lib.hid (show Z = tlv 48 (txB typ ++ txsB 49 L) from hZ)
  go_enter Tryz.func130, Tryz.ntmps130
  go_wp2_with fail
  refine (rtext25_any typ (by omega)).mono ?_
  rintro e w1 ⟨v1, rfl, m1, m2, m3⟩
  go_wp2_with fail
  refine (rrows_any 49 (Sl.mod h m3 (fun _ _ _ h => h)) (by omega)).mono ?_
  rintro e w2 ⟨v2, rfl, k1, k2, k3⟩
  rw [hZ.out] at hl
  clear hl'
  generalize txB typ = X at *
  generalize txsB 49 L = Y at *
  have hl' : X.length + Y.length ≤ 65536 := by
    simp only [tlv, List.length_append, List.length_cons] at hl
    omega
  clear hl
  have hr := Rw.two 22 (m1.mod k3 (fun _ _ h => h)).sl k1.sl
  have hx2 := mext_trans (mext_trans m3 k3) ((Mod.refl (fun _ => False) w2).alloc (.cells #[v1, v2] 22))
  obtain ⟨A1, c1, e1⟩ := m1.shape
  obtain ⟨A2, c2, e2⟩ := k1.shape
  rw [List.length_map] at e1 e2
  subst e1 e2
  have hfl : [X, Y].flatten = X ++ Y := by simp
  go_wp2_with fail
  refine (rtag25_any 48 hr (by rw [hfl, List.length_append]; exact hl')).mono ?_
  rintro e w3 ⟨v3, rfl, q1, q2, q3⟩
  rw [hfl] at q1
  go_wp2_with fail
  go_ret
  exact ⟨_, rfl, by rw [hZ.out]; exact q1, fresh_le q2 hx2.size, mext_trans hx2 q3⟩
end Go.Proofs.YtoockogceobfgaaGreat
namespace Go.Proofs.YtoockogceobfgaaGreat
open Go.RowKit
set_option maxRecDepth 100000

theorem mod_cell {F : Nat → Prop} {w w' : World} (x : Mod F w w') {p : Addr} {u : Value} (h : w.cell? p = some u) (hn : ¬ F p.block) : w'.cell? p = some u := (x.cell (lt_of_cell h) hn).trans h
set_option maxHeartbeats 8000000 in
theorem rattrs25_any {w : World} {v : Value} {L : List Att} (h : Ats w v L) (hl : (L.flatMap aB).length ≤ 65536) :
    Calls Tryz.prog 102 #[v] w fun e w' => ∃ v', e = .returned v' ∧ Own w' 5 v' ((atsB L).map bv) ∧ Fresh w.heap.size v' ∧ Ext w w' := by
  obtain ⟨A, c, rfl, hat⟩ := h.open_
  have hsn := fun k h => @fmB_snoc Att UInt8 aB L k h
  have htk := fun k => @fmB_take Att UInt8 aB L k
  have hLl := fm_ge aB aB_pos L
  have hLl : L.length * 2 ≤ 65536 := by omega
  obtain ⟨Z, hZ⟩ : ∃ Z, Z = atsB L := ⟨_, rfl⟩
  rw [← hZ]
  replace hZ := Lib.hid (show Z = tlv 48 (L.flatMap aB) from hZ)
  obtain ⟨n, hn⟩ : ∃ n, n = L.length := ⟨_, rfl⟩
  rw [← hn] at hLl ⊢
  replace hn := Lib.hid hn
  clear h
  go_enter Tryz.func102, Tryz.ntmps102
  go_wp2_with fail
  go_loopw [3, 4] (fun v i wr => ∃ k : Nat, i = .int .i64 k ∧ k ≤ n ∧ Own wr 5 v (((L.take k).flatMap aB).map bv) ∧ Fresh w.heap.size v ∧ Ext w wr) (fun _ i _ => n - (intOf i).toNat)
  case atStart => exact ⟨0, rfl, Nat.zero_le _, by simpa using Own.nil w 5, fresh_nil _ _ _, Mod.refl _ _⟩
  case round =>
    obtain ⟨k, rfl, hk, ho, hf, hx⟩ := hrel
    have hnn := hn.out
    by_cases hlt : k < n
    · have hb : decide ((k : Int) < (n : Int)) = true := dtrue (by omega)
      obtain ⟨ad, y, hA, c0, c1, hy⟩ := hat k (by omega)
      subst hA
      have h1 := hsn k (by omega)
      have h2 := htk (k + 1)
      rw [h1] at h2
      generalize L[k]'(by omega) = a at *
      have hal : (atB a.typ a.vals).length ≤ 65536 := by
        rw [List.length_append] at h2
        have h3 : (aB a).length ≤ 65536 := by omega
        exact h3
      have hk0 : (0 : Int) ≤ (k : Int) := by omega
      have hk1 : (k : Int) < (n : Int) := by omega
      obtain ⟨M, hM⟩ : ∃ M, M = (L.take k).flatMap aB := ⟨_, rfl⟩
      rw [← hM] at ho h1 h2
      have hst := Lib.hid h1
      have hln := Lib.hid (show ((M.map bv).length + ((aB a).map bv).length) * 1 ≤ 140737488355328 by rw [List.length_append] at h2; rw [List.length_map, List.length_map]; omega)
      obtain ⟨Ay, cy, rfl, -, -, -, -⟩ := hy.open_
      have d0 := ext_cell hx c0
      have d1 := ext_cell hx c1
      have b0 := lt_of_cell c0
      have b1 := lt_of_cell c1
      have hattr : ∀ wx, Ext wr wx → Calls Tryz.prog 130 #[sv a.typ, .slice Ay a.vals.length cy] wx fun e w' => ∃ v', e = .returned v' ∧ Own w' 5 v' ((aB a).map bv) ∧ Fresh wx.heap.size v' ∧ Ext wx w' := fun wx x => rattr25_any (Sl.mod hy (ext_trans hx x) (fun _ _ _ h => h)) hal
      have hS : ∀ wx, Ext wr wx → wx.cell? (ad.add (k * 2)) = some (sv a.typ) ∧ wx.cell? ⟨(ad.add (k * 2)).block, (ad.add (k * 2)).off + 1, none⟩ = some (.slice Ay a.vals.length cy) := fun wx x => ⟨ext_cell x d0, ext_cell x d1⟩
      have hSU : ∀ wx, Mod (own u3) wr wx → wx.cell? (ad.add (k * 2)) = some (sv a.typ) ∧ wx.cell? ⟨(ad.add (k * 2)).block, (ad.add (k * 2)).off + 1, none⟩ = some (.slice Ay a.vals.length cy) := fun wx x => ⟨mod_cell x d0 (fun h => by have := hf _ h; omega), mod_cell x d1 (fun h => by have := hf _ h; omega)⟩
      clear h1 h2 hM hnn hsn htk hal hat c0 c1 hy b0 b1
      generalize aB a = X at *
      have q0 : Ext wr wr.drew := (Mod.refl _ wr).drew
      go_wp2_with fail
      go_region_held3 (fun wx => wx.cell? (ad.add (k * 2)) = some (sv a.typ) ∧ wx.cell? ⟨(ad.add (k * 2)).block, (ad.add (k * 2)).off + 1, none⟩ = some (.slice Ay a.vals.length cy)) (first | exact qe | exact hS _ qa | exact hS _ q0 | go_keep) (first
        | (go_at_call 130; (with_reducible refine (hattr _ q0).mono ?_); rintro e wa ⟨va, rfl, a1, a2, a3⟩; have qa := ext_trans q0 a3; obtain ⟨A1, c1, e1⟩ := a1.shape; rw [List.length_map] at e1; subst e1; have ho1 := ho.mod qa (fun _ _ h => h))
        | (refine step_app 23 tyB ho1 a1.sl (bv_one _) hln.out rfl rfl (.tmp 11) (.tmp 22) rfl rfl rfl ?_; intro v4 w4 q1 q2 q3; have qe := hSU w4 (Mod.trans (H := own u3) qa q2 (fun _ _ h => h.elim) (fun _ _ h => h))))
      have hx1 := ext_trans hx qa
      clear hS hSU qe hattr
      go_wp2_with fail
      exact ⟨⟨k + 1, by go_num, by omega, by rw [hst.out, List.map_append]; exact q1, q3.fresh hf hx1.size, ext_app0 hx1 hf q2⟩, by simp [intOf] <;> omega⟩
    · have hb : decide ((k : Int) < (n : Int)) = false := dfalse (by omega)
      have hkn : k = n := by omega
      subst hkn
      rw [hnn, List.take_length] at ho
      generalize L.flatMap aB = F at *
      clear hsn htk hat hnn
      obtain ⟨A2, c2, e2⟩ := ho.shape
      rw [List.length_map] at e2
      subst e2
      have hr := Rw.one 22 ho.sl
      have hx2 := fun cs => ext_trans hx ((Mod.refl (fun _ => False) wr).alloc (.cells cs 22))
      go_wp2_with fail
      refine (rtag25_any 48 hr (by rw [one_flat]; exact hl)).mono ?_
      rintro e w2 ⟨v2, rfl, m1, m2, m3⟩
      rw [one_flat] at m1
      go_wp2_with fail
      go_ret
      exact ⟨_, rfl, by rw [hZ.out]; exact m1, fresh_le m2 (hx2 _).size, ext_trans (hx2 _) m3⟩
end Go.Proofs.YtoockogceobfgaaGreat
