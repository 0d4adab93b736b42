/- eval: how much an entry is (the law's great); Eval of both sides. -/
import Derived.Test.YteihjdefdeckaaaGreatDoorFlJ
import Derived.Test.YteihjdefdeckaaaGreatDoorEvG
namespace Go.Proofs.YteihjdefdeckaaaGreatDoor
open Go.RowKit
set_option maxRecDepth 100000

theorem wA_nextF (L : List Att) {k : Nat} (h : k < L.length) : wA (L.take (k + 1)) = wA (L.take k) + (1 + L[k].typ.length + wV L[k].vals) := by
  unfold wA
  rw [List.take_succ_eq_append_getElem h, List.map_append, List.sum_append]
  simp
theorem wA_takeF : ∀ (L : List Att) (k : Nat), wA (L.take k) ≤ wA L
  | [], k => by simp
  | a :: L, 0 => Nat.zero_le _
  | a :: L, k + 1 => by
    have := wA_takeF L k
    show 1 + a.typ.length + wV a.vals + wA (L.take k) ≤ 1 + a.typ.length + wV a.vals + wA L
    omega
set_option maxHeartbeats 16000000 in
theorem great17_any {w : World} {vd va : Value} {E : Ent} (hd : As w AllE vd E.dn) (ha : Ats w va E.ats) (hw : wA E.ats ≤ 1100000) :
    Calls Tryz.prog 9 #[.agg #[vd, va]] w fun e w' => e = .returned (.bool (decide (2000 < wA E.ats))) ∧ Ext w w' := by
  obtain ⟨D0, dn, dc, rfl⟩ : ∃ D0 dn dc, vd = .slice D0 dn dc := by obtain ⟨A, c, e⟩ := Rc.shape hd; exact ⟨A, _, c, e⟩
  obtain ⟨B0, bc, eb, -⟩ := ha.open_
  obtain ⟨L, hL⟩ : ∃ L, L = E.ats := ⟨_, rfl⟩
  rw [← hL] at eb ha hw ⊢
  have hge := wA_ge L
  obtain ⟨bn, hbn0⟩ : ∃ n, n = L.length := ⟨_, rfl⟩
  rw [← hbn0] at eb
  subst eb
  have hop := fun {wx : World} (x : Ext w wx) => (ha.ext x).open_
  obtain ⟨w1, hw1⟩ : ∃ x, x = w.alloc (.cells #[.slice D0 dn dc, .slice B0 bn bc] 29) := ⟨_, rfl⟩
  obtain ⟨p, hp⟩ : ∃ p, p = w.heap.size := ⟨_, rfl⟩
  have x1 : Ext w w1 := by rw [hw1]; exact (Mod.refl _ w).alloc _
  have BP : Blk w1 p 29 #[.slice D0 dn dc, .slice B0 bn bc] := by rw [hw1, hp]; exact Blk.new w _ _
  have hcc : ∀ {wx : World}, Ext w1 wx → wx.cell? ⟨p, 1, none⟩ = some (.slice B0 bn bc) := fun x => (BP.mod x (fun h => h)).cell 1
  have hM : bn ≤ 1100000 := by omega
  have p1 := hcc (Mod.refl _ w1)
  obtain ⟨R, hR⟩ : ∃ R, R = decide (2000 < wA L) := ⟨_, rfl⟩
  rw [← hR]
  replace hR := Lib.hid hR
  replace hL := Lib.hid hL
  replace hbn0 := Lib.hid hbn0
  replace hw1 := Lib.hid hw1
  replace hp := Lib.hid hp
  clear BP ha hd
  go_enter Tryz.func9, Tryz.ntmps9
  go_upto_region 1 with fail
  rw [← hw1.out, ← hp.out]
  clear hw1 hp
  go_wp2_with fail
  go_loopw [3, 4] (fun n i wr => ∃ k : Nat, k ≤ bn ∧ i = .int .i64 k ∧ n = .int .i64 (wA (L.take k) : Nat) ∧ wA (L.take k) ≤ 2000 ∧ Ext w1 wr) (fun _ i _ => bn - (intOf i).toNat)
  case atStart => exact ⟨0, Nat.zero_le _, rfl, rfl, Nat.zero_le _, Mod.refl _ _⟩
  case round =>
    clear p1
    obtain ⟨k, hk, rfl, rfl, hk2, hx⟩ := hrel
    have p1 := hcc hx
    by_cases hlt : k < bn
    case neg =>
      have hbl : decide ((k : Int) < (bn : Int)) = false := dfalse (by omega)
      have hbn : decide (k < bn) = false := dfalse (by omega)
      have hr : Hid (R = false) := Lib.hid (by
        have e : L.take k = L := List.take_of_length_le (by have := hbn0.out; omega)
        rw [e] at hk2
        rw [hR.out]
        exact dfalse (by omega))
      clear hR
      go_wp2_with fail
      go_ret
      exact ⟨by rw [hr.out]; rfl, ext_trans x1 hx⟩
    have hbl : decide ((k : Int) < (bn : Int)) = true := dtrue (by omega)
    have hbn : decide (k < bn) = true := dtrue (by omega)
    have hi0 : (0 : Int) ≤ (k : Int) := by omega
    have hi1 : (k : Int) < (bn : Int) := by omega
    have l1 : k < L.length := by have := hbn0.out; omega
    obtain ⟨A2, c2, e1, h5⟩ := hop (ext_trans x1 hx)
    rw [← hbn0.out] at e1
    injection e1 with e1 e2 e3
    clear e2
    subst e1
    subst e3
    obtain ⟨ad, y, e2, h6, h7, h8⟩ := h5 k l1
    subst e2
    have hwn := wA_nextF L l1
    have hwt := wA_takeF L (k + 1)
    generalize L[k].typ = t at *
    generalize L[k].vals = V at *
    have hge2 := wV_ge V
    obtain ⟨Ay, cy, ey, -, -, -, -⟩ := h8.open_
    obtain ⟨M, hM2⟩ : ∃ N, N = V.length := ⟨_, rfl⟩
    rw [← hM2] at ey
    subst ey
    have hvx : ∀ {wx : World}, Ext wr wx → wx.cell? ⟨(ad.add (k * 2)).block, (ad.add (k * 2)).off + 1, none⟩ = some (.slice Ay M cy) := fun x => ext_cell x h7
    have hM4 : M ≤ 1100000 := by omega
    replace hM2 := Lib.hid hM2
    have hzt := sv_size t
    obtain ⟨N, hN⟩ : ∃ N, N = wA (L.take k) := ⟨_, rfl⟩
    rw [← hN] at hk2 hwn ⊢
    clear h5
    replace hN := Lib.hid hN
    go_wp2_with fail
    go_loopw [3, 5] (fun n i wr' => ∃ j : Nat, j ≤ M ∧ i = .int .i64 j ∧ n = .int .i64 ((N + 1 + t.length + wV (V.take j) : Nat) : Int) ∧ Ext wr wr') (fun _ i _ => M - (intOf i).toNat)
    case atStart => exact ⟨0, Nat.zero_le _, rfl, by simp [wV], Mod.refl _ _⟩
    case round =>
      obtain ⟨j, hj, rfl, rfl, hx2⟩ := hrel
      have p2 := hcc (ext_trans hx hx2)
      have v2 := hvx hx2
      by_cases hjt : j < M
      case neg =>
        have hjl : decide ((j : Int) < (M : Int)) = false := dfalse (by omega)
        have hjn : decide (j < M) = false := dfalse (by omega)
        have e : V.take j = V := List.take_of_length_le (by have := hM2.out; omega)
        rw [e]
        by_cases hbig : 2000 < N + 1 + t.length + wV V
        · have hb : decide ((2000 : Int) < ((N + 1 + t.length + wV V : Nat) : Int)) = true := dtrue (by omega)
          have hr : Hid (R = true) := Lib.hid (by rw [hR.out]; exact dtrue (by omega))
          generalize N + 1 + t.length + wV V = Z at *
          clear hR e
          go_wp2_with fail
          go_ret
          exact ⟨by rw [hr.out]; rfl, ext_trans x1 (ext_trans hx hx2)⟩
        · have hb : decide ((2000 : Int) < ((N + 1 + t.length + wV V : Nat) : Int)) = false := dfalse (by omega)
          have hwn2 : N + 1 + t.length + wV V = wA (L.take (k + 1)) := by omega
          have hle : wA (L.take (k + 1)) ≤ 2000 := by omega
          rw [hwn2] at hb
          rw [hwn2]
          have x10 := ext_trans hx hx2
          clear e hwn hwn2 hbig
          obtain ⟨Z, hZ⟩ : ∃ Z, Z = wA (L.take (k + 1)) := ⟨_, rfl⟩
          rw [← hZ] at hb hle ⊢
          replace hZ := Lib.hid hZ
          clear hwt
          go_wp2_with fail
          exact ⟨⟨k + 1, by omega, by go_num, by rw [← hZ.out], by rw [← hZ.out]; exact hle, x10⟩, by simp [intOf] <;> omega⟩
      have hjl : decide ((j : Int) < (M : Int)) = true := dtrue (by omega)
      have hjn : decide (j < M) = true := dtrue (by omega)
      have hj0 : (0 : Int) ≤ (j : Int) := by omega
      have hj1 : (j : Int) < (M : Int) := by omega
      have hjv : j < V.length := by have := hM2.out; omega
      obtain ⟨A9, c9, e9, _, _, _, h5⟩ := (Sl.ext h8 hx2).open_
      rw [← hM2.out] at e9
      injection e9 with e1 e2 e3
      clear e2
      subst e1
      subst e3
      obtain ⟨ag, e2, _, h9⟩ := h5.at_ hjv
      subst e2
      have hwv := sumF_next vW V hjv
      rw [← wV_sum, ← wV_sum] at hwv
      have hwt2 := sumF_take vW V (j + 1)
      rw [← wV_sum, ← wV_sum] at hwt2
      generalize V[j] = v at *
      have hvw : vW v = 1 + v.length := rfl
      rw [hvw] at hwv
      have hzv := sv_size v
      have hnx : Hid (((N + 1 + t.length + wV (V.take (j + 1)) : Nat) : Int) = ((N + 1 + t.length + wV (V.take j) : Nat) : Int) + 1 + v.length) := Lib.hid (by omega)
      have hq : N + 1 + t.length + wV (V.take j) ≤ 2000000 := by omega
      have hvl : v.length ≤ 2000000 := by omega
      clear hwv hwt2 h5 hjv hvw
      generalize N + 1 + t.length + wV (V.take j) = Z at *
      go_wp2_with fail
      exact ⟨⟨j + 1, by omega, by go_num, by rw [hnx.out], hx2⟩, by simp [intOf] <;> omega⟩
/-- What Eval says. -/
def topN (n : Nat) (F : Fi) (L : List Att) : Int := if isN n F = true then evalN n F L else 2
set_option maxHeartbeats 8000000 in
theorem EvalT_any {n : Nat} {w : World} {F : Fi} {vs vk vd va : Value} {E : Ent} (h : FilN n w F vs vk) (hd : As w AllE vd E.dn) (ha : Ats w va E.ats) (hw : wF n F ≤ 900000) (hwA : wA E.ats ≤ 900000) (hM : Mxl w) :
    Calls Tryz.prog 10 #[.agg #[.int .i64 F.kind, sv F.typ, sv F.val, vs, vk], .agg #[vd, va]] w fun e w' => e = .returned (.int .i64 (topN n F E.ats)) ∧ Ext w w' := by
  obtain ⟨⟨Y1, Y2, Y3, rfl⟩, Z1, Z2, Z3, rfl⟩ := h.shape
  obtain ⟨D0, dn, dc, rfl⟩ : ∃ D0 dn dc, vd = .slice D0 dn dc := by obtain ⟨A, c, e⟩ := Rc.shape hd; exact ⟨A, _, c, e⟩
  obtain ⟨B0, bn, bc, rfl⟩ : ∃ B0 bn bc, va = .slice B0 bn bc := by obtain ⟨A, c, e, -⟩ := ha.open_; exact ⟨A, _, c, e⟩
  obtain ⟨w0, hw0⟩ : ∃ x, x = w.alloc (.cells #[.int .i64 F.kind, sv F.typ, sv F.val, .slice Y1 Y2 Y3, .slice Z1 Z2 Z3] 25) := ⟨_, rfl⟩
  obtain ⟨w1, hw1⟩ : ∃ x, x = w0.alloc (.cells #[.slice D0 dn dc, .slice B0 bn bc] 29) := ⟨_, rfl⟩
  obtain ⟨p, hp⟩ : ∃ p, p = w.heap.size := ⟨_, rfl⟩
  obtain ⟨g, hg⟩ : ∃ g, g = p + 1 := ⟨_, rfl⟩
  have hgs : w0.heap.size = g := by rw [hw0, hg, hp]; simp
  have x0 : Ext w w0 := by rw [hw0]; exact (Mod.refl _ w).alloc _
  have x01 : Ext w0 w1 := by rw [hw1]; exact (Mod.refl _ w0).alloc _
  have x1 := ext_trans x0 x01
  have BP0 : Blk w0 p 25 #[.int .i64 F.kind, sv F.typ, sv F.val, .slice Y1 Y2 Y3, .slice Z1 Z2 Z3] := by rw [hw0, hp]; exact Blk.new w _ _
  have BP := BP0.mod x01 (fun h => h)
  have BG : Blk w1 g 29 #[.slice D0 dn dc, .slice B0 bn bc] := by rw [hw1, ← hgs]; exact Blk.new w0 _ _
  have hcc : ∀ {wx : World}, Ext w1 wx → (wx.cell? ⟨p, 0, none⟩ = some (.int .i64 F.kind) ∧ wx.cell? ⟨p, 1, none⟩ = some (sv F.typ) ∧ wx.cell? ⟨p, 2, none⟩ = some (sv F.val) ∧ wx.cell? ⟨p, 3, none⟩ = some (.slice Y1 Y2 Y3) ∧ wx.cell? ⟨p, 4, none⟩ = some (.slice Z1 Z2 Z3)) ∧ wx.cell? ⟨g, 0, none⟩ = some (.slice D0 dn dc) ∧ wx.cell? ⟨g, 1, none⟩ = some (.slice B0 bn bc) := fun x => ⟨⟨(BP.mod x (fun h => h)).cell 0, (BP.mod x (fun h => h)).cell 1, (BP.mod x (fun h => h)).cell 2, (BP.mod x (fun h => h)).cell 3, (BP.mod x (fun h => h)).cell 4⟩, (BG.mod x (fun h => h)).cell 0, (BG.mod x (fun h => h)).cell 1⟩
  obtain ⟨⟨p0, p1, p2, p3, p4⟩, g0, g1⟩ := hcc (Mod.refl _ w1)
  have hc := IsF_any (h.ext x1)
  have hev := fun {wx : World} (x : Ext w wx) (hone : oneN n F 1 = true) => evalF_any n (h.ext x) hone (hd.ext x) (ha.ext x) hw hwA (hM.ext x)
  obtain ⟨R, hR⟩ : ∃ R, R = topN n F E.ats := ⟨_, rfl⟩
  rw [← hR]
  unfold topN at hR
  have hone : isN n F = true → oneN n F 1 = true := fun h => (Bool.and_eq_true_iff.1 h).1
  generalize isN n F = b at *
  generalize evalN n F E.ats = r at *
  generalize F.kind = kd at *
  generalize F.typ = T at *
  generalize F.val = V at *
  replace hR := Lib.hid hR
  replace hw0 := Lib.hid hw0
  replace hw1 := Lib.hid hw1
  replace hp := Lib.hid hp
  replace hg := Lib.hid hg
  clear BP0 BP BG hgs x0 x01 hd ha h hw
  go_enter Tryz.func10, Tryz.ntmps10
  go_upto_region 1 with fail
  rw [← hp.out]
  rw [show w.alloc (.cells #[.int .i64 kd, sv T, sv V, .slice Y1 Y2 Y3, .slice Z1 Z2 Z3] 25) = w0 from hw0.out.symm]
  rw [← hg.out, show w0.alloc (.cells #[.slice D0 dn dc, .slice B0 bn bc] 29) = w1 from hw1.out.symm]
  clear hw0 hw1 hp hg
  go_wp2_with fail
  refine hc.mono ?_
  rintro e w2 ⟨rfl, x2⟩
  clear p0 p1 p2 p3 p4 g0 g1 hc
  obtain ⟨⟨p0, p1, p2, p3, p4⟩, g0, g1⟩ := hcc x2
  cases b with
  | false =>
    have hr : Hid (R = 2) := Lib.hid (by rw [hR.out]; rfl)
    clear hR hev
    go_wp2_with fail
    go_ret
    exact ⟨by rw [hr.out]; rfl, ext_trans x1 x2⟩
  | true =>
    have hr : Hid (R = r) := Lib.hid (by rw [hR.out]; rfl)
    have hev2 := hev (ext_trans x1 x2) (hone rfl)
    clear hR hev hone
    go_wp2_with fail
    refine hev2.mono ?_
    rintro e w3 ⟨rfl, x3⟩
    go_wp2_with fail
    go_ret
    exact ⟨by rw [hr.out]; rfl, ext_trans x1 (ext_trans x2 x3)⟩
set_option maxHeartbeats 8000000 in
theorem rEvalT_any {n : Nat} {w : World} {F : Fi} {vs vk vd va : Value} {E : Ent} (h : FilN n w F vs vk) (hd : As w AllE vd E.dn) (ha : Ats w va E.ats) (hw : wF n F ≤ 900000) (hwA : wA E.ats ≤ 900000) :
    Calls Tryz.prog 11 #[.agg #[.int .i64 F.kind, sv F.typ, sv F.val, vs, vk], .agg #[vd, va]] w fun e w' => e = .returned (.int .i64 (topN n F E.ats)) ∧ Ext w w' := by
  obtain ⟨⟨Y1, Y2, Y3, rfl⟩, Z1, Z2, Z3, rfl⟩ := h.shape
  obtain ⟨D0, dn, dc, rfl⟩ : ∃ D0 dn dc, vd = .slice D0 dn dc := by obtain ⟨A, c, e⟩ := Rc.shape hd; exact ⟨A, _, c, e⟩
  obtain ⟨B0, bn, bc, rfl⟩ : ∃ B0 bn bc, va = .slice B0 bn bc := by obtain ⟨A, c, e, -⟩ := ha.open_; exact ⟨A, _, c, e⟩
  obtain ⟨w0, hw0⟩ : ∃ x, x = w.alloc (.cells #[.int .i64 F.kind, sv F.typ, sv F.val, .slice Y1 Y2 Y3, .slice Z1 Z2 Z3] 25) := ⟨_, rfl⟩
  obtain ⟨w1, hw1⟩ : ∃ x, x = w0.alloc (.cells #[.slice D0 dn dc, .slice B0 bn bc] 29) := ⟨_, rfl⟩
  obtain ⟨p, hp⟩ : ∃ p, p = w.heap.size := ⟨_, rfl⟩
  obtain ⟨g, hg⟩ : ∃ g, g = p + 1 := ⟨_, rfl⟩
  have hgs : w0.heap.size = g := by rw [hw0, hg, hp]; simp
  have x0 : Ext w w0 := by rw [hw0]; exact (Mod.refl _ w).alloc _
  have x01 : Ext w0 w1 := by rw [hw1]; exact (Mod.refl _ w0).alloc _
  have x1 := ext_trans x0 x01
  have BP0 : Blk w0 p 25 #[.int .i64 F.kind, sv F.typ, sv F.val, .slice Y1 Y2 Y3, .slice Z1 Z2 Z3] := by rw [hw0, hp]; exact Blk.new w _ _
  have BP := BP0.mod x01 (fun h => h)
  have BG : Blk w1 g 29 #[.slice D0 dn dc, .slice B0 bn bc] := by rw [hw1, ← hgs]; exact Blk.new w0 _ _
  have hcc : ∀ {wx : World}, Ext w1 wx → (wx.cell? ⟨p, 0, none⟩ = some (.int .i64 F.kind) ∧ wx.cell? ⟨p, 1, none⟩ = some (sv F.typ) ∧ wx.cell? ⟨p, 2, none⟩ = some (sv F.val) ∧ wx.cell? ⟨p, 3, none⟩ = some (.slice Y1 Y2 Y3) ∧ wx.cell? ⟨p, 4, none⟩ = some (.slice Z1 Z2 Z3)) ∧ wx.cell? ⟨g, 0, none⟩ = some (.slice D0 dn dc) ∧ wx.cell? ⟨g, 1, none⟩ = some (.slice B0 bn bc) := fun x => ⟨⟨(BP.mod x (fun h => h)).cell 0, (BP.mod x (fun h => h)).cell 1, (BP.mod x (fun h => h)).cell 2, (BP.mod x (fun h => h)).cell 3, (BP.mod x (fun h => h)).cell 4⟩, (BG.mod x (fun h => h)).cell 0, (BG.mod x (fun h => h)).cell 1⟩
  obtain ⟨⟨p0, p1, p2, p3, p4⟩, g0, g1⟩ := hcc (Mod.refl _ w1)
  have hc := rIsF_any (h.ext x1) (by have := nodes_wF n F; omega)
  have hev := fun {wx : World} (x : Ext w wx) (hone : oneN n F 1 = true) => revalF_any n (h.ext x) hone (hd.ext x) (ha.ext x) hw hwA
  obtain ⟨R, hR⟩ : ∃ R, R = topN n F E.ats := ⟨_, rfl⟩
  rw [← hR]
  unfold topN at hR
  have hone : isN n F = true → oneN n F 1 = true := fun h => (Bool.and_eq_true_iff.1 h).1
  generalize isN n F = b at *
  generalize evalN n F E.ats = r at *
  generalize F.kind = kd at *
  generalize F.typ = T at *
  generalize F.val = V at *
  replace hR := Lib.hid hR
  replace hw0 := Lib.hid hw0
  replace hw1 := Lib.hid hw1
  replace hp := Lib.hid hp
  replace hg := Lib.hid hg
  clear BP0 BP BG hgs x0 x01 hd ha h hw
  go_enter Tryz.func11, Tryz.ntmps11
  go_upto_region 1 with fail
  rw [← hp.out]
  rw [show w.alloc (.cells #[.int .i64 kd, sv T, sv V, .slice Y1 Y2 Y3, .slice Z1 Z2 Z3] 25) = w0 from hw0.out.symm]
  rw [← hg.out, show w0.alloc (.cells #[.slice D0 dn dc, .slice B0 bn bc] 29) = w1 from hw1.out.symm]
  clear hw0 hw1 hp hg
  go_wp2_with fail
  refine hc.mono ?_
  rintro e w2 ⟨rfl, x2⟩
  clear p0 p1 p2 p3 p4 g0 g1 hc
  obtain ⟨⟨p0, p1, p2, p3, p4⟩, g0, g1⟩ := hcc x2
  cases b with
  | false =>
    have hr : Hid (R = 2) := Lib.hid (by rw [hR.out]; rfl)
    clear hR hev
    go_wp2_with fail
    go_ret
    exact ⟨by rw [hr.out]; rfl, ext_trans x1 x2⟩
  | true =>
    have hr : Hid (R = r) := Lib.hid (by rw [hR.out]; rfl)
    have hev2 := hev (ext_trans x1 x2) (hone rfl)
    clear hR hev hone
    go_wp2_with fail
    refine hev2.mono ?_
    rintro e w3 ⟨rfl, x3⟩
    go_wp2_with fail
    go_ret
    exact ⟨by rw [hr.out]; rfl, ext_trans x1 (ext_trans x2 x3)⟩
end Go.Proofs.YteihjdefdeckaaaGreatDoor
