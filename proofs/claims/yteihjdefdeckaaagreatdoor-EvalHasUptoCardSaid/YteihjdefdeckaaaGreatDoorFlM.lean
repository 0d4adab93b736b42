/- eval: the law EvalItems. -/
import Derived.Test.YteihjdefdeckaaaGreatDoorFlL
namespace Go.Proofs.YteihjdefdeckaaaGreatDoor
open Go.RowKit
set_option maxRecDepth 100000

theorem RcF.lit {α : Type} {f : α → List Value} {k : Nat} (w : World) (e : TypeId) (L : List α) (hk : (L.flatMap f).length = L.length * k) (hm : (L.flatMap f).length ≤ maxLen) (hn : L.length ≤ maxLen) : Rc f k (w.alloc (.cells (L.flatMap f).toArray e)) AllE (.slice (some ⟨w.heap.size, 0, none⟩) L.length L.length) L := by
  obtain ⟨A, c, hv, _, _, _, hc⟩ := Sl.lit w e (L.flatMap f) hm
  injection hv with hv _ _
  rw [← hv] at hc
  exact ⟨_, _, rfl, Nat.le_refl _, hn, by simp, hk, fun j u hu => by obtain ⟨ad, h1, _, h3⟩ := hc j u hu; exact ⟨ad, h1, trivial, h3⟩⟩
theorem sv_okE (L : List (List UInt8)) : ∀ u ∈ L.map sv, u.oneCell' = true := fun u hu => by
  obtain ⟨x, _, rfl⟩ := List.mem_map.1 hu
  rfl
set_option maxHeartbeats 16000000 in
theorem great17c_any {w : World} {vd va : Value} {E : Ent} (hd : As w AllE vd E.dn) (ha : Ats w va E.ats) (hl : E.ats.length ≤ 1000) (hl2 : ∀ a ∈ E.ats, a.typ.length ≤ 140737488351232 ∧ a.vals.length ≤ 140737488351232 ∧ ∀ x ∈ a.vals, x.length ≤ 140737488351232) :
    Calls Tryz.prog 9 #[.agg #[vd, va]] w fun e w' => (∃ r, e = .returned (.bool r)) ∧ Ext w w' := by
  obtain ⟨D0, dn, dc, rfl⟩ : ∃ D0 dn dc, vd = .slice D0 dn dc := by obtain ⟨A, c, e⟩ := Rc.shape hd; exact ⟨A, _, c, e⟩
  obtain ⟨B0, bc, eb, -⟩ := ha.open_
  obtain ⟨L, hL⟩ : ∃ L, L = E.ats := ⟨_, rfl⟩
  rw [← hL] at eb ha hl hl2
  obtain ⟨bn, hbn0⟩ : ∃ n, n = L.length := ⟨_, rfl⟩
  rw [← hbn0] at eb
  subst eb
  have hop := fun {wx : World} (x : Ext w wx) => (ha.ext x).open_
  obtain ⟨w1, hw1⟩ : ∃ x, x = w.alloc (.cells #[.slice D0 dn dc, .slice B0 bn bc] 29) := ⟨_, rfl⟩
  obtain ⟨p, hp⟩ : ∃ p, p = w.heap.size := ⟨_, rfl⟩
  have x1 : Ext w w1 := by rw [hw1]; exact (Mod.refl _ w).alloc _
  have BP : Blk w1 p 29 #[.slice D0 dn dc, .slice B0 bn bc] := by rw [hw1, hp]; exact Blk.new w _ _
  have hcc : ∀ {wx : World}, Ext w1 wx → wx.cell? ⟨p, 1, none⟩ = some (.slice B0 bn bc) := fun x => (BP.mod x (fun h => h)).cell 1
  have hM : bn ≤ 1000 := by omega
  have p1 := hcc (Mod.refl _ w1)
  replace hL := Lib.hid hL
  replace hbn0 := Lib.hid hbn0
  replace hw1 := Lib.hid hw1
  replace hp := Lib.hid hp
  clear BP ha hd
  go_enter Tryz.func9, Tryz.ntmps9
  go_upto_region 1 with fail
  rw [← hw1.out, ← hp.out]
  clear hw1 hp
  go_wp2_with fail
  go_loopw [3, 4] (fun n i wr => ∃ (k : Nat) (s : Int), k ≤ bn ∧ i = .int .i64 k ∧ n = .int .i64 s ∧ -9223372036854775808 ≤ s ∧ s ≤ 9223372036854775807 ∧ Ext w1 wr) (fun _ i _ => bn - (intOf i).toNat)
  case atStart => exact ⟨0, 0, Nat.zero_le _, rfl, rfl, by omega, by omega, Mod.refl _ _⟩
  case round =>
    clear p1
    obtain ⟨k, s, hk, rfl, rfl, s1, s2, hx⟩ := hrel
    have p1 := hcc hx
    by_cases hlt : k < bn
    case neg =>
      have hbl : decide ((k : Int) < (bn : Int)) = false := dfalse (by omega)
      have hbn : decide (k < bn) = false := dfalse (by omega)
      go_wp2_with fail
      go_ret
      exact ⟨⟨_, rfl⟩, ext_trans x1 hx⟩
    have hbl : decide ((k : Int) < (bn : Int)) = true := dtrue (by omega)
    have hbn : decide (k < bn) = true := dtrue (by omega)
    have hi0 : (0 : Int) ≤ (k : Int) := by omega
    have hi1 : (k : Int) < (bn : Int) := by omega
    have l1 : k < L.length := by have := hbn0.out; omega
    obtain ⟨A2, c2, e1, h5⟩ := hop (ext_trans x1 hx)
    rw [← hbn0.out] at e1
    injection e1 with e1 e2 e3
    clear e2
    subst e1
    subst e3
    obtain ⟨ad, y, e2, h6, h7, h8⟩ := h5 k l1
    subst e2
    obtain ⟨ht1, ht2, ht3⟩ := hl2 _ (List.getElem_mem l1)
    generalize L[k].typ = t at *
    generalize L[k].vals = V at *
    obtain ⟨Ay, cy, ey, -, -, -, -⟩ := h8.open_
    obtain ⟨M, hM2⟩ : ∃ N, N = V.length := ⟨_, rfl⟩
    rw [← hM2] at ey
    subst ey
    have hvx : ∀ {wx : World}, Ext wr wx → wx.cell? ⟨(ad.add (k * 2)).block, (ad.add (k * 2)).off + 1, none⟩ = some (.slice Ay M cy) := fun x => ext_cell x h7
    have hM4 : M ≤ 140737488351232 := by omega
    replace hM2 := Lib.hid hM2
    have hzt := sv_size t
    clear h5
    go_wp2_with fail
    go_loopw [3, 5] (fun n i wr' => ∃ (j : Nat) (t : Int), j ≤ M ∧ i = .int .i64 j ∧ n = .int .i64 t ∧ -9223372036854775808 ≤ t ∧ t ≤ 9223372036854775807 ∧ Ext wr wr') (fun _ i _ => M - (intOf i).toNat)
    case atStart => exact ⟨0, _, Nat.zero_le _, rfl, rfl, (w64_lo _).1, (w64_lo _).2, Mod.refl _ _⟩
    case round =>
      obtain ⟨j, u, hj, rfl, rfl, u1, u2, hx2⟩ := hrel
      have p2 := hcc (ext_trans hx hx2)
      have v2 := hvx hx2
      by_cases hjt : j < M
      case neg =>
        have hjl : decide ((j : Int) < (M : Int)) = false := dfalse (by omega)
        have hjn : decide (j < M) = false := dfalse (by omega)
        by_cases hbig : 2000 < u
        · have hb : decide ((2000 : Int) < u) = true := dtrue hbig
          go_wp2_with fail
          go_ret
          exact ⟨⟨_, rfl⟩, ext_trans x1 (ext_trans hx hx2)⟩
        · have hb : decide ((2000 : Int) < u) = false := dfalse hbig
          have x10 := ext_trans hx hx2
          go_wp2_with fail
          exact ⟨⟨k + 1, u, by omega, by go_num, rfl, u1, u2, x10⟩, by simp [intOf] <;> omega⟩
      have hjl : decide ((j : Int) < (M : Int)) = true := dtrue (by omega)
      have hjn : decide (j < M) = true := dtrue (by omega)
      have hj0 : (0 : Int) ≤ (j : Int) := by omega
      have hj1 : (j : Int) < (M : Int) := by omega
      have hjv : j < V.length := by have := hM2.out; omega
      obtain ⟨A9, c9, e9, _, _, _, h5⟩ := (Sl.ext h8 hx2).open_
      rw [← hM2.out] at e9
      injection e9 with e1 e2 e3
      clear e2
      subst e1
      subst e3
      obtain ⟨ag, e2, _, h9⟩ := h5.at_ hjv
      subst e2
      have hvb := ht3 _ (List.getElem_mem hjv)
      generalize V[j] = v at *
      have hzv := sv_size v
      clear h5 hjv
      go_wp2_with fail
      exact ⟨⟨j + 1, _, by omega, by go_num, rfl, (w64_lo _).1, (w64_lo _).2, hx2⟩, by simp [intOf] <;> omega⟩
set_option maxHeartbeats 16000000 in
theorem litems_any {n : Nat} {w : World} {F : Fi} {vs vk v : Value} {L : List (List UInt8)} (h : FilN n w F vs vk) (hv : Ss w AllE v L) (hn : L.length * 16 ≤ 140737488355328) (hL : ∀ x ∈ L, x.length ≤ 140737488351232) (hM : Mxl w) :
    Calls Tryz.prog 4 #[.agg #[.int .i64 F.kind, sv F.typ, sv F.val, vs, vk], v] w fun e w' => e = .returned (.bool true) ∧ Ext w w' := by
  obtain ⟨⟨Y1, Y2, Y3, rfl⟩, Z1, Z2, Z3, rfl⟩ := h.shape
  obtain ⟨A, c, ev, -⟩ := hv.open_
  obtain ⟨q, hq⟩ : ∃ q, q = L.length := ⟨_, rfl⟩
  rw [← hq] at ev
  subst ev
  obtain ⟨w1, hw1⟩ : ∃ x, x = w.alloc (.cells #[.int .i64 F.kind, sv F.typ, sv F.val, .slice Y1 Y2 Y3, .slice Z1 Z2 Z3] 25) := ⟨_, rfl⟩
  obtain ⟨p, hp⟩ : ∃ p, p = w.heap.size := ⟨_, rfl⟩
  have x1 : Ext w w1 := by rw [hw1]; exact (Mod.refl _ w).alloc _
  have BP : Blk w1 p 25 #[.int .i64 F.kind, sv F.typ, sv F.val, .slice Y1 Y2 Y3, .slice Z1 Z2 Z3] := by rw [hw1, hp]; exact Blk.new w _ _
  have hcc : ∀ {wx : World}, Ext w1 wx → wx.cell? ⟨p, 0, none⟩ = some (.int .i64 F.kind) ∧ wx.cell? ⟨p, 1, none⟩ = some (sv F.typ) ∧ wx.cell? ⟨p, 2, none⟩ = some (sv F.val) ∧ wx.cell? ⟨p, 3, none⟩ = some (.slice Y1 Y2 Y3) ∧ wx.cell? ⟨p, 4, none⟩ = some (.slice Z1 Z2 Z3) := fun x => ⟨(BP.mod x (fun h => h)).cell 0, (BP.mod x (fun h => h)).cell 1, (BP.mod x (fun h => h)).cell 2, (BP.mod x (fun h => h)).cell 3, (BP.mod x (fun h => h)).cell 4⟩
  obtain ⟨p0, p1, p2, p3, p4⟩ := hcc (Mod.refl _ w1)
  have hhv := heavyF_any n (left := 600) (h.ext x1) (by omega) (by omega)
  have hgr : ∀ {wx : World} (_ : Ext w wx), Calls Tryz.prog 9 #[.agg #[.slice none 0 0, .slice (some ⟨wx.heap.size, 0, none⟩) 1 1]] (wx.alloc (.cells #[sv [], .slice A q c] 36)) fun e w' => (∃ r, e = .returned (.bool r)) ∧ Ext (wx.alloc (.cells #[sv [], .slice A q c] 36)) w' := fun {wx} x => by
    have hA : Ats (wx.alloc (.cells #[sv [], .slice A q c] 36)) (.slice (some ⟨wx.heap.size, 0, none⟩) 1 1) [⟨[], L⟩] := by
      refine ⟨[(([], .slice A q c) : AtV)], RcF.lit (f := atc) (k := 2) wx 36 [(([], .slice A q c) : AtV)] rfl (by simp [maxLen]) (by simp [maxLen]), rfl, fun k r a hr ha => ?_⟩
      match k, hr, ha with
      | 0, hr, ha =>
        simp at hr ha
        subst hr; subst ha
        exact ⟨rfl, (hv.ext x).ext ((Mod.refl _ _).alloc _)⟩
      | k + 1, hr, ha => simp at hr
    exact great17c_any (E := ⟨[], [⟨[], L⟩]⟩) (vd := .slice none 0 0) (Rc.nil _ _ _ _) hA (by simp) (fun a ha => by
      rw [List.mem_singleton.1 ha]
      exact ⟨by simp, by show L.length ≤ _; omega, hL⟩)
  have h4 := fun {wx : World} (x : Ext w wx) (h6 : wF n F ≤ 600) {u : Value} (hu : Ss wx AllE u L) => item_any ((h.fl (by omega)).ext x) hu hL (hM.ext x)
  have h5 := fun {wx : World} (x : Ext w wx) (h6 : wF n F ≤ 600) => ritem_any ((h.fl (by omega)).ext x) (hv.ext x) hL
  have hkn := fun wx : World => known17_any (w := wx)
  have hn2 : (([] : List Value).length + (L.map sv).length) * 16 ≤ 140737488355328 := by rw [List.length_map]; simp only [List.length_nil]; omega
  replace hn2 := Lib.hid hn2
  generalize itemB F.kind F.typ F.val F.subs L = r at *
  generalize wF n F = W at *
  generalize F.kind = kd at *
  generalize F.typ = T at *
  generalize F.val = V at *
  replace hq := Lib.hid hq
  replace hw1 := Lib.hid hw1
  replace hp := Lib.hid hp
  clear BP h
  go_enter Tryz.func4, Tryz.ntmps4
  go_upto_region 1 with fail
  rw [← hw1.out, ← hp.out]
  clear hw1 hp
  go_wp2_with fail
  refine hhv.mono ?_
  rintro e w2 ⟨l, rfl, hl, x2⟩
  clear p0 p1 p2 p3 p4 hhv
  obtain ⟨p0, p1, p2, p3, p4⟩ := hcc x2
  by_cases hl0 : l < 0
  · have hb : decide (l < 0) = true := dtrue hl0
    clear h4 h5 hgr
    go_wp2_with fail
    go_ret
    exact ⟨rfl, ext_trans x1 x2⟩
  have hb : decide (l < 0) = false := dfalse hl0
  have hW : W ≤ 600 := by rcases hl with h | h <;> omega
  have hgr2 := hgr (ext_trans x1 x2)
  clear hl hgr
  have h6 := fun {wx : World} (x : Ext w wx) {u : Value} (hu : Ss wx AllE u L) => h4 x hW hu
  have h7 := fun {wx : World} (x : Ext w wx) => h5 x hW
  clear h4 h5
  go_wp2_with fail
  refine hgr2.mono ?_
  rintro e w3 ⟨⟨gr, rfl⟩, x3⟩
  cases gr with
  | true =>
    clear h6 h7
    go_wp2_with fail
    go_ret
    exact ⟨rfl, ext_trans x1 (ext_trans x2 (ext_trans ((Mod.refl _ _).alloc _) x3))⟩
  | false =>
    have y3 := ext_trans x2 (ext_trans ((Mod.refl _ _).alloc _) x3)
    have hrr : (r == r) = true := by simp
    clear p0 p1 p2 p3 p4 hgr2 x3
    have oE := (Own.empty w3 9).mod ((Mod.refl (fun _ => False) (w3.alloc (.cells #[] 9))).drew) (fun _ _ h => h)
    have fE : Fresh w3.heap.size (.slice (some ⟨w3.heap.size, 0, none⟩) 0 0) := fun k hk => by have : w3.heap.size = k := Option.some.inj hk; omega
    have qE : Ext w3 ((w3.alloc (.cells #[] 9)).drew) := ((Mod.refl _ _).alloc _).drew
    have rE := hv.ext (ext_trans x1 (ext_trans y3 qE))
    have hones := sv_okE L
    have hall : ∀ {wx : World}, Ext w3 wx → wx.cell? ⟨p, 0, none⟩ = some (.int .i64 kd) ∧ wx.cell? ⟨p, 1, none⟩ = some (sv T) ∧ wx.cell? ⟨p, 2, none⟩ = some (sv V) ∧ wx.cell? ⟨p, 3, none⟩ = some (.slice Y1 Y2 Y3) ∧ wx.cell? ⟨p, 4, none⟩ = some (.slice Z1 Z2 Z3) := fun x => hcc (ext_trans y3 x)
    go_upto_region 3 with fail
    have z0 : Ext w3 w3.drew := (Mod.refl _ _).drew
    go_region_held3 (fun wx => wx.cell? ⟨p, 0, none⟩ = some (.int .i64 kd) ∧ wx.cell? ⟨p, 1, none⟩ = some (sv T) ∧ wx.cell? ⟨p, 2, none⟩ = some (sv V) ∧ wx.cell? ⟨p, 3, none⟩ = some (.slice Y1 Y2 Y3) ∧ wx.cell? ⟨p, 4, none⟩ = some (.slice Z1 Z2 Z3)) (first | exact hall z0 | exact hall qE | exact hall z1 | exact hall z2 | exact hall z3 | exact hall z4) (first
      | ((with_reducible refine step_app 18 tySE oE rE hones hn2.out rfl rfl (.tmp 16) (.tmp 17) rfl rfl rfl ?_); intro v4 w4 o4 m4 n4; have z1 := ext_app0 qE fE m4)
      | (go_at_call 13; (with_reducible refine (h6 (ext_trans x1 (ext_trans y3 z1)) (o4.sl.mono (T := AllE) (fun _ _ _ => trivial))).mono ?_); rintro e7 w7 ⟨rfl, x7⟩; have z2 := ext_trans z1 x7)
      | (go_at_call 14; (with_reducible refine (h7 (ext_trans x1 (ext_trans y3 z2))).mono ?_); rintro e8 w8 ⟨rfl, x8⟩; have z3 := ext_trans z2 x8)
      | (go_at_call 12; (with_reducible refine (hkn _).mono ?_); rintro e9 w9 ⟨rfl, x9⟩; have z4 := ext_trans z3 x9))
    go_wp2_with fail
    go_ret
    exact ⟨rfl, ext_trans x1 (ext_trans y3 z4)⟩
end Go.Proofs.YteihjdefdeckaaaGreatDoor
