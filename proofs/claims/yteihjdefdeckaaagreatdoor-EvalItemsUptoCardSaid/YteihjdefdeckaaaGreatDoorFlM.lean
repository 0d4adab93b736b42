/- eval: the law EvalItems. -/
import Derived.Test.YteihjdefdeckaaaGreatDoorFlL
namespace Go.Proofs.YteihjdefdeckaaaGreatDoor
open Go.RowKit
set_option maxRecDepth 100000

theorem RcF.lit {α : Type} {f : α → List Value} {k : Nat} (w : World) (e : TypeId) (L : List α) (hk : (L.flatMap f).length = L.length * k) (hm : (L.flatMap f).length ≤ maxLen) (hn : L.length ≤ maxLen) : Rc f k (w.alloc (.cells (L.flatMap f).toArray e)) AllE (.slice (some ⟨w.heap.size, 0, none⟩) L.length L.length) L := by
  obtain ⟨A, c, hv, _, _, _, hc⟩ := Sl.lit w e (L.flatMap f) hm
  injection hv with hv _ _
  rw [← hv] at hc
  exact ⟨_, _, rfl, Nat.le_refl _, hn, by simp, hk, fun j u hu => by obtain ⟨ad, h1, _, h3⟩ := hc j u hu; exact ⟨ad, h1, trivial, h3⟩⟩
theorem sv_okE (L : List (List UInt8)) : ∀ u ∈ L.map sv, u.oneCell' = true := fun u hu => by
  obtain ⟨x, _, rfl⟩ := List.mem_map.1 hu
  rfl
set_option maxHeartbeats 16000000 in
theorem litems_any {n : Nat} {w : World} {F : Fi} {vs vk v : Value} {L : List (List UInt8)} (h : FilN n w F vs vk) (hv : Ss w AllE v L) (hwV : wV L ≤ 1048576) (hM : Mxl w) :
    Calls Tryz.prog 4 #[.agg #[.int .i64 F.kind, sv F.typ, sv F.val, vs, vk], v] w fun e w' => e = .returned (.bool true) ∧ Ext w w' := by
  obtain ⟨⟨Y1, Y2, Y3, rfl⟩, Z1, Z2, Z3, rfl⟩ := h.shape
  obtain ⟨A, c, ev, -⟩ := hv.open_
  obtain ⟨q, hq⟩ : ∃ q, q = L.length := ⟨_, rfl⟩
  rw [← hq] at ev
  subst ev
  have hge := wV_ge L
  obtain ⟨w1, hw1⟩ : ∃ x, x = w.alloc (.cells #[.int .i64 F.kind, sv F.typ, sv F.val, .slice Y1 Y2 Y3, .slice Z1 Z2 Z3] 25) := ⟨_, rfl⟩
  obtain ⟨p, hp⟩ : ∃ p, p = w.heap.size := ⟨_, rfl⟩
  have x1 : Ext w w1 := by rw [hw1]; exact (Mod.refl _ w).alloc _
  have BP : Blk w1 p 25 #[.int .i64 F.kind, sv F.typ, sv F.val, .slice Y1 Y2 Y3, .slice Z1 Z2 Z3] := by rw [hw1, hp]; exact Blk.new w _ _
  have hcc : ∀ {wx : World}, Ext w1 wx → wx.cell? ⟨p, 0, none⟩ = some (.int .i64 F.kind) ∧ wx.cell? ⟨p, 1, none⟩ = some (sv F.typ) ∧ wx.cell? ⟨p, 2, none⟩ = some (sv F.val) ∧ wx.cell? ⟨p, 3, none⟩ = some (.slice Y1 Y2 Y3) ∧ wx.cell? ⟨p, 4, none⟩ = some (.slice Z1 Z2 Z3) := fun x => ⟨(BP.mod x (fun h => h)).cell 0, (BP.mod x (fun h => h)).cell 1, (BP.mod x (fun h => h)).cell 2, (BP.mod x (fun h => h)).cell 3, (BP.mod x (fun h => h)).cell 4⟩
  obtain ⟨p0, p1, p2, p3, p4⟩ := hcc (Mod.refl _ w1)
  have hhv := heavyF_any n (left := 600) (h.ext x1) (by omega) (by omega)
  have hgr : ∀ {wx : World} (_ : Ext w wx), Calls Tryz.prog 9 #[.agg #[.slice none 0 0, .slice (some ⟨wx.heap.size, 0, none⟩) 1 1]] (wx.alloc (.cells #[sv [], .slice A q c] 36)) fun e w' => e = .returned (.bool (decide (2000 < 1 + wV L))) ∧ Ext (wx.alloc (.cells #[sv [], .slice A q c] 36)) w' := fun {wx} x => by
    have hA : Ats (wx.alloc (.cells #[sv [], .slice A q c] 36)) (.slice (some ⟨wx.heap.size, 0, none⟩) 1 1) [⟨[], L⟩] := by
      refine ⟨[(([], .slice A q c) : AtV)], RcF.lit (f := atc) (k := 2) wx 36 [(([], .slice A q c) : AtV)] rfl (by simp [maxLen]) (by simp [maxLen]), rfl, fun k r a hr ha => ?_⟩
      match k, hr, ha with
      | 0, hr, ha =>
        simp at hr ha
        subst hr; subst ha
        exact ⟨rfl, (hv.ext x).ext ((Mod.refl _ _).alloc _)⟩
      | k + 1, hr, ha => simp at hr
    have e : wA [(⟨[], L⟩ : Att)] = 1 + wV L := by simp [wA]
    have := great17_any (E := ⟨[], [⟨[], L⟩]⟩) (vd := .slice none 0 0) (Rc.nil _ _ _ _) hA (by show wA [(⟨[], L⟩ : Att)] ≤ _; rw [e]; omega)
    rw [show wA (⟨[], [⟨[], L⟩]⟩ : Ent).ats = 1 + wV L from e] at this
    exact this
  have h4 := fun {wx : World} (x : Ext w wx) (h6 : wF n F ≤ 600) (h2 : wV L ≤ 2000) {u : Value} (hu : Ss wx AllE u L) => item_any ((h.fl (by omega)).ext x) hu (fun y hy => by have := wV_mem hy; omega) (hM.ext x)
  have h5 := fun {wx : World} (x : Ext w wx) (h6 : wF n F ≤ 600) (h2 : wV L ≤ 2000) => ritem_any ((h.fl (by omega)).ext x) (hv.ext x) (fun y hy => by have := wV_mem hy; omega)
  have hkn := fun wx : World => known17_any (w := wx)
  have hn2 : (([] : List Value).length + (L.map sv).length) * 16 ≤ 140737488355328 := by rw [List.length_map]; simp only [List.length_nil]; omega
  replace hn2 := Lib.hid hn2
  generalize itemB F.kind F.typ F.val F.subs L = r at *
  generalize wF n F = W at *
  generalize F.kind = kd at *
  generalize F.typ = T at *
  generalize F.val = V at *
  obtain ⟨Z, hZ⟩ : ∃ Z, Z = wV L := ⟨_, rfl⟩
  rw [← hZ] at hgr h4 h5 hwV
  replace hZ := Lib.hid hZ
  replace hq := Lib.hid hq
  replace hw1 := Lib.hid hw1
  replace hp := Lib.hid hp
  clear BP h hge
  go_enter Tryz.func4, Tryz.ntmps4
  go_upto_region 1 with fail
  rw [← hw1.out, ← hp.out]
  clear hw1 hp
  go_wp2_with fail
  refine hhv.mono ?_
  rintro e w2 ⟨l, rfl, hl, x2⟩
  clear p0 p1 p2 p3 p4 hhv
  obtain ⟨p0, p1, p2, p3, p4⟩ := hcc x2
  by_cases hl0 : l < 0
  · have hb : decide (l < 0) = true := dtrue hl0
    clear h4 h5 hgr
    go_wp2_with fail
    go_ret
    exact ⟨rfl, ext_trans x1 x2⟩
  have hb : decide (l < 0) = false := dfalse hl0
  have hW : W ≤ 600 := by rcases hl with h | h <;> omega
  have hgr2 := hgr (ext_trans x1 x2)
  clear hl hgr
  by_cases hA : 2000 < 1 + Z
  · rw [dtrue hA] at hgr2
    clear h4 h5
    go_wp2_with fail
    refine hgr2.mono ?_
    rintro e w3 ⟨rfl, x3⟩
    go_wp2_with fail
    go_ret
    exact ⟨rfl, ext_trans x1 (ext_trans x2 (ext_trans ((Mod.refl _ _).alloc _) x3))⟩
  rw [dfalse hA] at hgr2
  have h6 := fun {wx : World} (x : Ext w wx) {u : Value} (hu : Ss wx AllE u L) => h4 x hW (by omega) hu
  have h7 := fun {wx : World} (x : Ext w wx) => h5 x hW (by omega)
  clear h4 h5
  go_wp2_with fail
  refine hgr2.mono ?_
  rintro e w3 ⟨rfl, x3⟩
  have y3 := ext_trans x2 (ext_trans ((Mod.refl _ _).alloc _) x3)
  have hrr : (r == r) = true := by simp
  clear p0 p1 p2 p3 p4 hgr2 x3
  have oE := (Own.empty w3 9).mod ((Mod.refl (fun _ => False) (w3.alloc (.cells #[] 9))).drew) (fun _ _ h => h)
  have fE : Fresh w3.heap.size (.slice (some ⟨w3.heap.size, 0, none⟩) 0 0) := fun k hk => by have : w3.heap.size = k := Option.some.inj hk; omega
  have qE : Ext w3 ((w3.alloc (.cells #[] 9)).drew) := ((Mod.refl _ _).alloc _).drew
  have rE := hv.ext (ext_trans x1 (ext_trans y3 qE))
  have hones := sv_okE L
  have hall : ∀ {wx : World}, Ext w3 wx → wx.cell? ⟨p, 0, none⟩ = some (.int .i64 kd) ∧ wx.cell? ⟨p, 1, none⟩ = some (sv T) ∧ wx.cell? ⟨p, 2, none⟩ = some (sv V) ∧ wx.cell? ⟨p, 3, none⟩ = some (.slice Y1 Y2 Y3) ∧ wx.cell? ⟨p, 4, none⟩ = some (.slice Z1 Z2 Z3) := fun x => hcc (ext_trans y3 x)
  go_upto_region 3 with fail
  have z0 : Ext w3 w3.drew := (Mod.refl _ _).drew
  go_region_held3 (fun wx => wx.cell? ⟨p, 0, none⟩ = some (.int .i64 kd) ∧ wx.cell? ⟨p, 1, none⟩ = some (sv T) ∧ wx.cell? ⟨p, 2, none⟩ = some (sv V) ∧ wx.cell? ⟨p, 3, none⟩ = some (.slice Y1 Y2 Y3) ∧ wx.cell? ⟨p, 4, none⟩ = some (.slice Z1 Z2 Z3)) (first | exact hall z0 | exact hall qE | exact hall z1 | exact hall z2 | exact hall z3 | exact hall z4) (first
    | ((with_reducible refine step_app 18 tySE oE rE hones hn2.out rfl rfl (.tmp 16) (.tmp 17) rfl rfl rfl ?_); intro v4 w4 o4 m4 n4; have z1 := ext_app0 qE fE m4)
    | (go_at_call 13; (with_reducible refine (h6 (ext_trans x1 (ext_trans y3 z1)) (o4.sl.mono (T := AllE) (fun _ _ _ => trivial))).mono ?_); rintro e7 w7 ⟨rfl, x7⟩; have z2 := ext_trans z1 x7)
    | (go_at_call 14; (with_reducible refine (h7 (ext_trans x1 (ext_trans y3 z2))).mono ?_); rintro e8 w8 ⟨rfl, x8⟩; have z3 := ext_trans z2 x8)
    | (go_at_call 12; (with_reducible refine (hkn _).mono ?_); rintro e9 w9 ⟨rfl, x9⟩; have z4 := ext_trans z3 x9))
  go_wp2_with fail
  go_ret
  exact ⟨rfl, ext_trans x1 (ext_trans y3 z4)⟩
end Go.Proofs.YteihjdefdeckaaaGreatDoor
