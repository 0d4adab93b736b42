/- eval: what a filter without kids asks, and what fits. -/
import Derived.Test.YteihjdefdeckaaaGreatDoorFlG
import Derived.Test.YteihjdefdeckaaaGreatDoorFlD
import Derived.Test.YteihjdefdeckaaaGreatDoorMtM
import Derived.Test.YteihjdefdeckaaaGreatDoorMtQ
import Derived.Test.YteihjdefdeckaaaGreatDoorMtJ
import Derived.Test.YteihjdefdeckaaaGreatDoorEvD
namespace Go.Proofs.YteihjdefdeckaaaGreatDoor
open Go.RowKit
set_option maxRecDepth 100000

/-- A filter, its kids aside. -/
structure FL (w : World) (F : Fi) (vs vk : Value) : Prop where
  ss : Ss w AllE vs F.subs
  kk : ∃ A m c, vk = .slice A m c
  tl : F.typ.length ≤ 1000000
  vl : F.val.length ≤ 1000000
  sl : ∀ s ∈ F.subs, s.length ≤ 900000
theorem FL.ext {w w' : World} {F : Fi} {vs vk : Value} (h : FL w F vs vk) (x : Ext w w') : FL w' F vs vk := ⟨h.ss.ext x, h.kk, h.tl, h.vl, h.sl⟩
theorem FilN.fl {n : Nat} {w : World} {F : Fi} {vs vk : Value} (h : FilN n w F vs vk) (hw : wF n F ≤ 900000) : FL w F vs vk := by
  cases n with
  | zero => exact h.elim
  | succ n =>
    have hk := h.shape.2
    obtain ⟨h0, h1, -⟩ := h
    rw [wF_succ] at hw
    exact ⟨h1, hk, by omega, by omega, fun s hs => by have := wV_mem hs; omega⟩
def asksB (kd : Int) (V : List UInt8) (m : Nat) (k : Int) : Bool :=
  if kd = 3 then (normM k V).2 else if kd = 5 ∨ kd = 6 then (normM k V).2 && (k != 3) else if kd = 4 then ((k == 1) || ((k == 5) || (k == 4))) && (decide ((2 : Int) ≤ (m : Int)) && decide ((m : Int) ≤ 16)) else false
def fitsFB (kd : Int) (V : List UInt8) (B : List (List UInt8)) (k : Int) (v : List UInt8) : Bool :=
  if kd = 3 then equalM k v V else if kd = 5 then (lessM k v V).2 && !(lessM k v V).1 else if kd = 6 then (lessM k v V).2 && ((lessM k v V).1 || equalM k v V) else (subM k v B).1
theorem fits6 (k : Int) (v V : List UInt8) : ((lessM k V v).2 && !(lessM k V v).1) = ((lessM k v V).2 && ((lessM k v V).1 || equalM k v V)) := by
  rw [equal_comm_ok (a := V)]
  cases h2 : (lessM k v V).2
  · rfl
  · have h1 := (less_one h2).1
    have h3 := (less_one h2).2
    cases he : equalM k v V <;> cases ha : (lessM k v V).1 <;> cases hb : (lessM k V v).1 <;> simp_all
theorem nat2 (m : Nat) : decide (2 ≤ m) = decide ((2 : Int) ≤ (m : Int)) := decide_eq_decide.2 (by omega)
theorem nat16 (m : Nat) : decide (m ≤ 16) = decide ((m : Int) ≤ 16) := decide_eq_decide.2 (by omega)
section
variable {w : World} {F : Fi} {vs vk : Value}
set_option maxHeartbeats 16000000 in
theorem asks_any (h : FL w F vs vk) (k : Int) :
    Calls Tryz.prog 20 #[.agg #[.int .i64 F.kind, sv F.typ, sv F.val, vs, vk], .int .i64 k] w fun e w' => e = .returned (.bool (F.kind == 7 || asksB F.kind F.val F.subs.length k)) ∧ Ext w w' := by
  obtain ⟨Ak, q, ca, rfl⟩ := h.kk
  obtain ⟨As, cs, es, -⟩ := h.ss.open_
  have hS := h.ss
  have htl := h.tl
  have hvl := h.vl
  have hsl := h.sl
  generalize F.kind = kd at *
  generalize F.typ = T at *
  generalize F.val = V at *
  obtain ⟨B, hBs⟩ : ∃ B, B = F.subs := ⟨_, rfl⟩
  rw [← hBs] at es hS hsl ⊢
  obtain ⟨m, hm⟩ : ∃ m, m = B.length := ⟨_, rfl⟩
  rw [← hm] at es
  try rw [← hm]
  subst es
  obtain ⟨w1, hw1⟩ : ∃ x, x = w.alloc (.cells #[.int .i64 kd, sv T, sv V, .slice As m cs, .slice Ak q ca] 25) := ⟨_, rfl⟩
  obtain ⟨p, hp⟩ : ∃ p, p = w.heap.size := ⟨_, rfl⟩
  have x1 : Ext w w1 := by rw [hw1]; exact (Mod.refl _ w).alloc _
  have BP : Blk w1 p 25 #[.int .i64 kd, sv T, sv V, .slice As m cs, .slice Ak q ca] := by rw [hw1, hp]; exact Blk.new w _ _
  have hcc : ∀ {wx : World}, Ext w1 wx → wx.cell? ⟨p, 0, none⟩ = some (.int .i64 kd) ∧ wx.cell? ⟨p, 1, none⟩ = some (sv T) ∧ wx.cell? ⟨p, 2, none⟩ = some (sv V) ∧ wx.cell? ⟨p, 3, none⟩ = some (.slice As m cs) ∧ wx.cell? ⟨p, 4, none⟩ = some (.slice Ak q ca) := fun x => ⟨(BP.mod x (fun h => h)).cell 0, (BP.mod x (fun h => h)).cell 1, (BP.mod x (fun h => h)).cell 2, (BP.mod x (fun h => h)).cell 3, (BP.mod x (fun h => h)).cell 4⟩
  obtain ⟨p0, p1, p2, p3, p4⟩ := hcc (Mod.refl _ w1)
  replace hw1 := Lib.hid hw1
  replace hp := Lib.hid hp
  obtain ⟨R, hR⟩ : ∃ R, R = (kd == 7 || asksB kd V m k) := ⟨_, rfl⟩
  rw [← hR]
  have hc := fun wx : World => mnorm_any (w := wx) k V (by omega)
  unfold asksB at hR
  obtain ⟨N, hN⟩ : ∃ N, N = normM k V := ⟨_, rfl⟩
  rw [← hN] at hR hc
  obtain ⟨N, ok⟩ := N
  simp only at hR hc
  replace hN := Lib.hid hN
  replace hR := Lib.hid hR
  have j2 := Lib.hid (nat2 m)
  have j16 := Lib.hid (nat16 m)
  replace hm := Lib.hid hm
  clear BP h
  go_enter Tryz.func20, Tryz.ntmps20
  go_upto_region 1 with fail
  rw [← hw1.out, ← hp.out]
  clear hw1 hp
  go_wp2_with fail
  refine (hc _).mono ?_
  rintro e w2 ⟨rfl, x2⟩
  obtain ⟨q0, q1, q2, q3, q4⟩ := hcc x2
  have y2 := ext_trans x1 x2
  clear hc p0 p1 p2 p3 p4 x2
  by_cases hk7 : kd = 7
  · have hr : Hid (R = true) := Lib.hid (by rw [hR.out, hk7]; rfl)
    have g7 : (kd == 7) = true := by rw [hk7]; rfl
    clear hR
    go_wp2_with fail
    go_ret
    exact ⟨by rw [hr.out]; rfl, y2⟩
  have g7 : (kd == 7) = false := by rw [beq_eq_false_iff_ne]; exact hk7
  by_cases hk3 : kd = 3
  · have hr : Hid (R = ok) := Lib.hid (by rw [hR.out, g7, Bool.false_or, if_pos hk3])
    have g3 : (kd == 3) = true := by rw [hk3]; rfl
    clear hR
    go_wp2_with fail
    go_ret
    exact ⟨by rw [hr.out]; rfl, y2⟩
  have g3 : (kd == 3) = false := by rw [beq_eq_false_iff_ne]; exact hk3
  by_cases hk5 : kd = 5 ∨ kd = 6
  · have hr : Hid (R = (ok && (k != 3))) := Lib.hid (by rw [hR.out, g7, Bool.false_or, if_neg hk3, if_pos hk5])
    have g5 : (kd == 5) = true ∨ ((kd == 5) = false ∧ (kd == 6) = true) := by
      rcases hk5 with h | h
      · exact .inl (by rw [h]; rfl)
      · exact .inr ⟨by rw [h]; rfl, by rw [h]; rfl⟩
    clear hR
    rcases g5 with g5 | ⟨g5, g6⟩
    all_goals
      cases ok <;> cases hk : (k != 3)
      all_goals
        have hr2 := hr.out
        rw [hk] at hr2
        replace hr2 := Lib.hid hr2
        clear hr
        go_wp2_with fail
        go_ret
        exact ⟨by rw [hr2.out]; rfl, y2⟩
  have g5 : (kd == 5) = false := by rw [beq_eq_false_iff_ne]; exact fun h => hk5 (.inl h)
  have g6 : (kd == 6) = false := by rw [beq_eq_false_iff_ne]; exact fun h => hk5 (.inr h)
  by_cases hk4 : kd = 4
  · have hr : Hid (R = (((k == 1) || ((k == 5) || (k == 4))) && (decide ((2 : Int) ≤ (m : Int)) && decide ((m : Int) ≤ 16)))) := Lib.hid (by rw [hR.out, g7, Bool.false_or, if_neg hk3, if_neg hk5, if_pos hk4])
    have g4 : (kd == 4) = true := by rw [hk4]; rfl
    clear hR
    cases h1 : (k == 1) <;> cases h5 : (k == 5) <;> cases h4 : (k == 4) <;> cases h2 : decide ((2 : Int) ≤ (m : Int)) <;> cases h16 : decide ((m : Int) ≤ 16)
    all_goals
      have hr2 := hr.out
      rw [h1, h5, h4, h2, h16] at hr2
      have j3 := j2.out.trans h2
      have j4 := j16.out.trans h16
      replace hr2 := Lib.hid hr2
      clear hr
      go_wp2_with fail
      go_ret
      exact ⟨by rw [hr2.out]; rfl, y2⟩
  have g4 : (kd == 4) = false := by rw [beq_eq_false_iff_ne]; exact hk4
  have hr : Hid (R = false) := Lib.hid (by rw [hR.out, g7, Bool.false_or, if_neg hk3, if_neg hk5, if_neg hk4])
  clear hR
  go_wp2_with fail
  go_ret
  exact ⟨by rw [hr.out]; rfl, y2⟩
set_option maxHeartbeats 16000000 in
theorem rasks_any (h : FL w F vs vk) (k : Int) :
    Calls Tryz.prog 24 #[.agg #[.int .i64 F.kind, sv F.typ, sv F.val, vs, vk], .int .i64 k] w fun e w' => e = .returned (.bool (asksB F.kind F.val F.subs.length k)) ∧ Ext w w' := by
  obtain ⟨Ak, q, ca, rfl⟩ := h.kk
  obtain ⟨As, cs, es, -⟩ := h.ss.open_
  have hS := h.ss
  have htl := h.tl
  have hvl := h.vl
  have hsl := h.sl
  generalize F.kind = kd at *
  generalize F.typ = T at *
  generalize F.val = V at *
  obtain ⟨B, hBs⟩ : ∃ B, B = F.subs := ⟨_, rfl⟩
  rw [← hBs] at es hS hsl ⊢
  obtain ⟨m, hm⟩ : ∃ m, m = B.length := ⟨_, rfl⟩
  rw [← hm] at es
  try rw [← hm]
  subst es
  obtain ⟨w1, hw1⟩ : ∃ x, x = w.alloc (.cells #[.int .i64 kd, sv T, sv V, .slice As m cs, .slice Ak q ca] 25) := ⟨_, rfl⟩
  obtain ⟨p, hp⟩ : ∃ p, p = w.heap.size := ⟨_, rfl⟩
  have x1 : Ext w w1 := by rw [hw1]; exact (Mod.refl _ w).alloc _
  have BP : Blk w1 p 25 #[.int .i64 kd, sv T, sv V, .slice As m cs, .slice Ak q ca] := by rw [hw1, hp]; exact Blk.new w _ _
  have hcc : ∀ {wx : World}, Ext w1 wx → wx.cell? ⟨p, 0, none⟩ = some (.int .i64 kd) ∧ wx.cell? ⟨p, 1, none⟩ = some (sv T) ∧ wx.cell? ⟨p, 2, none⟩ = some (sv V) ∧ wx.cell? ⟨p, 3, none⟩ = some (.slice As m cs) ∧ wx.cell? ⟨p, 4, none⟩ = some (.slice Ak q ca) := fun x => ⟨(BP.mod x (fun h => h)).cell 0, (BP.mod x (fun h => h)).cell 1, (BP.mod x (fun h => h)).cell 2, (BP.mod x (fun h => h)).cell 3, (BP.mod x (fun h => h)).cell 4⟩
  obtain ⟨p0, p1, p2, p3, p4⟩ := hcc (Mod.refl _ w1)
  replace hw1 := Lib.hid hw1
  replace hp := Lib.hid hp
  obtain ⟨R, hR⟩ : ∃ R, R = asksB kd V m k := ⟨_, rfl⟩
  rw [← hR]
  have hc := fun wx : World => rmnorm_any (w := wx) k V (by omega)
  unfold asksB at hR
  obtain ⟨N, hN⟩ : ∃ N, N = normM k V := ⟨_, rfl⟩
  rw [← hN] at hR hc
  obtain ⟨N, ok⟩ := N
  simp only at hR hc
  replace hN := Lib.hid hN
  replace hR := Lib.hid hR
  have j2 := Lib.hid (nat2 m)
  have j16 := Lib.hid (nat16 m)
  replace hm := Lib.hid hm
  clear BP h
  go_enter Tryz.func24, Tryz.ntmps24
  go_upto_region 1 with fail
  rw [← hw1.out, ← hp.out]
  clear hw1 hp
  go_wp2_with fail
  refine (hc _).mono ?_
  rintro e w2 ⟨rfl, x2⟩
  obtain ⟨q0, q1, q2, q3, q4⟩ := hcc x2
  have y2 := ext_trans x1 x2
  clear hc p0 p1 p2 p3 p4 x2
  by_cases hk3 : kd = 3
  · have hr : Hid (R = ok) := Lib.hid (by rw [hR.out, if_pos hk3])
    have g3 : (kd == 3) = true := by rw [hk3]; rfl
    clear hR
    go_wp2_with fail
    go_ret
    exact ⟨by rw [hr.out]; rfl, y2⟩
  have g3 : (kd == 3) = false := by rw [beq_eq_false_iff_ne]; exact hk3
  by_cases hk5 : kd = 5 ∨ kd = 6
  · have hr : Hid (R = (ok && (k != 3))) := Lib.hid (by rw [hR.out, if_neg hk3, if_pos hk5])
    have g5 : (kd == 5) = true ∨ ((kd == 5) = false ∧ (kd == 6) = true) := by
      rcases hk5 with h | h
      · exact .inl (by rw [h]; rfl)
      · exact .inr ⟨by rw [h]; rfl, by rw [h]; rfl⟩
    clear hR
    rcases g5 with g5 | ⟨g5, g6⟩
    all_goals
      cases ok <;> cases hk : (k != 3)
      all_goals
        have hr2 := hr.out
        rw [hk] at hr2
        replace hr2 := Lib.hid hr2
        clear hr
        go_wp2_with fail
        go_ret
        exact ⟨by rw [hr2.out]; rfl, y2⟩
  have g5 : (kd == 5) = false := by rw [beq_eq_false_iff_ne]; exact fun h => hk5 (.inl h)
  have g6 : (kd == 6) = false := by rw [beq_eq_false_iff_ne]; exact fun h => hk5 (.inr h)
  by_cases hk4 : kd = 4
  · have hr : Hid (R = (((k == 1) || ((k == 5) || (k == 4))) && (decide ((2 : Int) ≤ (m : Int)) && decide ((m : Int) ≤ 16)))) := Lib.hid (by rw [hR.out, if_neg hk3, if_neg hk5, if_pos hk4])
    have g4 : (kd == 4) = true := by rw [hk4]; rfl
    clear hR
    cases h1 : (k == 1) <;> cases h5 : (k == 5) <;> cases h4 : (k == 4) <;> cases h2 : decide ((2 : Int) ≤ (m : Int)) <;> cases h16 : decide ((m : Int) ≤ 16)
    all_goals
      have hr2 := hr.out
      rw [h1, h5, h4, h2, h16] at hr2
      have j3 := j2.out.trans h2
      have j4 := j16.out.trans h16
      replace hr2 := Lib.hid hr2
      clear hr
      go_wp2_with fail
      go_ret
      exact ⟨by rw [hr2.out]; rfl, y2⟩
  have g4 : (kd == 4) = false := by rw [beq_eq_false_iff_ne]; exact hk4
  have hr : Hid (R = false) := Lib.hid (by rw [hR.out, if_neg hk3, if_neg hk5, if_neg hk4])
  clear hR
  go_wp2_with fail
  go_ret
  exact ⟨by rw [hr.out]; rfl, y2⟩
set_option maxHeartbeats 16000000 in
theorem fits_any (h : FL w F vs vk) (k : Int) {v : List UInt8} (hv : v.length ≤ 140737488351232) (hM : Mxl w) :
    Calls Tryz.prog 22 #[.agg #[.int .i64 F.kind, sv F.typ, sv F.val, vs, vk], .int .i64 k, sv v] w fun e w' => e = .returned (.bool (fitsFB F.kind F.val F.subs k v)) ∧ Ext w w' := by
  obtain ⟨Ak, q, ca, rfl⟩ := h.kk
  obtain ⟨As, cs, es, -⟩ := h.ss.open_
  have hS := h.ss
  have htl := h.tl
  have hvl := h.vl
  have hsl := h.sl
  generalize F.kind = kd at *
  generalize F.typ = T at *
  generalize F.val = V at *
  obtain ⟨B, hBs⟩ : ∃ B, B = F.subs := ⟨_, rfl⟩
  rw [← hBs] at es hS hsl ⊢
  obtain ⟨m, hm⟩ : ∃ m, m = B.length := ⟨_, rfl⟩
  rw [← hm] at es
  try rw [← hm]
  subst es
  obtain ⟨w1, hw1⟩ : ∃ x, x = w.alloc (.cells #[.int .i64 kd, sv T, sv V, .slice As m cs, .slice Ak q ca] 25) := ⟨_, rfl⟩
  obtain ⟨p, hp⟩ : ∃ p, p = w.heap.size := ⟨_, rfl⟩
  have x1 : Ext w w1 := by rw [hw1]; exact (Mod.refl _ w).alloc _
  have BP : Blk w1 p 25 #[.int .i64 kd, sv T, sv V, .slice As m cs, .slice Ak q ca] := by rw [hw1, hp]; exact Blk.new w _ _
  have hcc : ∀ {wx : World}, Ext w1 wx → wx.cell? ⟨p, 0, none⟩ = some (.int .i64 kd) ∧ wx.cell? ⟨p, 1, none⟩ = some (sv T) ∧ wx.cell? ⟨p, 2, none⟩ = some (sv V) ∧ wx.cell? ⟨p, 3, none⟩ = some (.slice As m cs) ∧ wx.cell? ⟨p, 4, none⟩ = some (.slice Ak q ca) := fun x => ⟨(BP.mod x (fun h => h)).cell 0, (BP.mod x (fun h => h)).cell 1, (BP.mod x (fun h => h)).cell 2, (BP.mod x (fun h => h)).cell 3, (BP.mod x (fun h => h)).cell 4⟩
  obtain ⟨p0, p1, p2, p3, p4⟩ := hcc (Mod.refl _ w1)
  replace hw1 := Lib.hid hw1
  replace hp := Lib.hid hp
  obtain ⟨R, hR⟩ : ∃ R, R = fitsFB kd V B k v := ⟨_, rfl⟩
  rw [← hR]
  have he := fun wx : World => mequal_any (w := wx) k v V (by omega) (by omega)
  have hl := fun wx : World => less_any (w := wx) k v V (by omega) (by omega)
  have hsb := fun {wx : World} (x : Ext w1 wx) => msub_any (w := wx) k v (Sl.ext hS (ext_trans x1 x)) (by omega) (fun s hs => by have := hsl s hs; omega) (hM.ext (ext_trans x1 x))
  unfold fitsFB at hR
  rw [← fits6] at hR
  have hl6 := fun wx : World => less_any (w := wx) k V v (by omega) (by omega)
  replace hR := Lib.hid hR
  replace hm := Lib.hid hm
  clear BP h
  go_enter Tryz.func22, Tryz.ntmps22
  go_upto_region 1 with fail
  rw [← hw1.out, ← hp.out]
  clear hw1 hp
  by_cases hk3 : kd = 3
  · have hr : Hid (R = equalM k v V) := Lib.hid (by rw [hR.out, if_pos hk3])
    have g3 : (kd == 3) = true := by rw [hk3]; rfl
    clear hR hl hsb hl6
    generalize equalM k v V = b at *
    go_wp2_with fail
    refine (he _).mono ?_
    rintro e w2 ⟨rfl, x2⟩
    go_wp2_with fail
    go_ret
    exact ⟨by rw [hr.out]; rfl, ext_trans x1 x2⟩
  have g3 : (kd == 3) = false := by rw [beq_eq_false_iff_ne]; exact hk3
  by_cases hk5 : kd = 5
  · have hr : Hid (R = ((lessM k v V).2 && !(lessM k v V).1)) := Lib.hid (by rw [hR.out, if_neg hk3, if_pos hk5])
    have g5 : (kd == 5) = true := by rw [hk5]; rfl
    clear hR he hsb hl6
    generalize lessM k v V = P at *
    obtain ⟨P1, P2⟩ := P
    simp only at hl hr
    go_wp2_with fail
    refine (hl _).mono ?_
    rintro e w2 ⟨rfl, x2⟩
    clear hl
    cases P1 <;> cases P2
    all_goals
      go_wp2_with fail
      go_ret
      exact ⟨by rw [hr.out]; rfl, ext_trans x1 x2⟩
  have g5 : (kd == 5) = false := by rw [beq_eq_false_iff_ne]; exact hk5
  by_cases hk6 : kd = 6
  · have hr : Hid (R = ((lessM k V v).2 && !(lessM k V v).1)) := Lib.hid (by rw [hR.out, if_neg hk3, if_neg hk5, if_pos hk6])
    have g6 : (kd == 6) = true := by rw [hk6]; rfl
    clear hR he hsb hl
    generalize lessM k V v = P at *
    obtain ⟨P1, P2⟩ := P
    simp only at hl6 hr
    go_wp2_with fail
    refine (hl6 _).mono ?_
    rintro e w2 ⟨rfl, x2⟩
    clear hl6
    cases P1 <;> cases P2
    all_goals
      go_wp2_with fail
      go_ret
      exact ⟨by rw [hr.out]; rfl, ext_trans x1 x2⟩
  have g6 : (kd == 6) = false := by rw [beq_eq_false_iff_ne]; exact hk6
  have hr : Hid (R = (subM k v B).1) := Lib.hid (by rw [hR.out, if_neg hk3, if_neg hk5, if_neg hk6])
  clear hR he hl hl6
  have hsb1 := fun wx x => hsb (wx := wx) x
  generalize subM k v B = P at *
  obtain ⟨P1, P2⟩ := P
  simp only at hsb1 hr
  clear hsb
  go_wp2_with fail
  refine (hsb1 _ (Mod.refl _ _)).mono ?_
  rintro e w2 ⟨rfl, x2⟩
  clear hsb1
  go_wp2_with fail
  go_ret
  exact ⟨by rw [hr.out]; rfl, ext_trans x1 x2⟩
set_option maxHeartbeats 16000000 in
theorem rfits17_any (h : FL w F vs vk) (k : Int) {v : List UInt8} (hv : v.length ≤ 140737488351232) :
    Calls Tryz.prog 25 #[.agg #[.int .i64 F.kind, sv F.typ, sv F.val, vs, vk], .int .i64 k, sv v] w fun e w' => e = .returned (.bool (fitsFB F.kind F.val F.subs k v)) ∧ Ext w w' := by
  obtain ⟨Ak, q, ca, rfl⟩ := h.kk
  obtain ⟨As, cs, es, -⟩ := h.ss.open_
  have hS := h.ss
  have htl := h.tl
  have hvl := h.vl
  have hsl := h.sl
  generalize F.kind = kd at *
  generalize F.typ = T at *
  generalize F.val = V at *
  obtain ⟨B, hBs⟩ : ∃ B, B = F.subs := ⟨_, rfl⟩
  rw [← hBs] at es hS hsl ⊢
  obtain ⟨m, hm⟩ : ∃ m, m = B.length := ⟨_, rfl⟩
  rw [← hm] at es
  try rw [← hm]
  subst es
  obtain ⟨w1, hw1⟩ : ∃ x, x = w.alloc (.cells #[.int .i64 kd, sv T, sv V, .slice As m cs, .slice Ak q ca] 25) := ⟨_, rfl⟩
  obtain ⟨p, hp⟩ : ∃ p, p = w.heap.size := ⟨_, rfl⟩
  have x1 : Ext w w1 := by rw [hw1]; exact (Mod.refl _ w).alloc _
  have BP : Blk w1 p 25 #[.int .i64 kd, sv T, sv V, .slice As m cs, .slice Ak q ca] := by rw [hw1, hp]; exact Blk.new w _ _
  have hcc : ∀ {wx : World}, Ext w1 wx → wx.cell? ⟨p, 0, none⟩ = some (.int .i64 kd) ∧ wx.cell? ⟨p, 1, none⟩ = some (sv T) ∧ wx.cell? ⟨p, 2, none⟩ = some (sv V) ∧ wx.cell? ⟨p, 3, none⟩ = some (.slice As m cs) ∧ wx.cell? ⟨p, 4, none⟩ = some (.slice Ak q ca) := fun x => ⟨(BP.mod x (fun h => h)).cell 0, (BP.mod x (fun h => h)).cell 1, (BP.mod x (fun h => h)).cell 2, (BP.mod x (fun h => h)).cell 3, (BP.mod x (fun h => h)).cell 4⟩
  obtain ⟨p0, p1, p2, p3, p4⟩ := hcc (Mod.refl _ w1)
  replace hw1 := Lib.hid hw1
  replace hp := Lib.hid hp
  obtain ⟨R, hR⟩ : ∃ R, R = fitsFB kd V B k v := ⟨_, rfl⟩
  rw [← hR]
  have he := fun wx : World => requal_any (w := wx) k v V (by omega) (by omega)
  have hl := fun wx : World => rless_any (w := wx) k v V (by omega) (by omega)
  have hsb := fun {wx : World} (x : Ext w1 wx) => rsub_any (w := wx) k v ((Sl.ext hS (ext_trans x1 x)).mono (T := fun j => j < wx.heap.size) (fun _ hj _ => hj)) (fun _ hj => hj) (by omega) hsl
  unfold fitsFB at hR
  replace hR := Lib.hid hR
  replace hm := Lib.hid hm
  clear BP h
  go_enter Tryz.func25, Tryz.ntmps25
  go_upto_region 1 with fail
  rw [← hw1.out, ← hp.out]
  clear hw1 hp
  by_cases hk3 : kd = 3
  · have hr : Hid (R = equalM k v V) := Lib.hid (by rw [hR.out, if_pos hk3])
    have g3 : (kd == 3) = true := by rw [hk3]; rfl
    clear hR hl hsb
    generalize equalM k v V = b at *
    go_wp2_with fail
    refine (he _).mono ?_
    rintro e w2 ⟨rfl, x2⟩
    go_wp2_with fail
    go_ret
    exact ⟨by rw [hr.out]; rfl, ext_trans x1 x2⟩
  have g3 : (kd == 3) = false := by rw [beq_eq_false_iff_ne]; exact hk3
  by_cases hk5 : kd = 5
  · have hr : Hid (R = ((lessM k v V).2 && !(lessM k v V).1)) := Lib.hid (by rw [hR.out, if_neg hk3, if_pos hk5])
    have g5 : (kd == 5) = true := by rw [hk5]; rfl
    clear hR he hsb
    generalize lessM k v V = P at *
    obtain ⟨P1, P2⟩ := P
    simp only at hl hr
    go_wp2_with fail
    refine (hl _).mono ?_
    rintro e w2 ⟨rfl, x2⟩
    clear hl
    cases P1 <;> cases P2
    all_goals
      go_wp2_with fail
      go_ret
      exact ⟨by rw [hr.out]; rfl, ext_trans x1 x2⟩
  have g5 : (kd == 5) = false := by rw [beq_eq_false_iff_ne]; exact hk5
  by_cases hk6 : kd = 6
  · have hr : Hid (R = ((lessM k v V).2 && ((lessM k v V).1 || equalM k v V))) := Lib.hid (by rw [hR.out, if_neg hk3, if_neg hk5, if_pos hk6])
    have g6 : (kd == 6) = true := by rw [hk6]; rfl
    clear hR hsb
    generalize equalM k v V = b at *
    generalize lessM k v V = P at *
    obtain ⟨P1, P2⟩ := P
    simp only at hl hr
    go_wp2_with fail
    refine (hl _).mono ?_
    rintro e w2 ⟨rfl, x2⟩
    obtain ⟨q0, q1, q2, q3, q4⟩ := hcc x2
    clear hl p0 p1 p2 p3 p4
    cases P2 with
    | false =>
      clear he
      go_wp2_with fail
      go_ret
      exact ⟨by rw [hr.out]; rfl, ext_trans x1 x2⟩
    | true =>
      cases P1 with
      | true =>
        clear he
        go_wp2_with fail
        go_ret
        exact ⟨by rw [hr.out]; rfl, ext_trans x1 x2⟩
      | false =>
        go_wp2_with fail
        refine (he _).mono ?_
        rintro e w3 ⟨rfl, x3⟩
        clear he
        cases b
        all_goals
          go_wp2_with fail
          go_ret
          exact ⟨by rw [hr.out]; rfl, ext_trans x1 (ext_trans x2 x3)⟩
  have g6 : (kd == 6) = false := by rw [beq_eq_false_iff_ne]; exact hk6
  have hr : Hid (R = (subM k v B).1) := Lib.hid (by rw [hR.out, if_neg hk3, if_neg hk5, if_neg hk6])
  clear hR he hl
  have hsb1 := fun wx x => hsb (wx := wx) x
  generalize subM k v B = P at *
  obtain ⟨P1, P2⟩ := P
  simp only at hsb1 hr
  clear hsb
  go_wp2_with fail
  refine (hsb1 _ (Mod.refl _ _)).mono ?_
  rintro e w2 ⟨rfl, x2⟩
  clear hsb1
  go_wp2_with fail
  go_ret
  exact ⟨by rw [hr.out]; rfl, ext_trans x1 x2⟩
end
end Go.Proofs.YteihjdefdeckaaaGreatDoor
