/- eval: what a filter without kids says of values. -/
import Derived.Test.YteihjdefdeckaaaGreatDoorFlH
import Derived.Test.YteihjdefdeckaaaGreatDoorEgT
import Derived.Test.YteihjdefdeckaaaGreatDoorEvA
namespace Go.Proofs.YteihjdefdeckaaaGreatDoor
open Go.RowKit
set_option maxRecDepth 100000

def itemB (kd : Int) (T V : List UInt8) (B : List (List UInt8)) (vals : List (List UInt8)) : Int :=
  if foldB T ∈ typesL then (if kd = 7 then (if vals = [] then 0 else 1) else if asksB kd V B.length (synT (foldB T)) = true then (if vals.any (fitsFB kd V B (synT (foldB T))) = true then 1 else 0) else 2) else 2
theorem any_next {α : Type} (p : α → Bool) (L : List α) {k : Nat} (h : k < L.length) : (L.take (k + 1)).any p = ((L.take k).any p || p L[k]) := by
  rw [List.take_succ_eq_append_getElem h, List.any_append]
  simp
theorem any_yes {α : Type} {p : α → Bool} {L : List α} {k : Nat} (h : k < L.length) (hp : p L[k] = true) : L.any p = true := List.any_eq_true.2 ⟨_, List.getElem_mem h, hp⟩
theorem toldF_any {w : World} (b : Bool) : Calls Tryz.prog 21 #[.bool b] w fun e w' => e = .returned (.int .i64 (if b then 1 else 0)) ∧ Ext w w' := by
  cases b
  all_goals
    go_enter Tryz.func21, Tryz.ntmps21
    go_wp2_with fail
    go_ret
    exact ⟨rfl, Mod.refl _ _⟩
section
variable {w : World} {F : Fi} {vs vk : Value}
set_option maxHeartbeats 3000000 in
theorem item_any0 (h : FL w F vs vk) (hT : foldB F.typ ∉ typesL) {v : Value} {L : List (List UInt8)} (hv : Ss w AllE v L) (_hL : ∀ x ∈ L, x.length ≤ 140737488351232) (hM : Mxl w) :
    Calls Tryz.prog 13 #[.agg #[.int .i64 F.kind, sv F.typ, sv F.val, vs, vk], v] w fun e w' => e = .returned (.int .i64 (itemB F.kind F.typ F.val F.subs L)) ∧ Ext w w' := by
  have hf := h
  obtain ⟨Ak, q, ca, rfl⟩ := h.kk
  obtain ⟨As, cs, es, -⟩ := h.ss.open_
  obtain ⟨A, c, ev, hv1, hv2, hv3, hv4⟩ := hv.open_
  have htl := h.tl
  have hvl := h.vl
  have hak := fun {wx : World} (x : Ext w wx) (k : Int) => asks_any (h.ext x) k
  have hft := fun {wx : World} (x : Ext w wx) (k : Int) (s : List UInt8) (hs : s.length ≤ 140737488351232) => fits_any (h.ext x) k (v := s) hs (hM.ext x)
  generalize F.kind = kd at *
  generalize F.typ = T at *
  generalize F.val = V at *
  obtain ⟨B, hBs⟩ : ∃ B, B = F.subs := ⟨_, rfl⟩
  rw [← hBs] at es hak hft ⊢
  obtain ⟨m, hm⟩ : ∃ m, m = B.length := ⟨_, rfl⟩
  rw [← hm] at es
  subst es
  obtain ⟨q2, hq2⟩ : ∃ q, q = L.length := ⟨_, rfl⟩
  rw [← hq2] at ev
  subst ev
  obtain ⟨R, hR⟩ : ∃ R, R = itemB kd T V B L := ⟨_, rfl⟩
  rw [← hR]
  unfold itemB at hR
  obtain ⟨w1, hw1⟩ : ∃ x, x = w.alloc (.cells #[.int .i64 kd, sv T, sv V, .slice As m cs, .slice Ak q ca] 25) := ⟨_, rfl⟩
  obtain ⟨p, hp⟩ : ∃ p, p = w.heap.size := ⟨_, rfl⟩
  have x1 : Ext w w1 := by rw [hw1]; exact (Mod.refl _ w).alloc _
  have BP : Blk w1 p 25 #[.int .i64 kd, sv T, sv V, .slice As m cs, .slice Ak q ca] := by rw [hw1, hp]; exact Blk.new w _ _
  have hcc : ∀ {wx : World}, Ext w1 wx → wx.cell? ⟨p, 0, none⟩ = some (.int .i64 kd) ∧ wx.cell? ⟨p, 1, none⟩ = some (sv T) ∧ wx.cell? ⟨p, 2, none⟩ = some (sv V) ∧ wx.cell? ⟨p, 3, none⟩ = some (.slice As m cs) ∧ wx.cell? ⟨p, 4, none⟩ = some (.slice Ak q ca) := fun x => ⟨(BP.mod x (fun h => h)).cell 0, (BP.mod x (fun h => h)).cell 1, (BP.mod x (fun h => h)).cell 2, (BP.mod x (fun h => h)).cell 3, (BP.mod x (fun h => h)).cell 4⟩
  obtain ⟨p0, p1, p2, p3, p4⟩ := hcc (Mod.refl _ w1)
  replace hw1 := Lib.hid hw1
  replace hp := Lib.hid hp
  replace hR := Lib.hid hR
  have hq9 : q2 ≤ 9223372036854775807 := by omega
  have hLe : Hid (decide (q2 = 0) = decide (L = [])) := Lib.hid (decide_eq_decide.2 (by rw [hq2]; exact List.length_eq_zero_iff))
  replace hq2 := Lib.hid hq2
  replace hm := Lib.hid hm
  replace hBs := Lib.hid hBs
  clear BP h hf hv hv1 hv3
  have hr : Hid (R = 2) := Lib.hid (by rw [hR.out, if_neg hT])
  have hc := stype_no (w := w1) (s := T) (by omega) (lk_others hT)
  clear hR hak hft
  go_enter Tryz.func13, Tryz.ntmps13
  go_upto_region 1 with fail
  rw [← hw1.out, ← hp.out]
  clear hw1 hp
  go_wp2_with fail
  refine hc.mono ?_
  rintro e w2 ⟨rfl, x2⟩
  go_wp2_with fail
  go_ret
  exact ⟨by rw [hr.out]; rfl, ext_trans x1 x2⟩
set_option maxHeartbeats 3000000 in
theorem item_any7 (h : FL w F vs vk) (hT : foldB F.typ ∈ typesL) (hk7 : F.kind = 7) {v : Value} {L : List (List UInt8)} (hv : Ss w AllE v L) (_hL : ∀ x ∈ L, x.length ≤ 140737488351232) (hM : Mxl w) :
    Calls Tryz.prog 13 #[.agg #[.int .i64 F.kind, sv F.typ, sv F.val, vs, vk], v] w fun e w' => e = .returned (.int .i64 (itemB F.kind F.typ F.val F.subs L)) ∧ Ext w w' := by
  have hf := h
  obtain ⟨Ak, q, ca, rfl⟩ := h.kk
  obtain ⟨As, cs, es, -⟩ := h.ss.open_
  obtain ⟨A, c, ev, hv1, hv2, hv3, hv4⟩ := hv.open_
  have htl := h.tl
  have hvl := h.vl
  have hak := fun {wx : World} (x : Ext w wx) (k : Int) => asks_any (h.ext x) k
  have hft := fun {wx : World} (x : Ext w wx) (k : Int) (s : List UInt8) (hs : s.length ≤ 140737488351232) => fits_any (h.ext x) k (v := s) hs (hM.ext x)
  generalize F.kind = kd at *
  generalize F.typ = T at *
  generalize F.val = V at *
  obtain ⟨B, hBs⟩ : ∃ B, B = F.subs := ⟨_, rfl⟩
  rw [← hBs] at es hak hft ⊢
  obtain ⟨m, hm⟩ : ∃ m, m = B.length := ⟨_, rfl⟩
  rw [← hm] at es
  subst es
  obtain ⟨q2, hq2⟩ : ∃ q, q = L.length := ⟨_, rfl⟩
  rw [← hq2] at ev
  subst ev
  obtain ⟨R, hR⟩ : ∃ R, R = itemB kd T V B L := ⟨_, rfl⟩
  rw [← hR]
  unfold itemB at hR
  obtain ⟨w1, hw1⟩ : ∃ x, x = w.alloc (.cells #[.int .i64 kd, sv T, sv V, .slice As m cs, .slice Ak q ca] 25) := ⟨_, rfl⟩
  obtain ⟨p, hp⟩ : ∃ p, p = w.heap.size := ⟨_, rfl⟩
  have x1 : Ext w w1 := by rw [hw1]; exact (Mod.refl _ w).alloc _
  have BP : Blk w1 p 25 #[.int .i64 kd, sv T, sv V, .slice As m cs, .slice Ak q ca] := by rw [hw1, hp]; exact Blk.new w _ _
  have hcc : ∀ {wx : World}, Ext w1 wx → wx.cell? ⟨p, 0, none⟩ = some (.int .i64 kd) ∧ wx.cell? ⟨p, 1, none⟩ = some (sv T) ∧ wx.cell? ⟨p, 2, none⟩ = some (sv V) ∧ wx.cell? ⟨p, 3, none⟩ = some (.slice As m cs) ∧ wx.cell? ⟨p, 4, none⟩ = some (.slice Ak q ca) := fun x => ⟨(BP.mod x (fun h => h)).cell 0, (BP.mod x (fun h => h)).cell 1, (BP.mod x (fun h => h)).cell 2, (BP.mod x (fun h => h)).cell 3, (BP.mod x (fun h => h)).cell 4⟩
  obtain ⟨p0, p1, p2, p3, p4⟩ := hcc (Mod.refl _ w1)
  replace hw1 := Lib.hid hw1
  replace hp := Lib.hid hp
  replace hR := Lib.hid hR
  have hq9 : q2 ≤ 9223372036854775807 := by omega
  have hLe : Hid (decide (q2 = 0) = decide (L = [])) := Lib.hid (decide_eq_decide.2 (by rw [hq2]; exact List.length_eq_zero_iff))
  replace hq2 := Lib.hid hq2
  replace hm := Lib.hid hm
  replace hBs := Lib.hid hBs
  clear BP h hf hv hv1 hv3
  replace hk7 := Lib.hid hk7
  have hr0 : Hid (R = (if kd = 7 then (if L = [] then 0 else 1) else if asksB kd V B.length (synT (foldB T)) = true then (if L.any (fitsFB kd V B (synT (foldB T))) = true then 1 else 0) else 2)) := Lib.hid (by rw [hR.out, if_pos hT])
  have hc := stype_yes (w := w1) (s := T) (by omega) (lk_types _ hT)
  have hak2 := fun {wx : World} (x : Ext w wx) => hak x (synT (foldB T))
  have hft2 := fun {wx : World} (x : Ext w wx) (s : List UInt8) (hs : s.length ≤ 140737488351232) => hft x (synT (foldB T)) s hs
  generalize synT (foldB T) = k at *
  generalize oneT (foldB T) = one at *
  generalize foldB T = T2 at *
  clear hR hak hft
  have hl0 := n0 q2
  replace hl0 := Lib.hid hl0
  generalize hab : asksB kd V B.length k = ab at *
  go_enter Tryz.func13, Tryz.ntmps13
  go_upto_region 1 with fail
  rw [← hw1.out, ← hp.out]
  clear hw1 hp
  go_wp2_with fail
  refine hc.mono ?_
  rintro e w2 ⟨rfl, x2⟩
  obtain ⟨q0, q1, q2', q3, q4⟩ := hcc x2
  clear hc p0 p1 p2 p3 p4
  have hr : Hid (R = if L = [] then 0 else 1) := Lib.hid (by rw [hr0.out, if_pos hk7.out])
  have g7 : (kd == 7) = true := by rw [hk7.out]; rfl
  have ha3 := fun {wx : World} (x : Ext w wx) => hak2 x
  rw [g7, Bool.true_or] at ha3
  clear hr0 hft2 hak2 hk7
  go_wp2_with fail
  refine (ha3 (ext_trans x1 x2)).mono ?_
  rintro e w3 ⟨rfl, x3⟩
  obtain ⟨q0, q1, q2', q3, q4⟩ := hcc (ext_trans x2 x3)
  clear ha3
  have hb : (decide ((0 : Int) < (q2 : Int)) = true ∧ decide (0 < q2) = true ∧ R = 1) ∨ (decide ((0 : Int) < (q2 : Int)) = false ∧ decide (0 < q2) = false ∧ R = 0) := by
    by_cases hL0 : L = []
    · right
      rw [hl0.out.1, hl0.out.2, hLe.out, dtrue hL0, hr.out, if_pos hL0]
      exact ⟨rfl, rfl, rfl⟩
    · left
      rw [hl0.out.1, hl0.out.2, hLe.out, dfalse hL0, hr.out, if_neg hL0]
      exact ⟨rfl, rfl, rfl⟩
  clear hr
  rcases hb with ⟨b1, b2, hr⟩ | ⟨b1, b2, hr⟩
  all_goals
    replace hr := Lib.hid hr
    have htd1 := fun wx : World => toldF_any (w := wx) true
    have htd0 := fun wx : World => toldF_any (w := wx) false
    go_wp2_with fail
    first
      | refine (htd1 _).mono ?_
      | refine (htd0 _).mono ?_
    rintro e w4 ⟨rfl, x4⟩
    go_wp2_with fail
    go_ret
    exact ⟨by rw [hr.out]; rfl, ext_trans x1 (ext_trans x2 (ext_trans x3 x4))⟩
set_option maxHeartbeats 3000000 in
theorem item_any1 (h : FL w F vs vk) (hT : foldB F.typ ∈ typesL) (hk7 : F.kind ≠ 7) {v : Value} {L : List (List UInt8)} (hv : Ss w AllE v L) (hL : ∀ x ∈ L, x.length ≤ 140737488351232) (hM : Mxl w) :
    Calls Tryz.prog 13 #[.agg #[.int .i64 F.kind, sv F.typ, sv F.val, vs, vk], v] w fun e w' => e = .returned (.int .i64 (itemB F.kind F.typ F.val F.subs L)) ∧ Ext w w' := by
  have hf := h
  obtain ⟨Ak, q, ca, rfl⟩ := h.kk
  obtain ⟨As, cs, es, -⟩ := h.ss.open_
  obtain ⟨A, c, ev, hv1, hv2, hv3, hv4⟩ := hv.open_
  have htl := h.tl
  have hvl := h.vl
  have hak := fun {wx : World} (x : Ext w wx) (k : Int) => asks_any (h.ext x) k
  have hft := fun {wx : World} (x : Ext w wx) (k : Int) (s : List UInt8) (hs : s.length ≤ 140737488351232) => fits_any (h.ext x) k (v := s) hs (hM.ext x)
  generalize F.kind = kd at *
  generalize F.typ = T at *
  generalize F.val = V at *
  obtain ⟨B, hBs⟩ : ∃ B, B = F.subs := ⟨_, rfl⟩
  rw [← hBs] at es hak hft ⊢
  obtain ⟨m, hm⟩ : ∃ m, m = B.length := ⟨_, rfl⟩
  rw [← hm] at es
  subst es
  obtain ⟨q2, hq2⟩ : ∃ q, q = L.length := ⟨_, rfl⟩
  rw [← hq2] at ev
  subst ev
  obtain ⟨R, hR⟩ : ∃ R, R = itemB kd T V B L := ⟨_, rfl⟩
  rw [← hR]
  unfold itemB at hR
  obtain ⟨w1, hw1⟩ : ∃ x, x = w.alloc (.cells #[.int .i64 kd, sv T, sv V, .slice As m cs, .slice Ak q ca] 25) := ⟨_, rfl⟩
  obtain ⟨p, hp⟩ : ∃ p, p = w.heap.size := ⟨_, rfl⟩
  have x1 : Ext w w1 := by rw [hw1]; exact (Mod.refl _ w).alloc _
  have BP : Blk w1 p 25 #[.int .i64 kd, sv T, sv V, .slice As m cs, .slice Ak q ca] := by rw [hw1, hp]; exact Blk.new w _ _
  have hcc : ∀ {wx : World}, Ext w1 wx → wx.cell? ⟨p, 0, none⟩ = some (.int .i64 kd) ∧ wx.cell? ⟨p, 1, none⟩ = some (sv T) ∧ wx.cell? ⟨p, 2, none⟩ = some (sv V) ∧ wx.cell? ⟨p, 3, none⟩ = some (.slice As m cs) ∧ wx.cell? ⟨p, 4, none⟩ = some (.slice Ak q ca) := fun x => ⟨(BP.mod x (fun h => h)).cell 0, (BP.mod x (fun h => h)).cell 1, (BP.mod x (fun h => h)).cell 2, (BP.mod x (fun h => h)).cell 3, (BP.mod x (fun h => h)).cell 4⟩
  obtain ⟨p0, p1, p2, p3, p4⟩ := hcc (Mod.refl _ w1)
  replace hw1 := Lib.hid hw1
  replace hp := Lib.hid hp
  replace hR := Lib.hid hR
  have hq9 : q2 ≤ 9223372036854775807 := by omega
  have hLe : Hid (decide (q2 = 0) = decide (L = [])) := Lib.hid (decide_eq_decide.2 (by rw [hq2]; exact List.length_eq_zero_iff))
  replace hq2 := Lib.hid hq2
  replace hm := Lib.hid hm
  replace hBs := Lib.hid hBs
  clear BP h hf hv hv1 hv3
  have hr0 : Hid (R = (if kd = 7 then (if L = [] then 0 else 1) else if asksB kd V B.length (synT (foldB T)) = true then (if L.any (fitsFB kd V B (synT (foldB T))) = true then 1 else 0) else 2)) := Lib.hid (by rw [hR.out, if_pos hT])
  have hc := stype_yes (w := w1) (s := T) (by omega) (lk_types _ hT)
  have hak2 := fun {wx : World} (x : Ext w wx) => hak x (synT (foldB T))
  have hft2 := fun {wx : World} (x : Ext w wx) (s : List UInt8) (hs : s.length ≤ 140737488351232) => hft x (synT (foldB T)) s hs
  generalize synT (foldB T) = k at *
  generalize oneT (foldB T) = one at *
  generalize foldB T = T2 at *
  clear hR hak hft
  have hl0 := n0 q2
  replace hl0 := Lib.hid hl0
  generalize hab : asksB kd V B.length k = ab at *
  go_enter Tryz.func13, Tryz.ntmps13
  go_upto_region 1 with fail
  rw [← hw1.out, ← hp.out]
  clear hw1 hp
  go_wp2_with fail
  refine hc.mono ?_
  rintro e w2 ⟨rfl, x2⟩
  obtain ⟨q0, q1, q2', q3, q4⟩ := hcc x2
  clear hc p0 p1 p2 p3 p4
  have g7 : (kd == 7) = false := by rw [beq_eq_false_iff_ne]; exact hk7
  have hr1 : Hid (R = if ab = true then (if L.any (fitsFB kd V B k) = true then 1 else 0) else 2) := Lib.hid (by rw [hr0.out, if_neg hk7])
  have ha3 := fun {wx : World} (x : Ext w wx) => hak2 x
  rw [g7, Bool.false_or] at ha3
  clear hr0
  cases ab with
  | false =>
    have hr : Hid (R = 2) := Lib.hid (by rw [hr1.out]; rfl)
    clear hr1 hft2 hak2
    go_wp2_with fail
    refine (ha3 (ext_trans x1 x2)).mono ?_
    rintro e w3 ⟨rfl, x3⟩
    go_wp2_with fail
    go_ret
    exact ⟨by rw [hr.out]; rfl, ext_trans x1 (ext_trans x2 x3)⟩
  | true =>
    have hr : Hid (R = if L.any (fitsFB kd V B k) = true then 1 else 0) := Lib.hid (by rw [hr1.out]; rfl)
    clear hr1
    go_wp2_with fail
    refine (ha3 (ext_trans x1 x2)).mono ?_
    rintro e w3 ⟨rfl, x3⟩
    have y3 := ext_trans x2 x3
    clear q0 q1 q2' q3 q4
    obtain ⟨q0, q1, q2', q3, q4⟩ := hcc y3
    clear ha3
    go_wp2_with fail
    go_loopw [36] (fun i wr => ∃ j : Nat, j ≤ q2 ∧ i = .int .i64 j ∧ Hid ((L.take j).any (fitsFB kd V B k) = false) ∧ Ext w1 wr) (fun i _ => q2 - (intOf i).toNat)
    case atStart => exact ⟨0, Nat.zero_le _, rfl, Lib.hid rfl, y3⟩
    case round =>
      clear q0 q1 q2' q3 q4
      obtain ⟨j, hj, rfl, han, hx⟩ := hrel
      obtain ⟨q0, q1, q2', q3, q4⟩ := hcc hx
      by_cases hlt : j < q2
      case neg =>
        have hbl : decide ((j : Int) < (q2 : Int)) = false := dfalse (by omega)
        have hbn : decide (j < q2) = false := dfalse (by omega)
        have hr2 : Hid (R = 0) := Lib.hid (by
          have e : L.take j = L := List.take_of_length_le (by have := hq2.out; omega)
          have h2 := han.out
          rw [e] at h2
          rw [hr.out, h2]
          rfl)
        clear hr han
        go_wp2_with fail
        go_ret
        exact ⟨by rw [hr2.out]; rfl, ext_trans x1 hx⟩
      have hbl : decide ((j : Int) < (q2 : Int)) = true := dtrue (by omega)
      have hbn : decide (j < q2) = true := dtrue (by omega)
      have hi0 : (0 : Int) ≤ (j : Int) := by omega
      have hi1 : (j : Int) < (q2 : Int) := by omega
      have hjl : j < L.length := by have := hq2.out; omega
      obtain ⟨ag, e2, _, h6⟩ := (Cells.mod hv4 (ext_trans x1 hx) (fun _ _ _ h => h)).at_ hjl
      subst e2
      have hxl := hL _ (List.getElem_mem hjl)
      have hnx := any_next (fitsFB kd V B k) L hjl
      have hyes := fun h => any_yes (p := fitsFB kd V B k) hjl h
      have hft3 := fun {wx : World} (x : Ext w wx) => hft2 x L[j] hxl
      generalize L[j] = x at *
      generalize hfb : fitsFB kd V B k x = fb at *
      have han2 := han.out
      clear han hjl hft2 hak2
      cases fb with
      | true =>
        have hr2 : Hid (R = 1) := Lib.hid (by rw [hr.out, hyes rfl]; rfl)
        clear hr hyes hnx han2 hfb
        go_wp2_with fail
        refine (hft3 (ext_trans x1 hx)).mono ?_
        rintro e w9 ⟨rfl, x9⟩
        go_wp2_with fail
        go_ret
        exact ⟨by rw [hr2.out]; rfl, ext_trans x1 (ext_trans hx x9)⟩
      | false =>
        have han3 : Hid ((L.take (j + 1)).any (fitsFB kd V B k) = false) := Lib.hid (by rw [hnx, han2]; rfl)
        clear hr hyes hnx han2 hfb
        go_wp2_with fail
        refine (hft3 (ext_trans x1 hx)).mono ?_
        rintro e w9 ⟨rfl, x9⟩
        have x10 := ext_trans hx x9
        clear hft3 x9 q0 q1 q2' q3 q4
        go_wp2_with fail
        exact ⟨⟨j + 1, by omega, by go_num, han3, x10⟩, by simp [intOf] <;> omega⟩
set_option maxHeartbeats 3000000 in
theorem item_any (h : FL w F vs vk) {v : Value} {L : List (List UInt8)} (hv : Ss w AllE v L) (hL : ∀ x ∈ L, x.length ≤ 140737488351232) (hM : Mxl w) :
    Calls Tryz.prog 13 #[.agg #[.int .i64 F.kind, sv F.typ, sv F.val, vs, vk], v] w fun e w' => e = .returned (.int .i64 (itemB F.kind F.typ F.val F.subs L)) ∧ Ext w w' := by
  by_cases hT : foldB F.typ ∈ typesL
  · by_cases hk7 : F.kind = 7
    · exact item_any7 h hT hk7 hv hL hM
    · exact item_any1 h hT hk7 hv hL hM
  · exact item_any0 h hT hv hL hM
set_option maxHeartbeats 3000000 in
theorem ritem_any0 (h : FL w F vs vk) (hT : foldB F.typ ∉ typesL) {v : Value} {L : List (List UInt8)} (hv : Ss w AllE v L) (_hL : ∀ x ∈ L, x.length ≤ 140737488351232) :
    Calls Tryz.prog 14 #[.agg #[.int .i64 F.kind, sv F.typ, sv F.val, vs, vk], v] w fun e w' => e = .returned (.int .i64 (itemB F.kind F.typ F.val F.subs L)) ∧ Ext w w' := by
  have hf := h
  obtain ⟨Ak, q, ca, rfl⟩ := h.kk
  obtain ⟨As, cs, es, -⟩ := h.ss.open_
  obtain ⟨A, c, ev, hv1, hv2, hv3, hv4⟩ := hv.open_
  have htl := h.tl
  have hvl := h.vl
  have hak := fun {wx : World} (x : Ext w wx) (k : Int) => rasks_any (h.ext x) k
  have hft := fun {wx : World} (x : Ext w wx) (k : Int) (s : List UInt8) (hs : s.length ≤ 140737488351232) => rfits17_any (h.ext x) k (v := s) hs
  generalize F.kind = kd at *
  generalize F.typ = T at *
  generalize F.val = V at *
  obtain ⟨B, hBs⟩ : ∃ B, B = F.subs := ⟨_, rfl⟩
  rw [← hBs] at es hak hft ⊢
  obtain ⟨m, hm⟩ : ∃ m, m = B.length := ⟨_, rfl⟩
  rw [← hm] at es
  subst es
  obtain ⟨q2, hq2⟩ : ∃ q, q = L.length := ⟨_, rfl⟩
  rw [← hq2] at ev
  subst ev
  obtain ⟨R, hR⟩ : ∃ R, R = itemB kd T V B L := ⟨_, rfl⟩
  rw [← hR]
  unfold itemB at hR
  obtain ⟨w1, hw1⟩ : ∃ x, x = w.alloc (.cells #[.int .i64 kd, sv T, sv V, .slice As m cs, .slice Ak q ca] 25) := ⟨_, rfl⟩
  obtain ⟨p, hp⟩ : ∃ p, p = w.heap.size := ⟨_, rfl⟩
  have x1 : Ext w w1 := by rw [hw1]; exact (Mod.refl _ w).alloc _
  have BP : Blk w1 p 25 #[.int .i64 kd, sv T, sv V, .slice As m cs, .slice Ak q ca] := by rw [hw1, hp]; exact Blk.new w _ _
  have hcc : ∀ {wx : World}, Ext w1 wx → wx.cell? ⟨p, 0, none⟩ = some (.int .i64 kd) ∧ wx.cell? ⟨p, 1, none⟩ = some (sv T) ∧ wx.cell? ⟨p, 2, none⟩ = some (sv V) ∧ wx.cell? ⟨p, 3, none⟩ = some (.slice As m cs) ∧ wx.cell? ⟨p, 4, none⟩ = some (.slice Ak q ca) := fun x => ⟨(BP.mod x (fun h => h)).cell 0, (BP.mod x (fun h => h)).cell 1, (BP.mod x (fun h => h)).cell 2, (BP.mod x (fun h => h)).cell 3, (BP.mod x (fun h => h)).cell 4⟩
  obtain ⟨p0, p1, p2, p3, p4⟩ := hcc (Mod.refl _ w1)
  replace hw1 := Lib.hid hw1
  replace hp := Lib.hid hp
  replace hR := Lib.hid hR
  have hq9 : q2 ≤ 9223372036854775807 := by omega
  have hLe : Hid (decide (q2 = 0) = decide (L = [])) := Lib.hid (decide_eq_decide.2 (by rw [hq2]; exact List.length_eq_zero_iff))
  replace hq2 := Lib.hid hq2
  replace hm := Lib.hid hm
  replace hBs := Lib.hid hBs
  clear BP h hf hv hv1 hv3
  have hr : Hid (R = 2) := Lib.hid (by rw [hR.out, if_neg hT])
  have hc := rtype_no (w := w1) (s := T) (by omega) hT
  clear hR hak hft
  go_enter Tryz.func14, Tryz.ntmps14
  go_upto_region 1 with fail
  rw [← hw1.out, ← hp.out]
  clear hw1 hp
  go_wp2_with fail
  refine hc.mono ?_
  rintro e w2 ⟨rfl, x2⟩
  go_wp2_with fail
  go_ret
  exact ⟨by rw [hr.out]; rfl, ext_trans x1 x2⟩
set_option maxHeartbeats 3000000 in
theorem ritem_any7 (h : FL w F vs vk) (hT : foldB F.typ ∈ typesL) (hk7 : F.kind = 7) {v : Value} {L : List (List UInt8)} (hv : Ss w AllE v L) (_hL : ∀ x ∈ L, x.length ≤ 140737488351232) :
    Calls Tryz.prog 14 #[.agg #[.int .i64 F.kind, sv F.typ, sv F.val, vs, vk], v] w fun e w' => e = .returned (.int .i64 (itemB F.kind F.typ F.val F.subs L)) ∧ Ext w w' := by
  have hf := h
  obtain ⟨Ak, q, ca, rfl⟩ := h.kk
  obtain ⟨As, cs, es, -⟩ := h.ss.open_
  obtain ⟨A, c, ev, hv1, hv2, hv3, hv4⟩ := hv.open_
  have htl := h.tl
  have hvl := h.vl
  have hak := fun {wx : World} (x : Ext w wx) (k : Int) => rasks_any (h.ext x) k
  have hft := fun {wx : World} (x : Ext w wx) (k : Int) (s : List UInt8) (hs : s.length ≤ 140737488351232) => rfits17_any (h.ext x) k (v := s) hs
  generalize F.kind = kd at *
  generalize F.typ = T at *
  generalize F.val = V at *
  obtain ⟨B, hBs⟩ : ∃ B, B = F.subs := ⟨_, rfl⟩
  rw [← hBs] at es hak hft ⊢
  obtain ⟨m, hm⟩ : ∃ m, m = B.length := ⟨_, rfl⟩
  rw [← hm] at es
  subst es
  obtain ⟨q2, hq2⟩ : ∃ q, q = L.length := ⟨_, rfl⟩
  rw [← hq2] at ev
  subst ev
  obtain ⟨R, hR⟩ : ∃ R, R = itemB kd T V B L := ⟨_, rfl⟩
  rw [← hR]
  unfold itemB at hR
  obtain ⟨w1, hw1⟩ : ∃ x, x = w.alloc (.cells #[.int .i64 kd, sv T, sv V, .slice As m cs, .slice Ak q ca] 25) := ⟨_, rfl⟩
  obtain ⟨p, hp⟩ : ∃ p, p = w.heap.size := ⟨_, rfl⟩
  have x1 : Ext w w1 := by rw [hw1]; exact (Mod.refl _ w).alloc _
  have BP : Blk w1 p 25 #[.int .i64 kd, sv T, sv V, .slice As m cs, .slice Ak q ca] := by rw [hw1, hp]; exact Blk.new w _ _
  have hcc : ∀ {wx : World}, Ext w1 wx → wx.cell? ⟨p, 0, none⟩ = some (.int .i64 kd) ∧ wx.cell? ⟨p, 1, none⟩ = some (sv T) ∧ wx.cell? ⟨p, 2, none⟩ = some (sv V) ∧ wx.cell? ⟨p, 3, none⟩ = some (.slice As m cs) ∧ wx.cell? ⟨p, 4, none⟩ = some (.slice Ak q ca) := fun x => ⟨(BP.mod x (fun h => h)).cell 0, (BP.mod x (fun h => h)).cell 1, (BP.mod x (fun h => h)).cell 2, (BP.mod x (fun h => h)).cell 3, (BP.mod x (fun h => h)).cell 4⟩
  obtain ⟨p0, p1, p2, p3, p4⟩ := hcc (Mod.refl _ w1)
  replace hw1 := Lib.hid hw1
  replace hp := Lib.hid hp
  replace hR := Lib.hid hR
  have hq9 : q2 ≤ 9223372036854775807 := by omega
  have hLe : Hid (decide (q2 = 0) = decide (L = [])) := Lib.hid (decide_eq_decide.2 (by rw [hq2]; exact List.length_eq_zero_iff))
  replace hq2 := Lib.hid hq2
  replace hm := Lib.hid hm
  replace hBs := Lib.hid hBs
  clear BP h hf hv hv1 hv3
  replace hk7 := Lib.hid hk7
  have hr0 : Hid (R = (if kd = 7 then (if L = [] then 0 else 1) else if asksB kd V B.length (synT (foldB T)) = true then (if L.any (fitsFB kd V B (synT (foldB T))) = true then 1 else 0) else 2)) := Lib.hid (by rw [hR.out, if_pos hT])
  have hc := rtype_yes (w := w1) (s := T) (by omega) hT
  have hak2 := fun {wx : World} (x : Ext w wx) => hak x (synT (foldB T))
  have hft2 := fun {wx : World} (x : Ext w wx) (s : List UInt8) (hs : s.length ≤ 140737488351232) => hft x (synT (foldB T)) s hs
  generalize synT (foldB T) = k at *
  generalize oneT (foldB T) = one at *
  generalize foldB T = T2 at *
  clear hR hak hft
  have hl0 := n0 q2
  replace hl0 := Lib.hid hl0
  generalize hab : asksB kd V B.length k = ab at *
  go_enter Tryz.func14, Tryz.ntmps14
  go_upto_region 1 with fail
  rw [← hw1.out, ← hp.out]
  clear hw1 hp
  go_wp2_with fail
  refine hc.mono ?_
  rintro e w2 ⟨rfl, x2⟩
  obtain ⟨q0, q1, q2', q3, q4⟩ := hcc x2
  clear hc p0 p1 p2 p3 p4
  have hr : Hid (R = if L = [] then 0 else 1) := Lib.hid (by rw [hr0.out, if_pos hk7.out])
  have g7 : (kd == 7) = true := by rw [hk7.out]; rfl
  clear hr0 hft2 hak2 hk7
  have hb : (decide ((0 : Int) < (q2 : Int)) = true ∧ decide (0 < q2) = true ∧ R = 1) ∨ (decide ((0 : Int) < (q2 : Int)) = false ∧ decide (0 < q2) = false ∧ R = 0) := by
    by_cases hL0 : L = []
    · right
      rw [hl0.out.1, hl0.out.2, hLe.out, dtrue hL0, hr.out, if_pos hL0]
      exact ⟨rfl, rfl, rfl⟩
    · left
      rw [hl0.out.1, hl0.out.2, hLe.out, dfalse hL0, hr.out, if_neg hL0]
      exact ⟨rfl, rfl, rfl⟩
  clear hr
  rcases hb with ⟨b1, b2, hr⟩ | ⟨b1, b2, hr⟩
  all_goals
    replace hr := Lib.hid hr
    go_wp2_with fail
    go_ret
    exact ⟨by rw [hr.out]; rfl, ext_trans x1 x2⟩
set_option maxHeartbeats 3000000 in
theorem ritem_any1 (h : FL w F vs vk) (hT : foldB F.typ ∈ typesL) (hk7 : F.kind ≠ 7) {v : Value} {L : List (List UInt8)} (hv : Ss w AllE v L) (hL : ∀ x ∈ L, x.length ≤ 140737488351232) :
    Calls Tryz.prog 14 #[.agg #[.int .i64 F.kind, sv F.typ, sv F.val, vs, vk], v] w fun e w' => e = .returned (.int .i64 (itemB F.kind F.typ F.val F.subs L)) ∧ Ext w w' := by
  have hf := h
  obtain ⟨Ak, q, ca, rfl⟩ := h.kk
  obtain ⟨As, cs, es, -⟩ := h.ss.open_
  obtain ⟨A, c, ev, hv1, hv2, hv3, hv4⟩ := hv.open_
  have htl := h.tl
  have hvl := h.vl
  have hak := fun {wx : World} (x : Ext w wx) (k : Int) => rasks_any (h.ext x) k
  have hft := fun {wx : World} (x : Ext w wx) (k : Int) (s : List UInt8) (hs : s.length ≤ 140737488351232) => rfits17_any (h.ext x) k (v := s) hs
  generalize F.kind = kd at *
  generalize F.typ = T at *
  generalize F.val = V at *
  obtain ⟨B, hBs⟩ : ∃ B, B = F.subs := ⟨_, rfl⟩
  rw [← hBs] at es hak hft ⊢
  obtain ⟨m, hm⟩ : ∃ m, m = B.length := ⟨_, rfl⟩
  rw [← hm] at es
  subst es
  obtain ⟨q2, hq2⟩ : ∃ q, q = L.length := ⟨_, rfl⟩
  rw [← hq2] at ev
  subst ev
  obtain ⟨R, hR⟩ : ∃ R, R = itemB kd T V B L := ⟨_, rfl⟩
  rw [← hR]
  unfold itemB at hR
  obtain ⟨w1, hw1⟩ : ∃ x, x = w.alloc (.cells #[.int .i64 kd, sv T, sv V, .slice As m cs, .slice Ak q ca] 25) := ⟨_, rfl⟩
  obtain ⟨p, hp⟩ : ∃ p, p = w.heap.size := ⟨_, rfl⟩
  have x1 : Ext w w1 := by rw [hw1]; exact (Mod.refl _ w).alloc _
  have BP : Blk w1 p 25 #[.int .i64 kd, sv T, sv V, .slice As m cs, .slice Ak q ca] := by rw [hw1, hp]; exact Blk.new w _ _
  have hcc : ∀ {wx : World}, Ext w1 wx → wx.cell? ⟨p, 0, none⟩ = some (.int .i64 kd) ∧ wx.cell? ⟨p, 1, none⟩ = some (sv T) ∧ wx.cell? ⟨p, 2, none⟩ = some (sv V) ∧ wx.cell? ⟨p, 3, none⟩ = some (.slice As m cs) ∧ wx.cell? ⟨p, 4, none⟩ = some (.slice Ak q ca) := fun x => ⟨(BP.mod x (fun h => h)).cell 0, (BP.mod x (fun h => h)).cell 1, (BP.mod x (fun h => h)).cell 2, (BP.mod x (fun h => h)).cell 3, (BP.mod x (fun h => h)).cell 4⟩
  obtain ⟨p0, p1, p2, p3, p4⟩ := hcc (Mod.refl _ w1)
  replace hw1 := Lib.hid hw1
  replace hp := Lib.hid hp
  replace hR := Lib.hid hR
  have hq9 : q2 ≤ 9223372036854775807 := by omega
  have hLe : Hid (decide (q2 = 0) = decide (L = [])) := Lib.hid (decide_eq_decide.2 (by rw [hq2]; exact List.length_eq_zero_iff))
  replace hq2 := Lib.hid hq2
  replace hm := Lib.hid hm
  replace hBs := Lib.hid hBs
  clear BP h hf hv hv1 hv3
  have hr0 : Hid (R = (if kd = 7 then (if L = [] then 0 else 1) else if asksB kd V B.length (synT (foldB T)) = true then (if L.any (fitsFB kd V B (synT (foldB T))) = true then 1 else 0) else 2)) := Lib.hid (by rw [hR.out, if_pos hT])
  have hc := rtype_yes (w := w1) (s := T) (by omega) hT
  have hak2 := fun {wx : World} (x : Ext w wx) => hak x (synT (foldB T))
  have hft2 := fun {wx : World} (x : Ext w wx) (s : List UInt8) (hs : s.length ≤ 140737488351232) => hft x (synT (foldB T)) s hs
  generalize synT (foldB T) = k at *
  generalize oneT (foldB T) = one at *
  generalize foldB T = T2 at *
  clear hR hak hft
  have hl0 := n0 q2
  replace hl0 := Lib.hid hl0
  generalize hab : asksB kd V B.length k = ab at *
  go_enter Tryz.func14, Tryz.ntmps14
  go_upto_region 1 with fail
  rw [← hw1.out, ← hp.out]
  clear hw1 hp
  go_wp2_with fail
  refine hc.mono ?_
  rintro e w2 ⟨rfl, x2⟩
  obtain ⟨q0, q1, q2', q3, q4⟩ := hcc x2
  clear hc p0 p1 p2 p3 p4
  have g7 : (kd == 7) = false := by rw [beq_eq_false_iff_ne]; exact hk7
  have hr1 : Hid (R = if ab = true then (if L.any (fitsFB kd V B k) = true then 1 else 0) else 2) := Lib.hid (by rw [hr0.out, if_neg hk7])
  have ha3 := fun {wx : World} (x : Ext w wx) => hak2 x
  clear hr0
  cases ab with
  | false =>
    have hr : Hid (R = 2) := Lib.hid (by rw [hr1.out]; rfl)
    clear hr1 hft2 hak2
    go_wp2_with fail
    refine (ha3 (ext_trans x1 x2)).mono ?_
    rintro e w3 ⟨rfl, x3⟩
    go_wp2_with fail
    go_ret
    exact ⟨by rw [hr.out]; rfl, ext_trans x1 (ext_trans x2 x3)⟩
  | true =>
    have hr : Hid (R = if L.any (fitsFB kd V B k) = true then 1 else 0) := Lib.hid (by rw [hr1.out]; rfl)
    clear hr1
    go_wp2_with fail
    refine (ha3 (ext_trans x1 x2)).mono ?_
    rintro e w3 ⟨rfl, x3⟩
    have y3 := ext_trans x2 x3
    clear q0 q1 q2' q3 q4
    obtain ⟨q0, q1, q2', q3, q4⟩ := hcc y3
    clear ha3
    go_wp2_with fail
    go_loopw [9] (fun i wr => ∃ j : Nat, j ≤ q2 ∧ i = .int .i64 j ∧ Hid ((L.take j).any (fitsFB kd V B k) = false) ∧ Ext w1 wr) (fun i _ => q2 - (intOf i).toNat)
    case atStart => exact ⟨0, Nat.zero_le _, rfl, Lib.hid rfl, y3⟩
    case round =>
      clear q0 q1 q2' q3 q4
      obtain ⟨j, hj, rfl, han, hx⟩ := hrel
      obtain ⟨q0, q1, q2', q3, q4⟩ := hcc hx
      by_cases hlt : j < q2
      case neg =>
        have hbl : decide ((j : Int) < (q2 : Int)) = false := dfalse (by omega)
        have hbn : decide (j < q2) = false := dfalse (by omega)
        have hr2 : Hid (R = 0) := Lib.hid (by
          have e : L.take j = L := List.take_of_length_le (by have := hq2.out; omega)
          have h2 := han.out
          rw [e] at h2
          rw [hr.out, h2]
          rfl)
        clear hr han
        go_wp2_with fail
        go_ret
        exact ⟨by rw [hr2.out]; rfl, ext_trans x1 hx⟩
      have hbl : decide ((j : Int) < (q2 : Int)) = true := dtrue (by omega)
      have hbn : decide (j < q2) = true := dtrue (by omega)
      have hi0 : (0 : Int) ≤ (j : Int) := by omega
      have hi1 : (j : Int) < (q2 : Int) := by omega
      have hjl : j < L.length := by have := hq2.out; omega
      obtain ⟨ag, e2, _, h6⟩ := (Cells.mod hv4 (ext_trans x1 hx) (fun _ _ _ h => h)).at_ hjl
      subst e2
      have hxl := hL _ (List.getElem_mem hjl)
      have hnx := any_next (fitsFB kd V B k) L hjl
      have hyes := fun h => any_yes (p := fitsFB kd V B k) hjl h
      have hft3 := fun {wx : World} (x : Ext w wx) => hft2 x L[j] hxl
      generalize L[j] = x at *
      generalize hfb : fitsFB kd V B k x = fb at *
      have han2 := han.out
      clear han hjl hft2 hak2
      have h6x : ∀ {wx : World}, Ext wr wx → wx.cell? (ag.add j) = some (sv x) := fun y => ext_cell y h6
      have hcell : ∀ {wx : World}, Ext wr wx → wx.cell? (ag.add j) = some (sv x) ∧ wx.cell? ⟨p, 0, none⟩ = some (.int .i64 kd) ∧ wx.cell? ⟨p, 1, none⟩ = some (sv T) ∧ wx.cell? ⟨p, 2, none⟩ = some (sv V) ∧ wx.cell? ⟨p, 3, none⟩ = some (.slice As m cs) ∧ wx.cell? ⟨p, 4, none⟩ = some (.slice Ak q ca) := fun y => ⟨h6x y, hcc (ext_trans hx y)⟩
      have z0 : Ext wr wr.drew := (Mod.refl _ wr).drew
      cases fb with
      | true =>
        have hr2 : Hid (R = 1) := Lib.hid (by rw [hr.out, hyes rfl]; rfl)
        clear hr hyes hnx han2 hfb
        go_upto_region 13 with fail
        go_region_held3 (fun wx => wx.cell? (ag.add j) = some (sv x) ∧ wx.cell? ⟨p, 0, none⟩ = some (.int .i64 kd) ∧ wx.cell? ⟨p, 1, none⟩ = some (sv T) ∧ wx.cell? ⟨p, 2, none⟩ = some (sv V) ∧ wx.cell? ⟨p, 3, none⟩ = some (.slice As m cs) ∧ wx.cell? ⟨p, 4, none⟩ = some (.slice Ak q ca)) (first | exact hcell z0 | exact hcell x9) (first
          | (go_at_call 25; (with_reducible refine (hft3 (ext_trans x1 (ext_trans hx z0))).mono ?_); rintro e w9 ⟨rfl, x8⟩; have x9 := ext_trans z0 x8))
        go_wp2_with fail
        go_ret
        exact ⟨by rw [hr2.out]; rfl, ext_trans x1 (ext_trans hx x9)⟩
      | false =>
        have han3 : Hid ((L.take (j + 1)).any (fitsFB kd V B k) = false) := Lib.hid (by rw [hnx, han2]; rfl)
        clear hr hyes hnx han2 hfb
        go_upto_region 13 with fail
        go_region_held3 (fun wx => wx.cell? (ag.add j) = some (sv x) ∧ wx.cell? ⟨p, 0, none⟩ = some (.int .i64 kd) ∧ wx.cell? ⟨p, 1, none⟩ = some (sv T) ∧ wx.cell? ⟨p, 2, none⟩ = some (sv V) ∧ wx.cell? ⟨p, 3, none⟩ = some (.slice As m cs) ∧ wx.cell? ⟨p, 4, none⟩ = some (.slice Ak q ca)) (first | exact hcell z0 | exact hcell x9) (first
          | (go_at_call 25; (with_reducible refine (hft3 (ext_trans x1 (ext_trans hx z0))).mono ?_); rintro e w9 ⟨rfl, x8⟩; have x9 := ext_trans z0 x8))
        have x10 := ext_trans hx x9
        clear hft3 x9 q0 q1 q2' q3 q4
        go_wp2_with fail
        exact ⟨⟨j + 1, by omega, by go_num, han3, x10⟩, by simp [intOf] <;> omega⟩
set_option maxHeartbeats 3000000 in
theorem ritem_any (h : FL w F vs vk) {v : Value} {L : List (List UInt8)} (hv : Ss w AllE v L) (hL : ∀ x ∈ L, x.length ≤ 140737488351232) :
    Calls Tryz.prog 14 #[.agg #[.int .i64 F.kind, sv F.typ, sv F.val, vs, vk], v] w fun e w' => e = .returned (.int .i64 (itemB F.kind F.typ F.val F.subs L)) ∧ Ext w w' := by
  by_cases hT : foldB F.typ ∈ typesL
  · by_cases hk7 : F.kind = 7
    · exact ritem_any7 h hT hk7 hv hL
    · exact ritem_any1 h hT hk7 hv hL
  · exact ritem_any0 h hT hv hL
end
end Go.Proofs.YteihjdefdeckaaaGreatDoor
