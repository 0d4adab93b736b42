/- filter: whether a filter may be: the document's. -/
import Derived.Test.YtoockogceobfgaaGreatFlE
import Derived.Test.YtoockogceobfgaaGreatDnGm
namespace Go.Proofs.YtoockogceobfgaaGreat
open Go.RowKit
set_option maxRecDepth 100000

set_option maxHeartbeats 8000000 in
theorem rsubs_any {w : World} {S : Nat → Prop} {v : Value} {L : List (List UInt8)} (h : Ss w S v L) :
    Calls Tryz.prog 94 #[v] w fun e w' => e = .returned (.bool (decide (isSubs L))) ∧ Ext w w' := by
  obtain ⟨A, c, rfl, h1, h2, h3, h4⟩ := h.open_
  obtain ⟨R, hR⟩ : ∃ R, R = decide (isSubs L) := ⟨_, rfl⟩
  rw [← hR]
  replace hR := Lib.hid hR
  by_cases hl2 : L.length < 2
  · have hb : decide ((L.length : Int) < 2) = true := dtrue (by omega)
    have hr : Hid (R = false) := Lib.hid (by rw [hR.out]; exact dfalse (fun h => by have := h.1; omega))
    go_enter Tryz.func94, Tryz.ntmps94
    go_wp2_with fail
    go_ret
    exact ⟨by rw [hr.out]; rfl, Mod.refl _ _⟩
  have hb2 : decide ((L.length : Int) < 2) = false := dfalse (by omega)
  by_cases hl16 : 16 < L.length
  · have hb : decide ((16 : Int) < (L.length : Int)) = true := dtrue (by omega)
    have hr : Hid (R = false) := Lib.hid (by rw [hR.out]; exact dfalse (fun h => by have := h.2.1; omega))
    go_enter Tryz.func94, Tryz.ntmps94
    go_wp2_with fail
    go_ret
    exact ⟨by rw [hr.out]; rfl, Mod.refl _ _⟩
  have hb16 : decide ((16 : Int) < (L.length : Int)) = false := dfalse (by omega)
  go_enter Tryz.func94, Tryz.ntmps94
  go_wp2_with fail
  go_loopw [3, 4] (fun a i wr => ∃ (k : Nat) (z : Bool), k ≤ L.length ∧ a = .bool z ∧ i = .int .i64 k ∧ Hid (okP L k) ∧ Hid (z = true ↔ ∃ s ∈ L.take k, s ≠ []) ∧ Ext w wr) (fun _ i _ => L.length - (intOf i).toNat)
  case atStart => exact ⟨0, false, Nat.zero_le _, rfl, rfl, Lib.hid (fun i _ h => by omega), Lib.hid (by simp), Mod.refl _ _⟩
  case round =>
    obtain ⟨k, z, hk, rfl, rfl, hs, hz, q3⟩ := hrel
    have hcs := Cells.mod h4 q3 (fun _ _ _ h => h)
    by_cases hlt : k < L.length
    case neg =>
      have hbl : decide ((k : Int) < (L.length : Int)) = false := dfalse (by omega)
      have hbn : decide (k < L.length) = false := dfalse (by omega)
      have hok := hs.out
      have hr : Hid (R = z) := Lib.hid (by
        have hz2 := hz.out
        rw [List.take_of_length_le (by omega)] at hz2
        rw [hR.out]
        cases z with
        | true => exact dtrue ⟨by omega, by omega, fun i h => hok i h (by omega), hz2.1 rfl⟩
        | false => exact dfalse (fun h => by have := hz2.2 h.2.2.2; cases this))
      clear hok hs hz hR
      go_wp2_with fail
      go_ret
      exact ⟨by rw [hr.out]; rfl, q3⟩
    have hbl : decide ((k : Int) < (L.length : Int)) = true := dtrue (by omega)
    have hbn : decide (k < L.length) = true := dtrue (by omega)
    obtain ⟨ad, hA, hS, c0⟩ := hcs.at_ hlt
    subst hA
    have hi0 : (0 : Int) ≤ (k : Int) := by omega
    have hi1 : (k : Int) < (L.length : Int) := by omega
    have hnx : (L[k].length ≤ 256 ∧ (L[k] = [] → k = 0 ∨ k + 1 = L.length)) → okP L (k + 1) := fun hp i h hi => by
      rcases Nat.lt_or_ge i k with h5 | h5
      · exact hs.out i h h5
      · obtain rfl : i = k := by omega
        exact hp
    have hno : ¬ (L[k].length ≤ 256 ∧ (L[k] = [] → k = 0 ∨ k + 1 = L.length)) → R = false := fun hp => by
      rw [hR.out]
      exact dfalse (fun h => hp (h.2.2.1 k hlt))
    have hzn : (∃ s ∈ L.take (k + 1), s ≠ []) ↔ (∃ s ∈ L.take k, s ≠ []) ∨ L[k] ≠ [] := by
      rw [List.take_succ_eq_append_getElem hlt]
      simp only [List.mem_append, List.mem_singleton]
      constructor
      · rintro ⟨s, hs | rfl, h⟩
        · exact .inl ⟨s, hs, h⟩
        · exact .inr h
      · rintro (⟨s, hs, h⟩ | h)
        · exact ⟨s, .inl hs, h⟩
        · exact ⟨_, .inr rfl, h⟩
    generalize L[k] = x at *
    by_cases hx : 256 < x.length
    · have hb : decide ((256 : Int) < (x.length : Int)) = true := dtrue (by omega)
      have hr : Hid (R = false) := Lib.hid (hno (fun h => by omega))
      clear hnx hno hR hs hzn hz
      go_wp2_with fail
      go_ret
      exact ⟨by rw [hr.out]; rfl, q3⟩
    have hb : decide ((256 : Int) < (x.length : Int)) = false := dfalse (by omega)
    by_cases hx0 : x = []
    case neg =>
      have hs2 := Lib.hid (hnx ⟨by omega, fun h => absurd h hx0⟩)
      have he : x.isEmpty = false := by cases x with | nil => exact absurd rfl hx0 | cons a x => rfl
      have hz2 : Hid (True ↔ ∃ s ∈ L.take (k + 1), s ≠ []) := Lib.hid (by rw [hzn]; exact ⟨fun _ => .inr hx0, fun _ => trivial⟩)
      clear hnx hno hR hs hx0 hzn hz
      cases z
      all_goals
        go_wp2_with fail
        exact ⟨⟨k + 1, true, by omega, rfl, by go_num, hs2, Lib.hid (by simpa using hz2.out), q3⟩, by simp [intOf] <;> omega⟩
    have he : x.isEmpty = true := by rw [hx0]; rfl
    have hz2 : Hid (z = true ↔ ∃ s ∈ L.take (k + 1), s ≠ []) := Lib.hid (by
      rw [hzn, hz.out]
      constructor
      · exact .inl
      · rintro (h | h)
        · exact h
        · exact absurd hx0 h)
    clear hz hzn
    by_cases hk0 : k = 0
    · have hb3 : decide ((0 : Int) < (k : Int)) = false := dfalse (by omega)
      have hb4 : decide (0 < k) = false := dfalse (by omega)
      have hs2 := Lib.hid (hnx ⟨by omega, fun h => .inl hk0⟩)
      clear hnx hno hR hs hk0 hx0
      cases z
      all_goals
        go_wp2_with fail
        exact ⟨⟨k + 1, _, by omega, rfl, by go_num, hs2, Lib.hid (by simpa using hz2.out), q3⟩, by simp [intOf] <;> omega⟩
    have hb3 : decide ((0 : Int) < (k : Int)) = true := dtrue (by omega)
    have hb4 : decide (0 < k) = true := dtrue (by omega)
    by_cases hke : k + 1 = L.length
    · have hb5 : decide ((k : Int) + 1 < (L.length : Int)) = false := dfalse (by omega)
      have hb6 : decide (k + 1 < L.length) = false := dfalse (by omega)
      have hs2 := Lib.hid (hnx ⟨by omega, fun h => .inr hke⟩)
      clear hnx hno hR hs hx0 hke
      cases z
      all_goals
        go_wp2_with fail
        exact ⟨⟨k + 1, _, by omega, rfl, by go_num, hs2, Lib.hid (by simpa using hz2.out), q3⟩, by simp [intOf] <;> omega⟩
    · have hb5 : decide ((k : Int) + 1 < (L.length : Int)) = true := dtrue (by omega)
      have hb6 : decide (k + 1 < L.length) = true := dtrue (by omega)
      have hr : Hid (R = false) := Lib.hid (hno (fun h => by rcases h.2 hx0 with h | h <;> omega))
      clear hnx hno hR hs hx0 hz2
      go_wp2_with fail
      go_ret
      exact ⟨by rw [hr.out]; rfl, q3⟩
/-- What Nodes says, of filters at most n deep. -/
def NodesIH (n : Nat) : Prop := ∀ {w : World} {F : Fi} {vs vk : Value}, FilN n w F vs vk → nodesN n F ≤ 1000000 →
  Calls Tryz.prog 71 #[.agg #[.int .i64 F.kind, sv F.typ, sv F.val, vs, vk]] w fun e w' => e = .returned (iN (nodesN n F)) ∧ Ext w w'
set_option maxHeartbeats 8000000 in
theorem rnodes_step {n : Nat} (ih : NodesIH n) {w : World} {F : Fi} {vs vk : Value} (h : FilN (n + 1) w F vs vk) (hN : nodesN (n + 1) F ≤ 1000000) :
    Calls Tryz.prog 71 #[.agg #[.int .i64 F.kind, sv F.typ, sv F.val, vs, vk]] w fun e w' => e = .returned (iN (nodesN (n + 1) F)) ∧ Ext w w' := by
  obtain ⟨hFB, ⟨As, cs, es⟩, -, A, ca, ek, hop⟩ := h.open_
  have hkl := hFB.kl
  rw [nodes_succ] at hN ⊢
  obtain ⟨K, hKs⟩ : ∃ T, T = F.kids := ⟨_, rfl⟩
  rw [← hKs] at hkl ek hop hN ⊢
  obtain ⟨R, hR⟩ : ∃ R, R = iN (1 + (K.map (nodesN n)).sum) := ⟨_, rfl⟩
  rw [← hR]
  generalize F.kind = kd at *
  generalize F.typ = T at *
  generalize F.val = V at *
  obtain ⟨m, hm⟩ : ∃ m, m = F.subs.length := ⟨_, rfl⟩
  obtain ⟨q, hq⟩ : ∃ m, m = K.length := ⟨_, rfl⟩
  rw [← hm] at es
  rw [← hq] at ek
  subst es ek
  obtain ⟨w1, hw1⟩ : ∃ x, x = w.alloc (.cells #[.int .i64 kd, sv T, sv V, .slice As m cs, .slice A q ca] 26) := ⟨_, rfl⟩
  obtain ⟨p, hp⟩ : ∃ p, p = w.heap.size := ⟨_, rfl⟩
  have x1 : Ext w w1 := by rw [hw1]; exact (Mod.refl _ w).alloc _
  have BP : Blk w1 p 26 #[.int .i64 kd, sv T, sv V, .slice As m cs, .slice A q ca] := by rw [hw1, hp]; exact Blk.new w _ _
  have hcc : ∀ {wx : World}, Ext w1 wx → wx.cell? ⟨p, 4, none⟩ = some (.slice A q ca) := fun x => (BP.mod x (fun h => h)).cell 4
  have p4 := hcc (Mod.refl _ w1)
  have hq8 : q ≤ 140737488351232 := by omega
  replace hm := Lib.hid hm
  replace hq := Lib.hid hq
  replace hw1 := Lib.hid hw1
  replace hp := Lib.hid hp
  replace hR := Lib.hid hR
  clear BP h hFB
  go_enter Tryz.func71, Tryz.ntmps71
  go_upto_region 1 with fail
  rw [← hw1.out, ← hp.out]
  clear hw1 hp
  go_wp2_with fail
  go_loopw [3, 4] (fun v i wr => ∃ k : Nat, k ≤ q ∧ i = .int .i64 k ∧ v = .int .i64 (1 + (((K.take k).map (nodesN n)).sum : Nat)) ∧ Ext w1 wr) (fun _ i _ => q - (intOf i).toNat)
  case atStart => exact ⟨0, Nat.zero_le _, rfl, by simp, Mod.refl _ _⟩
  case round =>
    clear p4
    obtain ⟨k, hk, rfl, rfl, hx⟩ := hrel
    have p4 := hcc hx
    by_cases hlt : k < q
    case neg =>
      have hbl : decide ((k : Int) < (q : Int)) = false := dfalse (by omega)
      have hbn : decide (k < q) = false := dfalse (by omega)
      have hr : Hid (Value.int .i64 (1 + (((K.take k).map (nodesN n)).sum : Nat)) = R) := Lib.hid (by
        have e : K.take k = K := List.take_of_length_le (by have := hq.out; omega)
        rw [e, hR.out]
        congr 1)
      clear hR
      generalize ((K.take k).map (nodesN n)).sum = N at *
      go_wp2_with fail
      go_ret
      exact ⟨congrArg _ hr.out, ext_trans x1 hx⟩
    have hbl : decide ((k : Int) < (q : Int)) = true := dtrue (by omega)
    have hbn : decide (k < q) = true := dtrue (by omega)
    have hi0 : (0 : Int) ≤ (k : Int) := by omega
    have hi1 : (k : Int) < (q : Int) := by omega
    have hkb : k < K.length := by have := hq.out; omega
    obtain ⟨ag, ys, yk, e2, c0, c1, c2, c3, c4, h7⟩ := hop k hkb
    subst e2
    have y2 := ext_trans x1 hx
    replace c0 := ext_cell y2 c0
    replace c1 := ext_cell y2 c1
    replace c2 := ext_cell y2 c2
    replace c3 := ext_cell y2 c3
    replace c4 := ext_cell y2 c4
    have hsn := sum_next (nodesN n) K hkb
    have hst := sum_take (nodesN n) K (k + 1)
    generalize K[k] = x at *
    have hc := ih (h7.ext y2) (by omega)
    have hsn2 : Hid (1 + ((((K.take (k + 1)).map (nodesN n)).sum : Nat) : Int) = 1 + ((K.take k).map (nodesN n)).sum + nodesN n x) := Lib.hid (by omega)
    have hb1 : nodesN n x ≤ 1000000 := by omega
    have hb2 : ((K.take k).map (nodesN n)).sum ≤ 1000000 := by omega
    generalize ((K.take k).map (nodesN n)).sum = N at *
    generalize nodesN n x = M at *
    clear h7 hkb hsn hst
    go_wp2_with fail
    refine hc.mono ?_
    rintro e w9 ⟨rfl, x9⟩
    have x10 := ext_trans hx x9
    clear hc c0 c1 c2 c3 c4 x9
    go_wp2_with fail
    exact ⟨⟨k + 1, by omega, by go_num, by rw [hsn2.out], x10⟩, by simp [intOf] <;> omega⟩
theorem rnodes_any : ∀ n, NodesIH n
  | 0 => fun h => h.elim
  | n + 1 => rnodes_step (rnodes_any n)
end Go.Proofs.YtoockogceobfgaaGreat
namespace Go.Proofs.YtoockogceobfgaaGreat
open Go.RowKit
set_option maxRecDepth 100000

theorem n0 (q : Nat) : (decide ((0 : Int) < (q : Int)) = !decide (q = 0)) ∧ (decide (0 < q) = !decide (q = 0)) := by
  by_cases h : q = 0
  · subst h; exact ⟨rfl, rfl⟩
  · rw [dfalse h]; exact ⟨dtrue (by omega), dtrue (by omega)⟩
theorem n1 (q : Nat) : (decide ((q : Int) < 1) = !decide (1 ≤ q)) ∧ (decide (q < 1) = !decide (1 ≤ q)) := by
  by_cases h : 1 ≤ q
  · rw [dtrue h]; exact ⟨dfalse (by omega), dfalse (by omega)⟩
  · rw [dfalse h]; exact ⟨dtrue (by omega), dtrue (by omega)⟩
theorem n2 (q : Nat) : (decide ((1 : Int) < (q : Int)) = decide (1 < q)) := decide_eq_decide.2 (by omega)
def OneIH (n : Nat) : Prop := ∀ {w : World} {F : Fi} {vs vk : Value} {deep : Nat}, FilN n w F vs vk → deep ≤ 17 →
  Calls Tryz.prog 70 #[.agg #[.int .i64 F.kind, sv F.typ, sv F.val, vs, vk], iN deep] w fun e w' => e = .returned (.bool (oneN n F deep)) ∧ Ext w w'
set_option maxHeartbeats 32000000 in
theorem rone_step {n : Nat} (ih : OneIH n) {w : World} {F : Fi} {vs vk : Value} {deep : Nat} (h : FilN (n + 1) w F vs vk) (hd : deep ≤ 17) :
    Calls Tryz.prog 70 #[.agg #[.int .i64 F.kind, sv F.typ, sv F.val, vs, vk], iN deep] w fun e w' => e = .returned (.bool (oneN (n + 1) F deep)) ∧ Ext w w' := by
  obtain ⟨hFB, ⟨As, cs, es⟩, hS, A, ca, ek, hop⟩ := h.open_
  have hkl := hFB.kl
  have hss := hFB.ss
  have hty := hFB.ty
  have hvl := hFB.vl
  rw [oneN_succ]
  obtain ⟨K, hKs⟩ : ∃ T, T = F.kids := ⟨_, rfl⟩
  rw [← hKs] at hkl ek hop ⊢
  have hkd := hFB.kd
  generalize F.kind = kd at *
  generalize F.typ = T at *
  generalize F.val = V at *
  obtain ⟨B, hBs⟩ : ∃ B, B = F.subs := ⟨_, rfl⟩
  rw [← hBs] at es hS hss ⊢
  obtain ⟨m, hm⟩ : ∃ m, m = B.length := ⟨_, rfl⟩
  obtain ⟨q, hq⟩ : ∃ m, m = K.length := ⟨_, rfl⟩
  rw [← hm] at es
  rw [← hq] at ek hkl ⊢
  subst es ek
  obtain ⟨R, hR⟩ : ∃ R, R = oneB kd T V B q (K.all (oneN n · (deep + 1))) deep := ⟨_, rfl⟩
  rw [← hR]
  obtain ⟨w1, hw1⟩ : ∃ x, x = w.alloc (.cells #[.int .i64 kd, sv T, sv V, .slice As m cs, .slice A q ca] 26) := ⟨_, rfl⟩
  obtain ⟨p, hp⟩ : ∃ p, p = w.heap.size := ⟨_, rfl⟩
  have x1 : Ext w w1 := by rw [hw1]; exact (Mod.refl _ w).alloc _
  have BP : Blk w1 p 26 #[.int .i64 kd, sv T, sv V, .slice As m cs, .slice A q ca] := by rw [hw1, hp]; exact Blk.new w _ _
  have hcc : ∀ {wx : World}, Ext w1 wx → wx.cell? ⟨p, 4, none⟩ = some (.slice A q ca) := fun x => (BP.mod x (fun h => h)).cell 4
  have p0 : w1.cell? ⟨p, 0, none⟩ = some (.int .i64 kd) := BP.cell 0
  have p1 : w1.cell? ⟨p, 1, none⟩ = some (sv T) := BP.cell 1
  have p2 : w1.cell? ⟨p, 2, none⟩ = some (sv V) := BP.cell 2
  have p3 : w1.cell? ⟨p, 3, none⟩ = some (.slice As m cs) := BP.cell 3
  have p4 : w1.cell? ⟨p, 4, none⟩ = some (.slice A q ca) := BP.cell 4
  have hq8 : q ≤ 140737488351232 := by omega
  have hT8 : T.length ≤ 9223372036854775807 := by omega
  have hty2 := fun wx : World => rtype_any (w := wx) T hT8
  have hsub := rsubs_any (Sl.ext hS x1)
  have hmB := len_iff B hm
  have hm0 : decide (m = 0) = decide (B = []) := decide_eq_decide.2 (by rw [hm]; exact List.length_eq_zero_iff)
  have hmn := n0 m
  have hq0 := nat0 q
  have hq1 := n1 q
  have hq2 := n2 q
  have hV2 := le256 V.length
  have hTe := emp_iff T
  have hVe := emp_iff V
  have hzV := sv_size V
  replace hmB := Lib.hid hmB
  replace hm0 := Lib.hid hm0
  replace hmn := Lib.hid hmn
  replace hq0 := Lib.hid hq0
  replace hq1 := Lib.hid hq1
  replace hq2 := Lib.hid hq2
  replace hV2 := Lib.hid hV2
  replace hTe := Lib.hid hTe
  replace hVe := Lib.hid hVe
  replace hm := Lib.hid hm
  replace hq := Lib.hid hq
  replace hw1 := Lib.hid hw1
  replace hp := Lib.hid hp
  replace hR := Lib.hid hR
  clear BP hS h hFB
  go_enter Tryz.func70, Tryz.ntmps70
  go_upto_region 1 with fail
  rw [← hw1.out, ← hp.out]
  clear hw1 hp
  by_cases hd16 : 16 < deep
  · have hb : decide ((16 : Int) < (deep : Int)) = true := dtrue (by omega)
    have hr : Hid (R = false) := Lib.hid (by rw [hR.out]; unfold oneB; rw [if_pos hd16])
    clear hR hop hsub hty2
    go_wp2_with fail
    go_ret
    exact ⟨by rw [hr.out]; rfl, x1⟩
  have hb16 : decide ((16 : Int) < (deep : Int)) = false := dfalse (by omega)
  by_cases hk3 : kd = 0 ∨ kd = 1 ∨ kd = 2
  · clear hsub hty2
    have hr : Hid (R = (decide (T = []) && (decide (V = []) && (decide (B = []) && (decide (1 ≤ q) && (!(decide (kd = 2) && decide (1 < q)) && K.all (oneN n · (deep + 1)))))))) := Lib.hid (by
      rw [hR.out]
      unfold oneB
      rw [if_neg hd16, if_pos hk3]
      simp only [Bool.decide_and, Bool.and_assoc, decide_not])
    clear hR
    have h4 := four (decide (T = [])) (decide (V = [])) (decide (B = [])) (decide (1 ≤ q))
    have hfs : ((kd == 0) = true ∧ (kd == 2) = false) ∨ ((kd == 0) = false ∧ (kd == 1) = true ∧ (kd == 2) = false) ∨ ((kd == 0) = false ∧ (kd == 1) = false ∧ (kd == 2) = true) := by
      rcases hk3 with rfl | rfl | rfl
      · exact .inl ⟨rfl, rfl⟩
      · exact .inr (.inl ⟨rfl, rfl, rfl⟩)
      · exact .inr (.inr ⟨rfl, rfl, rfl⟩)
    rcases hfs with ⟨e0, e2⟩ | ⟨e0, e1, e2⟩ | ⟨e0, e1, e2⟩
    all_goals
      rcases h4 with h1 | ⟨h1, h2⟩ | ⟨h1, h2, h3⟩ | ⟨h1, h2, h3, h4⟩ | ⟨h1, h2, h3, h4⟩
      · have hr2 : Hid (R = false) := Lib.hid (by rw [hr.out, h1]; rfl)
        have g1 := hTe.out.trans h1
        clear hr hop
        go_wp2_with fail
        go_ret
        exact ⟨by rw [hr2.out]; rfl, x1⟩
      · have hr2 : Hid (R = false) := Lib.hid (by rw [hr.out, h1, h2]; rfl)
        have g1 := hTe.out.trans h1
        have g2 := hVe.out.trans h2
        clear hr hop
        go_wp2_with fail
        go_ret
        exact ⟨by rw [hr2.out]; rfl, x1⟩
      · have hr2 : Hid (R = false) := Lib.hid (by rw [hr.out, h1, h2, h3]; rfl)
        have g1 := hTe.out.trans h1
        have g2 := hVe.out.trans h2
        have g3 := hmn.out.1.trans (by rw [hm0.out, h3])
        have g3b := hmn.out.2.trans (by rw [hm0.out, h3])
        simp only [Bool.not_false] at g3 g3b
        clear hr hop
        go_wp2_with fail
        go_ret
        exact ⟨by rw [hr2.out]; rfl, x1⟩
      · have hr2 : Hid (R = false) := Lib.hid (by rw [hr.out, h1, h2, h3, h4]; rfl)
        have g1 := hTe.out.trans h1
        have g2 := hVe.out.trans h2
        have g3 := hmn.out.1.trans (by rw [hm0.out, h3])
        have g3b := hmn.out.2.trans (by rw [hm0.out, h3])
        have g4 := hq1.out.1.trans (by rw [h4])
        have g4b := hq1.out.2.trans (by rw [h4])
        simp only [Bool.not_false, Bool.not_true] at g3 g3b g4 g4b
        clear hr hop
        go_wp2_with fail
        go_ret
        exact ⟨by rw [hr2.out]; rfl, x1⟩
      · have g1 := hTe.out.trans h1
        have g2 := hVe.out.trans h2
        have g3 := hmn.out.1.trans (by rw [hm0.out, h3])
        have g3b := hmn.out.2.trans (by rw [hm0.out, h3])
        have g4 := hq1.out.1.trans (by rw [h4])
        have g4b := hq1.out.2.trans (by rw [h4])
        simp only [Bool.not_true] at g3 g3b g4 g4b
        have hr3 := hr.out
        rw [h1, h2, h3, h4, Bool.true_and, Bool.true_and, Bool.true_and, Bool.true_and] at hr3
        replace hr3 := Lib.hid hr3
        clear hr h1 h2 h3 h4
        by_cases h12 : kd = 2 ∧ 1 < q
        · have hr4 : Hid (R = false) := Lib.hid (by rw [hr3.out, dtrue h12.1, dtrue h12.2]; rfl)
          have e22 : (kd == 2) = true := by rw [h12.1]; rfl
          have g5 : decide ((1 : Int) < (q : Int)) = true := dtrue (by omega)
          have g6 : decide (1 < q) = true := dtrue h12.2
          clear hr3 hop h12
          first
            | (rw [e22] at e2; cases e2; done)
            | (go_wp2_with fail
               go_ret
               exact ⟨by rw [hr4.out]; rfl, x1⟩)
        · have hr4 : Hid (R = K.all (oneN n · (deep + 1))) := Lib.hid (by
            rw [hr3.out, ← Bool.decide_and, dfalse h12]; rfl)
          have hb : (kd == 2) = false ∨ ((kd == 2) = true ∧ decide ((1 : Int) < (q : Int)) = false ∧ decide (1 < q) = false) := by
            by_cases hk : kd = 2
            · exact .inr ⟨by rw [hk]; rfl, dfalse (fun h => h12 ⟨hk, by omega⟩), dfalse (fun h => h12 ⟨hk, h⟩)⟩
            · exact .inl (by rw [beq_eq_false_iff_ne]; exact hk)
          clear hr3 h12
          rcases hb with hb | ⟨hb, hb1, hb2⟩
          all_goals first
            | (rw [hb] at e2; cases e2; done)
            | skip
          all_goals
            go_wp2_with fail
            go_loopw [5] (fun i wr => ∃ k : Nat, k ≤ q ∧ i = .int .i64 k ∧ Hid (((K.take k).all (oneN n · (deep + 1))) = true) ∧ Ext w1 wr) (fun i _ => q - (intOf i).toNat)
            case atStart => exact ⟨0, Nat.zero_le _, rfl, Lib.hid rfl, Mod.refl _ _⟩
            case round =>
              clear p0 p1 p2 p3 p4
              obtain ⟨k, hk, rfl, hall, hx⟩ := hrel
              have p4 := hcc hx
              by_cases hlt : k < q
              case neg =>
                have hbl : decide ((k : Int) < (q : Int)) = false := dfalse (by omega)
                have hbn : decide (k < q) = false := dfalse (by omega)
                have hkm : K.take k = K := List.take_of_length_le (by have := hq.out; omega)
                rw [hkm] at hall
                have hr : Hid (R = true) := Lib.hid (by rw [hr4.out, hall.out])
                clear hall hr4
                go_wp2_with fail
                go_ret
                exact ⟨by rw [hr.out]; rfl, ext_trans x1 hx⟩
              have hbl : decide ((k : Int) < (q : Int)) = true := dtrue (by omega)
              have hbn : decide (k < q) = true := dtrue (by omega)
              have hi0 : (0 : Int) ≤ (k : Int) := by omega
              have hi1 : (k : Int) < (q : Int) := by omega
              have hkb : k < K.length := by have := hq.out; omega
              obtain ⟨ag, ys, yk, e3, c0, c1, c2, c3, c4, h7⟩ := hop k hkb
              subst e3
              have y2 := ext_trans x1 hx
              replace c0 := ext_cell y2 c0
              replace c1 := ext_cell y2 c1
              replace c2 := ext_cell y2 c2
              replace c3 := ext_cell y2 c3
              replace c4 := ext_cell y2 c4
              have han := all_next (oneN n · (deep + 1)) K hkb
              have hno := fun h => all_noF (p := (oneN n · (deep + 1))) hkb h
              generalize K[k] = x at *
              have hc5 := ih (deep := deep + 1) (h7.ext y2) (by omega)
              have e1 : ((deep + 1 : Nat) : Int) = (deep : Int) + 1 := by omega
              simp only [iN] at hc5
              rw [e1] at hc5
              have hall2 := hall.out
              clear h7 e1 hkb hall
              generalize hbx : oneN n x (deep + 1) = bx at *
              cases bx with
              | false =>
                have hr : Hid (R = false) := Lib.hid (by rw [hr4.out]; exact hno rfl)
                clear hr4 hno han hall2 hbx
                go_wp2_with fail
                refine hc5.mono ?_
                rintro e w6 ⟨rfl, x6⟩
                clear hc5
                go_wp2_with fail
                go_ret
                exact ⟨by rw [hr.out]; rfl, ext_trans x1 (ext_trans hx x6)⟩
              | true =>
                have hall3 : Hid (((K.take (k + 1)).all (oneN n · (deep + 1))) = true) := Lib.hid (by rw [han, hall2]; rfl)
                clear hr4 hno han hall2 hbx
                go_wp2_with fail
                refine hc5.mono ?_
                rintro e w6 ⟨rfl, x6⟩
                have x7 := ext_trans hx x6
                clear hc5 c0 c1 c2 c3 c4 x6
                go_wp2_with fail
                exact ⟨⟨k + 1, by omega, by go_num, hall3, x7⟩, by simp [intOf] <;> omega⟩
  by_cases hk5 : kd = 3 ∨ kd = 5 ∨ kd = 6
  · skip
    have hr : Hid (R = (decide (q = 0) && (decide (B = []) && (decide (isTyp T) && decide (V.length ≤ 256))))) := Lib.hid (by
      rw [hR.out]
      unfold oneB
      rw [if_neg hd16, if_neg hk3, if_pos hk5]
      rw [Bool.eq_iff_iff]
      simp only [Bool.and_eq_true, decide_eq_true_eq]
      constructor
      · rintro ⟨a, b, c, d⟩; simp [a, b, c, d]
      · rintro ⟨a, b, c, d⟩; simp [a, b, c, d])
    clear hR hop hsub
    have h4 := four (decide (q = 0)) (decide (B = [])) (decide (isTyp T)) (decide (V.length ≤ 256))
    rcases hk5 with rfl | rfl | rfl
    all_goals
      rcases h4 with h1 | ⟨h1, h2⟩ | ⟨h1, h2, h3⟩ | ⟨h1, h2, h3, h4⟩ | ⟨h1, h2, h3, h4⟩
      · have hr2 : Hid (R = false) := Lib.hid (by rw [hr.out, h1]; rfl)
        have g11 := hq0.out.trans h1
        clear hr
        go_wp2_with fail
        go_ret
        exact ⟨by rw [hr2.out]; rfl, x1⟩
      · have hr2 : Hid (R = false) := Lib.hid (by rw [hr.out, h1, h2]; rfl)
        have g11 := hq0.out.trans h1
        have g12 := hmB.out.trans h2
        clear hr
        go_wp2_with fail
        go_ret
        exact ⟨by rw [hr2.out]; rfl, x1⟩
      · have hr2 : Hid (R = false) := Lib.hid (by rw [hr.out, h1, h2, h3]; rfl)
        have g11 := hq0.out.trans h1
        have g12 := hmB.out.trans h2
        simp only [h3] at hty2
        clear hr
        go_wp2_with fail
        refine (hty2 _).mono ?_
        rintro e w9 ⟨rfl, rfl⟩
        go_wp2_with fail
        go_ret
        exact ⟨by rw [hr2.out]; rfl, x1⟩
      · have hr2 : Hid (R = false) := Lib.hid (by rw [hr.out, h1, h2, h3, h4]; rfl)
        have g11 := hq0.out.trans h1
        have g12 := hmB.out.trans h2
        simp only [h3] at hty2
        have g14 := hV2.out.trans h4
        clear hr
        go_wp2_with fail
        refine (hty2 _).mono ?_
        rintro e w9 ⟨rfl, rfl⟩
        go_wp2_with fail
        go_ret
        exact ⟨by rw [hr2.out]; rfl, x1⟩
      · have hr2 : Hid (R = true) := Lib.hid (by rw [hr.out, h1, h2, h3, h4]; rfl)
        have g11 := hq0.out.trans h1
        have g12 := hmB.out.trans h2
        simp only [h3] at hty2
        have g14 := hV2.out.trans h4
        clear hr
        go_wp2_with fail
        refine (hty2 _).mono ?_
        rintro e w9 ⟨rfl, rfl⟩
        go_wp2_with fail
        go_ret
        exact ⟨by rw [hr2.out]; rfl, x1⟩
  by_cases hk4 : kd = 4
  · skip
    have hr : Hid (R = (decide (q = 0) && (decide (V = []) && (decide (isTyp T) && decide (isSubs B))))) := Lib.hid (by
      rw [hR.out]
      unfold oneB
      rw [if_neg hd16, if_neg hk3, if_neg hk5, if_pos hk4]
      rw [Bool.eq_iff_iff]
      simp only [Bool.and_eq_true, decide_eq_true_eq]
      constructor
      · rintro ⟨a, b, c, d⟩; simp [a, b, c, d]
      · rintro ⟨a, b, c, d⟩; simp [a, b, c, d])
    clear hR hop
    have h4 := four (decide (q = 0)) (decide (V = [])) (decide (isTyp T)) (decide (isSubs B))
    subst hk4
    all_goals
      rcases h4 with h1 | ⟨h1, h2⟩ | ⟨h1, h2, h3⟩ | ⟨h1, h2, h3, h4⟩ | ⟨h1, h2, h3, h4⟩
      · have hr2 : Hid (R = false) := Lib.hid (by rw [hr.out, h1]; rfl)
        have g11 := hq0.out.trans h1
        clear hr
        go_wp2_with fail
        go_ret
        exact ⟨by rw [hr2.out]; rfl, x1⟩
      · have hr2 : Hid (R = false) := Lib.hid (by rw [hr.out, h1, h2]; rfl)
        have g11 := hq0.out.trans h1
        have g12 := hVe.out.trans h2
        clear hr
        go_wp2_with fail
        go_ret
        exact ⟨by rw [hr2.out]; rfl, x1⟩
      · have hr2 : Hid (R = false) := Lib.hid (by rw [hr.out, h1, h2, h3]; rfl)
        have g11 := hq0.out.trans h1
        have g12 := hVe.out.trans h2
        simp only [h3] at hty2
        clear hr
        go_wp2_with fail
        refine (hty2 _).mono ?_
        rintro e w9 ⟨rfl, rfl⟩
        go_wp2_with fail
        go_ret
        exact ⟨by rw [hr2.out]; rfl, x1⟩
      · have hr2 : Hid (R = false) := Lib.hid (by rw [hr.out, h1, h2, h3, h4]; rfl)
        have g11 := hq0.out.trans h1
        have g12 := hVe.out.trans h2
        simp only [h3] at hty2
        rw [h4] at hsub
        clear hr
        go_wp2_with fail
        refine (hty2 _).mono ?_
        rintro e w9 ⟨rfl, rfl⟩
        go_wp2_with fail
        refine hsub.mono ?_
        rintro e w10 ⟨rfl, x10⟩
        go_wp2_with fail
        go_ret
        exact ⟨by rw [hr2.out]; rfl, ext_trans x1 x10⟩
      · have hr2 : Hid (R = true) := Lib.hid (by rw [hr.out, h1, h2, h3, h4]; rfl)
        have g11 := hq0.out.trans h1
        have g12 := hVe.out.trans h2
        simp only [h3] at hty2
        rw [h4] at hsub
        clear hr
        go_wp2_with fail
        refine (hty2 _).mono ?_
        rintro e w9 ⟨rfl, rfl⟩
        go_wp2_with fail
        refine hsub.mono ?_
        rintro e w10 ⟨rfl, x10⟩
        go_wp2_with fail
        go_ret
        exact ⟨by rw [hr2.out]; rfl, ext_trans x1 x10⟩
  by_cases hk7 : kd = 7
  · skip
    have hr : Hid (R = (decide (q = 0) && (decide (V = []) && (decide (B = []) && decide (isTyp T))))) := Lib.hid (by
      rw [hR.out]
      unfold oneB
      rw [if_neg hd16, if_neg hk3, if_neg hk5, if_neg hk4, if_pos hk7]
      rw [Bool.eq_iff_iff]
      simp only [Bool.and_eq_true, decide_eq_true_eq]
      constructor
      · rintro ⟨a, b, c, d⟩; simp [a, b, c, d]
      · rintro ⟨a, b, c, d⟩; simp [a, b, c, d])
    clear hR hop hsub
    have h4 := four (decide (q = 0)) (decide (V = [])) (decide (B = [])) (decide (isTyp T))
    subst hk7
    all_goals
      rcases h4 with h1 | ⟨h1, h2⟩ | ⟨h1, h2, h3⟩ | ⟨h1, h2, h3, h4⟩ | ⟨h1, h2, h3, h4⟩
      · have hr2 : Hid (R = false) := Lib.hid (by rw [hr.out, h1]; rfl)
        have g11 := hq0.out.trans h1
        clear hr
        go_wp2_with fail
        go_ret
        exact ⟨by rw [hr2.out]; rfl, x1⟩
      · have hr2 : Hid (R = false) := Lib.hid (by rw [hr.out, h1, h2]; rfl)
        have g11 := hq0.out.trans h1
        have g12 := hVe.out.trans h2
        clear hr
        go_wp2_with fail
        go_ret
        exact ⟨by rw [hr2.out]; rfl, x1⟩
      · have hr2 : Hid (R = false) := Lib.hid (by rw [hr.out, h1, h2, h3]; rfl)
        have g11 := hq0.out.trans h1
        have g12 := hVe.out.trans h2
        have g13 := hmB.out.trans h3
        clear hr
        go_wp2_with fail
        go_ret
        exact ⟨by rw [hr2.out]; rfl, x1⟩
      · have hr2 : Hid (R = false) := Lib.hid (by rw [hr.out, h1, h2, h3, h4]; rfl)
        have g11 := hq0.out.trans h1
        have g12 := hVe.out.trans h2
        have g13 := hmB.out.trans h3
        simp only [h4] at hty2
        clear hr
        go_wp2_with fail
        refine (hty2 _).mono ?_
        rintro e w9 ⟨rfl, rfl⟩
        go_wp2_with fail
        go_ret
        exact ⟨by rw [hr2.out]; rfl, x1⟩
      · have hr2 : Hid (R = true) := Lib.hid (by rw [hr.out, h1, h2, h3, h4]; rfl)
        have g11 := hq0.out.trans h1
        have g12 := hVe.out.trans h2
        have g13 := hmB.out.trans h3
        simp only [h4] at hty2
        clear hr
        go_wp2_with fail
        refine (hty2 _).mono ?_
        rintro e w9 ⟨rfl, rfl⟩
        go_wp2_with fail
        go_ret
        exact ⟨by rw [hr2.out]; rfl, x1⟩
  have hr2 : Hid (R = false) := Lib.hid (by
    rw [hR.out]
    unfold oneB
    rw [if_neg hd16, if_neg hk3, if_neg hk5, if_neg hk4, if_neg hk7])
  have hkn : ∀ j : Int, j = 0 ∨ j = 1 ∨ j = 2 ∨ j = 3 ∨ j = 4 ∨ j = 5 ∨ j = 6 ∨ j = 7 → (kd == j) = false := fun j hj => by rw [beq_eq_false_iff_ne]; omega
  have k0 := hkn 0 (by omega)
  have k1 := hkn 1 (by omega)
  have k2 := hkn 2 (by omega)
  have k3 := hkn 3 (by omega)
  have k4 := hkn 4 (by omega)
  have k5 := hkn 5 (by omega)
  have k6 := hkn 6 (by omega)
  have k7 := hkn 7 (by omega)
  clear hkn hR hop hsub hty2
  go_wp2_with fail
  go_ret
  exact ⟨by rw [hr2.out]; rfl, x1⟩
theorem rone_any : ∀ n, OneIH n
  | 0 => fun h => h.elim
  | n + 1 => rone_step (rone_any n)
set_option maxHeartbeats 4000000 in
theorem rIsF_any {n : Nat} {w : World} {F : Fi} {vs vk : Value} (h : FilN n w F vs vk) (hN : nodesN n F ≤ 1000000) :
    Calls Tryz.prog 44 #[.agg #[.int .i64 F.kind, sv F.typ, sv F.val, vs, vk]] w fun e w' => e = .returned (.bool (isN n F)) ∧ Ext w w' := by
  obtain ⟨⟨Y1, Y2, Y3, rfl⟩, Z1, Z2, Z3, rfl⟩ := h.shape
  obtain ⟨w1, hw1⟩ : ∃ x, x = w.alloc (.cells #[.int .i64 F.kind, sv F.typ, sv F.val, .slice Y1 Y2 Y3, .slice Z1 Z2 Z3] 26) := ⟨_, rfl⟩
  obtain ⟨p, hp⟩ : ∃ p, p = w.heap.size := ⟨_, rfl⟩
  have x1 : Ext w w1 := by rw [hw1]; exact (Mod.refl _ w).alloc _
  have BP : Blk w1 p 26 #[.int .i64 F.kind, sv F.typ, sv F.val, .slice Y1 Y2 Y3, .slice Z1 Z2 Z3] := by rw [hw1, hp]; exact Blk.new w _ _
  have hcc : ∀ {wx : World}, Ext w1 wx → wx.cell? ⟨p, 0, none⟩ = some (.int .i64 F.kind) ∧ wx.cell? ⟨p, 1, none⟩ = some (sv F.typ) ∧ wx.cell? ⟨p, 2, none⟩ = some (sv F.val) ∧ wx.cell? ⟨p, 3, none⟩ = some (.slice Y1 Y2 Y3) ∧ wx.cell? ⟨p, 4, none⟩ = some (.slice Z1 Z2 Z3) := fun x => ⟨(BP.mod x (fun h => h)).cell 0, (BP.mod x (fun h => h)).cell 1, (BP.mod x (fun h => h)).cell 2, (BP.mod x (fun h => h)).cell 3, (BP.mod x (fun h => h)).cell 4⟩
  have hc := rone_any n (w := w1) (deep := 1) (h.ext x1) (by omega)
  have hc2 := fun wx (x : Ext w1 wx) => rnodes_any n (w := wx) (h.ext (ext_trans x1 x)) hN
  have hle : decide ((nodesN n F : Int) ≤ 64) = decide (nodesN n F ≤ 64) := decide_eq_decide.2 (by omega)
  obtain ⟨p0, p1, p2, p3, p4⟩ := hcc (Mod.refl _ w1)
  replace hw1 := Lib.hid hw1
  replace hp := Lib.hid hp
  clear BP h
  unfold isN
  generalize oneN n F 1 = R at *
  generalize nodesN n F = N at *
  generalize F.kind = kd at *
  generalize F.typ = T at *
  generalize F.val = V at *
  replace hle := Lib.hid hle
  go_enter Tryz.func44, Tryz.ntmps44
  go_upto_region 1 with fail
  rw [← hw1.out, ← hp.out]
  clear hw1 hp
  go_wp2_with fail
  refine hc.mono ?_
  rintro e w2 ⟨rfl, x2⟩
  obtain ⟨q0, q1, q2, q3, q4⟩ := hcc x2
  clear hc p0 p1 p2 p3 p4
  cases R with
  | false =>
    go_wp2_with fail
    go_ret
    exact ⟨rfl, ext_trans x1 x2⟩
  | true =>
    go_wp2_with fail
    refine (hc2 _ x2).mono ?_
    rintro e w3 ⟨rfl, x3⟩
    go_wp2_with fail
    go_ret
    refine ⟨?_, ext_trans x1 (ext_trans x2 x3)⟩
    rw [Bool.true_and]
    first
      | rfl
      | (rw [← hle.out]; rfl)
end Go.Proofs.YtoockogceobfgaaGreat
