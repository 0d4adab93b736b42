/- filter: whether pieces, a filter may be: the program's. -/
import Derived.Test.YtoockogceobfgaaGreatFlB
namespace Go.Proofs.YtoockogceobfgaaGreat
open Go.RowKit
set_option maxRecDepth 100000

/-- Pieces up to k are none that may not be. -/
def okP (L : List (List UInt8)) (k : Nat) : Prop := ∀ i (h : i < L.length), i < k → L[i].length ≤ 256 ∧ (L[i] = [] → i = 0 ∨ i + 1 = L.length)
set_option maxHeartbeats 8000000 in
theorem areSubs_any {w : World} {S : Nat → Prop} {v : Value} {L : List (List UInt8)} (h : Ss w S v L) :
    Calls Tryz.prog 143 #[v] w fun e w' => e = .returned (.bool (decide (isSubs L))) ∧ Ext w w' := by
  obtain ⟨A, c, rfl, h1, h2, h3, h4⟩ := h.open_
  obtain ⟨R, hR⟩ : ∃ R, R = decide (isSubs L) := ⟨_, rfl⟩
  rw [← hR]
  replace hR := Lib.hid hR
  by_cases hl2 : L.length < 2
  · have hb : decide ((L.length : Int) < 2) = true := dtrue (by omega)
    have hr : Hid (R = false) := Lib.hid (by rw [hR.out]; exact dfalse (fun h => by have := h.1; omega))
    go_enter Tryz.func143, Tryz.ntmps143
    go_wp2_with fail
    go_ret
    exact ⟨by rw [hr.out]; rfl, Mod.refl _ _⟩
  have hb2 : decide ((L.length : Int) < 2) = false := dfalse (by omega)
  by_cases hl16 : 16 < L.length
  · have hb : decide ((16 : Int) < (L.length : Int)) = true := dtrue (by omega)
    have hr : Hid (R = false) := Lib.hid (by rw [hR.out]; exact dfalse (fun h => by have := h.2.1; omega))
    go_enter Tryz.func143, Tryz.ntmps143
    go_wp2_with fail
    go_ret
    exact ⟨by rw [hr.out]; rfl, Mod.refl _ _⟩
  have hb16 : decide ((16 : Int) < (L.length : Int)) = false := dfalse (by omega)
  go_enter Tryz.func143, Tryz.ntmps143
  go_wp2_with fail
  go_loopw [4, 5, 19] (fun a b i wr => ∃ k : Nat, k ≤ L.length ∧ i = .int .i64 k ∧ Hid (okP L k) ∧ Ext w wr) (fun _ _ i _ => L.length - (intOf i).toNat)
  case atStart => exact ⟨0, Nat.zero_le _, rfl, Lib.hid (fun i _ h => by omega), Mod.refl _ _⟩
  case round =>
    obtain ⟨k, hk, rfl, hs, q3⟩ := hrel
    have hcs := Cells.mod h4 q3 (fun _ _ _ h => h)
    by_cases hlt : k < L.length
    case neg =>
      have hbl : decide ((k : Int) < (L.length : Int)) = false := dfalse (by omega)
      have hbn : decide (k < L.length) = false := dfalse (by omega)
      have hok := hs.out
      by_cases h3 : L.length = 2
      case neg =>
        have hb1 : decide ((1 : Int) < (L.length : Int) - 1) = true := dtrue (by omega)
        have hr : Hid (R = true) := Lib.hid (by
          rw [hR.out]
          refine dtrue ⟨by omega, by omega, fun i h => hok i h (by omega), L[1], List.getElem_mem _, fun h => ?_⟩
          have := (hok 1 (by omega) (by omega)).2 h
          omega)
        clear hok hs hR
        go_wp2_with fail
        go_ret
        exact ⟨by rw [hr.out]; rfl, q3⟩
      have hcs0 := hcs.at_ (show 0 < L.length by omega)
      have hcs1 := hcs.at_ (show 1 < L.length by omega)
      obtain ⟨ad, hA, _, c0⟩ := hcs0
      subst hA
      obtain ⟨ad1, hA, _, c1⟩ := hcs1
      cases hA
      have hRx : R = decide (L[0] ≠ [] ∨ L[1] ≠ []) := by
        rw [hR.out]
        refine decide_eq_decide.2 ⟨?_, fun h => ⟨by omega, by omega, fun i h => hok i h (by omega), ?_⟩⟩
        · rintro ⟨_, _, _, s, hs, hne⟩
          obtain ⟨i, hi, rfl⟩ := List.getElem_of_mem hs
          match i, hi, hne with
          | 0, _, hne => exact .inl hne
          | 1, _, hne => exact .inr hne
          | i + 2, hi, _ => omega
        · rcases h with h | h
          · exact ⟨_, List.getElem_mem _, h⟩
          · exact ⟨_, List.getElem_mem _, h⟩
      have hb1 : decide ((1 : Int) < (L.length : Int) - 1) = false := dfalse (by omega)
      have hi1 : (0 : Int) < (L.length : Int) := by omega
      have hi2 : (L.length : Int) - 1 = 1 := by omega
      generalize L[0] = x at *
      generalize L[1] = y at *
      have d0 : wr.cell? ad = some (sv x) := by simpa [Addr.add] using c0
      have d1 : wr.cell? ⟨ad.block, ad.off + 1, none⟩ = some (sv y) := by simpa [Addr.add] using c1
      have hRx2 := Lib.hid hRx
      clear hRx hR hs hok
      cases hx : x.isEmpty <;> cases hy : y.isEmpty
      all_goals
        have hr : Hid (R = (!x.isEmpty || !y.isEmpty)) := Lib.hid (by rw [hRx2.out]; cases x <;> cases y <;> simp)
        rw [hx, hy] at hr
        clear hRx2
        go_wp2_with fail
        go_ret
        exact ⟨by rw [hr.out]; rfl, q3⟩
    have hbl : decide ((k : Int) < (L.length : Int)) = true := dtrue (by omega)
    have hbn : decide (k < L.length) = true := dtrue (by omega)
    obtain ⟨ad, hA, hS, c0⟩ := hcs.at_ hlt
    subst hA
    have hi0 : (0 : Int) ≤ (k : Int) := by omega
    have hi1 : (k : Int) < (L.length : Int) := by omega
    have hnx : (L[k].length ≤ 256 ∧ (L[k] = [] → k = 0 ∨ k + 1 = L.length)) → okP L (k + 1) := fun hp i h hi => by
      rcases Nat.lt_or_ge i k with h5 | h5
      · exact hs.out i h h5
      · obtain rfl : i = k := by omega
        exact hp
    have hno : ¬ (L[k].length ≤ 256 ∧ (L[k] = [] → k = 0 ∨ k + 1 = L.length)) → R = false := fun hp => by
      rw [hR.out]
      exact dfalse (fun h => hp (h.2.2.1 k hlt))
    generalize L[k] = x at *
    by_cases hx : 256 < x.length
    · have hb : decide ((256 : Int) < (x.length : Int)) = true := dtrue (by omega)
      have hr : Hid (R = false) := Lib.hid (hno (fun h => by omega))
      clear hnx hno hR hs
      go_wp2_with fail
      go_ret
      exact ⟨by rw [hr.out]; rfl, q3⟩
    have hb : decide ((256 : Int) < (x.length : Int)) = false := dfalse (by omega)
    by_cases hx0 : x = []
    case neg =>
      have hs2 := Lib.hid (hnx ⟨by omega, fun h => absurd h hx0⟩)
      have he : x.isEmpty = false := by cases x with | nil => exact absurd rfl hx0 | cons a x => rfl
      clear hnx hno hR hs hx0
      go_wp2_with fail
      exact ⟨⟨k + 1, by omega, by go_num, hs2, q3⟩, by simp [intOf] <;> omega⟩
    have he : x.isEmpty = true := by rw [hx0]; rfl
    by_cases hk0 : k = 0
    · have hb3 : decide ((0 : Int) < (k : Int)) = false := dfalse (by omega)
      have hb4 : decide (0 < k) = false := dfalse (by omega)
      have hs2 := Lib.hid (hnx ⟨by omega, fun h => .inl hk0⟩)
      clear hnx hno hR hs hk0 hx0
      go_wp2_with fail
      exact ⟨⟨k + 1, by omega, by go_num, hs2, q3⟩, by simp [intOf] <;> omega⟩
    have hb3 : decide ((0 : Int) < (k : Int)) = true := dtrue (by omega)
    have hb4 : decide (0 < k) = true := dtrue (by omega)
    by_cases hke : k + 1 = L.length
    · have hb5 : decide ((k : Int) < (L.length : Int) - 1) = false := dfalse (by omega)
      have hs2 := Lib.hid (hnx ⟨by omega, fun h => .inr hke⟩)
      clear hnx hno hR hs hx0 hke
      go_wp2_with fail
      exact ⟨⟨k + 1, by omega, by go_num, hs2, q3⟩, by simp [intOf] <;> omega⟩
    · have hb5 : decide ((k : Int) < (L.length : Int) - 1) = true := dtrue (by omega)
      have hr : Hid (R = false) := Lib.hid (hno (fun h => by rcases h.2 hx0 with h | h <;> omega))
      clear hnx hno hR hs hx0
      go_wp2_with fail
      go_ret
      exact ⟨by rw [hr.out]; rfl, q3⟩
end Go.Proofs.YtoockogceobfgaaGreat
namespace Go.Proofs.YtoockogceobfgaaGreat
open Go.RowKit
set_option maxRecDepth 100000

abbrev iN (n : Nat) : Value := .int .i64 (n : Int)
/-- What is says, of filters at most n deep. -/
def IsIH (n : Nat) : Prop := ∀ {w0 w : World} {F : Fi} {vs vk : Value} {c L deep : Nat}, FilN n w0 F vs vk → Ext w0 w → w0.heap.size ≤ c → Blk w c 3 #[iN L] → deep ≤ 17 → L ≤ 1000 →
  Calls Tryz.prog 131 #[.agg #[.int .i64 F.kind, sv F.typ, sv F.val, vs, vk], iN deep, .pointer (some ⟨c, 0, none⟩)] w fun e w' => ∃ b, e = .returned (.bool b) ∧ b = (oneN n F deep && decide (nodesN n F ≤ L)) ∧ (b = true → Blk w' c 3 #[iN (L - nodesN n F)]) ∧ Mod (fun k => k = c) w w'
/-- What areKids says. -/
def kidsOk (n : Nat) (F : Fi) (deep L : Nat) : Bool := decide (1 ≤ F.kids.length ∧ ¬ (F.kind = 2 ∧ 1 < F.kids.length)) && (F.kids.all (oneN n · (deep + 1)) && decide ((F.kids.map (nodesN n)).sum ≤ L))
theorem kidsOk_bad {n : Nat} {F : Fi} {deep L k : Nat} (h : k < F.kids.length) (hb : (oneN n F.kids[k] (deep + 1) && decide (((F.kids.take k).map (nodesN n)).sum + nodesN n F.kids[k] ≤ L)) = false) : kidsOk n F deep L = false := by
  unfold kidsOk
  rw [Bool.and_eq_false_iff] at hb
  rcases hb with hb | hb
  · rw [all_noF h hb]; simp
  · have h1 := sum_next (nodesN n) F.kids h
    have h2 := sum_take (nodesN n) F.kids (k + 1)
    have h3 := of_decide_eq_false hb
    rw [show decide ((F.kids.map (nodesN n)).sum ≤ L) = false from decide_eq_false (by omega)]
    simp
theorem then_c {c : Nat} {w0 a b : World} (h : Ext w0 a) (k : Mod (fun k => k = c) a b) (hc : w0.heap.size ≤ c) : Ext w0 b := h.trans k (fun _ _ h => h) (fun j hj h => by omega)
set_option maxHeartbeats 16000000 in
theorem areKids_any {n : Nat} (ih : IsIH n) {w0 w : World} {F : Fi} {vs vk : Value} {c L deep : Nat} (h : FilN (n + 1) w0 F vs vk) (hx0 : Ext w0 w) (hc : w0.heap.size ≤ c) (hB : Blk w c 3 #[iN L]) (hd : deep ≤ 16) (hL : L ≤ 1000) :
    Calls Tryz.prog 141 #[.agg #[.int .i64 F.kind, sv F.typ, sv F.val, vs, vk], iN deep, .pointer (some ⟨c, 0, none⟩)] w fun e w' => ∃ b, e = .returned (.bool b) ∧ b = kidsOk n F deep L ∧ (b = true → Blk w' c 3 #[iN (L - (F.kids.map (nodesN n)).sum)]) ∧ Mod (fun k => k = c) w w' := by
  obtain ⟨hFB, ⟨As, cs, es⟩, hS, A, ca, ek, hop⟩ := h.open_
  have hkl := hFB.kl
  obtain ⟨R, hR⟩ : ∃ R, R = kidsOk n F deep L := ⟨_, rfl⟩
  rw [← hR]
  have hbad := fun k h hb => hR.trans (kidsOk_bad (n := n) (F := F) (deep := deep) (L := L) (k := k) h hb)
  unfold kidsOk at hR
  obtain ⟨K, hKs⟩ : ∃ T, T = F.kids := ⟨_, rfl⟩
  rw [← hKs] at hkl ek hop hR hbad ⊢
  have hkd := hFB.kd
  generalize F.kind = kd at *
  generalize F.typ = T at *
  generalize F.val = V at *
  obtain ⟨m, hm⟩ : ∃ m, m = F.subs.length := ⟨_, rfl⟩
  obtain ⟨q, hq⟩ : ∃ m, m = K.length := ⟨_, rfl⟩
  rw [← hm] at es
  rw [← hq] at ek
  subst es ek
  obtain ⟨w1, hw1⟩ : ∃ x, x = w.alloc (.cells #[.int .i64 kd, sv T, sv V, .slice As m cs, .slice A q ca] 26) := ⟨_, rfl⟩
  obtain ⟨p, hp⟩ : ∃ p, p = w.heap.size := ⟨_, rfl⟩
  have x1 : Ext w w1 := by rw [hw1]; exact (Mod.refl _ w).alloc _
  have BP : Blk w1 p 26 #[.int .i64 kd, sv T, sv V, .slice As m cs, .slice A q ca] := by rw [hw1, hp]; exact Blk.new w _ _
  have hpc : p ≠ c := by have := hB.lt; omega
  have hcc : ∀ {wx : World}, Mod (fun k => k = c) w1 wx → wx.cell? ⟨p, 0, none⟩ = some (.int .i64 kd) ∧ wx.cell? ⟨p, 4, none⟩ = some (.slice A q ca) := fun x => ⟨(BP.mod x (fun h => hpc h)).cell 0, (BP.mod x (fun h => hpc h)).cell 4⟩
  obtain ⟨p0, p4⟩ := hcc (Mod.refl _ w1)
  have hB1 : Blk w1 c 3 #[iN L] := hB.mod x1 (fun h => h)
  have hq8 : q ≤ 140737488351232 := by omega
  have y1 := ext_trans hx0 x1
  have m1 : Mod (fun k => k = c) w w1 := x1.mono (fun _ _ h => h.elim)
  replace hm := Lib.hid hm
  replace hq := Lib.hid hq
  replace hw1 := Lib.hid hw1
  replace hp := Lib.hid hp
  replace hR := Lib.hid hR
  clear BP hB hS h hFB
  go_enter Tryz.func141, Tryz.ntmps141
  go_upto_region 1 with fail
  rw [← hw1.out, ← hp.out]
  clear hw1 hp
  by_cases hq0 : q = 0
  · have hb0 : ((q : Int) == 0) = true := by rw [hq0]; rfl
    have hr : Hid (R = false) := Lib.hid (by
      rw [hR.out, Bool.and_eq_false_iff]
      exact .inl (dfalse (fun h => by have := hq.out; omega)))
    go_wp2_with fail
    go_ret
    exact ⟨_, rfl, hr.out.symm, (fun h => by cases h), m1⟩
  have hb0 : ((q : Int) == 0) = false := by rw [beq_eq_false_iff_ne]; omega
  by_cases hk2 : kd = 2 ∧ 1 < q
  · have hb2 : (kd == 2) = true := by rw [hk2.1]; rfl
    have hb1 : decide ((1 : Int) < (q : Int)) = true := dtrue (by omega)
    have hr : Hid (R = false) := Lib.hid (by
      rw [hR.out, Bool.and_eq_false_iff]
      exact .inl (dfalse (fun h => h.2 ⟨hk2.1, by have := hq.out; omega⟩)))
    go_wp2_with fail
    go_ret
    exact ⟨_, rfl, hr.out.symm, (fun h => by cases h), m1⟩
  have hR2 : Hid (R = (K.all (oneN n · (deep + 1)) && decide ((K.map (nodesN n)).sum ≤ L))) := Lib.hid (by
    rw [hR.out, show decide (1 ≤ K.length ∧ ¬ (kd = 2 ∧ 1 < K.length)) = true from dtrue ⟨by have := hq.out; omega, fun h => hk2 ⟨h.1, by have := hq.out; omega⟩⟩, Bool.true_and])
  have hor : (kd == 2) = false ∨ ((kd == 2) = true ∧ decide ((1 : Int) < (q : Int)) = false ∧ decide (1 < q) = false) := by
    by_cases h2 : kd = 2
    · exact .inr ⟨by rw [h2]; rfl, dfalse (fun h => hk2 ⟨h2, by omega⟩), dfalse (fun h => hk2 ⟨h2, by omega⟩)⟩
    · exact .inl (by rw [beq_eq_false_iff_ne]; exact h2)
  clear hR hk2
  rcases hor with hb2 | ⟨hb2, hb1, hb3⟩
  all_goals
    go_wp2_with fail
    go_loopw [27] (fun i wr => ∃ k : Nat, k ≤ q ∧ i = .int .i64 k ∧ Hid (((K.take k).all (oneN n · (deep + 1))) = true) ∧ ((K.take k).map (nodesN n)).sum ≤ L ∧ Blk wr c 3 #[iN (L - ((K.take k).map (nodesN n)).sum)] ∧ Mod (fun k => k = c) w1 wr) (fun i _ => q - (intOf i).toNat)
    case atStart => exact ⟨0, Nat.zero_le _, rfl, Lib.hid rfl, Nat.zero_le _, by simpa using hB1, Mod.refl _ _⟩
    case round =>
      clear p0 p4 hB1
      obtain ⟨k, hk, rfl, hall, hsL, hB1, hx⟩ := hrel
      by_cases hlt : k < q
      case neg =>
        have hbl : decide ((k : Int) < (q : Int)) = false := dfalse (by omega)
        have hbn : decide (k < q) = false := dfalse (by omega)
        have hkm : K.take k = K := List.take_of_length_le (by have := hq.out; omega)
        rw [hkm] at hall hsL hB1
        have hr : Hid (R = true) := Lib.hid (by rw [hR2.out, hall.out, dtrue hsL]; rfl)
        clear hall hR2
        go_wp2_with fail
        go_ret
        exact ⟨_, rfl, hr.out.symm, (fun _ => hB1), m1.then_ hx (fun _ _ h => h)⟩
      have hbl : decide ((k : Int) < (q : Int)) = true := dtrue (by omega)
      have hbn : decide (k < q) = true := dtrue (by omega)
      have hi0 : (0 : Int) ≤ (k : Int) := by omega
      have hi1 : (k : Int) < (q : Int) := by omega
      have hkb : k < K.length := by have := hq.out; omega
      obtain ⟨ag, ys, yk, e2, c0, c1, c2, c3, c4, h7⟩ := hop k hkb
      subst e2
      obtain ⟨⟨Y1, Y2, Y3, rfl⟩, Z1, Z2, Z3, rfl⟩ := h7.shape
      have y2 := then_c y1 hx hc
      replace c0 := ext_cell y2 c0
      replace c1 := ext_cell y2 c1
      replace c2 := ext_cell y2 c2
      replace c3 := ext_cell y2 c3
      replace c4 := ext_cell y2 c4
      have hsn := sum_next (nodesN n) K hkb
      have hst := sum_take (nodesN n) K (k + 1)
      have han := all_next (oneN n · (deep + 1)) K hkb
      replace hbad := hbad k hkb
      generalize K[k] = x at *
      have hc5 := ih (w := wr.alloc (.cells #[.int .i64 x.kind, sv x.typ, sv x.val, .slice Y1 Y2 Y3, .slice Z1 Z2 Z3] 26)) (deep := deep + 1) h7 (y2.alloc _) hc (hB1.alloc _) (by omega) (by omega)
      have e1 : ((deep + 1 : Nat) : Int) = (deep : Int) + 1 := by omega
      simp only [iN] at hc5
      rw [e1] at hc5
      replace hall := hall.out
      clear h7 e1 hkb hi0 hi1
      go_wp2_with fail
      refine hc5.mono ?_
      rintro e w6 ⟨b, rfl, hb, hB6, m6⟩
      have m7 := (hx.alloc (.cells #[.int .i64 x.kind, sv x.typ, sv x.val, .slice Y1 Y2 Y3, .slice Z1 Z2 Z3] 26)).then_ m6 (fun _ _ h => h)
      clear hc5 c0 c1 c2 c3 c4 hB1
      cases b with
      | false =>
        have hr : Hid (R = false) := Lib.hid (hbad (by
          rw [Bool.and_eq_false_iff]
          rcases Bool.and_eq_false_iff.1 hb.symm with h | h
          · exact .inl h
          · refine .inr (dfalse (fun h2 => of_decide_eq_false h ?_))
            omega))
        clear hbad hb hR2 hsn hst han hall
        go_wp2_with fail
        go_ret
        exact ⟨_, rfl, hr.out.symm, (fun h => by cases h), m1.then_ m7 (fun _ _ h => h)⟩
      | true =>
        obtain ⟨h8, h9⟩ := Bool.and_eq_true_iff.1 hb.symm
        have h10 := of_decide_eq_true h9
        have hall2 : Hid (((K.take (k + 1)).all (oneN n · (deep + 1))) = true) := Lib.hid (by rw [han, hall, h8]; rfl)
        have hB7 : Blk w6 c 3 #[iN (L - ((K.take (k + 1)).map (nodesN n)).sum)] := by
          have := hB6 rfl
          rwa [show L - ((K.take (k + 1)).map (nodesN n)).sum = L - ((K.take k).map (nodesN n)).sum - nodesN n x by omega]
        clear hbad hb hR2 hst han hall h8 h9 hB6
        go_wp2_with fail
        exact ⟨⟨k + 1, by omega, by go_num, hall2, by omega, hB7, m7⟩, by simp [intOf] <;> omega⟩
/-- A filter's first look. -/
def oneB (kd : Int) (T V : List UInt8) (B : List (List UInt8)) (q : Nat) (al : Bool) (deep : Nat) : Bool :=
  if 16 < deep then false
  else if kd = 0 ∨ kd = 1 ∨ kd = 2 then decide (T = [] ∧ V = [] ∧ B = [] ∧ 1 ≤ q ∧ ¬ (kd = 2 ∧ 1 < q)) && al
  else if kd = 3 ∨ kd = 5 ∨ kd = 6 then decide (isTyp T ∧ V.length ≤ 256 ∧ B = [] ∧ q = 0)
  else if kd = 4 then decide (isTyp T ∧ V = [] ∧ isSubs B ∧ q = 0)
  else if kd = 7 then decide (isTyp T ∧ V = [] ∧ B = [] ∧ q = 0)
  else false
theorem oneN_succ (n : Nat) (F : Fi) (deep : Nat) : oneN (n + 1) F deep = oneB F.kind F.typ F.val F.subs F.kids.length (F.kids.all (oneN n · (deep + 1))) deep := rfl
theorem nodes_succ (n : Nat) (F : Fi) : nodesN (n + 1) F = 1 + (F.kids.map (nodesN n)).sum := rfl
theorem four (b1 b2 b3 b4 : Bool) : b1 = false ∨ (b1 = true ∧ b2 = false) ∨ (b1 = true ∧ b2 = true ∧ b3 = false) ∨ (b1 = true ∧ b2 = true ∧ b3 = true ∧ b4 = false) ∨ (b1 = true ∧ b2 = true ∧ b3 = true ∧ b4 = true) := by
  cases b1 <;> cases b2 <;> cases b3 <;> cases b4 <;> simp
theorem emp_iff {α : Type} (l : List α) : l.isEmpty = decide (l = []) := by cases l <;> simp
theorem len_iff {α : Type} (l : List α) {m : Nat} (h : m = l.length) : ((m : Int) == 0) = decide (l = []) := by
  subst h
  cases l with
  | nil => rfl
  | cons a l =>
    rw [show decide (a :: l = []) = false from by simp, beq_eq_false_iff_ne]
    simp only [List.length_cons]; omega
theorem nat0 (q : Nat) : ((q : Int) == 0) = decide (q = 0) := by
  by_cases h : q = 0
  · subst h; rfl
  · rw [decide_eq_false h, beq_eq_false_iff_ne]; omega
theorem le256 (n : Nat) : decide ((n : Int) ≤ 256) = decide (n ≤ 256) := decide_eq_decide.2 (by omega)
set_option maxHeartbeats 32000000 in
theorem is_step {n : Nat} (ih : IsIH n) {w0 w : World} {F : Fi} {vs vk : Value} {c L deep : Nat} (h : FilN (n + 1) w0 F vs vk) (hx0 : Ext w0 w) (hc : w0.heap.size ≤ c) (hB : Blk w c 3 #[iN L]) (hd : deep ≤ 17) (hL : L ≤ 1000) :
    Calls Tryz.prog 131 #[.agg #[.int .i64 F.kind, sv F.typ, sv F.val, vs, vk], iN deep, .pointer (some ⟨c, 0, none⟩)] w fun e w' => ∃ b, e = .returned (.bool b) ∧ b = (oneN (n + 1) F deep && decide (nodesN (n + 1) F ≤ L)) ∧ (b = true → Blk w' c 3 #[iN (L - nodesN (n + 1) F)]) ∧ Mod (fun k => k = c) w w' := by
  have hak := fun {wx : World} {L' : Nat} (x : Ext w0 wx) (hb : Blk wx c 3 #[iN L']) (h1 : deep ≤ 16) (h2 : L' ≤ 1000) => areKids_any ih (w := wx) h x hc hb h1 h2
  obtain ⟨hFB, ⟨As, cs, es⟩, hS, A, ca, ek, -⟩ := h.open_
  have hkl := hFB.kl
  have hss := hFB.ss
  have hty := hFB.ty
  have hvl := hFB.vl
  rw [oneN_succ, nodes_succ]
  unfold kidsOk at hak
  generalize F.kids.all (oneN n · (deep + 1)) = al at *
  have hN0 : F.kids.length = 0 → (F.kids.map (nodesN n)).sum = 0 := fun h => by rw [List.eq_nil_of_length_eq_zero h]; rfl
  generalize (F.kids.map (nodesN n)).sum = N at *
  have hkd := hFB.kd
  generalize F.kind = kd at *
  generalize F.typ = T at *
  generalize F.val = V at *
  obtain ⟨B, hBs⟩ : ∃ B, B = F.subs := ⟨_, rfl⟩
  rw [← hBs] at es hS hss ⊢
  obtain ⟨m, hm⟩ : ∃ m, m = B.length := ⟨_, rfl⟩
  obtain ⟨q, hq⟩ : ∃ m, m = F.kids.length := ⟨_, rfl⟩
  rw [← hm] at es
  rw [← hq] at ek hkl hak hN0 ⊢
  subst es ek
  obtain ⟨R, hR⟩ : ∃ R, R = (oneB kd T V B q al deep && decide (1 + N ≤ L)) := ⟨_, rfl⟩
  rw [← hR]
  obtain ⟨w1, hw1⟩ : ∃ x, x = w.alloc (.cells #[.int .i64 kd, sv T, sv V, .slice As m cs, .slice A q ca] 26) := ⟨_, rfl⟩
  obtain ⟨p, hp⟩ : ∃ p, p = w.heap.size := ⟨_, rfl⟩
  have x1 : Ext w w1 := by rw [hw1]; exact (Mod.refl _ w).alloc _
  have BP : Blk w1 p 26 #[.int .i64 kd, sv T, sv V, .slice As m cs, .slice A q ca] := by rw [hw1, hp]; exact Blk.new w _ _
  have hpc : p ≠ c := by have := hB.lt; omega
  have hB1 : Blk w1 c 3 #[iN L] := hB.mod x1 (fun h => h)
  have c00 : w1.cell? ⟨c, 0, none⟩ = some (iN L) := hB1.cell 0
  have f00 : w1.frozen? ⟨c, 0, none⟩ = false := hB1.frozen 0
  obtain ⟨w2, hw2⟩ : ∃ x, x = w1.setCell ⟨c, 0, none⟩ (.int .i64 ((L : Int) - 1)) := ⟨_, rfl⟩
  have hB2 : Blk w2 c 3 #[.int .i64 ((L : Int) - 1)] := by rw [hw2]; exact hB1.set_ 0 _
  have m2 : Mod (fun k => k = c) w1 w2 := by rw [hw2]; exact (Mod.refl (fun k => k = c) w1).setCell (fun _ => rfl) _
  have BP2 : Blk w2 p 26 #[.int .i64 kd, sv T, sv V, .slice As m cs, .slice A q ca] := BP.mod m2 (fun h => hpc h)
  have p0 : w2.cell? ⟨p, 0, none⟩ = some (.int .i64 kd) := BP2.cell 0
  have p1 : w2.cell? ⟨p, 1, none⟩ = some (sv T) := BP2.cell 1
  have p2 : w2.cell? ⟨p, 2, none⟩ = some (sv V) := BP2.cell 2
  have p3 : w2.cell? ⟨p, 3, none⟩ = some (.slice As m cs) := BP2.cell 3
  have p4 : w2.cell? ⟨p, 4, none⟩ = some (.slice A q ca) := BP2.cell 4
  have c0 : w2.cell? ⟨c, 0, none⟩ = some (.int .i64 ((L : Int) - 1)) := hB2.cell 0
  have y2 := then_c (ext_trans hx0 x1) m2 hc
  have m1 : Mod (fun k => k = c) w w1 := x1.mono (fun _ _ h => h.elim)
  have m3 := m1.then_ m2 (fun _ _ h => h)
  have hS2 := Sl.ext hS y2
  have hT8 : T.length ≤ 9223372036854775807 := by omega
  have hty2 := fun wx : World => type_any (w := wx) T hT8
  have hsub := areSubs_any hS2
  have hek := hak (wx := w2) (L' := L - 1) y2
  have hmB := len_iff B hm
  have hq0 := nat0 q
  have hV2 := le256 V.length
  have hTe := emp_iff T
  have hVe := emp_iff V
  have hzV := sv_size V
  replace hmB := Lib.hid hmB
  replace hq0 := Lib.hid hq0
  replace hV2 := Lib.hid hV2
  replace hTe := Lib.hid hTe
  replace hVe := Lib.hid hVe
  replace hm := Lib.hid hm
  replace hq := Lib.hid hq
  replace hw1 := Lib.hid hw1
  replace hw2 := Lib.hid hw2
  replace hp := Lib.hid hp
  replace hR := Lib.hid hR
  clear BP BP2 hB hB1 hS hS2 h hFB m1 m2 hak hx0 ih
  go_enter Tryz.func131, Tryz.ntmps131
  go_upto_region 1 with fail
  rw [← hw1.out, ← hp.out]
  clear hw1 hp
  go_upto_region 2 with fail
  rw [← hw2.out]
  clear hw2 c00 f00
  by_cases hd16 : 16 < deep
  · have hb : decide ((16 : Int) < (deep : Int)) = true := dtrue (by omega)
    have hr : Hid (R = false) := Lib.hid (by rw [hR.out]; unfold oneB; rw [if_pos hd16]; rfl)
    clear hR hek hsub hty2
    go_wp2_with fail
    go_ret
    exact ⟨_, rfl, hr.out.symm, (fun h => by cases h), m3⟩
  have hb16 : decide ((16 : Int) < (deep : Int)) = false := dfalse (by omega)
  by_cases hL0 : L = 0
  · have hb : decide ((L : Int) - 1 < 0) = true := dtrue (by omega)
    have hr : Hid (R = false) := Lib.hid (by rw [hR.out, show decide (1 + N ≤ L) = false from dfalse (by omega), Bool.and_false])
    clear hR hek hsub hty2
    go_wp2_with fail
    go_ret
    exact ⟨_, rfl, hr.out.symm, (fun h => by cases h), m3⟩
  have hb0 : decide ((L : Int) - 1 < 0) = false := dfalse (by omega)
  have hcast : ((L - 1 : Nat) : Int) = (L : Int) - 1 := by omega
  have hlast : Hid (∀ wx, Ext w2 wx → decide (q = 0) = true → Blk wx c 3 #[iN (L - (1 + N))]) := Lib.hid (fun wx x hq9 => by
    have := hN0 (of_decide_eq_true hq9)
    rw [this]
    show Blk wx c 3 #[.int .i64 (((L - (1 + 0)) : Nat) : Int)]
    rw [show (((L - (1 + 0)) : Nat) : Int) = (L : Int) - 1 by omega]
    exact hB2.mod x (fun h => h))
  have hN1 : q = 0 → decide (1 + N ≤ L) = true := fun hq2 => by
    have := hN0 hq2
    exact dtrue (by omega)
  by_cases hk3 : kd = 0 ∨ kd = 1 ∨ kd = 2
  · clear hsub hty2
    have hB3 : Blk w2 c 3 #[iN (L - 1)] := by
      show Blk w2 c 3 #[.int .i64 ((L - 1 : Nat) : Int)]
      rw [hcast]; exact hB2
    have hek2 := hek hB3 (by omega) (by omega)
    have hr : Hid (R = (decide (T = []) && (decide (V = []) && (decide (B = []) && (decide (1 ≤ q ∧ ¬ (kd = 2 ∧ 1 < q)) && (al && decide (N ≤ L - 1))))))) := Lib.hid (by
      rw [hR.out]
      unfold oneB
      rw [if_neg hd16, if_pos hk3, show decide (1 + N ≤ L) = decide (N ≤ L - 1) from decide_eq_decide.2 (by omega)]
      simp only [Bool.decide_and, Bool.and_assoc])
    clear hR hek hB2 hlast hN1 hN0 hB3
    have h4 := four (decide (T = [])) (decide (V = [])) (decide (B = [])) false
    rcases hk3 with rfl | rfl | rfl
    all_goals
      rcases h4 with h1 | ⟨h1, h2⟩ | ⟨h1, h2, h3⟩ | ⟨h1, h2, h3, -⟩ | ⟨_, _, _, h⟩
      · have hr2 : Hid (R = false) := Lib.hid (by rw [hr.out, h1]; rfl)
        have g1 := hTe.out.trans h1
        clear hr hek2
        go_wp2_with fail
        go_ret
        exact ⟨_, rfl, hr2.out.symm, (fun h => by cases h), m3⟩
      · have hr2 : Hid (R = false) := Lib.hid (by rw [hr.out, h1, h2]; rfl)
        have g1 := hTe.out.trans h1
        have g2 := hVe.out.trans h2
        clear hr hek2
        go_wp2_with fail
        go_ret
        exact ⟨_, rfl, hr2.out.symm, (fun h => by cases h), m3⟩
      · have hr2 : Hid (R = false) := Lib.hid (by rw [hr.out, h1, h2, h3]; rfl)
        have g1 := hTe.out.trans h1
        have g2 := hVe.out.trans h2
        have g3 := hmB.out.trans h3
        clear hr hek2
        go_wp2_with fail
        go_ret
        exact ⟨_, rfl, hr2.out.symm, (fun h => by cases h), m3⟩
      · have g1 := hTe.out.trans h1
        have g2 := hVe.out.trans h2
        have g3 := hmB.out.trans h3
        have hr2 := hr.out
        rw [h1, h2, h3, Bool.true_and, Bool.true_and, Bool.true_and] at hr2
        rw [← hr2] at hek2
        replace hr2 := Lib.hid hr2
        clear hr h1 h2 h3
        go_wp2_with fail
        refine hek2.mono ?_
        rintro e w9 ⟨b, rfl, rfl, hB9, m9⟩
        have hB10 : Hid (b = true → Blk w9 c 3 #[iN (L - (1 + N))]) := Lib.hid (fun h => by
          have := hB9 h
          rwa [show L - 1 - N = L - (1 + N) by omega] at this)
        clear hek2 hB9
        cases b
        case false =>
          go_wp2_with fail
          go_ret
          exact ⟨_, rfl, rfl, (fun h => by cases h), m3.then_ m9 (fun _ _ h => h)⟩
        case true =>
          go_wp2_with fail
          go_ret
          exact ⟨_, rfl, rfl, (fun _ => hB10.out trivial), m3.then_ m9 (fun _ _ h => h)⟩
      · cases h
  by_cases hk5 : kd = 3 ∨ kd = 5 ∨ kd = 6
  · have hr : Hid (R = (decide (isTyp T) && (decide (V.length ≤ 256) && (decide (B = []) && decide (q = 0))))) := Lib.hid (by
      rw [hR.out]
      unfold oneB
      rw [if_neg hd16, if_neg hk3, if_pos hk5]
      by_cases hq2 : q = 0
      · rw [hN1 hq2]
        simp [Bool.decide_and]
      · simp [hq2])
    clear hR hek hsub hN1
    have h4 := four (decide (isTyp T)) (decide (V.length ≤ 256)) (decide (B = [])) (decide (q = 0))
    clear hN0 hB2
    rcases hk5 with rfl | rfl | rfl
    all_goals
      rcases h4 with h1 | ⟨h1, h2⟩ | ⟨h1, h2, h3⟩ | ⟨h1, h2, h3, h4⟩ | ⟨h1, h2, h3, h4⟩
      · have hr2 : Hid (R = false) := Lib.hid (by rw [hr.out, h1]; rfl)
        simp only [h1] at hty2
        clear hr
        go_wp2_with fail
        refine (hty2 _).mono ?_
        rintro e w9 ⟨rfl, rfl⟩
        go_wp2_with fail
        go_ret
        exact ⟨_, rfl, hr2.out.symm, (fun h => by cases h), m3⟩
      · have hr2 : Hid (R = false) := Lib.hid (by rw [hr.out, h1, h2]; rfl)
        simp only [h1] at hty2
        have g2 := hV2.out.trans h2
        clear hr
        go_wp2_with fail
        refine (hty2 _).mono ?_
        rintro e w9 ⟨rfl, rfl⟩
        go_wp2_with fail
        go_ret
        exact ⟨_, rfl, hr2.out.symm, (fun h => by cases h), m3⟩
      · have hr2 : Hid (R = false) := Lib.hid (by rw [hr.out, h1, h2, h3]; rfl)
        simp only [h1] at hty2
        have g2 := hV2.out.trans h2
        have g3 := hmB.out.trans h3
        clear hr
        go_wp2_with fail
        refine (hty2 _).mono ?_
        rintro e w9 ⟨rfl, rfl⟩
        go_wp2_with fail
        go_ret
        exact ⟨_, rfl, hr2.out.symm, (fun h => by cases h), m3⟩
      · have hr2 : Hid (R = false) := Lib.hid (by rw [hr.out, h1, h2, h3, h4]; rfl)
        simp only [h1] at hty2
        have g2 := hV2.out.trans h2
        have g3 := hmB.out.trans h3
        have g4 := hq0.out.trans h4
        clear hr
        go_wp2_with fail
        refine (hty2 _).mono ?_
        rintro e w9 ⟨rfl, rfl⟩
        go_wp2_with fail
        go_ret
        exact ⟨_, rfl, hr2.out.symm, (fun h => by cases h), m3⟩
      · have hr2 : Hid (R = true) := Lib.hid (by rw [hr.out, h1, h2, h3, h4]; rfl)
        simp only [h1] at hty2
        have g2 := hV2.out.trans h2
        have g3 := hmB.out.trans h3
        have g4 := hq0.out.trans h4
        clear hr
        go_wp2_with fail
        refine (hty2 _).mono ?_
        rintro e w9 ⟨rfl, rfl⟩
        go_wp2_with fail
        go_ret
        exact ⟨_, rfl, hr2.out.symm, (fun _ => hlast.out _ (Mod.refl _ _) (by assumption)), m3⟩
  by_cases hk4 : kd = 4
  · have hr : Hid (R = (decide (isTyp T) && (decide (V = []) && (decide (isSubs B) && decide (q = 0))))) := Lib.hid (by
      rw [hR.out]
      unfold oneB
      rw [if_neg hd16, if_neg hk3, if_neg hk5, if_pos hk4]
      by_cases hq2 : q = 0
      · rw [hN1 hq2]
        simp [Bool.decide_and]
      · simp [hq2])
    clear hR hek hN1 hN0 hB2
    have h4 := four (decide (isTyp T)) (decide (V = [])) (decide (isSubs B)) (decide (q = 0))
    subst hk4
    rcases h4 with h1 | ⟨h1, h2⟩ | ⟨h1, h2, h3⟩ | ⟨h1, h2, h3, h4⟩ | ⟨h1, h2, h3, h4⟩
    · have hr2 : Hid (R = false) := Lib.hid (by rw [hr.out, h1]; rfl)
      simp only [h1] at hty2
      clear hsub
      clear hr
      go_wp2_with fail
      refine (hty2 _).mono ?_
      rintro e w9 ⟨rfl, rfl⟩
      go_wp2_with fail
      go_ret
      exact ⟨_, rfl, hr2.out.symm, (fun h => by cases h), m3⟩
    · have hr2 : Hid (R = false) := Lib.hid (by rw [hr.out, h1, h2]; rfl)
      simp only [h1] at hty2
      have g2 := hVe.out.trans h2
      clear hsub
      clear hr
      go_wp2_with fail
      refine (hty2 _).mono ?_
      rintro e w9 ⟨rfl, rfl⟩
      go_wp2_with fail
      go_ret
      exact ⟨_, rfl, hr2.out.symm, (fun h => by cases h), m3⟩
    · have hr2 : Hid (R = false) := Lib.hid (by rw [hr.out, h1, h2, h3]; rfl)
      simp only [h1] at hty2
      have g2 := hVe.out.trans h2
      rw [h3] at hsub
      clear hr
      go_wp2_with fail
      refine (hty2 _).mono ?_
      rintro e w9 ⟨rfl, rfl⟩
      go_wp2_with fail
      refine hsub.mono ?_
      rintro e w10 ⟨rfl, x10⟩
      replace p4 := ext_cell x10 p4
      go_wp2_with fail
      go_ret
      exact ⟨_, rfl, hr2.out.symm, (fun h => by cases h), m3.then_ (x10.mono (fun _ _ h => h.elim)) (fun _ _ h => h)⟩
    · have hr2 : Hid (R = false) := Lib.hid (by rw [hr.out, h1, h2, h3, h4]; rfl)
      simp only [h1] at hty2
      have g2 := hVe.out.trans h2
      rw [h3] at hsub
      have g4 := hq0.out.trans h4
      clear hr
      go_wp2_with fail
      refine (hty2 _).mono ?_
      rintro e w9 ⟨rfl, rfl⟩
      go_wp2_with fail
      refine hsub.mono ?_
      rintro e w10 ⟨rfl, x10⟩
      replace p4 := ext_cell x10 p4
      go_wp2_with fail
      go_ret
      exact ⟨_, rfl, hr2.out.symm, (fun h => by cases h), m3.then_ (x10.mono (fun _ _ h => h.elim)) (fun _ _ h => h)⟩
    · have hr2 : Hid (R = true) := Lib.hid (by rw [hr.out, h1, h2, h3, h4]; rfl)
      simp only [h1] at hty2
      have g2 := hVe.out.trans h2
      rw [h3] at hsub
      have g4 := hq0.out.trans h4
      clear hr
      go_wp2_with fail
      refine (hty2 _).mono ?_
      rintro e w9 ⟨rfl, rfl⟩
      go_wp2_with fail
      refine hsub.mono ?_
      rintro e w10 ⟨rfl, x10⟩
      replace p4 := ext_cell x10 p4
      go_wp2_with fail
      go_ret
      exact ⟨_, rfl, hr2.out.symm, (fun _ => hlast.out _ x10 (by assumption)), m3.then_ (x10.mono (fun _ _ h => h.elim)) (fun _ _ h => h)⟩
  by_cases hk7 : kd = 7
  · have hr : Hid (R = (decide (isTyp T) && (decide (V = []) && (decide (B = []) && decide (q = 0))))) := Lib.hid (by
      rw [hR.out]
      unfold oneB
      rw [if_neg hd16, if_neg hk3, if_neg hk5, if_neg hk4, if_pos hk7]
      by_cases hq2 : q = 0
      · rw [hN1 hq2]
        simp [Bool.decide_and]
      · simp [hq2])
    clear hR hek hN1 hN0 hB2 hsub
    have h4 := four (decide (isTyp T)) (decide (V = [])) (decide (B = [])) (decide (q = 0))
    subst hk7
    rcases h4 with h1 | ⟨h1, h2⟩ | ⟨h1, h2, h3⟩ | ⟨h1, h2, h3, h4⟩ | ⟨h1, h2, h3, h4⟩
    · have hr2 : Hid (R = false) := Lib.hid (by rw [hr.out, h1]; rfl)
      simp only [h1] at hty2
      clear hr
      go_wp2_with fail
      refine (hty2 _).mono ?_
      rintro e w9 ⟨rfl, rfl⟩
      go_wp2_with fail
      go_ret
      exact ⟨_, rfl, hr2.out.symm, (fun h => by cases h), m3⟩
    · have hr2 : Hid (R = false) := Lib.hid (by rw [hr.out, h1, h2]; rfl)
      simp only [h1] at hty2
      have g2 := hVe.out.trans h2
      clear hr
      go_wp2_with fail
      refine (hty2 _).mono ?_
      rintro e w9 ⟨rfl, rfl⟩
      go_wp2_with fail
      go_ret
      exact ⟨_, rfl, hr2.out.symm, (fun h => by cases h), m3⟩
    · have hr2 : Hid (R = false) := Lib.hid (by rw [hr.out, h1, h2, h3]; rfl)
      simp only [h1] at hty2
      have g2 := hVe.out.trans h2
      have g3 := hmB.out.trans h3
      clear hr
      go_wp2_with fail
      refine (hty2 _).mono ?_
      rintro e w9 ⟨rfl, rfl⟩
      go_wp2_with fail
      go_ret
      exact ⟨_, rfl, hr2.out.symm, (fun h => by cases h), m3⟩
    · have hr2 : Hid (R = false) := Lib.hid (by rw [hr.out, h1, h2, h3, h4]; rfl)
      simp only [h1] at hty2
      have g2 := hVe.out.trans h2
      have g3 := hmB.out.trans h3
      have g4 := hq0.out.trans h4
      clear hr
      go_wp2_with fail
      refine (hty2 _).mono ?_
      rintro e w9 ⟨rfl, rfl⟩
      go_wp2_with fail
      go_ret
      exact ⟨_, rfl, hr2.out.symm, (fun h => by cases h), m3⟩
    · have hr2 : Hid (R = true) := Lib.hid (by rw [hr.out, h1, h2, h3, h4]; rfl)
      simp only [h1] at hty2
      have g2 := hVe.out.trans h2
      have g3 := hmB.out.trans h3
      have g4 := hq0.out.trans h4
      clear hr
      go_wp2_with fail
      refine (hty2 _).mono ?_
      rintro e w9 ⟨rfl, rfl⟩
      go_wp2_with fail
      go_ret
      exact ⟨_, rfl, hr2.out.symm, (fun _ => hlast.out _ (Mod.refl _ _) (by assumption)), m3⟩
  have hr2 : Hid (R = false) := Lib.hid (by
    rw [hR.out]
    unfold oneB
    rw [if_neg hd16, if_neg hk3, if_neg hk5, if_neg hk4, if_neg hk7]; rfl)
  have hkn : ∀ j : Int, j = 0 ∨ j = 1 ∨ j = 2 ∨ j = 3 ∨ j = 4 ∨ j = 5 ∨ j = 6 ∨ j = 7 → (kd == j) = false := fun j hj => by rw [beq_eq_false_iff_ne]; omega
  have k0 := hkn 0 (by omega)
  have k1 := hkn 1 (by omega)
  have k2 := hkn 2 (by omega)
  have k3 := hkn 3 (by omega)
  have k4 := hkn 4 (by omega)
  have k5 := hkn 5 (by omega)
  have k6 := hkn 6 (by omega)
  have k7 := hkn 7 (by omega)
  clear hkn hR hek hN1 hN0 hB2 hsub hty2 hlast
  go_wp2_with fail
  go_ret
  exact ⟨_, rfl, hr2.out.symm, (fun h => by cases h), m3⟩
theorem isF_any : ∀ n, IsIH n
  | 0 => fun h => h.elim
  | n + 1 => is_step (isF_any n)

/-- A filter may be. -/
def isN (n : Nat) (F : Fi) : Bool := oneN n F 1 && decide (nodesN n F ≤ 64)
set_option maxHeartbeats 4000000 in
theorem IsF_any {n : Nat} {w : World} {F : Fi} {vs vk : Value} (h : FilN n w F vs vk) :
    Calls Tryz.prog 103 #[.agg #[.int .i64 F.kind, sv F.typ, sv F.val, vs, vk]] w fun e w' => e = .returned (.bool (isN n F)) ∧ Ext w w' := by
  obtain ⟨⟨Y1, Y2, Y3, rfl⟩, Z1, Z2, Z3, rfl⟩ := h.shape
  obtain ⟨w1, hw1⟩ : ∃ x, x = w.alloc (.cells #[.int .i64 F.kind, sv F.typ, sv F.val, .slice Y1 Y2 Y3, .slice Z1 Z2 Z3] 26) := ⟨_, rfl⟩
  obtain ⟨w2, hw2⟩ : ∃ x, x = w1.alloc (.cells #[iN 64] 3) := ⟨_, rfl⟩
  have x1 : Ext w w1 := by rw [hw1]; exact (Mod.refl _ w).alloc _
  have x2 : Ext w1 w2 := by rw [hw2]; exact (Mod.refl _ w1).alloc _
  have hB : Blk w2 w1.heap.size 3 #[iN 64] := by rw [hw2]; exact Blk.new w1 _ _
  have BP : Blk w2 w.heap.size 26 #[.int .i64 F.kind, sv F.typ, sv F.val, .slice Y1 Y2 Y3, .slice Z1 Z2 Z3] := by
    have : Blk w1 w.heap.size 26 #[.int .i64 F.kind, sv F.typ, sv F.val, .slice Y1 Y2 Y3, .slice Z1 Z2 Z3] := by rw [hw1]; exact Blk.new w _ _
    exact this.mod x2 (fun h => h)
  have p0 : w2.cell? ⟨w.heap.size, 0, none⟩ = some (.int .i64 F.kind) := BP.cell 0
  have p1 : w2.cell? ⟨w.heap.size, 1, none⟩ = some (sv F.typ) := BP.cell 1
  have p2 : w2.cell? ⟨w.heap.size, 2, none⟩ = some (sv F.val) := BP.cell 2
  have p3 : w2.cell? ⟨w.heap.size, 3, none⟩ = some (.slice Y1 Y2 Y3) := BP.cell 3
  have p4 : w2.cell? ⟨w.heap.size, 4, none⟩ = some (.slice Z1 Z2 Z3) := BP.cell 4
  have hc := isF_any n (w0 := w) (w := w2) (c := w1.heap.size) (L := 64) (deep := 1) h (ext_trans x1 x2) x1.size hB (by omega) (by omega)
  have hs := x1.size
  obtain ⟨g, hg⟩ : ∃ g, g = w1.heap.size := ⟨_, rfl⟩
  obtain ⟨p, hp⟩ : ∃ p, p = w.heap.size := ⟨_, rfl⟩
  rw [← hp] at p0 p1 p2 p3 p4 hs
  rw [← hg] at hc hs
  replace hw1 := Lib.hid hw1
  replace hw2 := Lib.hid hw2
  replace hp := Lib.hid hp
  replace hg := Lib.hid hg
  clear BP hB h
  unfold isN
  generalize (oneN n F 1 && decide (nodesN n F ≤ 64)) = R at *
  generalize F.kind = kd at *
  generalize F.typ = T at *
  generalize F.val = V at *
  go_enter Tryz.func103, Tryz.ntmps103
  go_upto_region 1 with fail
  rw [← hw1.out, ← hp.out]
  clear hw1
  go_upto_region 2 with fail
  rw [← hg.out]
  rw [show w1.alloc (.cells #[.int .i64 64] 3) = w2 from hw2.out.symm]
  clear hw2
  go_wp2_with fail
  refine hc.mono ?_
  rintro e w9 ⟨b, rfl, rfl, -, m9⟩
  clear hc
  go_wp2_with fail
  go_ret
  exact ⟨rfl, (ext_trans x1 x2).trans m9 (fun _ _ h => h) (fun j hj h => by have := hg.out; have := hp.out; have := hs; exact absurd hj (by omega))⟩
end Go.Proofs.YtoockogceobfgaaGreat
