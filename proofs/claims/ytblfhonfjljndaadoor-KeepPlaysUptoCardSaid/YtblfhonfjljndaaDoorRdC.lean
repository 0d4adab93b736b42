/- the document's Disk: spot, may, did, Used. -/
import Derived.Test.YtblfhonfjljndaaDoorRdB
namespace Go.Proofs.YtblfhonfjljndaaDoor
open Go.RowKit Go.Maps Go.WideMaps
set_option maxRecDepth 100000

section
variable {S T F : Nat → Prop} {w w' : World} {bd : Nat} {vL v : Value} {A : List (Fi × Value)} {d : Ds}
set_option maxHeartbeats 8000000 in
theorem spot_any (h : RdAt S w bd vL A d) (x : List UInt8) :
    Calls Tryd.prog 43 #[pv bd, sv x] w fun e w' => e = .returned (.tuple #[.int .i64 (posF d.L x : Nat), .bool (getF d.L x).isSome]) ∧ Ext w w' := by
  have c1 : w.cell? ⟨bd, 1, none⟩ = some vL := h.blk.cell 1
  obtain ⟨ad, c, rfl, p1, p2, p3⟩ := h.at_
  have hlen := h.len
  have hfst : ∀ i (hi : i < A.length) (hj : i < d.L.length), A[i].1 = d.L[i] := fun i hi _ => h.fst hi
  have hrow := h.row
  have hrise := h.rise
  have hfew := h.few
  clear h
  obtain ⟨q, hq⟩ : ∃ q, q = (getF d.L x).isSome := ⟨_, rfl⟩
  obtain ⟨n, hn⟩ : ∃ n, n = posF d.L x := ⟨_, rfl⟩
  rw [← hq, ← hn]
  replace hq := Lib.hid hq
  replace hn := Lib.hid hn
  go_enter Tryd.func43, Tryd.ntmps43
  go_wp2_with fail
  go_loopw [6] (fun i wr => ∃ k : Nat, k ≤ d.L.length ∧ i = .int .i64 k ∧ Hid (∀ j (hj : j < d.L.length), j < k → Op.bytesLess d.L[j].name x = true) ∧ Ext w wr) (fun i _ => d.L.length - (intOf i).toNat)
  case atStart => exact ⟨0, Nat.zero_le _, rfl, Lib.hid (fun j _ h => by omega), Mod.refl _ _⟩
  case round =>
    obtain ⟨k, hk, rfl, hs, q3⟩ := hrel
    have d1 : wr.cell? ⟨bd, 1, none⟩ = some (.slice ad d.L.length c) := (q3.cell (lt_of_cell c1) (fun h => h)).trans c1
    by_cases hlt : k < d.L.length
    case neg =>
      have hbl : decide ((k : Int) < (d.L.length : Int)) = false := dfalse (by omega)
      have hpos : k = posF d.L x := posF_unique hk hs.out (fun h => absurd h hlt)
      have hsome : (getF d.L x).isSome = false := by
        cases e : getF d.L x with
        | none => rfl
        | some f => have := posF_some hrise e; rw [← hpos] at this; have := (List.getElem?_eq_some_iff.1 this).1; omega
      have hqe : q = false := hq.out.trans hsome
      have hne : k = n := hpos.trans hn.out.symm
      clear hsome hs hrow hfst hpos hq hn
      subst hqe
      subst hne
      have hdw : ∀ m, Ext w (wr.drewN m) := fun m => q3.drewN m
      go_wp2_with fail
      go_quiet (fail)
      go_wp2_with fail
      go_ret2
      exact ⟨rfl, hdw _⟩
    have hbl : decide ((k : Int) < (d.L.length : Int)) = true := dtrue (by omega)
    obtain ⟨p, rfl⟩ := p3 (by omega)
    obtain ⟨r1, r2, r3, _, _, _⟩ := (hrow.ext q3).at3 (i := k) (by omega)
    have hi0 : (0 : Int) ≤ (k : Int) := by omega
    have hi1 : (k : Int) < (d.L.length : Int) := by omega
    rw [hfst k (by omega) hlt] at r3
    by_cases hless : Op.bytesLess d.L[k].name x = true
    · have hs2 : Hid (∀ j (hj : j < d.L.length), j < k + 1 → Op.bytesLess d.L[j].name x = true) := Lib.hid (fun j hj h => by
        by_cases e : j = k
        · subst e; exact hless
        · exact hs.out j hj (by omega))
      clear hs hrow hfst
      generalize d.L[k].name = y at *
      go_wp2_with fail
      exact ⟨⟨k + 1, by omega, by go_num, hs2, q3⟩, by simp [intOf] <;> omega⟩
    · have hless' : Op.bytesLess d.L[k].name x = false := by simpa using hless
      have hpos : k = posF d.L x := posF_unique hk hs.out (fun _ => hless')
      have hsome : (getF d.L x).isSome = (d.L[k].name == x) := by
        cases e : getF d.L x with
        | none => subst hpos; exact (beq_eq_false_iff_ne.2 (posF_none e hlt)).symm
        | some f =>
          have := posF_some hrise e
          rw [← hpos, List.getElem?_eq_getElem hlt] at this
          injection this with this
          rw [this, getF_name e]; simp
      have hqe := Lib.hid (hq.out.trans hsome)
      have hne := Lib.hid (hpos.trans hn.out.symm)
      clear hsome hs hrow hfst hpos hless hq hn
      generalize d.L[k].name = y at *
      have hdw : ∀ m, Ext w (wr.drewN m) := fun m => q3.drewN m
      go_wp2_with fail
      go_quiet (fail)
      go_wp2_with fail
      go_ret2
      exact ⟨by rw [hqe.out, hne.out]; rfl, hdw _⟩
theorem leftI_0 (h1 : d.fu = true) (h2 : d.left = 0) : leftI d = 0 := by unfold leftI; rw [if_pos h1, h2]; rfl
theorem leftI_ne (h : ¬ (d.fu = true ∧ d.left = 0)) : leftI d ≠ 0 := by
  unfold leftI
  split
  · intro e; exact h ⟨by assumption, by omega⟩
  · omega
set_option maxHeartbeats 8000000 in
theorem rmay_any {L : Tx} (h : RdAt S w bd vL A d) (hv : Ts w T v L) (hl : L.length ≤ 1000000) :
    Calls Tryd.prog 42 #[pv bd, v] w fun e w' => e = .returned (ev (begD d L)) ∧ Ext w w' := by
  have c2 : w.cell? ⟨bd, 2, none⟩ = some (.int .i64 (leftI d)) := h.blk.cell 2
  clear h
  by_cases hgo : d.fu = true ∧ d.left = 0
  · have hr : begD d L = 9 := by unfold begD; rw [if_pos hgo]
    rw [hr]
    rw [leftI_0 hgo.1 hgo.2] at c2
    clear hgo hr
    go_enter Tryd.func42, Tryd.ntmps42
    go_wp2_with fail
    go_ret
    exact ⟨rfl, Mod.refl _ _⟩
  have hr : begD d L = if L.any badN then 1 else 0 := by unfold begD; rw [if_neg hgo]
  have hb : (leftI d == 0) = false := by rw [beq_eq_false_iff_ne]; exact leftI_ne hgo
  rw [hr]
  clear hr hgo
  generalize leftI d = lf at *
  obtain ⟨A, c, rfl, h1, h2, h3, h4⟩ := hv.open_
  clear hv
  obtain ⟨r, hr⟩ : ∃ r : Nat, r = if L.any badN then 1 else 0 := ⟨_, rfl⟩
  rw [← hr]
  replace hr := Lib.hid hr
  go_enter Tryd.func42, Tryd.ntmps42
  go_wp2_with fail
  go_loopw [5] (fun i wr => ∃ k : Nat, k ≤ L.length ∧ i = .int .i64 k ∧ Hid ((L.take k).any badN = false) ∧ Ext w wr) (fun i _ => L.length - (intOf i).toNat)
  case atStart => exact ⟨0, Nat.zero_le _, rfl, Lib.hid rfl, Mod.refl _ _⟩
  case round =>
    obtain ⟨k, hk, rfl, hs, hx⟩ := hrel
    by_cases hlt : k < L.length
    case neg =>
      have hbl : decide ((k : Int) < (L.length : Int)) = false := dfalse (by omega)
      have he : r = 0 := by
        have := hs.out
        rw [List.take_of_length_le (by omega)] at this
        rw [hr.out, this]; rfl
      clear hs hr
      subst he
      go_wp2_with fail
      go_ret
      exact ⟨rfl, hx⟩
    have hbl : decide ((k : Int) < (L.length : Int)) = true := dtrue (by omega)
    obtain ⟨ad, hA, hS, c0⟩ := (Cells.mod h4 hx (fun _ _ _ h => h)).at_ hlt
    subst hA
    have hi0 : (0 : Int) ≤ (k : Int) := by omega
    have hi1 : (k : Int) < (L.length : Int) := by omega
    have hst : badN L[k] = false → (L.take (k + 1)).any badN = false := fun hq => by
      rw [List.take_succ_eq_append_getElem hlt, List.any_append, hs.out]
      simp [hq]
    have hst2 : badN L[k] = true → r = 1 := fun hq => by
      rw [hr.out, if_pos]
      rw [List.any_eq_true]
      exact ⟨_, List.getElem_mem _, hq⟩
    clear hs
    generalize L[k] = x at *
    have hsz := sv_size x
    by_cases h5 : x.length < 1
    · have hb1 : decide ((x.length : Int) < 1) = true := dtrue (by omega)
      have he := hst2 (by unfold badN; exact decide_eq_true (.inl h5))
      clear hst hst2 hr
      subst he
      go_wp2_with fail
      go_ret
      exact ⟨rfl, hx⟩
    have hb1 : decide ((x.length : Int) < 1) = false := dfalse (by omega)
    by_cases h6 : 64 < x.length
    · have hb2 : decide ((64 : Int) < (x.length : Int)) = true := dtrue (by omega)
      have he := hst2 (by unfold badN; exact decide_eq_true (.inr h6))
      clear hst hst2 hr
      subst he
      go_wp2_with fail
      go_ret
      exact ⟨rfl, hx⟩
    have hb2 : decide ((64 : Int) < (x.length : Int)) = false := dfalse (by omega)
    have hs := Lib.hid (hst (by unfold badN; exact decide_eq_false (by omega)))
    clear hst hst2
    go_wp2_with fail
    exact ⟨⟨k + 1, by omega, by go_num, hs, hx⟩, by simp [intOf] <;> omega⟩
set_option maxHeartbeats 4000000 in
theorem did_any (h : RdAt S w bd vL A d) :
    Calls Tryd.prog 45 #[pv bd] w fun e w' => e = .returned (ev 0) ∧ RdAt S w' bd vL A (doneD d) ∧ Mod (fun k => k = bd) w w' := by
  have c2 : w.cell? ⟨bd, 2, none⟩ = some (.int .i64 (leftI d)) := h.blk.cell 2
  have z2 : w.frozen? ⟨bd, 2, none⟩ = false := h.blk.frozen 2
  have hlf := h.lf
  by_cases hgo : d.fu = true ∧ 0 < d.left
  · have hL : leftI d = (d.left : Int) := by unfold leftI; rw [if_pos hgo.1]
    rw [hL] at c2
    have hb : decide ((0 : Int) < (d.left : Int)) = true := dtrue (by omega)
    have hfin : ∀ x : Int, x = (d.left : Int) - 1 → RdAt S (w.setCell ⟨bd, 2, none⟩ (.int .i64 x)) bd vL A (doneD d) ∧ Mod (fun k => k = bd) w (w.setCell ⟨bd, 2, none⟩ (.int .i64 x)) := fun x hx => by
      have e : doneD d = { d with fu := d.fu, left := d.left - 1 } := by unfold doneD; rw [if_pos hgo.1]
      have e2 : x = leftI (doneD d) := by rw [e]; unfold leftI; rw [if_pos hgo.1]; show x = ((d.left - 1 : Nat) : Int); omega
      subst e2
      rw [e]
      exact ⟨h.self (setg_mod _ _ _ _) (h.blk.set_ 2 _) (by omega), setg_mod _ _ _ _⟩
    replace hfin := Lib.hid hfin
    have hp := hgo.2
    clear h hgo hL
    go_enter Tryd.func45, Tryd.ntmps45
    go_wp2_with fail
    go_ret
    exact ⟨rfl, hfin.out _ (by omega)⟩
  · have hL : leftI d ≤ 0 := by
      unfold leftI
      split
      · have : ¬ 0 < d.left := fun hh => hgo ⟨by assumption, hh⟩
        omega
      · omega
    have hb : decide ((0 : Int) < leftI d) = false := dfalse (by omega)
    have hfin : RdAt S w bd vL A (doneD d) ∧ Mod (fun k => k = bd) w w := by
      have e : doneD d = d := by
        unfold doneD
        split
        · have : d.left = 0 := Nat.eq_zero_of_not_pos fun hh => hgo ⟨by assumption, hh⟩
          obtain ⟨a, b, c, l⟩ := d
          simp only at this
          subst this
          rfl
        · rfl
      rw [e]
      exact ⟨h, Mod.refl _ _⟩
    replace hfin := Lib.hid hfin
    clear h hgo hL
    generalize leftI d = lf at *
    go_enter Tryd.func45, Tryd.ntmps45
    go_wp2_with fail
    go_ret
    exact ⟨rfl, hfin.out⟩
theorem sumB_snoc (L : Fis) (k : Nat) (h : k < L.length) : sumB (L.take (k + 1)) = sumB (L.take k) + L[k].b.length := by
  unfold sumB
  rw [List.take_succ_eq_append_getElem h, List.map_append, List.sum_append]
  simp
theorem sumB_le (L : Fis) (k : Nat) : sumB (L.take k) ≤ sumB L := by
  unfold sumB
  conv => rhs; rw [← List.take_append_drop k L, List.map_append, List.sum_append]
  omega
set_option maxHeartbeats 4000000 in
theorem rused_any (h : RdAt S w bd vL A d) :
    Calls Tryd.prog 44 #[pv bd] w fun e w' => e = .returned (ev (sumB d.L)) ∧ Ext w w' := by
  have c1 : w.cell? ⟨bd, 1, none⟩ = some vL := h.blk.cell 1
  obtain ⟨ad, c, rfl, p1, p2, p3⟩ := h.at_
  have hlen := h.len
  have hfst : ∀ i (hi : i < A.length) (hj : i < d.L.length), A[i].1 = d.L[i] := fun i hi _ => h.fst hi
  have hrow := h.row
  have hfew := h.few
  have hroom := h.room
  have hmost := h.most
  have hfb : ∀ i (hi : i < A.length), ∃ B c, A[i].2 = .slice B A[i].1.b.length c := fun i hi => by
    obtain ⟨B, c, e, _⟩ := (h.fb A[i] (List.getElem_mem hi)).open_
    exact ⟨B, c, e⟩
  clear h
  go_enter Tryd.func44, Tryd.ntmps44
  go_wp2_with fail
  go_loop [3, 4] (fun q i => ∃ k n : Nat, k ≤ d.L.length ∧ i = .int .i64 k ∧ q = .int .i64 n ∧ Hid (n = sumB (d.L.take k))) (fun _ i => d.L.length - (intOf i).toNat)
  case atStart => exact ⟨0, 0, Nat.zero_le _, rfl, rfl, Lib.hid (by simp [sumB])⟩
  case round =>
    obtain ⟨k, n, hk, rfl, rfl, hs⟩ := hrel
    have hle := sumB_le d.L k
    rw [← hs.out] at hle
    by_cases hlt : k < d.L.length
    case neg =>
      have hbl : decide ((k : Int) < (d.L.length : Int)) = false := dfalse (by omega)
      have hne : n = sumB d.L := by rw [hs.out, List.take_of_length_le (by omega)]
      clear hs hrow hfst hle
      replace hne := Lib.hid hne
      go_wp2_with fail
      go_ret
      exact ⟨by rw [hne.out]; rfl, Mod.refl _ _⟩
    have hbl : decide ((k : Int) < (d.L.length : Int)) = true := dtrue (by omega)
    obtain ⟨p, rfl⟩ := p3 (by omega)
    obtain ⟨r1, r2, _, r3, _, _⟩ := hrow.at3 (i := k) (by omega)
    have hi0 : (0 : Int) ≤ (k : Int) := by omega
    have hi1 : (k : Int) < (d.L.length : Int) := by omega
    obtain ⟨B, cb, hB⟩ := hfb k (by omega)
    rw [hB, hfst k (by omega) hlt] at r3
    have hst : Hid (n + d.L[k].b.length = sumB (d.L.take (k + 1))) := Lib.hid (by rw [sumB_snoc _ _ hlt, hs.out])
    have hle2 := sumB_le d.L (k + 1)
    rw [← hst.out] at hle2
    clear hs hrow hfst hB hfb
    generalize d.L[k].b.length = m at *
    go_wp2_with fail
    exact ⟨⟨k + 1, n + m, by omega, by go_num, by go_num, hst⟩, by simp [intOf] <;> omega⟩
end
end Go.Proofs.YtblfhonfjljndaaDoor
