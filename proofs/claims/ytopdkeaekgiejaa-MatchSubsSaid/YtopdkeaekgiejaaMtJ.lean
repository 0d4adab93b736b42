/- match: the document's piece, fits, Sub; the law Subs. -/
import Derived.Test.YtopdkeaekgiejaaMtI
namespace Go.Proofs.Ytopdkeaekgiejaa
open Go.RowKit
set_option maxRecDepth 100000

theorem tyS : SliceTy Try.prog 22 9 (.string ⟨#[]⟩) 16 := ⟨Try.underlying22, by kernel_rfl, rfl, by omega⟩
section
variable {w : World}
set_option maxHeartbeats 4000000 in
theorem rpiece1_any (s : List UInt8) (hs : s.length ≤ 1000000) :
    Calls Try.prog 59 #[.int .i64 1, sv s] w fun e w' => e = .returned (sv (squB s)) ∧ Ext w w' := by
  have hsz := sv_size s
  have hc := rfold_any (w := w) s (by omega)
  have hfl := foldB_len s
  have he := sv_empty s
  by_cases h0 : s = []
  · subst h0
    have hR : squB [] = [] := rfl
    rw [hR]
    go_enter Try.func59, Try.ntmps59
    go_wp2_with fail
    refine hc.mono ?_
    rintro e w1 ⟨rfl, x1⟩
    clear hc
    go_wp2_with fail
    go_ret
    exact ⟨rfl, x1⟩
  have hb : s.isEmpty = false := by cases s <;> simp at h0 ⊢
  have hpos : 0 < s.length := List.length_pos_iff.2 h0
  by_cases hF0 : foldB s = []
  · have hR : squB s = [32] := by unfold squB; rw [if_neg h0, if_pos hF0]
    rw [hR]
    rw [hF0] at hc
    clear hR hF0 hfl h0
    go_enter Try.func59, Try.ntmps59
    go_wp2_with fail
    refine hc.mono ?_
    rintro e w1 ⟨rfl, x1⟩
    clear hc
    go_wp2_with fail
    go_ret
    exact ⟨rfl, x1⟩
  obtain ⟨R, hR⟩ : ∃ R, R = squB s := ⟨_, rfl⟩
  rw [← hR]
  unfold squB at hR
  rw [if_neg h0, if_neg hF0] at hR
  have hbF : (foldB s).isEmpty = false := by cases h : foldB s <;> simp [h] at hF0 ⊢
  have heF := sv_empty (foldB s)
  have hlt : s.length - 1 < s.length := by omega
  rw [getD_at s hpos, getD_at s hlt] at hR
  obtain ⟨a, ha⟩ : ∃ a, a = s[0] := ⟨_, rfl⟩
  obtain ⟨z, hz⟩ : ∃ z, z = s[s.length - 1] := ⟨_, rfl⟩
  have g0 : ∀ h', (⟨s.toArray⟩ : ByteArray)[0]'h' = a := fun h' => (sv_get s 0 hpos h').trans ha.symm
  have g1 : ∀ h', (⟨s.toArray⟩ : ByteArray)[s.length - 1]'h' = z := fun h' => (sv_get s _ hlt h').trans hz.symm
  rw [← ha, ← hz] at hR
  generalize foldB s = F at *
  obtain ⟨m, hm⟩ : ∃ m, m = s.length - 1 := ⟨_, rfl⟩
  rw [← hm] at g1 hlt
  have hm2 : (s.length : Int) - 1 = (m : Int) := by omega
  have hm1 : (m : Int) < (s.length : Int) := by omega
  clear ha hz h0 hF0 hm
  replace hR := Lib.hid hR
  by_cases h32 : a = 32 <;> by_cases z32 : z = 32
  all_goals
    have ba : ((a.toNat : Int) == 32) = decide (a = 32) := by
      rw [Bool.eq_iff_iff, beq_iff_eq, decide_eq_true_iff]
      exact ⟨fun e => UInt8.toNat_inj.1 (by simpa using Int.ofNat_inj.1 e), fun e => by rw [e]; rfl⟩
    have bz : ((z.toNat : Int) == 32) = decide (z = 32) := by
      rw [Bool.eq_iff_iff, beq_iff_eq, decide_eq_true_iff]
      exact ⟨fun e => UInt8.toNat_inj.1 (by simpa using Int.ofNat_inj.1 e), fun e => by rw [e]; rfl⟩
    simp only [h32, z32, decide_true, decide_false] at ba bz
    have hR2 := hR.out
    simp only [h32, z32, if_true, if_false, List.nil_append, List.append_nil] at hR2
    have cl := cat_l 32 F
    have cr := cat_r F 32
    have cr2 := cat_r ([32] ++ F) 32
    replace hR2 := Lib.hid hR2
    clear hR
  all_goals
    go_enter Try.func59, Try.ntmps59
    go_wp2_with fail
    refine hc.mono ?_
    rintro e w1 ⟨rfl, x1⟩
    clear hc
    go_wp2_with fail
    go_ret
    rw [hR2.out]
    exact ⟨rfl, x1⟩
set_option maxHeartbeats 4000000 in
theorem rpiece_any (k : Int) (s : List UInt8) (hk : k = 1 ∨ k = 5 ∨ k = 4) (hs : s.length ≤ 1000000) :
    Calls Try.prog 59 #[.int .i64 k, sv s] w fun e w' => e = .returned (sv (pieceM k s)) ∧ Ext w w' := by
  rcases hk with rfl | rfl | rfl
  · exact rpiece1_any s hs
  · have hc := rbare_any (w := w) s (by omega)
    have hR : pieceM 5 s = bareB s := rfl
    rw [hR]
    generalize bareB s = R at *
    go_enter Try.func59, Try.ntmps59
    go_wp2_with fail
    refine hc.mono ?_
    rintro e w1 ⟨rfl, x1⟩
    clear hc
    go_wp2_with fail
    go_ret
    exact ⟨rfl, x1⟩
  · have hR : pieceM 4 s = s := rfl
    rw [hR]
    go_enter Try.func59, Try.ntmps59
    go_wp2_with fail
    go_ret
    exact ⟨rfl, Mod.refl _ _⟩
theorem pre_take {s a : List UInt8} (h : a.length ≤ s.length) : a.isPrefixOf s = (s.take a.length == a) := by
  have := Lib.hasPrefix_of_take s a
  rw [decide_eq_true h, Bool.true_and] at this
  exact this.symm
theorem suf_drop {s b : List UInt8} (h : b.length ≤ s.length) : b.isSuffixOf s = (s.drop (s.length - b.length) == b) := by
  have := Lib.hasSuffix_of_drop s b
  rw [decide_eq_true h, Bool.true_and] at this
  exact this.symm
def fitsB (s : List UInt8) (P : List (List UInt8)) : Bool := hasQ s (P.getD 0 []) ((P.drop 1).take (P.length - 2)) (P.getD (P.length - 1) [])
theorem mid_get (P : List (List UInt8)) {j : Nat} (hj' : j < ((P.drop 1).take (P.length - 2)).length) (h2 : 1 + j < P.length) : ((P.drop 1).take (P.length - 2))[j] = P[1 + j] := by
  simp only [List.getElem_take, List.getElem_drop]
set_option maxHeartbeats 16000000 in
theorem rfits_any {S : Nat → Prop} {v : Value} (s : List UInt8) {P : List (List UInt8)} (hv : Ss w S v P) (hs : s.length ≤ 100000) (hP : ∀ x ∈ P, x.length ≤ 1000000) (hn : 2 ≤ P.length) (hn2 : P.length ≤ 16) :
    Calls Try.prog 60 #[sv s, v] w fun e w' => e = .returned (.bool (fitsB s P)) ∧ Ext w w' := by
  obtain ⟨A, c, rfl, q1, q2, q3, q4⟩ := hv.open_
  have hsz := sv_size s
  obtain ⟨R, hR⟩ : ∃ R, R = fitsB s P := ⟨_, rfl⟩
  rw [← hR]
  have h0l : 0 < P.length := by omega
  have hel : P.length - 1 < P.length := by omega
  unfold fitsB hasQ at hR
  rw [getD_x P h0l, getD_x P hel] at hR
  obtain ⟨ad, hA, hS, c0⟩ := q4.at_ h0l
  subst hA
  obtain ⟨ad', hA', _, cE⟩ := q4.at_ hel
  cases hA'
  have ha := hP _ (List.getElem_mem h0l)
  have hb := hP _ (List.getElem_mem hel)
  obtain ⟨M, hM⟩ : ∃ M, M = (P.drop 1).take (P.length - 2) := ⟨_, rfl⟩
  have hMl : M.length = P.length - 2 := by rw [hM, List.length_take, List.length_drop]; omega
  have hMg : ∀ (j : Nat) (h : j < M.length) (h2 : 1 + j < P.length), M[j] = P[1 + j] := fun j h h2 => by subst hM; exact mid_get P h h2
  rw [← hM] at hR
  clear hM hv
  generalize P[0] = a at *
  generalize P[P.length - 1] = b at *
  have haz := sv_size a
  have hbz := sv_size b
  have hz : ad.add 0 = ad := by cases ad; simp [Addr.add]
  rw [hz] at c0
  have cE2 : w.cell? (ad.add ((P.length : Int) - 1).toNat) = some (sv b) := by rw [show ((P.length : Int) - 1).toNat = P.length - 1 by omega]; exact cE
  have hi0 : (0 : Int) < (P.length : Int) := by omega
  have hi1 : (0 : Int) ≤ (P.length : Int) - 1 := by omega
  have hi2 : (P.length : Int) - 1 < (P.length : Int) := by omega
  replace hMl := Lib.hid hMl
  replace hMg := Lib.hid hMg
  clear hz
  have hcell : ∀ {wx : World} (j : Nat) (h2 : 1 + j < P.length), Ext w wx → wx.cell? (ad.add (1 + j)) = some (sv P[1 + j]) := fun j h2 q => by
    obtain ⟨ad2, hA2, _, c2⟩ := (Cells.mod q4 q fun _ _ _ h => h).at_ h2
    cases hA2
    exact c2
  clear q4
  by_cases hlen : s.length < a.length + b.length
  · have hb1 : decide ((s.length : Int) < (a.length : Int) + (b.length : Int)) = true := dtrue (by omega)
    rw [decide_eq_false (by omega), Bool.false_and] at hR
    subst hR
    clear hMl hMg hcell
    go_enter Try.func60, Try.ntmps60
    go_wp2_with fail
    go_quiet (fail)
    go_wp2_with fail
    go_ret
    exact ⟨rfl, (Mod.refl _ _).drewN _⟩
  have hb1 : decide ((s.length : Int) < (a.length : Int) + (b.length : Int)) = false := dfalse (by omega)
  rw [decide_eq_true (by omega), Bool.true_and, pre_take (by omega), suf_drop (by omega)] at hR
  obtain ⟨u, hu⟩ : ∃ u, u = s.take a.length := ⟨_, rfl⟩
  obtain ⟨t, ht⟩ : ∃ t, t = s.drop (s.length - b.length) := ⟨_, rfl⟩
  obtain ⟨z, hz⟩ : ∃ z, z = (s.drop a.length).take (s.length - b.length - a.length) := ⟨_, rfl⟩
  have hx1 : (⟨s.toArray⟩ : ByteArray).extract 0 a.length = ⟨u.toArray⟩ := by rw [ext_sv, hu]; simp
  have hx2 : (⟨s.toArray⟩ : ByteArray).extract (s.length - b.length) s.length = ⟨t.toArray⟩ := by
    rw [ext_sv, ht, List.take_of_length_le (by rw [List.length_drop]; omega)]
  have hx3 : (⟨s.toArray⟩ : ByteArray).extract a.length (s.length - b.length) = ⟨z.toArray⟩ := by rw [ext_sv, hz]
  have hzl : z.length ≤ 100000 := by rw [hz, List.length_take, List.length_drop]; omega
  rw [← hu, ← ht, ← hz] at hR
  clear hu ht hz
  have hj0 : (0 : Int) ≤ (a.length : Int) := by omega
  have hj1 : (a.length : Int) ≤ (s.length : Int) := by omega
  have hj2 : (0 : Int) ≤ (s.length : Int) - (b.length : Int) := by omega
  have hj3 : (s.length : Int) - (b.length : Int) ≤ (s.length : Int) := by omega
  have hj4 : (a.length : Int) ≤ (s.length : Int) - (b.length : Int) := by omega
  have hnt : ((s.length : Int) - (b.length : Int)).toNat = s.length - b.length := by omega
  by_cases hua : u = a
  case neg =>
    have bu : (u == a) = false := beq_eq_false_iff_ne.2 hua
    rw [bu, Bool.false_and] at hR
    subst hR
    clear hMl hMg hcell hua
    go_enter Try.func60, Try.ntmps60
    go_wp2_with fail
    go_quiet (fail)
    go_wp2_with fail
    go_ret
    exact ⟨rfl, (Mod.refl _ _).drewN _⟩
  have bu : (u == a) = true := beq_iff_eq.2 hua
  by_cases htb : t = b
  case neg =>
    have bt : (t == b) = false := beq_eq_false_iff_ne.2 htb
    rw [bu, bt, Bool.true_and, Bool.false_and] at hR
    subst hR
    clear hMl hMg hcell hua htb
    go_enter Try.func60, Try.ntmps60
    go_wp2_with fail
    go_quiet (fail)
    go_wp2_with fail
    go_ret
    exact ⟨rfl, (Mod.refl _ _).drewN _⟩
  have bt : (t == b) = true := beq_iff_eq.2 htb
  rw [bu, bt, Bool.true_and, Bool.true_and] at hR
  replace hR := Lib.hid hR
  clear hua htb
  have hzs := sv_size z
  go_enter Try.func60, Try.ntmps60
  go_wp2_with fail
  go_quiet (fail)
  go_wp2_with fail
  go_loopw [8, 9] (fun at_ i wr => ∃ (i' j m : Nat), i' = 1 + j ∧ j ≤ M.length ∧ i = .int .i64 (i' : Nat) ∧ at_ = .int .i64 (m : Nat) ∧ m ≤ z.length ∧ Hid (midsF z (M.take j) = some (z.drop m)) ∧ Ext w wr) (fun _ i _ => P.length - (intOf i).toNat)
  case atStart => exact ⟨1, 0, 0, by omega, Nat.zero_le _, rfl, rfl, Nat.zero_le _, Lib.hid (by simp [midsF]), (Mod.refl _ _).drewN _⟩
  case round =>
    obtain ⟨i', j, m, hij, hj, rfl, rfl, hm, hmid, hx⟩ := hrel
    have hML := hMl.out
    by_cases hlt : j < M.length
    case neg =>
      have hbl : decide ((i' : Int) + 1 < (P.length : Int)) = false := dfalse (by omega)
      have hR2 := hR.out
      have hmo := hmid.out
      rw [List.take_of_length_le (by omega)] at hmo
      rw [hmo] at hR2
      subst hR2
      clear hR hmid hmo hMl hMg hcell
      go_wp2_with fail
      go_ret
      exact ⟨rfl, hx⟩
    have hbl : decide ((i' : Int) + 1 < (P.length : Int)) = true := dtrue (by omega)
    have hi2' : 1 + j < P.length := by omega
    have hc := fun (wx : World) (q : Ext w wx) => hcell j hi2' q
    have hg := hMg.out j hlt hi2'
    have hxl := hP _ (List.getElem_mem hi2')
    have hst := mids_step hlt hmid.out
    have hsp := fun hn => mids_stop hlt hmid.out hn
    rw [← hg] at hc hxl
    rw [← hij] at hc
    clear hg
    have hk0 : (0 : Int) ≤ (i' : Int) := by omega
    have hk1 : (i' : Int) < (P.length : Int) := by omega
    have c1 := hc _ hx
    replace hij := Lib.hid hij
    generalize M[j] = x at *
    have hxz := sv_size x
    have hfd := fun wx : World => rfind_any (w := wx) z x m hm (by omega) (by omega)
    cases hco : cutO (z.drop m) x with
    | none =>
      have hf := find_none hco
      rw [hf] at hfd
      have hR2 := hR.out
      rw [hsp hco] at hR2
      subst hR2
      clear hR hmid hst hsp hco hf hMl hMg hcell hc
      go_wp2_with fail
      refine (hfd _).mono ?_
      rintro e w2 ⟨rfl, rfl⟩
      clear hfd
      go_wp2_with fail
      go_ret
      exact ⟨rfl, hx⟩
    | some r =>
      obtain ⟨k, hf, hkl, hkr⟩ := find_some hm hco
      rw [hf] at hfd
      rw [hco, ← hkr] at hst
      replace hst := Lib.hid hst
      clear hmid hsp hco hf hkr hMl hMg hcell hc
      go_wp2_with fail
      refine (hfd _).mono ?_
      rintro e w2 ⟨rfl, rfl⟩
      clear hfd
      go_wp2_with fail
      exact ⟨⟨i' + 1, j + 1, k + x.length, by have := hij.out; omega, by omega, by go_num, by go_num, hkl, hst, hx⟩, by simp [intOf] <;> omega⟩
theorem pieces_snoc (k : Int) (L : List (List UInt8)) {j : Nat} (h : j < L.length) : (L.take (j + 1)).map (pieceM k) = (L.take j).map (pieceM k) ++ [pieceM k L[j]] := by
  rw [List.take_succ_eq_append_getElem h, List.map_append]
  rfl
theorem hasM_fits (k : Int) (s : List UInt8) (L : List (List UInt8)) (h : 2 ≤ L.length) : hasM k s L = fitsB s (L.map (pieceM k)) := by
  have h0 : 0 < L.length := by omega
  have he : L.length - 1 < L.length := by omega
  unfold hasM fitsB
  rw [hasP_eq, List.length_map, getD_x L h0, getD_x L he, getD_x _ (by rw [List.length_map]; exact h0), getD_x _ (by rw [List.length_map]; exact he), List.getElem_map, List.getElem_map, List.map_take, List.map_drop]
theorem piece_len (k : Int) (s : List UInt8) : (pieceM k s).length ≤ s.length + 2 := by
  unfold pieceM
  by_cases h1 : k = 1
  · rw [if_pos h1]
    unfold squB
    have := foldB_len s
    split
    · simp
    · split
      · simp
      · simp only [List.length_append]
        split <;> split <;> simp <;> omega
  · rw [if_neg h1]
    by_cases h5 : k = 5
    · rw [if_pos h5]; have := bare_len s; omega
    · rw [if_neg h5]; omega
theorem normM_le {k : Int} {s : List UInt8} (h : (normM k s).2 = true) (hk : k = 1 ∨ k = 5 ∨ k = 4) : (normM k s).1.length ≤ 256 := by
  have hl := normM_len h
  rw [normM_short hl]
  rcases hk with rfl | rfl | rfl
  · show (textB s).1.length ≤ 256
    unfold textB
    split
    · simp
    · exact Nat.le_trans (normV_len s) (by omega)
  · exact Nat.le_trans (bare_len s) (by omega)
  · exact hl
set_option maxHeartbeats 16000000 in
theorem rsub_any {S : Nat → Prop} {v : Value} (k : Int) (s : List UInt8) {L : List (List UInt8)} (hv : Ss w S v L) (hS : ∀ j, S j → j < w.heap.size) (hs : s.length ≤ 140737488351232) (hL : ∀ x ∈ L, x.length ≤ 900000) :
    Calls Try.prog 28 #[.int .i64 k, sv s, v] w fun e w' => e = .returned (.tuple #[.bool (subM k s L).1, .bool (subM k s L).2]) ∧ Ext w w' := by
  obtain ⟨A, c, rfl, q1, q2, q3, q4⟩ := hv.open_
  have hc := rmnorm_any (w := w) k s hs
  obtain ⟨R, hR⟩ : ∃ R, R = subM k s L := ⟨_, rfl⟩
  rw [← hR]
  unfold subM at hR
  have hnl := fun h hk => normM_le (k := k) (s := s) h hk
  clear hv
  generalize normM k s = p at *
  obtain ⟨x, ok⟩ := p
  simp only at hc hR hnl
  replace hR := Lib.hid hR
  go_enter Try.func28, Try.ntmps28
  go_wp2_with fail
  refine hc.mono ?_
  rintro e w1 ⟨rfl, x1⟩
  clear hc
  cases ok with
  | false =>
    have hR2 := hR.out
    rw [if_pos (.inl rfl)] at hR2
    subst hR2
    clear hR
    go_wp2_with fail
    go_ret2
    exact ⟨rfl, x1⟩
  | true =>
  by_cases hk : k ≠ 1 ∧ k ≠ 5 ∧ k ≠ 4
  · have k1 : (k != 1) = true := bne_iff_ne.2 hk.1
    have k5 : (k != 5) = true := bne_iff_ne.2 hk.2.1
    have k4 : (k != 4) = true := bne_iff_ne.2 hk.2.2
    have hR2 := hR.out
    rw [if_pos (.inr (.inr (.inr hk)))] at hR2
    subst hR2
    clear hR hnl
    go_wp2_with fail
    go_ret2
    exact ⟨rfl, x1⟩
  have hkk : (k = 1 ∨ k = 5 ∨ k = 4) := by
    by_cases h1 : k = 1
    · exact .inl h1
    by_cases h5 : k = 5
    · exact .inr (.inl h5)
    by_cases h4 : k = 4
    · exact .inr (.inr h4)
    exact absurd ⟨h1, h5, h4⟩ hk
  have hxl := hnl rfl hkk
  have hR2 : L.length < 2 ∨ 16 < L.length ∨ (2 ≤ L.length ∧ L.length ≤ 16 ∧ R = (fitsB x (L.map (pieceM k)), true)) := by
    by_cases h1 : L.length < 2
    · exact .inl h1
    by_cases h2 : 16 < L.length
    · exact .inr (.inl h2)
    refine .inr (.inr ⟨by omega, by omega, ?_⟩)
    rw [hR.out, if_neg (by rintro (h | h | h | h) <;> first | cases h; done | omega | exact hk h), hasM_fits k x L (by omega)]
  have hR3 : L.length < 2 ∨ 16 < L.length → R = (false, false) := fun h => by
    rw [hR.out, if_pos (h.elim (fun h => .inr (.inl h)) fun h => .inr (.inr (.inl h)))]
  clear hR hnl hk
  replace hR3 := Lib.hid hR3
  replace hR2 := Lib.hid hR2
  have hkb : ((k != 1) = false) ∨ ((k != 1) = true ∧ (k != 5) = false) ∨ ((k != 1) = true ∧ (k != 5) = true ∧ (k != 4) = false) := by
    rcases hkk with rfl | rfl | rfl
    · exact .inl rfl
    · exact .inr (.inl ⟨rfl, rfl⟩)
    · exact .inr (.inr ⟨rfl, rfl, rfl⟩)
  replace hkk := Lib.hid hkk
  have hpc := fun (wx : World) (j : Nat) (hj : j < L.length) => rpiece_any (w := wx) k L[j] hkk.out (by have := hL _ (List.getElem_mem hj); omega)
  have hcells : ∀ {wx : World}, Ext w wx → Cells wx S A (L.map sv) := fun q => q4.mod q fun _ _ _ h => h
  clear q4
  rcases hkb with k1 | ⟨k1, k5⟩ | ⟨k1, k5, k4⟩
  all_goals
    by_cases hl1 : L.length < 2
    · have hb : decide ((L.length : Int) < 2) = true := dtrue (by omega)
      have hR4 := hR3.out (.inl hl1)
      subst hR4
      clear hR3 hR2 hpc hcells
      go_wp2_with fail
      go_ret2
      exact ⟨rfl, x1⟩
    have hb : decide ((L.length : Int) < 2) = false := dfalse (by omega)
    by_cases hl2 : 16 < L.length
    · have hb2 : decide ((16 : Int) < (L.length : Int)) = true := dtrue (by omega)
      have hR4 := hR3.out (.inr hl2)
      subst hR4
      clear hR3 hR2 hpc hcells
      go_wp2_with fail
      go_ret2
      exact ⟨rfl, x1⟩
    have hb2 : decide ((16 : Int) < (L.length : Int)) = false := dfalse (by omega)
    have hR5 : R = (fitsB x (L.map (pieceM k)), true) := by
      rcases hR2.out with h | h | h
      · exact absurd h hl1
      · exact absurd h hl2
      · exact h.2.2
    replace hR5 := Lib.hid hR5
    clear hR2 hR3
    go_wp2_with fail
    go_loopw [10, 11] (fun pv i wr => ∃ j : Nat, j ≤ L.length ∧ i = .int .i64 j ∧ Own wr 9 pv (((L.take j).map (pieceM k)).map sv) ∧ Fresh w1.heap.size pv ∧ Ext w1 wr) (fun _ i _ => L.length - (intOf i).toNat)
    case atStart => exact ⟨0, Nat.zero_le _, rfl, by simpa using Own.nil _ _, fresh_nil _ _ _, Mod.refl _ _⟩
    case round =>
      obtain ⟨j, hj, rfl, p1, p2, p3⟩ := hrel
      have yx := ext_trans x1 p3
      by_cases hlt : j < L.length
      case neg =>
        have hbl : decide ((j : Int) < (L.length : Int)) = false := dfalse (by omega)
        rw [List.take_of_length_le (by omega)] at p1
        have hf := rfits_any x (P := L.map (pieceM k)) (show Ss wr _ _ (L.map (pieceM k)) from p1.sl) (by omega) (fun y hy => by
          obtain ⟨z, hz, rfl⟩ := List.mem_map.1 hy
          have := piece_len k z
          have := hL z hz
          omega) (by rw [List.length_map]; omega) (by rw [List.length_map]; omega)
        obtain ⟨A1, n1, c1, hu⟩ : ∃ A1 n1 c1, u10 = Value.slice A1 n1 c1 := by obtain ⟨A1, c1, h⟩ := p1.shape; exact ⟨A1, _, c1, h⟩
        subst hu
        clear p1 p2 hpc hcells
        go_wp2_with fail
        refine hf.mono ?_
        rintro e w3 ⟨rfl, x3⟩
        clear hf
        go_wp2_with fail
        go_ret2
        rw [hR5.out]
        exact ⟨rfl, ext_trans yx x3⟩
      have hbl : decide ((j : Int) < (L.length : Int)) = true := dtrue (by omega)
      obtain ⟨ad, hA, hSd, c0⟩ := (hcells yx).at_ hlt
      subst hA
      have hi0 : (0 : Int) ≤ (j : Int) := by omega
      have hi1 : (j : Int) < (L.length : Int) := by omega
      have hp := hpc wr j hlt
      have hsn := pieces_snoc k L hlt
      have hol : ((L.take j).map (pieceM k)).length = j := by rw [List.length_map, List.length_take]; omega
      generalize (L.take j).map (pieceM k) = O at *
      generalize pieceM k L[j] = y at *
      generalize L[j] = l1 at *
      replace hsn := Lib.hid hsn
      have hn1 : ((O.map sv).length + [sv y].length) * 16 ≤ 140737488355328 := by rw [List.length_map, hol]; simp; omega
      replace hn1 := Lib.hid hn1
      replace hol := Lib.hid hol
      clear hpc
      go_wp2_with fail
      refine hp.mono ?_
      rintro e w3 ⟨rfl, x3⟩
      have p1' := (Own.mod p1 x3 fun _ _ h => h).alloc (.cells #[sv y] 9)
      have y3 := ext_trans p3 x3
      obtain ⟨A1, n1, c1, hu⟩ : ∃ A1 n1 c1, u10 = Value.slice A1 n1 c1 := by obtain ⟨A1, c1, h⟩ := p1.shape; exact ⟨A1, _, c1, h⟩
      subst hu
      clear hp p1 p3
      go_wp2_with ((with_reducible show wpList _ _ _ (⟨some 56, _, _, _, _, _⟩ :: _) _ _); refine wp_app tyS p1' (Sl.one w3 9 (sv y)) (fun u hu => by rw [List.mem_singleton.1 hu]; rfl) rfl (.tmp 48) (.tmp 55) rfl rfl rfl hn1.out ?_; intro v2 w4 g1 g2 g3)
      exact ⟨⟨j + 1, by omega, by go_num, by rw [hsn.out, List.map_append]; exact g1, g3.fresh p2 (y3.alloc _).size, ext_app0 (y3.alloc _) p2 g2⟩, by simp [intOf] <;> omega⟩
end
end Go.Proofs.Ytopdkeaekgiejaa
