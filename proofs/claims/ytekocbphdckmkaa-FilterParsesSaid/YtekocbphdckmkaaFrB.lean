/- filter: the document's reader: typ. -/
import Derived.Test.YtekocbphdckmkaaFrA
namespace Go.Proofs.Ytekocbphdckmkaa
open Go.RowKit
set_option maxRecDepth 100000

theorem rsign_at {w : World} {g : Nat} {s : List UInt8} {k x : Nat} (h : R3 w g s k x) (hk : k ≤ s.length) (hl : s.length ≤ 140737488351232) (c : UInt8) (y : Int) (hy : (c.toNat : Int) = y) :
    Calls Try.prog 33 #[.pointer (some ⟨g, 0, none⟩), .int .u8 y] w fun e w' => ∃ b : Bool, e = .returned (.bool b) ∧ b = decide ((s.drop k).head? = some c) ∧ (if b = true then k + 1 else k) ≤ s.length ∧ R3 w' g s (if b = true then k + 1 else k) x ∧ Mod (fun b => b = g) w w' := by
  subst hy
  exact rsign_any h hk hl c
def tpB (b : UInt8) : Bool := decide (typN b.toNat)
theorem tp_one (d : UInt8) : decide (isTyp [97, d]) = tpB d := by
  unfold tpB
  refine decide_eq_decide.2 ⟨fun h => h.2.2.2 d (by simp), fun h => ⟨by simp, by simp, by show letN 97; decide, fun b hb => ?_⟩⟩
  simp only [List.mem_cons, List.not_mem_nil, or_false] at hb
  rcases hb with rfl | rfl
  · show typN 97; decide
  · exact h
theorem in_while {p q : UInt8 → Bool} (hpq : ∀ b, p b = true → q b = true) {m : List UInt8} {c : UInt8} {r : List UInt8} (hd : m.dropWhile p = c :: r) (hc : q c = true) : c ∈ m.takeWhile q := by
  induction m with
  | nil => simp at hd
  | cons b m ih =>
    by_cases hp : p b = true
    · rw [List.dropWhile_cons, if_pos hp] at hd
      rw [List.takeWhile_cons, if_pos (hpq b hp)]
      exact List.mem_cons_of_mem _ (ih hd)
    · rw [List.dropWhile_cons, if_neg hp] at hd
      injection hd with h1 _
      rw [h1, List.takeWhile_cons, if_pos hc]
      exact List.mem_cons_self ..
theorem tp_sgn (b : UInt8) (h : tpB b = true) : (! sgnB b) = true := by rw [typ_sgn (of_decide_eq_true h)]; rfl
theorem typR_eq2 (R : List UInt8) : typR R = if isTyp (R.takeWhile tpB) then (sgnP (R.dropWhile tpB)).map fun x => (R.takeWhile tpB, x.1, x.2) else none := by
  unfold typR
  rcases while_same (p := tpB) (q := (! sgnB ·)) tp_sgn R with ⟨h1, h2⟩ | ⟨c, r, hd, hc, hc2⟩
  · rw [h1, h2]
  · have hn : ¬ isTyp (R.takeWhile (! sgnB ·)) := fun ⟨_, _, _, h⟩ => by
      have := h c (in_while tp_sgn hd hc)
      rw [tpB, decide_eq_true this] at hc2
      cases hc2
    rw [if_neg hn, hd]
    have hs : sgnP (c :: r) = none := by
      have hc3 : sgnB c = false := by simpa using hc
      unfold sgnB at hc3
      simp only [Bool.or_eq_false_iff, beq_eq_false_iff_ne] at hc3
      obtain ⟨⟨⟨h61, h62⟩, h60⟩, h126⟩ := hc3
      refine sgnP_no (by simpa using h61) fun e he h => ?_
      have hce : c = e := by simpa using h.1
      subst hce
      rcases he with h | h | h
      · exact h126 h
      · exact h62 h
      · exact h60 h
    rw [hs]
    split <;> rfl
theorem ext_one {s : List UInt8} {j : Nat} {c : UInt8} (h : s.drop j = c :: s.drop (j + 1)) (m : Nat) (hm : m = j + 1) : (⟨s.toArray⟩ : ByteArray).extract j m = ⟨#[c]⟩ := by
  have := ext_mid s j (j + 1)
  rw [show j + 1 - j = 1 by omega, h] at this
  subst hm
  injection this
theorem sgn_fin {V : Option (List UInt8 × UInt8 × List UInt8)} {T s : List UInt8} {j : Nat} {c : UInt8} (hV : V = (sgnP (s.drop j)).map fun x => (T, x.1, x.2)) (hc : c = 126 ∨ c = 62 ∨ c = 60) (hd : (s.drop j).head? = some c) :
    ((s.drop (j + 1)).head? = some 61 → V = some (T, c, s.drop (j + 1 + 1))) ∧ (¬ (s.drop (j + 1)).head? = some 61 → V = none) := by
  have ht : (s.drop j).tail = s.drop (j + 1) := List.tail_drop
  refine ⟨fun h => ?_, fun h => ?_⟩
  · rw [hV, sgnP_two ⟨hd, by rw [ht]; exact h⟩ hc, List.drop_drop]; rfl
  · rw [hV, sgnP_no (fun e => by rw [hd] at e; injection e with e; rcases hc with rfl | rfl | rfl <;> revert e <;> decide) (fun d hd2 e => ?_)]
    · rfl
    · rw [ht] at e; exact h e.2
theorem sgn_fin2 {V : Option (List UInt8 × UInt8 × List UInt8)} {T s : List UInt8} {j : Nat} (hV : V = (sgnP (s.drop j)).map fun x => (T, x.1, x.2)) (h62 : ¬ (s.drop j).head? = some 62) (h60 : ¬ (s.drop j).head? = some 60) (h126 : ¬ (s.drop j).head? = some 126) :
    ((s.drop j).head? = some 61 → V = some (T, 61, s.drop (j + 1))) ∧ (¬ (s.drop j).head? = some 61 → V = none) := by
  refine ⟨fun h => ?_, fun h => ?_⟩
  · rw [hV, sgnP_eq h, List.drop_drop]; rfl
  · rw [hV, sgnP_no h (fun d hd e => ?_)]
    · rfl
    · rcases hd with rfl | rfl | rfl
      · exact h126 e.1
      · exact h62 e.1
      · exact h60 e.1
set_option maxHeartbeats 16000000 in
theorem rtyp_any {w : World} {g : Nat} {s : List UInt8} {k x : Nat} (h : R3 w g s k x) (hk : k ≤ s.length) (hl : s.length ≤ 1000000) :
    Calls Try.prog 46 #[.pointer (some ⟨g, 0, none⟩)] w fun e w' => ∃ (T : List UInt8) (c : UInt8) (j : Nat), e = .returned (.tuple #[sv T, bv c]) ∧ j ≤ s.length ∧ R3 w' g s j x ∧ Mod (fun b => b = g) w w' ∧
      ((typR (s.drop k) = none ∧ c = 0) ∨ (typR (s.drop k) = some (T, c, s.drop j) ∧ c ≠ 0 ∧ T.length ≤ 32)) := by
  have hsz := sv_size s
  obtain ⟨V, hV⟩ : ∃ V, V = typR (s.drop k) := ⟨_, rfl⟩
  rw [← hV]
  rw [typR_eq2] at hV
  replace hV := Lib.hid hV
  obtain ⟨c0, c1, c2⟩ := h.c
  go_enter Try.func46, Try.ntmps46
  go_wp2_with fail
  clear c0 c1 c2
  go_loopw [] (fun wr => ∃ j : Nat, k ≤ j ∧ j ≤ s.length ∧ Hid (TkP tpB s k j) ∧ R3 wr g s j x ∧ Mod (fun b => b = g) w wr) (fun wr => s.length - rdAt wr g)
  case atStart => exact ⟨k, Nat.le_refl _, hk, Lib.hid (TkP.start _ _ _), h, Mod.refl _ _⟩
  case round =>
    clear h
    obtain ⟨j, hj, hjl, hs, hr, hm⟩ := hrel
    obtain ⟨c0, c1, c2⟩ := hr.c
    have hat := hr.at_
    have hj0 : (0 : Int) ≤ (k : Int) := by omega
    have hj1 : (k : Int) ≤ (j : Int) := by omega
    have hj2 : (j : Int) ≤ (s.length : Int) := by omega
    by_cases hlt : j < s.length
    · have hb1 : decide ((j : Int) < (s.length : Int)) = true := dtrue (by omega)
      obtain ⟨c, hdr, hg⟩ := get_at hlt
      have hi0 : (0 : Int) ≤ (j : Int) := by omega
      have hi1 : (j : Int) < (s.length : Int) := by omega
      have hi2 : (j : Int) + 1 ≤ (s.length : Int) := by omega
      have hi3 : (j : Int) ≤ (j : Int) + 1 := by omega
      have hex1 := ext_one hdr (((j : Int) + 1).toNat) (by omega)
      have hex2 := ext_one hdr (j + 1) rfl
      have hcat : (⟨#[97]⟩ : ByteArray) ++ ⟨#[c]⟩ = ⟨#[97, c]⟩ := cat_data [97] [c]
      have hty := fun wx : World => rtype_any (w := wx) [97, c] (by simp)
      rw [tp_one] at hty
      replace hty : ∀ wx : World, Calls Try.prog 41 #[.string ⟨#[97, c]⟩] wx fun e w' => e = .returned (.bool (tpB c)) ∧ w' = wx := hty
      have hw1 : IntKind.i64.wrap ((j : Int) + 1) = (j : Int) + 1 := wrap_small _ (by omega) (by omega)
      have hgo := fun h => hs.out.next hj hlt hdr (c := c) h
      have hst := fun h => hs.out.stop hdr (c := c) h
      generalize tpB c = q at *
      replace hty := Lib.hid hty
      cases q
      case true =>
        have hT2 := Lib.hid (hgo rfl)
        clear hgo hst hdr
        go_wp2_with fail
        go_quiet ((go_at_call 41; (with_reducible refine Calls.quiet_of_same (hty.out _))))
        obtain ⟨w3, hw3⟩ : ∃ y7 : World, y7 = wr.drewN nq := ⟨_, rfl⟩
        rw [← hw3]
        have x3 : Ext wr w3 := by rw [hw3]; exact (Mod.refl _ wr).drewN nq
        clear hw3
        have hr3 := hr.mod x3 (fun h => h)
        have m3 : Mod (fun b => b = g) w w3 := hm.then_ x3 (fun _ _ h => h.elim)
        clear hr hm c0 c1 c2 x3 hs
        obtain ⟨c0, c1, c2⟩ := hr3.c
        have z1 : w3.frozen? ⟨g, 1, none⟩ = false := Blk.frozen hr3 1
        have hr4 := hr3.step (j + 1) ((j : Int) + 1) (by omega)
        go_wp2_with fail
        refine ⟨⟨j + 1, by omega, by omega, hT2, hr4, m3.setCell (p := ⟨g, 1, none⟩) (fun _ => rfl) _⟩, ?_⟩
        rw [hr4.at_, hat]; omega
      have hT := hst rfl
      clear hgo hst hdr
      go_wp2_with fail
      go_quiet ((go_at_call 41; (with_reducible refine Calls.quiet_of_same (hty.out _))))
      obtain ⟨w3, hw3⟩ : ∃ y7 : World, y7 = wr.drewN nq := ⟨_, rfl⟩
      rw [← hw3]
      have x3 : Ext wr w3 := by rw [hw3]; exact (Mod.refl _ wr).drewN nq
      clear hw3
      have hr3 := hr.mod x3 (fun h => h)
      have m3 : Mod (fun b => b = g) w w3 := hm.then_ x3 (fun _ _ h => h.elim)
      clear hr hm c0 c1 c2 x3 hs
      obtain ⟨c0, c1, c2⟩ := hr3.c
      clear hex1 hex2 hcat hg hty hi0 hi1 hi2 hi3 hw1 hb1
      go_wp2_with fail
      go_quiet (fail)
      obtain ⟨w4, hw4⟩ : ∃ y7 : World, y7 = w3.drewN nq := ⟨_, rfl⟩
      rw [← hw4]
      have x4 : Ext w3 w4 := by rw [hw4]; exact (Mod.refl _ w3).drewN nq
      clear hw4
      have hr4 := hr3.mod x4 (fun h => h)
      have m4 : Mod (fun b => b = g) w w4 := m3.then_ x4 (fun _ _ h => h.elim)
      clear hr3 m3 c0 c1 c2 x4
      obtain ⟨T, hTT⟩ : ∃ T, T = (s.drop k).take (j - k) := ⟨_, rfl⟩
      have hex : Value.string ((⟨s.toArray⟩ : ByteArray).extract k j) = sv T := by rw [hTT]; exact ext_mid s k j
      have hVe := hV.out
      rw [hT.1, ← hT.2, ← hTT] at hVe
      have hVn : ¬ isTyp T → V = none := fun h => by rw [hVe, if_neg h]
      have hVy : isTyp T → V = (sgnP (s.drop j)).map fun x => (T, x.1, x.2) := fun h => by rw [hVe, if_pos h]
      have hTl : T.length ≤ 1000000 := by rw [hTT, List.length_take, List.length_drop]; omega
      have hty2 := rtype_any (w := w4) T (by omega)
      have hT32 : isTyp T → T.length ≤ 32 := fun h => h.2.1
      replace hVn := Lib.hid hVn
      replace hVy := Lib.hid hVy
      replace hT32 := Lib.hid hT32
      clear hT hTT hV hVe
      by_cases hTy : isTyp T
      rotate_left
      · rw [dfalse hTy] at hty2
        have hVv := Lib.hid (hVn.out hTy)
        clear hVn hVy hT32 hTy
        go_wp2_with fail
        refine hty2.mono ?_
        rintro e w5 ⟨rfl, rfl⟩
        go_wp2_with fail
        go_ret2
        exact ⟨_, 0, j, rfl, hjl, hr4, m4, .inl ⟨hVv.out, rfl⟩⟩
      rw [dtrue hTy] at hty2
      have hVv := Lib.hid (hVy.out hTy)
      have hTb := hT32.out hTy
      clear hVn hVy hT32 hTy
      go_wp2_with fail
      refine hty2.mono ?_
      rintro e w5 ⟨rfl, rfl⟩
      clear hty2
      go_upto_block 2 with fail
      go_cut [6] (fun s6 wx => ∃ (c : UInt8) (i : Nat), s6 = bv c ∧ i ≤ s.length ∧ R3 wx g s i x ∧ Mod (fun b => b = g) w wx ∧ c ≠ 0 ∧ Hid (((s.drop i).head? = some 61 → V = some (T, c, s.drop (i + 1))) ∧ (¬ (s.drop i).head? = some 61 → V = none)))
      case first =>
        go_wp2_with fail
        refine (rsign_at hr4 hjl (by omega) 62 62 rfl).mono ?_
        rintro e w6 ⟨b1, rfl, hb1, hi1, r6, y6⟩
        have m6 := m4.then_ y6 (fun _ _ h => h)
        clear hr4 m4 y6
        cases b1
        case true =>
          replace r6 : R3 w6 g s (j + 1) x := r6
          replace hi1 : j + 1 ≤ s.length := hi1
          have hd := of_decide_eq_true hb1.symm
          have hfin : Hid (((s.drop (j + 1)).head? = some 61 → V = some (T, 62, s.drop (j + 1 + 1))) ∧ (¬ (s.drop (j + 1)).head? = some 61 → V = none)) := Lib.hid (sgn_fin hVv.out (.inr (.inl rfl)) hd)
          clear hb1 hd hVv
          go_wp2_with fail
          go_meet
          exact ⟨62, j + 1, rfl, hi1, r6, m6, by decide, hfin⟩
        replace r6 : R3 w6 g s j x := r6
        have n62 := of_decide_eq_false hb1.symm
        replace n62 := Lib.hid n62
        clear hb1
        go_wp2_with fail
        refine (rsign_at r6 hjl (by omega) 60 60 rfl).mono ?_
        rintro e w7 ⟨b1, rfl, hb1, hi1, r7, y7⟩
        have m7 := m6.then_ y7 (fun _ _ h => h)
        clear r6 m6 y7
        cases b1
        case true =>
          replace r7 : R3 w7 g s (j + 1) x := r7
          replace hi1 : j + 1 ≤ s.length := hi1
          have hd := of_decide_eq_true hb1.symm
          have hfin : Hid (((s.drop (j + 1)).head? = some 61 → V = some (T, 60, s.drop (j + 1 + 1))) ∧ (¬ (s.drop (j + 1)).head? = some 61 → V = none)) := Lib.hid (sgn_fin hVv.out (.inr (.inr rfl)) hd)
          clear hb1 hd hVv
          go_wp2_with fail
          go_meet
          exact ⟨60, j + 1, rfl, hi1, r7, m7, by decide, hfin⟩
        replace r7 : R3 w7 g s j x := r7
        have n60 := of_decide_eq_false hb1.symm
        replace n60 := Lib.hid n60
        clear hb1
        go_wp2_with fail
        refine (rsign_at r7 hjl (by omega) 126 126 rfl).mono ?_
        rintro e w8 ⟨b1, rfl, hb1, hi1, r8, y8⟩
        have m8 := m7.then_ y8 (fun _ _ h => h)
        clear r7 m7 y8
        cases b1
        case true =>
          replace r8 : R3 w8 g s (j + 1) x := r8
          replace hi1 : j + 1 ≤ s.length := hi1
          have hd := of_decide_eq_true hb1.symm
          have hfin : Hid (((s.drop (j + 1)).head? = some 61 → V = some (T, 126, s.drop (j + 1 + 1))) ∧ (¬ (s.drop (j + 1)).head? = some 61 → V = none)) := Lib.hid (sgn_fin hVv.out (.inl rfl) hd)
          clear hb1 hd hVv
          go_wp2_with fail
          go_meet
          exact ⟨126, j + 1, rfl, hi1, r8, m8, by decide, hfin⟩
        replace r8 : R3 w8 g s j x := r8
        have n126 := of_decide_eq_false hb1.symm
        have hfin : Hid (((s.drop j).head? = some 61 → V = some (T, 61, s.drop (j + 1))) ∧ (¬ (s.drop j).head? = some 61 → V = none)) := Lib.hid (sgn_fin2 hVv.out n62.out n60.out n126)
        clear hb1 hVv n62 n60 n126
        go_wp2_with fail
        go_meet
        exact ⟨61, j, rfl, hjl, r8, m8, by decide, hfin⟩
      case rest =>
        obtain ⟨c, i, rfl, hi, r6, m6, hc0, hfin⟩ := hcut
        clear hVv hr4 m4
        go_wp2_with fail
        refine (rsign_at r6 hi (by omega) 61 61 rfl).mono ?_
        rintro e w7 ⟨b1, rfl, hb1, hi1, r7, y7⟩
        have m7 := m6.then_ y7 (fun _ _ h => h)
        clear r6 m6 y7
        cases b1
        · replace r7 : R3 w7 g s i x := r7
          have hd := Lib.hid (hfin.out.2 (of_decide_eq_false hb1.symm))
          clear hfin hb1
          go_wp2_with fail
          go_ret2
          exact ⟨_, 0, i, rfl, hi, r7, m7, .inl ⟨hd.out, rfl⟩⟩
        · replace r7 : R3 w7 g s (i + 1) x := r7
          replace hi1 : i + 1 ≤ s.length := hi1
          have hd := Lib.hid (hfin.out.1 (of_decide_eq_true hb1.symm))
          clear hfin hb1
          go_wp2_with fail
          go_ret2
          exact ⟨T, c, i + 1, rfl, hi1, r7, m7, .inr ⟨hd.out, hc0, hTb⟩⟩
    · have hb1 : decide ((j : Int) < (s.length : Int)) = false := dfalse (by omega)
      have hT := hs.out.end_ (drop_end hlt)
      go_wp2_with fail
      go_quiet (fail)
      obtain ⟨w3, hw3⟩ : ∃ y7 : World, y7 = wr.drewN nq := ⟨_, rfl⟩
      rw [← hw3]
      have x3 : Ext wr w3 := by rw [hw3]; exact (Mod.refl _ wr).drewN nq
      clear hw3
      have hr3 := hr.mod x3 (fun h => h)
      have m3 : Mod (fun b => b = g) w w3 := hm.then_ x3 (fun _ _ h => h.elim)
      clear hr hm c0 c1 c2 x3 hs
      obtain ⟨c0, c1, c2⟩ := hr3.c
      clear hb1
      go_wp2_with fail
      go_quiet (fail)
      obtain ⟨w4, hw4⟩ : ∃ y7 : World, y7 = w3.drewN nq := ⟨_, rfl⟩
      rw [← hw4]
      have x4 : Ext w3 w4 := by rw [hw4]; exact (Mod.refl _ w3).drewN nq
      clear hw4
      have hr4 := hr3.mod x4 (fun h => h)
      have m4 : Mod (fun b => b = g) w w4 := m3.then_ x4 (fun _ _ h => h.elim)
      clear hr3 m3 c0 c1 c2 x4
      obtain ⟨T, hTT⟩ : ∃ T, T = (s.drop k).take (j - k) := ⟨_, rfl⟩
      have hex : Value.string ((⟨s.toArray⟩ : ByteArray).extract k j) = sv T := by rw [hTT]; exact ext_mid s k j
      have hVe := hV.out
      rw [hT.1, ← hT.2, ← hTT] at hVe
      have hVn : ¬ isTyp T → V = none := fun h => by rw [hVe, if_neg h]
      have hVy : isTyp T → V = (sgnP (s.drop j)).map fun x => (T, x.1, x.2) := fun h => by rw [hVe, if_pos h]
      have hTl : T.length ≤ 1000000 := by rw [hTT, List.length_take, List.length_drop]; omega
      have hty2 := rtype_any (w := w4) T (by omega)
      have hT32 : isTyp T → T.length ≤ 32 := fun h => h.2.1
      replace hVn := Lib.hid hVn
      replace hVy := Lib.hid hVy
      replace hT32 := Lib.hid hT32
      clear hT hTT hV hVe
      by_cases hTy : isTyp T
      rotate_left
      · rw [dfalse hTy] at hty2
        have hVv := Lib.hid (hVn.out hTy)
        clear hVn hVy hT32 hTy
        go_wp2_with fail
        refine hty2.mono ?_
        rintro e w5 ⟨rfl, rfl⟩
        go_wp2_with fail
        go_ret2
        exact ⟨_, 0, j, rfl, hjl, hr4, m4, .inl ⟨hVv.out, rfl⟩⟩
      rw [dtrue hTy] at hty2
      have hVv := Lib.hid (hVy.out hTy)
      have hTb := hT32.out hTy
      clear hVn hVy hT32 hTy
      go_wp2_with fail
      refine hty2.mono ?_
      rintro e w5 ⟨rfl, rfl⟩
      clear hty2
      go_upto_block 2 with fail
      go_cut [6] (fun s6 wx => ∃ (c : UInt8) (i : Nat), s6 = bv c ∧ i ≤ s.length ∧ R3 wx g s i x ∧ Mod (fun b => b = g) w wx ∧ c ≠ 0 ∧ Hid (((s.drop i).head? = some 61 → V = some (T, c, s.drop (i + 1))) ∧ (¬ (s.drop i).head? = some 61 → V = none)))
      case first =>
        go_wp2_with fail
        refine (rsign_at hr4 hjl (by omega) 62 62 rfl).mono ?_
        rintro e w6 ⟨b1, rfl, hb1, hi1, r6, y6⟩
        have m6 := m4.then_ y6 (fun _ _ h => h)
        clear hr4 m4 y6
        cases b1
        case true =>
          replace r6 : R3 w6 g s (j + 1) x := r6
          replace hi1 : j + 1 ≤ s.length := hi1
          have hd := of_decide_eq_true hb1.symm
          have hfin : Hid (((s.drop (j + 1)).head? = some 61 → V = some (T, 62, s.drop (j + 1 + 1))) ∧ (¬ (s.drop (j + 1)).head? = some 61 → V = none)) := Lib.hid (sgn_fin hVv.out (.inr (.inl rfl)) hd)
          clear hb1 hd hVv
          go_wp2_with fail
          go_meet
          exact ⟨62, j + 1, rfl, hi1, r6, m6, by decide, hfin⟩
        replace r6 : R3 w6 g s j x := r6
        have n62 := of_decide_eq_false hb1.symm
        replace n62 := Lib.hid n62
        clear hb1
        go_wp2_with fail
        refine (rsign_at r6 hjl (by omega) 60 60 rfl).mono ?_
        rintro e w7 ⟨b1, rfl, hb1, hi1, r7, y7⟩
        have m7 := m6.then_ y7 (fun _ _ h => h)
        clear r6 m6 y7
        cases b1
        case true =>
          replace r7 : R3 w7 g s (j + 1) x := r7
          replace hi1 : j + 1 ≤ s.length := hi1
          have hd := of_decide_eq_true hb1.symm
          have hfin : Hid (((s.drop (j + 1)).head? = some 61 → V = some (T, 60, s.drop (j + 1 + 1))) ∧ (¬ (s.drop (j + 1)).head? = some 61 → V = none)) := Lib.hid (sgn_fin hVv.out (.inr (.inr rfl)) hd)
          clear hb1 hd hVv
          go_wp2_with fail
          go_meet
          exact ⟨60, j + 1, rfl, hi1, r7, m7, by decide, hfin⟩
        replace r7 : R3 w7 g s j x := r7
        have n60 := of_decide_eq_false hb1.symm
        replace n60 := Lib.hid n60
        clear hb1
        go_wp2_with fail
        refine (rsign_at r7 hjl (by omega) 126 126 rfl).mono ?_
        rintro e w8 ⟨b1, rfl, hb1, hi1, r8, y8⟩
        have m8 := m7.then_ y8 (fun _ _ h => h)
        clear r7 m7 y8
        cases b1
        case true =>
          replace r8 : R3 w8 g s (j + 1) x := r8
          replace hi1 : j + 1 ≤ s.length := hi1
          have hd := of_decide_eq_true hb1.symm
          have hfin : Hid (((s.drop (j + 1)).head? = some 61 → V = some (T, 126, s.drop (j + 1 + 1))) ∧ (¬ (s.drop (j + 1)).head? = some 61 → V = none)) := Lib.hid (sgn_fin hVv.out (.inl rfl) hd)
          clear hb1 hd hVv
          go_wp2_with fail
          go_meet
          exact ⟨126, j + 1, rfl, hi1, r8, m8, by decide, hfin⟩
        replace r8 : R3 w8 g s j x := r8
        have n126 := of_decide_eq_false hb1.symm
        have hfin : Hid (((s.drop j).head? = some 61 → V = some (T, 61, s.drop (j + 1))) ∧ (¬ (s.drop j).head? = some 61 → V = none)) := Lib.hid (sgn_fin2 hVv.out n62.out n60.out n126)
        clear hb1 hVv n62 n60 n126
        go_wp2_with fail
        go_meet
        exact ⟨61, j, rfl, hjl, r8, m8, by decide, hfin⟩
      case rest =>
        obtain ⟨c, i, rfl, hi, r6, m6, hc0, hfin⟩ := hcut
        clear hVv hr4 m4
        go_wp2_with fail
        refine (rsign_at r6 hi (by omega) 61 61 rfl).mono ?_
        rintro e w7 ⟨b1, rfl, hb1, hi1, r7, y7⟩
        have m7 := m6.then_ y7 (fun _ _ h => h)
        clear r6 m6 y7
        cases b1
        · replace r7 : R3 w7 g s i x := r7
          have hd := Lib.hid (hfin.out.2 (of_decide_eq_false hb1.symm))
          clear hfin hb1
          go_wp2_with fail
          go_ret2
          exact ⟨_, 0, i, rfl, hi, r7, m7, .inl ⟨hd.out, rfl⟩⟩
        · replace r7 : R3 w7 g s (i + 1) x := r7
          replace hi1 : i + 1 ≤ s.length := hi1
          have hd := Lib.hid (hfin.out.1 (of_decide_eq_true hb1.symm))
          clear hfin hb1
          go_wp2_with fail
          go_ret2
          exact ⟨T, c, i + 1, rfl, hi1, r7, m7, .inr ⟨hd.out, hc0, hTb⟩⟩
end Go.Proofs.Ytekocbphdckmkaa
