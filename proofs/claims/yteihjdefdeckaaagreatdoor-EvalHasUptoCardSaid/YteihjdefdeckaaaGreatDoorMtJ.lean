/- match: Norm; pieces. -/
import Derived.Test.YteihjdefdeckaaaGreatDoorMtD
import Derived.Test.YteihjdefdeckaaaGreatDoorDnPU
import Derived.Test.YteihjdefdeckaaaGreatDoorStrB
import Derived.Shelf.Vars
namespace Go.Proofs.YteihjdefdeckaaaGreatDoor
open Go.RowKit
set_option maxRecDepth 100000

theorem name_wN {L : List Av} (h : isName L) : wN L ≤ 2000 := by
  obtain ⟨h1, h2⟩ := h
  have key : ∀ M : List Av, (∀ a ∈ M, okA a) → wN M ≤ M.length * 97 := by
    intro M
    induction M with
    | nil => intro _; simp [wN]
    | cons a M ih =>
      intro hM
      have h3 := hM a (by simp)
      have h4 := ih fun b hb => hM b (by simp [hb])
      have h5 := h3.1.2.1
      have h6 := h3.2.2
      rw [wN_cons, List.length_cons, Nat.succ_mul]
      omega
  have := key L h2
  omega
section
variable {w : World}
set_option maxHeartbeats 4000000 in
theorem mnorm_any (k : Int) (s : List UInt8) (hs : s.length ≤ 140737488351232) :
    Calls Tryz.prog 39 #[.int .i64 k, sv s] w fun e w' => e = .returned (.tuple #[sv (normM k s).1, .bool (normM k s).2]) ∧ Ext w w' := by
  have hsz := sv_size s
  by_cases hl : 256 < s.length
  · have hb : decide ((256 : Int) < (s.length : Int)) = true := dtrue (by omega)
    have hR : normM k s = ([], false) := by unfold normM; rw [if_pos hl]
    rw [hR]
    clear hR
    go_enter Tryz.func39, Tryz.ntmps39
    go_wp2_with fail
    go_ret2
    exact ⟨rfl, Mod.refl _ _⟩
  have hb : decide ((256 : Int) < (s.length : Int)) = false := dfalse (by omega)
  rw [normM_short (by omega)]
  by_cases h1 : k = 1
  · rw [if_pos h1]
    subst h1
    have hc := text_any (w := w) s hs
    generalize textB s = R at *
    go_enter Tryz.func39, Tryz.ntmps39
    go_wp2_with fail
    refine hc.mono ?_
    rintro e w1 ⟨rfl, x1⟩
    clear hc
    go_wp2_with fail
    go_ret2
    exact ⟨rfl, x1⟩
  have b1 : (k == 1) = false := by simpa using h1
  rw [if_neg h1]
  by_cases h2 : k = 2
  · rw [if_pos h2]
    subst h2
    have hc := number_any (w := w) s hs
    generalize numB s = R at *
    go_enter Tryz.func39, Tryz.ntmps39
    go_wp2_with fail
    refine hc.mono ?_
    rintro e w1 ⟨rfl, rfl⟩
    clear hc
    go_wp2_with fail
    go_ret2
    exact ⟨rfl, Mod.refl _ _⟩
  have b2 : (k == 2) = false := by simpa using h2
  rw [if_neg h2]
  by_cases h3 : k = 3
  · rw [if_pos h3]
    subst h3
    have hc := parse_any (w := w) s (by omega)
    have hn := parse_name (s := s)
    unfold nameB
    generalize parseB s = q at *
    obtain ⟨L, n⟩ := q
    by_cases h0 : n = 0
    · subst h0
      have hi := hn rfl
      have hw := name_wN hi
      have hw2 := norm_wN L
      rw [if_pos rfl]
      clear hn hi
      simp only at hc
      go_enter Tryz.func39, Tryz.ntmps39
      go_wp2_with fail
      refine hc.mono ?_
      rintro e w1 ⟨v1, rfl, o1, f1, x1⟩
      clear hc
      have hc2 := norm_any o1.rc (fits_of (by omega))
      go_wp2_with fail
      refine hc2.mono ?_
      rintro e w2 ⟨v2, rfl, o2, f2, x2⟩
      clear hc2
      have hc3 := printW_any o2.rc (by omega)
      go_wp2_with fail
      refine hc3.mono ?_
      rintro e w3 ⟨rfl, x3⟩
      clear hc3
      go_wp2_with fail
      go_ret2
      exact ⟨rfl, ext_trans x1 (ext_trans x2 x3)⟩
    · rw [if_neg h0]
      have b0 : ((n : Int) != 0) = true := by rw [bne_iff_ne]; omega
      clear hn
      simp only at hc
      go_enter Tryz.func39, Tryz.ntmps39
      go_wp2_with fail
      refine hc.mono ?_
      rintro e w1 ⟨v1, rfl, o1, f1, x1⟩
      clear hc
      go_wp2_with fail
      go_ret2
      exact ⟨rfl, x1⟩
  have b3 : (k == 3) = false := by simpa using h3
  rw [if_neg h3]
  by_cases h4 : k = 4
  · rw [if_pos h4]
    subst h4
    go_enter Tryz.func39, Tryz.ntmps39
    go_wp2_with fail
    go_ret2
    exact ⟨rfl, Mod.refl _ _⟩
  have b4 : (k == 4) = false := by simpa using h4
  rw [if_neg h4]
  by_cases h5 : k = 5
  · rw [if_pos h5]
    subst h5
    have hc := phone_any (w := w) s hs
    generalize bareB s = R at *
    have he := sv_empty R
    by_cases hR : R = []
    · subst hR
      go_enter Tryz.func39, Tryz.ntmps39
      go_wp2_with fail
      refine hc.mono ?_
      rintro e w1 ⟨rfl, x1⟩
      clear hc
      go_wp2_with fail
      go_ret2
      exact ⟨rfl, x1⟩
    · have bR : R.isEmpty = false := by cases R <;> simp at hR ⊢
      rw [decide_eq_false hR]
      clear hR
      go_enter Tryz.func39, Tryz.ntmps39
      go_wp2_with fail
      refine hc.mono ?_
      rintro e w1 ⟨rfl, x1⟩
      clear hc
      go_wp2_with fail
      go_ret2
      exact ⟨rfl, x1⟩
  have b5 : (k == 5) = false := by simpa using h5
  rw [if_neg h5]
  go_enter Tryz.func39, Tryz.ntmps39
  go_wp2_with fail
  go_ret2
  exact ⟨rfl, Mod.refl _ _⟩
theorem cat_l (a : UInt8) (b : List UInt8) : ((⟨#[a]⟩ : ByteArray) ++ ⟨b.toArray⟩) = ⟨([a] ++ b).toArray⟩ := cat_data [a] b
theorem cat_r (a : List UInt8) (b : UInt8) : ((⟨a.toArray⟩ : ByteArray) ++ ⟨#[b]⟩) = ⟨(a ++ [b]).toArray⟩ := cat_data a [b]
set_option maxHeartbeats 4000000 in
theorem squeeze_any (s : List UInt8) (hs : s.length ≤ 1000000) :
    Calls Tryz.prog 86 #[sv s] w fun e w' => e = .returned (sv (squB s)) ∧ Ext w w' := by
  have hsz := sv_size s
  have hc := fold_any (w := w) s (by omega)
  have hfl := foldB_len s
  have he := sv_empty s
  by_cases h0 : s = []
  · subst h0
    have hR : squB [] = [] := rfl
    rw [hR]
    go_enter Tryz.func86, Tryz.ntmps86
    go_wp2_with fail
    refine hc.mono ?_
    rintro e w1 ⟨rfl, x1⟩
    clear hc
    go_wp2_with fail
    go_ret
    exact ⟨rfl, x1⟩
  have hb : s.isEmpty = false := by cases s <;> simp at h0 ⊢
  have hpos : 0 < s.length := List.length_pos_iff.2 h0
  by_cases hF0 : foldB s = []
  · have hR : squB s = [32] := by unfold squB; rw [if_neg h0, if_pos hF0]
    rw [hR]
    rw [hF0] at hc
    clear hR hF0 hfl h0
    go_enter Tryz.func86, Tryz.ntmps86
    go_wp2_with fail
    refine hc.mono ?_
    rintro e w1 ⟨rfl, x1⟩
    clear hc
    go_wp2_with fail
    go_ret
    exact ⟨rfl, x1⟩
  obtain ⟨R, hR⟩ : ∃ R, R = squB s := ⟨_, rfl⟩
  rw [← hR]
  unfold squB at hR
  rw [if_neg h0, if_neg hF0] at hR
  have hbF : (foldB s).isEmpty = false := by cases h : foldB s <;> simp [h] at hF0 ⊢
  have heF := sv_empty (foldB s)
  have hlt : s.length - 1 < s.length := by omega
  rw [getD_at s hpos, getD_at s hlt] at hR
  obtain ⟨a, ha⟩ : ∃ a, a = s[0] := ⟨_, rfl⟩
  obtain ⟨z, hz⟩ : ∃ z, z = s[s.length - 1] := ⟨_, rfl⟩
  have g0 : ∀ h', (⟨s.toArray⟩ : ByteArray)[0]'h' = a := fun h' => (sv_get s 0 hpos h').trans ha.symm
  have g1 : ∀ h', (⟨s.toArray⟩ : ByteArray)[s.length - 1]'h' = z := fun h' => (sv_get s _ hlt h').trans hz.symm
  rw [← ha, ← hz] at hR
  generalize foldB s = F at *
  obtain ⟨m, hm⟩ : ∃ m, m = s.length - 1 := ⟨_, rfl⟩
  rw [← hm] at g1 hlt
  have hm2 : (s.length : Int) - 1 = (m : Int) := by omega
  have hm1 : (m : Int) < (s.length : Int) := by omega
  clear ha hz h0 hF0 hm
  replace hR := Lib.hid hR
  by_cases h32 : a = 32 <;> by_cases z32 : z = 32
  all_goals
    have ba : ((a.toNat : Int) == 32) = decide (a = 32) := by
      rw [Bool.eq_iff_iff, beq_iff_eq, decide_eq_true_iff]
      exact ⟨fun e => UInt8.toNat_inj.1 (by simpa using Int.ofNat_inj.1 e), fun e => by rw [e]; rfl⟩
    have bz : ((z.toNat : Int) == 32) = decide (z = 32) := by
      rw [Bool.eq_iff_iff, beq_iff_eq, decide_eq_true_iff]
      exact ⟨fun e => UInt8.toNat_inj.1 (by simpa using Int.ofNat_inj.1 e), fun e => by rw [e]; rfl⟩
    simp only [h32, z32, decide_true, decide_false] at ba bz
    have hR2 := hR.out
    simp only [h32, z32, if_true, if_false, List.nil_append, List.append_nil] at hR2
    have cl := cat_l 32 F
    have cr := cat_r F 32
    have cr2 := cat_r ([32] ++ F) 32
    replace hR2 := Lib.hid hR2
    clear hR
  all_goals
    go_enter Tryz.func86, Tryz.ntmps86
    go_wp2_with fail
    refine hc.mono ?_
    rintro e w1 ⟨rfl, x1⟩
    clear hc
    go_wp2_with fail
    go_ret
    rw [hR2.out]
    exact ⟨rfl, x1⟩
set_option maxHeartbeats 4000000 in
theorem piece_any (k : Int) (s : List UInt8) (hs : s.length ≤ 1000000) :
    Calls Tryz.prog 64 #[.int .i64 k, sv s] w fun e w' => e = .returned (sv (pieceM k s)) ∧ Ext w w' := by
  unfold pieceM
  by_cases h1 : k = 1
  · rw [if_pos h1]
    subst h1
    have hc := squeeze_any (w := w) s hs
    generalize squB s = R at *
    go_enter Tryz.func64, Tryz.ntmps64
    go_wp2_with fail
    refine hc.mono ?_
    rintro e w1 ⟨rfl, x1⟩
    clear hc
    go_wp2_with fail
    go_ret
    exact ⟨rfl, x1⟩
  have b1 : (k == 1) = false := by simpa using h1
  rw [if_neg h1]
  by_cases h5 : k = 5
  · rw [if_pos h5]
    subst h5
    have hc := phone_any (w := w) s (by omega)
    generalize bareB s = R at *
    go_enter Tryz.func64, Tryz.ntmps64
    go_wp2_with fail
    refine hc.mono ?_
    rintro e w1 ⟨rfl, x1⟩
    clear hc
    go_wp2_with fail
    go_ret
    exact ⟨rfl, x1⟩
  have b5 : (k == 5) = false := by simpa using h5
  rw [if_neg h5]
  go_enter Tryz.func64, Tryz.ntmps64
  go_wp2_with fail
  go_ret
  exact ⟨rfl, Mod.refl _ _⟩
set_option maxHeartbeats 4000000 in
theorem mequal_any (k : Int) (a b : List UInt8) (ha : a.length ≤ 140737488351232) (hb : b.length ≤ 140737488351232) :
    Calls Tryz.prog 40 #[.int .i64 k, sv a, sv b] w fun e w' => e = .returned (.bool (equalM k a b)) ∧ Ext w w' := by
  have hc := mnorm_any (w := w) k a ha
  have hc2 := fun w1 : World => mnorm_any (w := w1) k b hb
  obtain ⟨R, hR⟩ : ∃ R, R = equalM k a b := ⟨_, rfl⟩
  rw [← hR]
  unfold equalM at hR
  generalize normM k a = p at *
  generalize normM k b = q at *
  obtain ⟨x, ok⟩ := p
  obtain ⟨y, is⟩ := q
  simp only at hc hc2 hR
  replace hR := Lib.hid hR
  go_enter Tryz.func40, Tryz.ntmps40
  go_wp2_with fail
  refine hc.mono ?_
  rintro e w1 ⟨rfl, x1⟩
  clear hc
  go_wp2_with fail
  refine (hc2 w1).mono ?_
  rintro e w2 ⟨rfl, x2⟩
  clear hc2
  cases ok <;> cases is
  all_goals
    go_wp2_with fail
    go_ret
    rw [hR.out]
    exact ⟨rfl, ext_trans x1 x2⟩
end
end Go.Proofs.YteihjdefdeckaaaGreatDoor
namespace Go.Proofs.YteihjdefdeckaaaGreatDoor
open Go.RowKit
set_option maxRecDepth 100000

theorem mids_two : ∀ (A B : List (List UInt8)) (s : List UInt8), midsF s (A ++ B) = (midsF s A).bind fun r => midsF r B
  | [], B, s => rfl
  | p :: A, B, s => by
    simp only [List.cons_append, midsF]
    cases cutO s p with
    | none => rfl
    | some r => exact mids_two A B r
theorem mids_step {s r : List UInt8} {M : List (List UInt8)} {j : Nat} (hj : j < M.length) (h : midsF s (M.take j) = some r) : midsF s (M.take (j + 1)) = cutO r M[j] := by
  rw [List.take_succ_eq_append_getElem hj, mids_two, h]
  simp only [Option.bind_some, midsF]
  cases cutO r M[j] <;> rfl
theorem mids_stop {s r : List UInt8} {M : List (List UInt8)} {j : Nat} (hj : j < M.length) (h : midsF s (M.take j) = some r) (hn : cutO r M[j] = none) : midsF s M = none := by
  have h1 := mids_step hj h
  rw [← List.take_append_drop (j + 1) M, mids_two, h1, hn]
  rfl
theorem cutO_len {s p r : List UInt8} (h : cutO s p = some r) : r.length ≤ s.length := by
  obtain ⟨x, h1, _⟩ := cutO_some h
  rw [h1]
  simp only [List.length_append]
  omega
def midsL (k : Int) (L : List (List UInt8)) : List (List UInt8) := ((L.drop 1).take (L.length - 2)).map (pieceM k)
theorem midsL_len (k : Int) (L : List (List UInt8)) : (midsL k L).length = L.length - 2 := by
  unfold midsL
  rw [List.length_map, List.length_take, List.length_drop]
  omega
theorem midsL_get (k : Int) (L : List (List UInt8)) {j : Nat} (hj' : j < (midsL k L).length) (h2 : 1 + j < L.length) : (midsL k L)[j] = pieceM k L[1 + j] := by
  simp only [midsL, List.getElem_map, List.getElem_take, List.getElem_drop]
theorem getD_x (L : List (List UInt8)) {k : Nat} (h : k < L.length) : L.getD k [] = L[k] := by rw [List.getD_eq_getElem?_getD, List.getElem?_eq_getElem h]; rfl
section
variable {w : World} {S : Nat → Prop} {v : Value}
set_option maxHeartbeats 8000000 in
theorem msub_any (k : Int) (s : List UInt8) {L : List (List UInt8)} (hv : Ss w S v L) (hs : s.length ≤ 140737488351232) (hL : ∀ x ∈ L, x.length ≤ 1000000) (hm : Mxl w) :
    Calls Tryz.prog 42 #[.int .i64 k, sv s, v] w fun e w' => e = .returned (.tuple #[.bool (subM k s L).1, .bool (subM k s L).2]) ∧ Ext w w' := by
  obtain ⟨A, c, rfl, q1, q2, q3, q4⟩ := hv.open_
  have hc := mnorm_any (w := w) k s hs
  obtain ⟨R, hR⟩ : ∃ R, R = subM k s L := ⟨_, rfl⟩
  rw [← hR]
  unfold subM at hR
  have hnl : (normM k s).2 = true → s.length ≤ 256 := fun h => normM_len h
  have hnl2 : (normM k s).1.length ≤ 100000 ∨ (normM k s).2 = false ∨ ¬ (k = 1 ∨ k = 5 ∨ k = 4) := by
    cases h : (normM k s).2 with
    | false => exact .inr (.inl rfl)
    | true =>
      have hl := hnl h
      rw [normM_short hl]
      by_cases h1 : k = 1
      · left; rw [if_pos h1]; unfold textB; split
        · simp
        · exact Nat.le_trans (normV_len s) (by omega)
      by_cases h5 : k = 5
      · left; subst h5; simp only [show ¬ (5 : Int) = 1 by decide, show ¬ (5 : Int) = 2 by decide, show ¬ (5 : Int) = 3 by decide, show ¬ (5 : Int) = 4 by decide, if_false, if_true]; exact Nat.le_trans (bare_len s) (by omega)
      by_cases h4 : k = 4
      · left; subst h4; simp only [show ¬ (4 : Int) = 1 by decide, show ¬ (4 : Int) = 2 by decide, show ¬ (4 : Int) = 3 by decide, if_false, if_true]; omega
      · exact .inr (.inr (by simp [h1, h5, h4]))
  clear hnl hv
  generalize normM k s = p at *
  obtain ⟨x, ok⟩ := p
  simp only at hc hR hnl2
  replace hR := Lib.hid hR
  go_enter Tryz.func42, Tryz.ntmps42
  go_wp2_with fail
  refine hc.mono ?_
  rintro e w1 ⟨rfl, x1⟩
  clear hc
  cases ok with
  | false =>
    have hR2 := hR.out
    rw [if_pos (.inl rfl)] at hR2
    subst hR2
    clear hR
    go_wp2_with fail
    go_ret2
    exact ⟨rfl, x1⟩
  | true =>
  by_cases hl1 : L.length < 2
  · have hb : decide ((L.length : Int) < 2) = true := dtrue (by omega)
    have hR2 := hR.out
    rw [if_pos (.inr (.inl hl1))] at hR2
    subst hR2
    clear hR
    go_wp2_with fail
    go_ret2
    exact ⟨rfl, x1⟩
  have hb : decide ((L.length : Int) < 2) = false := dfalse (by omega)
  by_cases hl2 : 16 < L.length
  · have hb2 : decide ((16 : Int) < (L.length : Int)) = true := dtrue (by omega)
    have hR2 := hR.out
    rw [if_pos (.inr (.inr (.inl hl2)))] at hR2
    subst hR2
    clear hR
    go_wp2_with fail
    go_ret2
    exact ⟨rfl, x1⟩
  have hb2 : decide ((16 : Int) < (L.length : Int)) = false := dfalse (by omega)
  by_cases hk : k ≠ 1 ∧ k ≠ 5 ∧ k ≠ 4
  · have k1 : (k != 1) = true := bne_iff_ne.2 hk.1
    have k5 : (k != 5) = true := bne_iff_ne.2 hk.2.1
    have k4 : (k != 4) = true := bne_iff_ne.2 hk.2.2
    have hR2 := hR.out
    rw [if_pos (.inr (.inr (.inr hk)))] at hR2
    subst hR2
    clear hR hnl2
    go_wp2_with fail
    go_ret2
    exact ⟨rfl, x1⟩
  have hR2 := hR.out
  rw [if_neg (by rintro (h | h | h | h) <;> first | cases h; done | omega | exact hk h)] at hR2
  clear hR
  have hxl : x.length ≤ 100000 := by
    rcases hnl2 with h | h | h
    · exact h
    · cases h
    · exact absurd ⟨fun e => h (.inl e), fun e => h (.inr (.inl e)), fun e => h (.inr (.inr e))⟩ hk
  have hkk : (k = 1 ∨ k = 5 ∨ k = 4) := by
    by_cases h1 : k = 1
    · exact .inl h1
    by_cases h5 : k = 5
    · exact .inr (.inl h5)
    by_cases h4 : k = 4
    · exact .inr (.inr h4)
    exact absurd ⟨h1, h5, h4⟩ hk
  have hkb : ((k != 1) = false) ∨ ((k != 1) = true ∧ (k != 5) = false) ∨ ((k != 1) = true ∧ (k != 5) = true ∧ (k != 4) = false) := by
    by_cases h1 : k = 1
    · left; subst h1; rfl
    right
    by_cases h5 : k = 5
    · left; subst h5; exact ⟨rfl, rfl⟩
    right
    obtain rfl : k = 4 := by omega
    exact ⟨rfl, rfl, rfl⟩
  clear hk hkk hnl2 hs
  have h0l : 0 < L.length := by omega
  have hel : L.length - 1 < L.length := by omega
  unfold hasM hasP at hR2
  rw [getD_x L h0l, getD_x L hel] at hR2
  have hp0 := piece_any (w := w1) k L[0] (hL _ (List.getElem_mem h0l))
  have hpe := fun wx : World => piece_any (w := wx) k L[L.length - 1] (hL _ (List.getElem_mem hel))
  have hcells : ∀ {wx : World}, Ext w wx → Cells wx S A (L.map sv) := fun q => q4.mod q fun _ _ _ h => h
  obtain ⟨ad, hA, hS, c0⟩ := (hcells x1).at_ h0l
  subst hA
  have c00 : w1.cell? ad = some (sv L[0]) := by
    have hz : ad.add 0 = ad := by cases ad; simp [Addr.add]
    rw [hz] at c0
    exact c0
  have cE : ∀ {wx : World}, Ext w wx → wx.cell? (ad.add (L.length - 1)) = some (sv L[L.length - 1]) := fun q => by
    obtain ⟨ad', hA', _, c'⟩ := (hcells q).at_ hel
    cases hA'
    exact c'
  generalize pieceM k L[0] = a at *
  generalize pieceM k L[L.length - 1] = b at *
  obtain ⟨M, hM⟩ : ∃ M, M = midsL k L := ⟨_, rfl⟩
  have hMl : M.length = L.length - 2 := by rw [hM]; exact midsL_len k L
  have hMg : ∀ (j : Nat) (h : j < M.length) (h2 : 1 + j < L.length), M[j] = pieceM k L[1 + j] := fun j h h2 => by subst hM; exact midsL_get k L h h2
  rw [show ((L.drop 1).take (L.length - 2)).map (pieceM k) = M from hM.symm] at hR2
  clear hM
  have hcp := fun wx : World => cutp_any (w := wx) x a
  have hp : Lib.hasPrefix x a = a.isPrefixOf x := rfl
  have htp : Lib.trimPrefix x a = if Lib.hasPrefix x a = true then x.drop a.length else x := rfl
  have hj0 : (0 : Int) ≤ (L.length : Int) - 1 := by omega
  have hj1 : (1 : Int) ≤ (L.length : Int) - 1 := by omega
  have hj2 : (L.length : Int) - 1 ≤ (c : Int) := by omega
  have hi0 : (0 : Int) < (L.length : Int) := by omega
  replace hMl := Lib.hid hMl
  replace hMg := Lib.hid hMg
  rw [← hp] at hR2
  generalize Lib.hasPrefix x a = pf at *
  clear hp
  cases pf with
  | false =>
    simp only [Bool.false_and] at hR2
    subst hR2
    clear hMl hMg hpe hcells cE
    rcases hkb with k1 | ⟨k1, k5⟩ | ⟨k1, k5, k4⟩
    all_goals
      go_wp2_with fail
      refine hp0.mono ?_
      rintro e w2 ⟨rfl, x2⟩
      have hcp2 := hcp w2
      clear hp0 hcp
      go_wp2_with fail
      refine hcp2.mono ?_
      rintro e w3 ⟨rfl, rfl⟩
      clear hcp2
      go_wp2_with fail
      go_ret2
      exact ⟨rfl, ext_trans x1 x2⟩
  | true =>
    rw [if_pos rfl] at htp
    rw [htp] at hcp
    clear htp
    have hyl : (x.drop a.length).length ≤ 100000 := by rw [List.length_drop]; omega
    simp only [Bool.true_and] at hR2
    generalize x.drop a.length = y at *
    rcases hkb with k1 | ⟨k1, k5⟩ | ⟨k1, k5, k4⟩
    all_goals
      go_wp2_with fail
      refine hp0.mono ?_
      rintro e w2 ⟨rfl, x2⟩
      have hcp2 := hcp w2
      clear hp0 hcp
      go_wp2_with fail
      refine hcp2.mono ?_
      rintro e w3 ⟨rfl, rfl⟩
      clear hcp2
      go_wp2_with fail
      generalize hmm : L.length - 1 - 1 = m at *
      have hmM : M.length = m := by have h := hMl.out; omega
      replace hmm := Lib.hid hmm
      replace hmM := Lib.hid hmM
      replace hR2 := Lib.hid hR2
      have y3 := ext_trans x1 x2
      have hmx := hm.ext y3
      clear x1 x2 c0 c00 q4
      go_loopw [8, 60] (fun r i wr => ∃ (j : Nat) (z : List UInt8), j ≤ m ∧ i = .int .i64 j ∧ r = sv z ∧ z.length ≤ 100000 ∧ Hid (midsF y (M.take j) = some z) ∧ Ext w3 wr) (fun _ i _ => m - (intOf i).toNat)
      case atStart => exact ⟨0, y, Nat.zero_le _, rfl, rfl, hyl, Lib.hid (by simp [midsF]), Mod.refl _ _⟩
      case round =>
        obtain ⟨j, z, hj, rfl, rfl, hzl, hz, hx⟩ := hrel
        have yx := ext_trans y3 hx
        by_cases hlt : j < m
        case neg =>
          have hbl : decide ((j : Int) < (m : Int)) = false := dfalse (by omega)
          have hze := hz.out
          rw [List.take_of_length_le (by rw [hmM.out]; omega)] at hze
          have hR3 := hR2.out
          rw [hze] at hR3
          have cE1 := cE yx
          have hpw := hpe wr
          have hhs := fun wx : World => hass_any (w := wx) z b (by omega)
          have hhe : Lib.hasSuffix z b = b.isSuffixOf z := rfl
          rw [hhe] at hhs
          have hw1 : (L.length : Int) - 1 < (L.length : Int) := by omega
          have hcE2 : wr.cell? (ad.add ((L.length : Int) - 1).toNat) = some (sv L[L.length - 1]) := by rw [show ((L.length : Int) - 1).toNat = L.length - 1 by omega]; exact cE1
          clear hz hze hR2 cE hpe hcells hMg hMl
          go_wp2_with fail
          refine hpw.mono ?_
          rintro e w4 ⟨rfl, x4⟩
          clear hpw
          go_wp2_with fail
          refine (hhs w4).mono ?_
          rintro e w5 ⟨rfl, rfl⟩
          clear hhs
          go_wp2_with fail
          go_ret2
          rw [hR3]
          exact ⟨rfl, ext_trans yx x4⟩
        have hbl : decide ((j : Int) < (m : Int)) = true := dtrue (by omega)
        have hj2 : 1 + j < L.length := by have := hmm.out; omega
        have hjM : j < M.length := by rw [hmM.out]; exact hlt
        obtain ⟨ad', hA', _, c1⟩ := (hcells yx).at_ hj2
        cases hA'
        rw [show ad.add (1 + j) = (⟨ad.block, ad.off + 1 + j, none⟩ : Addr) by simp [Addr.add, Nat.add_assoc]] at c1
        have hpj := piece_any (w := wr) k L[1 + j] (hL _ (List.getElem_mem hj2))
        rw [← hMg.out j hjM hj2] at hpj
        have hst := mids_step hjM hz.out
        have hsp := fun hn => mids_stop hjM hz.out hn
        have hji0 : (0 : Int) ≤ (j : Int) := by omega
        have hji1 : (j : Int) < (m : Int) := by omega
        generalize M[j] = P at *
        generalize L[1 + j] = l1 at *
        have hcu := fun (wx : World) (q : Ext wr wx) => cut_any (w := wx) z P (by omega) ((hmx.ext hx).ext q)
        cases hco : cutO z P with
        | none =>
          have h2 := cut_none hco
          have hR3 := hR2.out
          rw [hsp hco] at hR3
          rw [h2] at hcu
          clear hst hsp h2 hco hz hR2 cE hpe hcells hMg hMl
          go_wp2_with fail
          refine hpj.mono ?_
          rintro e w4 ⟨rfl, x4⟩
          have hcw := hcu w4 x4
          clear hpj hcu
          go_wp2_with fail
          refine hcw.mono ?_
          rintro e w5 ⟨rfl, n5, rfl⟩
          clear hcw
          go_wp2_with fail
          go_ret2
          rw [hR3]
          exact ⟨rfl, (ext_trans yx x4).drewN n5⟩
        | some r =>
          obtain ⟨h1, h2⟩ := cut_some hco
          rw [h1, h2] at hcu
          have hrl := cutO_len hco
          rw [hco] at hst
          replace hst := Lib.hid hst
          clear hsp h1 h2 hco hz hMg hMl
          go_wp2_with fail
          refine hpj.mono ?_
          rintro e w4 ⟨rfl, x4⟩
          have hcw := hcu w4 x4
          clear hpj hcu
          go_wp2_with fail
          refine hcw.mono ?_
          rintro e w5 ⟨rfl, n5, rfl⟩
          clear hcw
          go_wp2_with fail
          exact ⟨⟨j + 1, r, by omega, by go_num, rfl, by omega, hst, (ext_trans hx x4).drewN n5⟩, by simp [intOf] <;> omega⟩
end
end Go.Proofs.YteihjdefdeckaaaGreatDoor
namespace Go.Proofs.YteihjdefdeckaaaGreatDoor
open Go.RowKit
set_option maxRecDepth 100000

theorem mxl_of {W : World} (h : W.ShapedOpen Tryz.prog) : Mxl W := Go.Proofs.cell_of_shapedOpen_int (zero := #[.int .i64 0]) (t := 3) h (of_decide_eq_true (by kernel_rfl)) (by kernel_rfl) rfl (by kernel_rfl) (by kernel_rfl) Tryz.underlying3
def hvy (n : Nat) (L : List (List UInt8)) : Prop := ∀ x ∈ L, x.length ≤ n
def Hv15 (L : List (List UInt8)) (w : World) (e : Ending) (w' : World) : Prop := ∃ q : Bool, e = .returned (.bool q) ∧ (q = false → hvy 1500 L) ∧ w' = w
section
variable {w : World} {S : Nat → Prop} {v : Value}
abbrev kJohn : List UInt8 := [74, 111, 104, 110, 32, 83, 109, 105, 116, 104]
abbrev kSubs : List (List UInt8) := [[106, 111], [110, 32, 115], [116, 104]]
theorem sub_john : subM 1 kJohn kSubs = (true, true) := by decide +kernel
theorem equal_ab : equalM 1 [32, 65, 32, 32, 98] [97, 32, 66] = true := by decide +kernel
theorem ss_one (w : World) (s : List UInt8) : Ss (w.alloc (.cells #[sv s] 9)) (fun k => k = w.heap.size) (.slice (some ⟨w.heap.size, 0, none⟩) 1 1) [s] := Sl.one w 9 (sv s)
theorem sub_bytes {s : List UInt8} {L : List (List UInt8)} (hs : s.length ≤ 256) (h1 : 2 ≤ L.length) (h2 : L.length ≤ 16) : subM 4 s L = (hasP s (L.getD 0 []) ((L.drop 1).take (L.length - 2)) (L.getD (L.length - 1) []), true) := by
  have hn : normM 4 s = (s, true) := by rw [normM_short hs]; rfl
  have hp : pieceM 4 = id := rfl
  unfold subM hasM
  rw [hn, if_neg (by rintro (h | h | h | h) <;> first | cases h; done | omega), hp, List.map_id]
  rfl
theorem whole1 (s : List UInt8) (hs : s.length ≤ 256) : subM 4 s [s, []] = (true, true) := by
  rw [sub_bytes hs (by simp) (by simp)]
  simp [hasP, midsF]
theorem whole2 (s : List UInt8) (hs : s.length ≤ 256) : subM 4 s [[], s] = (true, true) := by
  rw [sub_bytes hs (by simp) (by simp)]
  simp [hasP, midsF]
theorem whole3 (s : List UInt8) (hs : s.length ≤ 256) (f t : Nat) (hf : f < t) (_ht : t ≤ s.length) : subM 4 s [[], (s.drop f).take (t - f), []] = (true, true) := by
  rw [sub_bytes hs (by simp) (by simp)]
  obtain ⟨r, h1, _⟩ := mids_has (s := s) (p := (s.drop f).take (t - f)) (y := s.take f) (z := s.drop t) (ps := []) (r0 := s.drop t) (by
    rw [List.append_assoc]
    have h2 : (s.drop f).take (t - f) ++ s.drop t = s.drop f := by
      have h3 : s.drop t = (s.drop f).drop (t - f) := by rw [List.drop_drop, show f + (t - f) = t by omega]
      rw [h3, List.take_append_drop]
    rw [h2, List.take_append_drop]) rfl
  have e : hasP s [] [(s.drop f).take (t - f)] [] = true := by
    unfold hasP
    simp only [List.length_nil, List.drop_zero, h1]
    simp
  exact congrArg (fun b => (b, true)) e
theorem whole4 (s : List UInt8) (hs : s.length ≤ 256) : subM 4 s [s, [120]] = (false, true) := by
  rw [sub_bytes hs (by simp) (by simp)]
  simp [hasP, midsF]
end
end Go.Proofs.YteihjdefdeckaaaGreatDoor
namespace Go.Proofs.YteihjdefdeckaaaGreatDoor
open Go.RowKit
set_option maxRecDepth 100000

theorem body_cons (c : UInt8) (d : List UInt8) : bodyN (c :: d) = if c = 45 then d else c :: d := rfl
section
variable {w : World}
set_option maxHeartbeats 8000000 in
theorem rnumber_any (s : List UInt8) (hs : s.length ≤ 140737488351232) :
    Calls Tryz.prog 67 #[sv s] w fun e w' => e = .returned (.tuple #[sv (numB s).1, .bool (numB s).2]) ∧ w' = w := by
  have hsz := sv_size s
  have hes := sv_empty s
  by_cases h0 : s = []
  · subst h0
    have hR : numB [] = ([], false) := rfl
    rw [hR]
    go_enter Tryz.func67, Tryz.ntmps67
    go_wp2_with fail
    go_ret2
    exact ⟨rfl, rfl⟩
  have hbe : s.isEmpty = false := by cases s <;> simp at h0 ⊢
  have hpos : 0 < s.length := List.length_pos_iff.2 h0
  obtain ⟨R, hR⟩ : ∃ R, R = numB s := ⟨_, rfl⟩
  rw [← hR]
  obtain ⟨cs, hcs⟩ : ∃ cs, cs = s[0] := ⟨_, rfl⟩
  have hgs : ∀ h', (⟨s.toArray⟩ : ByteArray)[0]'h' = cs := fun h' => (sv_get s 0 hpos h').trans hcs.symm
  have hb45 : ((cs.toNat : Int) == 45) = decide (cs = 45) := by
    rw [Bool.eq_iff_iff, beq_iff_eq, decide_eq_true_iff]
    exact ⟨fun e => UInt8.toNat_inj.1 (by simpa using Int.ofNat_inj.1 e), fun e => by rw [e]; rfl⟩
  have hcons : s = cs :: s.drop 1 := by rw [hcs, ← List.drop_eq_getElem_cons hpos, List.drop_zero]
  have hi0 : (0 : Int) < (s.length : Int) := by omega
  have hi1 : (1 : Int) ≤ (s.length : Int) := by omega
  by_cases h45 : cs = 45
  · obtain ⟨d, hd⟩ : ∃ d, d = bodyN s := ⟨_, rfl⟩
    have hd2 : d = s.drop 1 := by
      rw [hd]
      conv => lhs; rw [hcons, body_cons, if_pos h45]
    have hno := fun h => hR.trans (isNum_no hd h)
    have hyes := fun h1 h2 h3 h4 => hR.trans (isNum_yes hd h1 h2 h3 h4)
    have hex := ext_sv s 1 s.length
    rw [List.take_of_length_le (by rw [List.length_drop]; omega), ← hd2] at hex
    rw [decide_eq_true h45] at hb45
    replace hno := Lib.hid hno
    replace hyes := Lib.hid hyes
    have hdz := sv_size d
    clear hR hd hd2 hcons h45 hcs h0
    go_enter Tryz.func67, Tryz.ntmps67
    by_cases h1 : d.length < 1
    · have hb : decide ((d.length : Int) < 1) = true := dtrue (by omega)
      obtain rfl := hno.out (.inl h1)
      go_wp2_with fail
      go_ret2
      exact ⟨rfl, rfl⟩
    have hb : decide ((d.length : Int) < 1) = false := dfalse (by omega)
    by_cases h2 : 18 < d.length
    · have hb2 : decide ((18 : Int) < (d.length : Int)) = true := dtrue (by omega)
      obtain rfl := hno.out (.inr (.inl h2))
      go_wp2_with fail
      go_ret2
      exact ⟨rfl, rfl⟩
    have hb2 : decide ((18 : Int) < (d.length : Int)) = false := dfalse (by omega)
    have hdpos : 0 < d.length := by omega
    have h0 : d.getD 0 0 = d[0] := getD_at d hdpos
    obtain ⟨c0, hc0⟩ : ∃ c0, c0 = d[0] := ⟨_, rfl⟩
    have hg0 : ∀ h', (⟨d.toArray⟩ : ByteArray)[0]'h' = c0 := fun h' => (sv_get d 0 hdpos h').trans hc0.symm
    rw [h0, ← hc0] at hno hyes
    have hi00 : (0 : Int) < (d.length : Int) := by omega
    clear h0 hc0
    have hz48 : ((c0.toNat : Int) == 48) = decide (c0 = 48) := by
      rw [Bool.eq_iff_iff, beq_iff_eq, decide_eq_true_iff]
      exact ⟨fun e => UInt8.toNat_inj.1 (by simpa using Int.ofNat_inj.1 e), fun e => by rw [e]; rfl⟩
    by_cases hbad : c0 = 48 ∧ 1 < s.length
    · have hb3 : ((c0.toNat : Int) == 48) = true := by rw [hz48]; exact decide_eq_true hbad.1
      have hb4 : decide ((1 : Int) < (s.length : Int)) = true := dtrue (by omega)
      obtain rfl := hno.out (.inr (.inr (.inr hbad)))
      clear hz48 hbad hno hyes
      go_wp2_with fail
      go_ret2
      exact ⟨rfl, rfl⟩
    have hb34 : (((c0.toNat : Int) == 48) = false) ∨ (((c0.toNat : Int) == 48) = true ∧ decide ((1 : Int) < (s.length : Int)) = false) := by
      by_cases h : c0 = 48
      · exact .inr ⟨by rw [hz48]; exact decide_eq_true h, dfalse (fun hh => hbad ⟨h, by omega⟩)⟩
      · exact .inl (by rw [hz48]; exact decide_eq_false h)
    clear hz48
    rcases hb34 with hb3 | ⟨hb3, hb4⟩
    all_goals
      go_wp2_with fail
      go_loop [5] (fun i => ∃ k : Nat, k ≤ d.length ∧ i = .int .i64 k ∧ Hid ((d.take k).all digB9 = true)) (fun i => d.length - (intOf i).toNat)
      case atStart => exact ⟨0, Nat.zero_le _, rfl, Lib.hid (by simp)⟩
      case round =>
        obtain ⟨k, hk, rfl, hall⟩ := hrel
        by_cases hlt : k < d.length
        · have hbl : decide ((k : Int) < (d.length : Int)) = true := dtrue (by omega)
          have hsn := all_snoc hlt
          have hnn := all_no hlt
          obtain ⟨c, hck⟩ : ∃ c, c = d[k] := ⟨_, rfl⟩
          have hg : ∀ h', (⟨d.toArray⟩ : ByteArray)[k]'h' = c := fun h' => (sv_get d k hlt h').trans hck.symm
          have hki0 : (0 : Int) ≤ (k : Int) := by omega
          have hki1 : (k : Int) < (d.length : Int) := by omega
          rw [← hck] at hsn hnn
          clear hck
          have hdc : digB9 c = decide (48 ≤ c.toNat ∧ c.toNat ≤ 57) := rfl
          by_cases hlo : c.toNat < 48
          · have b1 : decide ((c.toNat : Int) < 48) = true := dtrue (by omega)
            obtain rfl := hno.out (.inr (.inr (.inl (hnn (by rw [hdc]; exact decide_eq_false (by omega))))))
            clear hsn hnn hdc
            go_wp2_with fail
            go_ret2
            exact ⟨rfl, rfl⟩
          have b1 : decide ((c.toNat : Int) < 48) = false := dfalse (by omega)
          by_cases hhi : 57 < c.toNat
          · have b2 : decide ((57 : Int) < (c.toNat : Int)) = true := dtrue (by omega)
            obtain rfl := hno.out (.inr (.inr (.inl (hnn (by rw [hdc]; exact decide_eq_false (by omega))))))
            clear hsn hnn hdc
            go_wp2_with fail
            go_ret2
            exact ⟨rfl, rfl⟩
          have b2 : decide ((57 : Int) < (c.toNat : Int)) = false := dfalse (by omega)
          have hx : Hid ((d.take (k + 1)).all digB9 = true) := Lib.hid (by rw [hsn, hall.out, hdc]; simp; omega)
          clear hsn hnn hdc
          go_wp2_with fail
          go_round
          case rel => exact ⟨k + 1, by omega, by go_num, hx⟩
          case measure => simp [intOf]; omega
        · have hbl : decide ((k : Int) < (d.length : Int)) = false := dfalse (by omega)
          have ha2 : Hid (d.all digB9 = true) := Lib.hid (by have := hall.out; rwa [List.take_of_length_le (by omega)] at this)
          have hx := hyes.out (by omega) (by omega) ha2.out hbad
          subst hx
          clear hall hno hyes ha2
          go_wp2_with fail
          go_ret2
          exact ⟨rfl, rfl⟩
  · have hd : s = bodyN s := by
      conv => rhs; rw [hcons, body_cons, if_neg h45, ← hcons]
    have hno := fun h => hR.trans (isNum_no hd h)
    have hyes := fun h1 h2 h3 h4 => hR.trans (isNum_yes hd h1 h2 h3 h4)
    rw [decide_eq_false h45] at hb45
    replace hno := Lib.hid hno
    replace hyes := Lib.hid hyes
    clear hR hd hcons h45 h0
    replace hcs := Lib.hid hcs
    go_enter Tryz.func67, Tryz.ntmps67
    by_cases h1 : s.length < 1
    · have hb : decide ((s.length : Int) < 1) = true := dtrue (by omega)
      obtain rfl := hno.out (.inl h1)
      go_wp2_with fail
      go_ret2
      exact ⟨rfl, rfl⟩
    have hb : decide ((s.length : Int) < 1) = false := dfalse (by omega)
    by_cases h2 : 18 < s.length
    · have hb2 : decide ((18 : Int) < (s.length : Int)) = true := dtrue (by omega)
      obtain rfl := hno.out (.inr (.inl h2))
      go_wp2_with fail
      go_ret2
      exact ⟨rfl, rfl⟩
    have hb2 : decide ((18 : Int) < (s.length : Int)) = false := dfalse (by omega)
    have hdpos : 0 < s.length := by omega
    have h0 : s.getD 0 0 = s[0] := getD_at s hdpos
    obtain ⟨c0, hc0⟩ : ∃ c0, c0 = s[0] := ⟨_, rfl⟩
    have hg0 : ∀ h', (⟨s.toArray⟩ : ByteArray)[0]'h' = c0 := fun h' => (sv_get s 0 hdpos h').trans hc0.symm
    rw [h0, ← hc0] at hno hyes
    have hi00 : (0 : Int) < (s.length : Int) := by omega
    obtain rfl : c0 = cs := hc0.trans hcs.out.symm
    clear h0 hc0 hcs
    have hz48 : ((c0.toNat : Int) == 48) = decide (c0 = 48) := by
      rw [Bool.eq_iff_iff, beq_iff_eq, decide_eq_true_iff]
      exact ⟨fun e => UInt8.toNat_inj.1 (by simpa using Int.ofNat_inj.1 e), fun e => by rw [e]; rfl⟩
    by_cases hbad : c0 = 48 ∧ 1 < s.length
    · have hb3 : ((c0.toNat : Int) == 48) = true := by rw [hz48]; exact decide_eq_true hbad.1
      have hb4 : decide ((1 : Int) < (s.length : Int)) = true := dtrue (by omega)
      obtain rfl := hno.out (.inr (.inr (.inr hbad)))
      clear hz48 hbad hno hyes
      go_wp2_with fail
      go_ret2
      exact ⟨rfl, rfl⟩
    have hb34 : (((c0.toNat : Int) == 48) = false) ∨ (((c0.toNat : Int) == 48) = true ∧ decide ((1 : Int) < (s.length : Int)) = false) := by
      by_cases h : c0 = 48
      · exact .inr ⟨by rw [hz48]; exact decide_eq_true h, dfalse (fun hh => hbad ⟨h, by omega⟩)⟩
      · exact .inl (by rw [hz48]; exact decide_eq_false h)
    clear hz48
    rcases hb34 with hb3 | ⟨hb3, hb4⟩
    all_goals
      go_wp2_with fail
      go_loop [5] (fun i => ∃ k : Nat, k ≤ s.length ∧ i = .int .i64 k ∧ Hid ((s.take k).all digB9 = true)) (fun i => s.length - (intOf i).toNat)
      case atStart => exact ⟨0, Nat.zero_le _, rfl, Lib.hid (by simp)⟩
      case round =>
        obtain ⟨k, hk, rfl, hall⟩ := hrel
        by_cases hlt : k < s.length
        · have hbl : decide ((k : Int) < (s.length : Int)) = true := dtrue (by omega)
          have hsn := all_snoc hlt
          have hnn := all_no hlt
          obtain ⟨c, hck⟩ : ∃ c, c = s[k] := ⟨_, rfl⟩
          have hg : ∀ h', (⟨s.toArray⟩ : ByteArray)[k]'h' = c := fun h' => (sv_get s k hlt h').trans hck.symm
          have hki0 : (0 : Int) ≤ (k : Int) := by omega
          have hki1 : (k : Int) < (s.length : Int) := by omega
          rw [← hck] at hsn hnn
          clear hck
          have hdc : digB9 c = decide (48 ≤ c.toNat ∧ c.toNat ≤ 57) := rfl
          by_cases hlo : c.toNat < 48
          · have b1 : decide ((c.toNat : Int) < 48) = true := dtrue (by omega)
            obtain rfl := hno.out (.inr (.inr (.inl (hnn (by rw [hdc]; exact decide_eq_false (by omega))))))
            clear hsn hnn hdc
            go_wp2_with fail
            go_ret2
            exact ⟨rfl, rfl⟩
          have b1 : decide ((c.toNat : Int) < 48) = false := dfalse (by omega)
          by_cases hhi : 57 < c.toNat
          · have b2 : decide ((57 : Int) < (c.toNat : Int)) = true := dtrue (by omega)
            obtain rfl := hno.out (.inr (.inr (.inl (hnn (by rw [hdc]; exact decide_eq_false (by omega))))))
            clear hsn hnn hdc
            go_wp2_with fail
            go_ret2
            exact ⟨rfl, rfl⟩
          have b2 : decide ((57 : Int) < (c.toNat : Int)) = false := dfalse (by omega)
          have hx : Hid ((s.take (k + 1)).all digB9 = true) := Lib.hid (by rw [hsn, hall.out, hdc]; simp; omega)
          clear hsn hnn hdc
          go_wp2_with fail
          go_round
          case rel => exact ⟨k + 1, by omega, by go_num, hx⟩
          case measure => simp [intOf]; omega
        · have hbl : decide ((k : Int) < (s.length : Int)) = false := dfalse (by omega)
          have ha2 : Hid (s.all digB9 = true) := Lib.hid (by have := hall.out; rwa [List.take_of_length_le (by omega)] at this)
          have hx := hyes.out (by omega) (by omega) ha2.out hbad
          subst hx
          clear hall hno hyes ha2
          go_wp2_with fail
          go_ret2
          exact ⟨rfl, rfl⟩
set_option maxHeartbeats 4000000 in
theorem rbare_any (s : List UInt8) (hl : s.length ≤ 140737488351232) :
    Calls Tryz.prog 71 #[sv s] w fun e w' => e = .returned (sv (bareB s)) ∧ Ext w w' := by
  have hsz := sv_size s
  obtain ⟨O, hO⟩ : ∃ O, O = bareB s := ⟨_, rfl⟩
  rw [← hO]
  replace hO := Lib.hid hO
  go_enter Tryz.func71, Tryz.ntmps71
  go_wp2_with fail
  go_loopw [3, 4] (fun v i wr => ∃ k : Nat, k ≤ s.length ∧ i = .int .i64 k ∧ Own wr 5 v ((bareB (s.take k)).map bv) ∧ Fresh w.heap.size v ∧ Ext w wr) (fun _ i _ => s.length - (intOf i).toNat)
  case atStart => exact ⟨0, Nat.zero_le _, rfl, by simpa [bareB] using Own.nil _ _, fresh_nil _ _ _, Mod.refl _ _⟩
  case round =>
    obtain ⟨k, hk, rfl, p1, p2, p3⟩ := hrel
    by_cases hlt : k < s.length
    · have hbl : decide ((k : Int) < (s.length : Int)) = true := dtrue (by omega)
      have hsn := bare_snoc s hlt
      have hol := bare_len (s.take k)
      simp only [List.length_take] at hol
      have hki0 : (0 : Int) ≤ (k : Int) := by omega
      have hki1 : (k : Int) < (s.length : Int) := by omega
      obtain ⟨c, hck⟩ : ∃ c, c = s[k] := ⟨_, rfl⟩
      have hg : ∀ h', (⟨s.toArray⟩ : ByteArray)[k]'h' = c := fun h' => (sv_get s k hlt h').trans hck.symm
      rw [← hck] at hsn
      clear hck
      generalize bareB (s.take k) = o at *
      replace hsn := Lib.hid hsn
      have hn1 : o.length + 1 ≤ 140737488355328 := by omega
      replace hn1 := Lib.hid hn1
      by_cases h1 : c = 32
      · have b1 : ((c.toNat : Int) != 32) = false := by rw [h1]; rfl
        have hs2 : Hid (bareB (s.take (k + 1)) = o) := Lib.hid (by rw [hsn.out, if_pos (.inl h1)])
        clear hsn h1
        go_wp2_with fail
        exact ⟨⟨k + 1, by omega, by go_num, by rw [hs2.out]; exact p1, p2, p3⟩, by simp [intOf] <;> omega⟩
      have b1 : ((c.toNat : Int) != 32) = true := by
        rw [bne_iff_ne]
        intro e
        exact h1 (UInt8.toNat_inj.1 (by simpa using Int.ofNat_inj.1 e))
      by_cases h2 : c = 45
      · have b2 : ((c.toNat : Int) != 45) = false := by rw [h2]; rfl
        have hs2 : Hid (bareB (s.take (k + 1)) = o) := Lib.hid (by rw [hsn.out, if_pos (.inr h2)])
        clear hsn h1 h2
        go_wp2_with fail
        exact ⟨⟨k + 1, by omega, by go_num, by rw [hs2.out]; exact p1, p2, p3⟩, by simp [intOf] <;> omega⟩
      have b2 : ((c.toNat : Int) != 45) = true := by
        rw [bne_iff_ne]
        intro e
        exact h2 (UInt8.toNat_inj.1 (by simpa using Int.ofNat_inj.1 e))
      have hs2 : Hid (bareB (s.take (k + 1)) = o ++ [c]) := Lib.hid (by rw [hsn.out, if_neg (by simp [h1, h2])])
      clear hsn h1 h2
      obtain ⟨A, cc, rfl⟩ := p1.shape
      go_wp2_with ((with_reducible show wpList _ _ _ (⟨some 26, _, _, _, _, _⟩ :: _) _ _); refine wp_app1 tyB p1 (rfl : (c.toNat : Int) = (c.toNat : Int)) hn1.out rfl (.tmp 21) (.tmp 25) rfl rfl rfl ?_; intro v2 w2 k1 k2 k3)
      exact ⟨⟨k + 1, by omega, by go_num, by rw [hs2.out]; exact k1, k3.fresh p2 p3.size, ext_app0 p3 p2 k2⟩, by simp [intOf] <;> omega⟩
    · have hbl : decide ((k : Int) < (s.length : Int)) = false := dfalse (by omega)
      rw [List.take_of_length_le (by omega), ← hO.out] at p1
      have hcv := run_conv (P := Tryz.prog) (src := 70) (dst := 9) (e := 5) Tryz.underlying70 Tryz.underlying5 Tryz.underlying9 p1.sl
      go_wp2_with fail
      go_ret
      exact ⟨rfl, p3⟩
set_option maxHeartbeats 4000000 in
theorem rmnorm_any (k : Int) (s : List UInt8) (hs : s.length ≤ 140737488351232) :
    Calls Tryz.prog 46 #[.int .i64 k, sv s] w fun e w' => e = .returned (.tuple #[sv (normM k s).1, .bool (normM k s).2]) ∧ Ext w w' := by
  have hsz := sv_size s
  have hes := sv_empty s
  by_cases hl : 256 < s.length
  · have hb : decide ((256 : Int) < (s.length : Int)) = true := dtrue (by omega)
    have hR : normM k s = ([], false) := by unfold normM; rw [if_pos hl]
    rw [hR]
    clear hR
    go_enter Tryz.func46, Tryz.ntmps46
    go_wp2_with fail
    go_ret2
    exact ⟨rfl, Mod.refl _ _⟩
  have hb : decide ((256 : Int) < (s.length : Int)) = false := dfalse (by omega)
  rw [normM_short (by omega)]
  by_cases h1 : k = 1
  · rw [if_pos h1]
    subst h1
    have hc := rfold_any (w := w) s hs
    by_cases h0 : s = []
    · subst h0
      have hR : textB [] = ([], false) := rfl
      rw [hR]
      go_enter Tryz.func46, Tryz.ntmps46
      go_wp2_with fail
      refine hc.mono ?_
      rintro e w1 ⟨rfl, x1⟩
      clear hc
      go_wp2_with fail
      go_ret2
      exact ⟨rfl, x1⟩
    have hbe : s.isEmpty = false := by cases s <;> simp at h0 ⊢
    by_cases hf : foldB s = []
    · have hR : textB s = ([32], true) := by unfold textB normV; rw [if_neg h0, if_pos ⟨hf, h0⟩]
      rw [hR]
      rw [hf] at hc
      clear hR hf h0
      go_enter Tryz.func46, Tryz.ntmps46
      go_wp2_with fail
      refine hc.mono ?_
      rintro e w1 ⟨rfl, x1⟩
      clear hc
      go_wp2_with fail
      go_ret2
      exact ⟨rfl, x1⟩
    · have hR : textB s = (foldB s, true) := by unfold textB normV; rw [if_neg h0, if_neg (fun h => hf h.1)]
      rw [hR]
      have hb2 : (foldB s).isEmpty = false := by cases h : foldB s <;> simp [h] at hf ⊢
      have he2 := sv_empty (foldB s)
      clear hR hf h0
      generalize foldB s = F at *
      go_enter Tryz.func46, Tryz.ntmps46
      go_wp2_with fail
      refine hc.mono ?_
      rintro e w1 ⟨rfl, x1⟩
      clear hc
      go_wp2_with fail
      go_ret2
      exact ⟨rfl, x1⟩
  have b1 : (k == 1) = false := by simpa using h1
  rw [if_neg h1]
  by_cases h2 : k = 2
  · rw [if_pos h2]
    subst h2
    have hc := rnumber_any (w := w) s hs
    generalize numB s = R at *
    go_enter Tryz.func46, Tryz.ntmps46
    go_wp2_with fail
    refine hc.mono ?_
    rintro e w1 ⟨rfl, rfl⟩
    clear hc
    go_wp2_with fail
    go_ret2
    exact ⟨rfl, Mod.refl _ _⟩
  have b2 : (k == 2) = false := by simpa using h2
  rw [if_neg h2]
  by_cases h3 : k = 3
  · rw [if_pos h3]
    subst h3
    have hc := qparse_any (w := w) s (by omega)
    have hn := parse_name (s := s)
    unfold nameB
    generalize parseB s = q at *
    obtain ⟨L, n⟩ := q
    by_cases h0 : n = 0
    · subst h0
      have hi := hn rfl
      have hw := name_wN hi
      have hw2 := norm_wN L
      rw [if_pos rfl]
      clear hn hi
      simp only at hc
      go_enter Tryz.func46, Tryz.ntmps46
      go_wp2_with fail
      refine hc.mono ?_
      rintro e w1 ⟨v1, rfl, o1, f1, x1⟩
      clear hc
      have hc2 := rnorm_any (o1.rc.mono fun k hk h => hk) (fits_of (by omega))
      go_wp2_with fail
      refine hc2.mono ?_
      rintro e w2 ⟨v2, rfl, o2, f2, x2⟩
      clear hc2
      have hc3 := rprint_any o2.rc (by omega)
      go_wp2_with fail
      refine hc3.mono ?_
      rintro e w3 ⟨rfl, x3⟩
      clear hc3
      go_wp2_with fail
      go_ret2
      exact ⟨rfl, ext_trans x1 (ext_trans x2 x3)⟩
    · rw [if_neg h0]
      have b0 : ((n : Int) != 0) = true := by rw [bne_iff_ne]; omega
      clear hn
      simp only at hc
      go_enter Tryz.func46, Tryz.ntmps46
      go_wp2_with fail
      refine hc.mono ?_
      rintro e w1 ⟨v1, rfl, o1, f1, x1⟩
      clear hc
      go_wp2_with fail
      go_ret2
      exact ⟨rfl, x1⟩
  have b3 : (k == 3) = false := by simpa using h3
  rw [if_neg h3]
  by_cases h4 : k = 4
  · rw [if_pos h4]
    subst h4
    go_enter Tryz.func46, Tryz.ntmps46
    go_wp2_with fail
    go_ret2
    exact ⟨rfl, Mod.refl _ _⟩
  have b4 : (k == 4) = false := by simpa using h4
  rw [if_neg h4]
  by_cases h5 : k = 5
  · rw [if_pos h5]
    subst h5
    have hc := fun wx : World => rbare_any (w := wx) s hs
    generalize bareB s = R at *
    have he := sv_empty R
    by_cases hR : R = []
    · subst hR
      go_enter Tryz.func46, Tryz.ntmps46
      go_wp2_with fail
      refine (hc w).mono ?_
      rintro e w1 ⟨rfl, x1⟩
      go_wp2_with fail
      refine (hc w1).mono ?_
      rintro e w2 ⟨rfl, x2⟩
      clear hc
      go_wp2_with fail
      go_ret2
      exact ⟨rfl, ext_trans x1 x2⟩
    · have bR : R.isEmpty = false := by cases R <;> simp at hR ⊢
      rw [decide_eq_false hR]
      clear hR
      go_enter Tryz.func46, Tryz.ntmps46
      go_wp2_with fail
      refine (hc w).mono ?_
      rintro e w1 ⟨rfl, x1⟩
      go_wp2_with fail
      refine (hc w1).mono ?_
      rintro e w2 ⟨rfl, x2⟩
      clear hc
      go_wp2_with fail
      go_ret2
      exact ⟨rfl, ext_trans x1 x2⟩
  have b5 : (k == 5) = false := by simpa using h5
  rw [if_neg h5]
  go_enter Tryz.func46, Tryz.ntmps46
  go_wp2_with fail
  go_ret2
  exact ⟨rfl, Mod.refl _ _⟩
end
end Go.Proofs.YteihjdefdeckaaaGreatDoor
namespace Go.Proofs.YteihjdefdeckaaaGreatDoor
open Go.RowKit
set_option maxRecDepth 100000

section
variable {w : World}
/-- Where a text is in another one, from a place on. -/
def findI (s p : List UInt8) (at_ : Nat) : Int := if 0 ≤ Lib.index (s.drop at_) p then (at_ : Int) + Lib.index (s.drop at_) p else -1
theorem find_some {s p r : List UInt8} {at_ : Nat} (ha : at_ ≤ s.length) (h : cutO (s.drop at_) p = some r) : ∃ k : Nat, findI s p at_ = k ∧ k + p.length ≤ s.length ∧ s.drop (k + p.length) = r := by
  unfold cutO at h
  by_cases h0 : 0 ≤ Lib.index (s.drop at_) p
  · rw [if_pos h0] at h
    have hr := Lib.index_room _ _ h0
    rw [List.length_drop] at hr
    injection h with h
    rw [List.drop_drop] at h
    refine ⟨at_ + (Lib.index (s.drop at_) p).toNat, ?_, by omega, by rw [← h]; congr 1; omega⟩
    unfold findI
    rw [if_pos h0]
    omega
  · rw [if_neg h0] at h; cases h
theorem find_none {s p : List UInt8} {at_ : Nat} (h : cutO (s.drop at_) p = none) : findI s p at_ = -1 := by
  unfold cutO at h
  unfold findI
  by_cases h0 : 0 ≤ Lib.index (s.drop at_) p
  · rw [if_pos h0] at h; cases h
  · rw [if_neg h0]
theorem find_hit {s p : List UInt8} {at_ i : Nat} (hi : at_ + i + p.length ≤ s.length) (hn : Lib.NoOcc (s.drop at_) p i) (he : (s.drop (at_ + i)).take p.length = p) : findI s p at_ = ((at_ + i : Nat) : Int) := by
  have h1 : Lib.occAt (s.drop at_) p i = true := by
    rw [Lib.occAt_iff_take _ _ _ (by rw [List.length_drop]; omega), List.drop_drop, beq_iff_eq]
    exact he
  have h2 := Lib.index_hit hn (by rw [List.length_drop]; omega) h1
  unfold findI
  rw [h2, if_pos (by omega)]
  omega
theorem find_next {s p : List UInt8} {at_ i : Nat} (hi : at_ + i + p.length ≤ s.length) (hn : Lib.NoOcc (s.drop at_) p i) (he : (s.drop (at_ + i)).take p.length ≠ p) : Lib.NoOcc (s.drop at_) p (i + 1) := by
  refine hn.succ ?_
  rw [Lib.occAt_iff_take _ _ _ (by rw [List.length_drop]; omega), List.drop_drop]
  exact beq_eq_false_iff_ne.2 he
theorem find_past {s p : List UInt8} {at_ i : Nat} (ha : at_ ≤ s.length) (hi : ¬ at_ + i + p.length ≤ s.length) (hn : Lib.NoOcc (s.drop at_) p i) : findI s p at_ = -1 := by
  have h1 : Lib.index (s.drop at_) p = -1 := by
    by_cases hp : p = []
    · subst hp
      simp only [List.length_nil, Nat.add_zero] at hi
      have := hn 0 (by omega)
      simp [Lib.occAt] at this
    · exact Lib.index_past hp hn (by rw [List.length_drop]; omega)
  unfold findI
  rw [h1, if_neg (by omega)]
set_option maxHeartbeats 4000000 in
theorem rfind_any (s p : List UInt8) (at_ : Nat) (ha : at_ ≤ s.length) (hs : s.length ≤ 1000000) (hp : p.length ≤ 1000000) :
    Calls Tryz.prog 93 #[sv s, sv p, .int .i64 (at_ : Int)] w fun e w' => e = .returned (.int .i64 (findI s p at_)) ∧ w' = w := by
  have hsz := sv_size s
  have hpz := sv_size p
  obtain ⟨R, hR⟩ : ∃ R, R = findI s p at_ := ⟨_, rfl⟩
  rw [← hR]
  replace hR := Lib.hid hR
  go_enter Tryz.func93, Tryz.ntmps93
  go_wp2_with fail
  go_loop [7] (fun i => ∃ k : Nat, at_ + k ≤ s.length + 1 ∧ i = .int .i64 ((at_ + k : Nat) : Int) ∧ Hid (Lib.NoOcc (s.drop at_) p k)) (fun i => s.length + 1 - (intOf i).toNat)
  case atStart => exact ⟨0, by omega, by simp, Lib.hid (Lib.NoOcc.zero _ _)⟩
  case round =>
    obtain ⟨k, hk, rfl, hn⟩ := hrel
    obtain ⟨m, hm⟩ : ∃ m, m = at_ + k := ⟨_, rfl⟩
    have hnx := fun hi he => find_next (p := p) hi hn.out he
    have hht := fun hi he => hR.out.trans (find_hit (p := p) hi hn.out he)
    have hps := fun hi => hR.out.trans (find_past ha hi hn.out)
    rw [← hm] at hk hnx hht hps ⊢
    replace hnx := Lib.hid hnx
    replace hht := Lib.hid hht
    replace hps := Lib.hid hps
    replace hm := Lib.hid hm
    clear hn
    by_cases hle : m + p.length ≤ s.length
    · have hb : decide ((m : Int) + (p.length : Int) ≤ (s.length : Int)) = true := dtrue (by omega)
      have hex := ext_sv s m (m + p.length)
      rw [show m + p.length - m = p.length by omega] at hex
      have hi0 : (0 : Int) ≤ (m : Int) := by omega
      have hi1 : (m : Int) ≤ (m : Int) + (p.length : Int) := by omega
      have hi2 : (m : Int) + (p.length : Int) ≤ (s.length : Int) := by omega
      have hnt : ((m : Int) + (p.length : Int)).toNat = m + p.length := by omega
      by_cases heq : (s.drop m).take p.length = p
      · have hx := hht.out hle heq
        subst hx
        rw [heq] at hex
        have bp := beq_self_eq_true p
        clear heq hnx hht hps hR
        go_wp2_with fail
        go_ret
        exact ⟨rfl, rfl⟩
      · have hx := hnx.out hle heq
        have hbn : ((s.drop m).take p.length == p) = false := beq_eq_false_iff_ne.2 heq
        replace hx := Lib.hid hx
        clear heq hnx hht hps
        generalize (s.drop m).take p.length = z at *
        go_wp2_with fail
        go_round
        case rel => exact ⟨k + 1, by have := hm.out; omega, by rw [show at_ + (k + 1) = m + 1 by have := hm.out; omega]; go_num, hx⟩
        case measure => simp [intOf]; omega
    · have hb : decide ((m : Int) + (p.length : Int) ≤ (s.length : Int)) = false := dfalse (by omega)
      have hx := hps.out (by have := hm.out; omega)
      subst hx
      clear hnx hht hps hR
      go_wp2_with fail
      go_ret
      exact ⟨rfl, rfl⟩
end
end Go.Proofs.YteihjdefdeckaaaGreatDoor
namespace Go.Proofs.YteihjdefdeckaaaGreatDoor
open Go.RowKit
set_option maxRecDepth 100000

theorem tyS : SliceTy Tryz.prog 22 9 (.string ⟨#[]⟩) 16 := ⟨Tryz.underlying22, by kernel_rfl, rfl, by omega⟩
section
variable {w : World}
set_option maxHeartbeats 4000000 in
theorem rpiece1_any (s : List UInt8) (hs : s.length ≤ 1000000) :
    Calls Tryz.prog 73 #[.int .i64 1, sv s] w fun e w' => e = .returned (sv (squB s)) ∧ Ext w w' := by
  have hsz := sv_size s
  have hc := rfold_any (w := w) s (by omega)
  have hfl := foldB_len s
  have he := sv_empty s
  by_cases h0 : s = []
  · subst h0
    have hR : squB [] = [] := rfl
    rw [hR]
    go_enter Tryz.func73, Tryz.ntmps73
    go_wp2_with fail
    refine hc.mono ?_
    rintro e w1 ⟨rfl, x1⟩
    clear hc
    go_wp2_with fail
    go_ret
    exact ⟨rfl, x1⟩
  have hb : s.isEmpty = false := by cases s <;> simp at h0 ⊢
  have hpos : 0 < s.length := List.length_pos_iff.2 h0
  by_cases hF0 : foldB s = []
  · have hR : squB s = [32] := by unfold squB; rw [if_neg h0, if_pos hF0]
    rw [hR]
    rw [hF0] at hc
    clear hR hF0 hfl h0
    go_enter Tryz.func73, Tryz.ntmps73
    go_wp2_with fail
    refine hc.mono ?_
    rintro e w1 ⟨rfl, x1⟩
    clear hc
    go_wp2_with fail
    go_ret
    exact ⟨rfl, x1⟩
  obtain ⟨R, hR⟩ : ∃ R, R = squB s := ⟨_, rfl⟩
  rw [← hR]
  unfold squB at hR
  rw [if_neg h0, if_neg hF0] at hR
  have hbF : (foldB s).isEmpty = false := by cases h : foldB s <;> simp [h] at hF0 ⊢
  have heF := sv_empty (foldB s)
  have hlt : s.length - 1 < s.length := by omega
  rw [getD_at s hpos, getD_at s hlt] at hR
  obtain ⟨a, ha⟩ : ∃ a, a = s[0] := ⟨_, rfl⟩
  obtain ⟨z, hz⟩ : ∃ z, z = s[s.length - 1] := ⟨_, rfl⟩
  have g0 : ∀ h', (⟨s.toArray⟩ : ByteArray)[0]'h' = a := fun h' => (sv_get s 0 hpos h').trans ha.symm
  have g1 : ∀ h', (⟨s.toArray⟩ : ByteArray)[s.length - 1]'h' = z := fun h' => (sv_get s _ hlt h').trans hz.symm
  rw [← ha, ← hz] at hR
  generalize foldB s = F at *
  obtain ⟨m, hm⟩ : ∃ m, m = s.length - 1 := ⟨_, rfl⟩
  rw [← hm] at g1 hlt
  have hm2 : (s.length : Int) - 1 = (m : Int) := by omega
  have hm1 : (m : Int) < (s.length : Int) := by omega
  clear ha hz h0 hF0 hm
  replace hR := Lib.hid hR
  by_cases h32 : a = 32 <;> by_cases z32 : z = 32
  all_goals
    have ba : ((a.toNat : Int) == 32) = decide (a = 32) := by
      rw [Bool.eq_iff_iff, beq_iff_eq, decide_eq_true_iff]
      exact ⟨fun e => UInt8.toNat_inj.1 (by simpa using Int.ofNat_inj.1 e), fun e => by rw [e]; rfl⟩
    have bz : ((z.toNat : Int) == 32) = decide (z = 32) := by
      rw [Bool.eq_iff_iff, beq_iff_eq, decide_eq_true_iff]
      exact ⟨fun e => UInt8.toNat_inj.1 (by simpa using Int.ofNat_inj.1 e), fun e => by rw [e]; rfl⟩
    simp only [h32, z32, decide_true, decide_false] at ba bz
    have hR2 := hR.out
    simp only [h32, z32, if_true, if_false, List.nil_append, List.append_nil] at hR2
    have cl := cat_l 32 F
    have cr := cat_r F 32
    have cr2 := cat_r ([32] ++ F) 32
    replace hR2 := Lib.hid hR2
    clear hR
  all_goals
    go_enter Tryz.func73, Tryz.ntmps73
    go_wp2_with fail
    refine hc.mono ?_
    rintro e w1 ⟨rfl, x1⟩
    clear hc
    go_wp2_with fail
    go_ret
    rw [hR2.out]
    exact ⟨rfl, x1⟩
set_option maxHeartbeats 4000000 in
theorem rpiece_any (k : Int) (s : List UInt8) (hk : k = 1 ∨ k = 5 ∨ k = 4) (hs : s.length ≤ 1000000) :
    Calls Tryz.prog 73 #[.int .i64 k, sv s] w fun e w' => e = .returned (sv (pieceM k s)) ∧ Ext w w' := by
  rcases hk with rfl | rfl | rfl
  · exact rpiece1_any s hs
  · have hc := rbare_any (w := w) s (by omega)
    have hR : pieceM 5 s = bareB s := rfl
    rw [hR]
    generalize bareB s = R at *
    go_enter Tryz.func73, Tryz.ntmps73
    go_wp2_with fail
    refine hc.mono ?_
    rintro e w1 ⟨rfl, x1⟩
    clear hc
    go_wp2_with fail
    go_ret
    exact ⟨rfl, x1⟩
  · have hR : pieceM 4 s = s := rfl
    rw [hR]
    go_enter Tryz.func73, Tryz.ntmps73
    go_wp2_with fail
    go_ret
    exact ⟨rfl, Mod.refl _ _⟩
theorem pre_take {s a : List UInt8} (h : a.length ≤ s.length) : a.isPrefixOf s = (s.take a.length == a) := by
  have := Lib.hasPrefix_of_take s a
  rw [decide_eq_true h, Bool.true_and] at this
  exact this.symm
theorem suf_drop {s b : List UInt8} (h : b.length ≤ s.length) : b.isSuffixOf s = (s.drop (s.length - b.length) == b) := by
  have := Lib.hasSuffix_of_drop s b
  rw [decide_eq_true h, Bool.true_and] at this
  exact this.symm
def fitsB (s : List UInt8) (P : List (List UInt8)) : Bool := hasQ s (P.getD 0 []) ((P.drop 1).take (P.length - 2)) (P.getD (P.length - 1) [])
theorem mid_get (P : List (List UInt8)) {j : Nat} (hj' : j < ((P.drop 1).take (P.length - 2)).length) (h2 : 1 + j < P.length) : ((P.drop 1).take (P.length - 2))[j] = P[1 + j] := by
  simp only [List.getElem_take, List.getElem_drop]
set_option maxHeartbeats 16000000 in
theorem rfits_any {S : Nat → Prop} {v : Value} (s : List UInt8) {P : List (List UInt8)} (hv : Ss w S v P) (hs : s.length ≤ 100000) (hP : ∀ x ∈ P, x.length ≤ 1000000) (hn : 2 ≤ P.length) (hn2 : P.length ≤ 16) :
    Calls Tryz.prog 74 #[sv s, v] w fun e w' => e = .returned (.bool (fitsB s P)) ∧ Ext w w' := by
  obtain ⟨A, c, rfl, q1, q2, q3, q4⟩ := hv.open_
  have hsz := sv_size s
  obtain ⟨R, hR⟩ : ∃ R, R = fitsB s P := ⟨_, rfl⟩
  rw [← hR]
  have h0l : 0 < P.length := by omega
  have hel : P.length - 1 < P.length := by omega
  unfold fitsB hasQ at hR
  rw [getD_x P h0l, getD_x P hel] at hR
  obtain ⟨ad, hA, hS, c0⟩ := q4.at_ h0l
  subst hA
  obtain ⟨ad', hA', _, cE⟩ := q4.at_ hel
  cases hA'
  have ha := hP _ (List.getElem_mem h0l)
  have hb := hP _ (List.getElem_mem hel)
  obtain ⟨M, hM⟩ : ∃ M, M = (P.drop 1).take (P.length - 2) := ⟨_, rfl⟩
  have hMl : M.length = P.length - 2 := by rw [hM, List.length_take, List.length_drop]; omega
  have hMg : ∀ (j : Nat) (h : j < M.length) (h2 : 1 + j < P.length), M[j] = P[1 + j] := fun j h h2 => by subst hM; exact mid_get P h h2
  rw [← hM] at hR
  clear hM hv
  generalize P[0] = a at *
  generalize P[P.length - 1] = b at *
  have haz := sv_size a
  have hbz := sv_size b
  have hz : ad.add 0 = ad := by cases ad; simp [Addr.add]
  rw [hz] at c0
  have cE2 : w.cell? (ad.add ((P.length : Int) - 1).toNat) = some (sv b) := by rw [show ((P.length : Int) - 1).toNat = P.length - 1 by omega]; exact cE
  have hi0 : (0 : Int) < (P.length : Int) := by omega
  have hi1 : (0 : Int) ≤ (P.length : Int) - 1 := by omega
  have hi2 : (P.length : Int) - 1 < (P.length : Int) := by omega
  replace hMl := Lib.hid hMl
  replace hMg := Lib.hid hMg
  clear hz
  have hcell : ∀ {wx : World} (j : Nat) (h2 : 1 + j < P.length), Ext w wx → wx.cell? (ad.add (1 + j)) = some (sv P[1 + j]) := fun j h2 q => by
    obtain ⟨ad2, hA2, _, c2⟩ := (Cells.mod q4 q fun _ _ _ h => h).at_ h2
    cases hA2
    exact c2
  clear q4
  by_cases hlen : s.length < a.length + b.length
  · have hb1 : decide ((s.length : Int) < (a.length : Int) + (b.length : Int)) = true := dtrue (by omega)
    rw [decide_eq_false (by omega), Bool.false_and] at hR
    subst hR
    clear hMl hMg hcell
    go_enter Tryz.func74, Tryz.ntmps74
    go_wp2_with fail
    go_quiet (fail)
    go_wp2_with fail
    go_ret
    exact ⟨rfl, (Mod.refl _ _).drewN _⟩
  have hb1 : decide ((s.length : Int) < (a.length : Int) + (b.length : Int)) = false := dfalse (by omega)
  rw [decide_eq_true (by omega), Bool.true_and, pre_take (by omega), suf_drop (by omega)] at hR
  obtain ⟨u, hu⟩ : ∃ u, u = s.take a.length := ⟨_, rfl⟩
  obtain ⟨t, ht⟩ : ∃ t, t = s.drop (s.length - b.length) := ⟨_, rfl⟩
  obtain ⟨z, hz⟩ : ∃ z, z = (s.drop a.length).take (s.length - b.length - a.length) := ⟨_, rfl⟩
  have hx1 : (⟨s.toArray⟩ : ByteArray).extract 0 a.length = ⟨u.toArray⟩ := by rw [ext_sv, hu]; simp
  have hx2 : (⟨s.toArray⟩ : ByteArray).extract (s.length - b.length) s.length = ⟨t.toArray⟩ := by
    rw [ext_sv, ht, List.take_of_length_le (by rw [List.length_drop]; omega)]
  have hx3 : (⟨s.toArray⟩ : ByteArray).extract a.length (s.length - b.length) = ⟨z.toArray⟩ := by rw [ext_sv, hz]
  have hzl : z.length ≤ 100000 := by rw [hz, List.length_take, List.length_drop]; omega
  rw [← hu, ← ht, ← hz] at hR
  clear hu ht hz
  have hj0 : (0 : Int) ≤ (a.length : Int) := by omega
  have hj1 : (a.length : Int) ≤ (s.length : Int) := by omega
  have hj2 : (0 : Int) ≤ (s.length : Int) - (b.length : Int) := by omega
  have hj3 : (s.length : Int) - (b.length : Int) ≤ (s.length : Int) := by omega
  have hj4 : (a.length : Int) ≤ (s.length : Int) - (b.length : Int) := by omega
  have hnt : ((s.length : Int) - (b.length : Int)).toNat = s.length - b.length := by omega
  by_cases hua : u = a
  case neg =>
    have bu : (u == a) = false := beq_eq_false_iff_ne.2 hua
    rw [bu, Bool.false_and] at hR
    subst hR
    clear hMl hMg hcell hua
    go_enter Tryz.func74, Tryz.ntmps74
    go_wp2_with fail
    go_quiet (fail)
    go_wp2_with fail
    go_ret
    exact ⟨rfl, (Mod.refl _ _).drewN _⟩
  have bu : (u == a) = true := beq_iff_eq.2 hua
  by_cases htb : t = b
  case neg =>
    have bt : (t == b) = false := beq_eq_false_iff_ne.2 htb
    rw [bu, bt, Bool.true_and, Bool.false_and] at hR
    subst hR
    clear hMl hMg hcell hua htb
    go_enter Tryz.func74, Tryz.ntmps74
    go_wp2_with fail
    go_quiet (fail)
    go_wp2_with fail
    go_ret
    exact ⟨rfl, (Mod.refl _ _).drewN _⟩
  have bt : (t == b) = true := beq_iff_eq.2 htb
  rw [bu, bt, Bool.true_and, Bool.true_and] at hR
  replace hR := Lib.hid hR
  clear hua htb
  have hzs := sv_size z
  go_enter Tryz.func74, Tryz.ntmps74
  go_wp2_with fail
  go_quiet (fail)
  go_wp2_with fail
  go_loopw [8, 9] (fun at_ i wr => ∃ (i' j m : Nat), i' = 1 + j ∧ j ≤ M.length ∧ i = .int .i64 (i' : Nat) ∧ at_ = .int .i64 (m : Nat) ∧ m ≤ z.length ∧ Hid (midsF z (M.take j) = some (z.drop m)) ∧ Ext w wr) (fun _ i _ => P.length - (intOf i).toNat)
  case atStart => exact ⟨1, 0, 0, by omega, Nat.zero_le _, rfl, rfl, Nat.zero_le _, Lib.hid (by simp [midsF]), (Mod.refl _ _).drewN _⟩
  case round =>
    obtain ⟨i', j, m, hij, hj, rfl, rfl, hm, hmid, hx⟩ := hrel
    have hML := hMl.out
    by_cases hlt : j < M.length
    case neg =>
      have hbl : decide ((i' : Int) + 1 < (P.length : Int)) = false := dfalse (by omega)
      have hR2 := hR.out
      have hmo := hmid.out
      rw [List.take_of_length_le (by omega)] at hmo
      rw [hmo] at hR2
      subst hR2
      clear hR hmid hmo hMl hMg hcell
      go_wp2_with fail
      go_ret
      exact ⟨rfl, hx⟩
    have hbl : decide ((i' : Int) + 1 < (P.length : Int)) = true := dtrue (by omega)
    have hi2' : 1 + j < P.length := by omega
    have hc := fun (wx : World) (q : Ext w wx) => hcell j hi2' q
    have hg := hMg.out j hlt hi2'
    have hxl := hP _ (List.getElem_mem hi2')
    have hst := mids_step hlt hmid.out
    have hsp := fun hn => mids_stop hlt hmid.out hn
    rw [← hg] at hc hxl
    rw [← hij] at hc
    clear hg
    have hk0 : (0 : Int) ≤ (i' : Int) := by omega
    have hk1 : (i' : Int) < (P.length : Int) := by omega
    have c1 := hc _ hx
    replace hij := Lib.hid hij
    generalize M[j] = x at *
    have hxz := sv_size x
    have hfd := fun wx : World => rfind_any (w := wx) z x m hm (by omega) (by omega)
    cases hco : cutO (z.drop m) x with
    | none =>
      have hf := find_none hco
      rw [hf] at hfd
      have hR2 := hR.out
      rw [hsp hco] at hR2
      subst hR2
      clear hR hmid hst hsp hco hf hMl hMg hcell hc
      go_wp2_with fail
      refine (hfd _).mono ?_
      rintro e w2 ⟨rfl, rfl⟩
      clear hfd
      go_wp2_with fail
      go_ret
      exact ⟨rfl, hx⟩
    | some r =>
      obtain ⟨k, hf, hkl, hkr⟩ := find_some hm hco
      rw [hf] at hfd
      rw [hco, ← hkr] at hst
      replace hst := Lib.hid hst
      clear hmid hsp hco hf hkr hMl hMg hcell hc
      go_wp2_with fail
      refine (hfd _).mono ?_
      rintro e w2 ⟨rfl, rfl⟩
      clear hfd
      go_wp2_with fail
      exact ⟨⟨i' + 1, j + 1, k + x.length, by have := hij.out; omega, by omega, by go_num, by go_num, hkl, hst, hx⟩, by simp [intOf] <;> omega⟩
theorem pieces_snoc (k : Int) (L : List (List UInt8)) {j : Nat} (h : j < L.length) : (L.take (j + 1)).map (pieceM k) = (L.take j).map (pieceM k) ++ [pieceM k L[j]] := by
  rw [List.take_succ_eq_append_getElem h, List.map_append]
  rfl
theorem hasM_fits (k : Int) (s : List UInt8) (L : List (List UInt8)) (h : 2 ≤ L.length) : hasM k s L = fitsB s (L.map (pieceM k)) := by
  have h0 : 0 < L.length := by omega
  have he : L.length - 1 < L.length := by omega
  unfold hasM fitsB
  rw [hasP_eq, List.length_map, getD_x L h0, getD_x L he, getD_x _ (by rw [List.length_map]; exact h0), getD_x _ (by rw [List.length_map]; exact he), List.getElem_map, List.getElem_map, List.map_take, List.map_drop]
theorem piece_len (k : Int) (s : List UInt8) : (pieceM k s).length ≤ s.length + 2 := by
  unfold pieceM
  by_cases h1 : k = 1
  · rw [if_pos h1]
    unfold squB
    have := foldB_len s
    split
    · simp
    · split
      · simp
      · simp only [List.length_append]
        split <;> split <;> simp <;> omega
  · rw [if_neg h1]
    by_cases h5 : k = 5
    · rw [if_pos h5]; have := bare_len s; omega
    · rw [if_neg h5]; omega
theorem normM_le {k : Int} {s : List UInt8} (h : (normM k s).2 = true) (hk : k = 1 ∨ k = 5 ∨ k = 4) : (normM k s).1.length ≤ 256 := by
  have hl := normM_len h
  rw [normM_short hl]
  rcases hk with rfl | rfl | rfl
  · show (textB s).1.length ≤ 256
    unfold textB
    split
    · simp
    · exact Nat.le_trans (normV_len s) (by omega)
  · exact Nat.le_trans (bare_len s) (by omega)
  · exact hl
set_option maxHeartbeats 16000000 in
theorem rsub_any {S : Nat → Prop} {v : Value} (k : Int) (s : List UInt8) {L : List (List UInt8)} (hv : Ss w S v L) (_hS : ∀ j, S j → j < w.heap.size) (hs : s.length ≤ 140737488351232) (hL : ∀ x ∈ L, x.length ≤ 900000) :
    Calls Tryz.prog 49 #[.int .i64 k, sv s, v] w fun e w' => e = .returned (.tuple #[.bool (subM k s L).1, .bool (subM k s L).2]) ∧ Ext w w' := by
  obtain ⟨A, c, rfl, q1, q2, q3, q4⟩ := hv.open_
  have hc := rmnorm_any (w := w) k s hs
  obtain ⟨R, hR⟩ : ∃ R, R = subM k s L := ⟨_, rfl⟩
  rw [← hR]
  unfold subM at hR
  have hnl := fun h hk => normM_le (k := k) (s := s) h hk
  clear hv
  generalize normM k s = p at *
  obtain ⟨x, ok⟩ := p
  simp only at hc hR hnl
  replace hR := Lib.hid hR
  go_enter Tryz.func49, Tryz.ntmps49
  go_wp2_with fail
  refine hc.mono ?_
  rintro e w1 ⟨rfl, x1⟩
  clear hc
  cases ok with
  | false =>
    have hR2 := hR.out
    rw [if_pos (.inl rfl)] at hR2
    subst hR2
    clear hR
    go_wp2_with fail
    go_ret2
    exact ⟨rfl, x1⟩
  | true =>
  by_cases hk : k ≠ 1 ∧ k ≠ 5 ∧ k ≠ 4
  · have k1 : (k != 1) = true := bne_iff_ne.2 hk.1
    have k5 : (k != 5) = true := bne_iff_ne.2 hk.2.1
    have k4 : (k != 4) = true := bne_iff_ne.2 hk.2.2
    have hR2 := hR.out
    rw [if_pos (.inr (.inr (.inr hk)))] at hR2
    subst hR2
    clear hR hnl
    go_wp2_with fail
    go_ret2
    exact ⟨rfl, x1⟩
  have hkk : (k = 1 ∨ k = 5 ∨ k = 4) := by
    by_cases h1 : k = 1
    · exact .inl h1
    by_cases h5 : k = 5
    · exact .inr (.inl h5)
    by_cases h4 : k = 4
    · exact .inr (.inr h4)
    exact absurd ⟨h1, h5, h4⟩ hk
  have hxl := hnl rfl hkk
  have hR2 : L.length < 2 ∨ 16 < L.length ∨ (2 ≤ L.length ∧ L.length ≤ 16 ∧ R = (fitsB x (L.map (pieceM k)), true)) := by
    by_cases h1 : L.length < 2
    · exact .inl h1
    by_cases h2 : 16 < L.length
    · exact .inr (.inl h2)
    refine .inr (.inr ⟨by omega, by omega, ?_⟩)
    rw [hR.out, if_neg (by rintro (h | h | h | h) <;> first | cases h; done | omega | exact hk h), hasM_fits k x L (by omega)]
  have hR3 : L.length < 2 ∨ 16 < L.length → R = (false, false) := fun h => by
    rw [hR.out, if_pos (h.elim (fun h => .inr (.inl h)) fun h => .inr (.inr (.inl h)))]
  clear hR hnl hk
  replace hR3 := Lib.hid hR3
  replace hR2 := Lib.hid hR2
  have hkb : ((k != 1) = false) ∨ ((k != 1) = true ∧ (k != 5) = false) ∨ ((k != 1) = true ∧ (k != 5) = true ∧ (k != 4) = false) := by
    rcases hkk with rfl | rfl | rfl
    · exact .inl rfl
    · exact .inr (.inl ⟨rfl, rfl⟩)
    · exact .inr (.inr ⟨rfl, rfl, rfl⟩)
  replace hkk := Lib.hid hkk
  have hpc := fun (wx : World) (j : Nat) (hj : j < L.length) => rpiece_any (w := wx) k L[j] hkk.out (by have := hL _ (List.getElem_mem hj); omega)
  have hcells : ∀ {wx : World}, Ext w wx → Cells wx S A (L.map sv) := fun q => q4.mod q fun _ _ _ h => h
  clear q4
  rcases hkb with k1 | ⟨k1, k5⟩ | ⟨k1, k5, k4⟩
  all_goals
    by_cases hl1 : L.length < 2
    · have hb : decide ((L.length : Int) < 2) = true := dtrue (by omega)
      have hR4 := hR3.out (.inl hl1)
      subst hR4
      clear hR3 hR2 hpc hcells
      go_wp2_with fail
      go_ret2
      exact ⟨rfl, x1⟩
    have hb : decide ((L.length : Int) < 2) = false := dfalse (by omega)
    by_cases hl2 : 16 < L.length
    · have hb2 : decide ((16 : Int) < (L.length : Int)) = true := dtrue (by omega)
      have hR4 := hR3.out (.inr hl2)
      subst hR4
      clear hR3 hR2 hpc hcells
      go_wp2_with fail
      go_ret2
      exact ⟨rfl, x1⟩
    have hb2 : decide ((16 : Int) < (L.length : Int)) = false := dfalse (by omega)
    have hR5 : R = (fitsB x (L.map (pieceM k)), true) := by
      rcases hR2.out with h | h | h
      · exact absurd h hl1
      · exact absurd h hl2
      · exact h.2.2
    replace hR5 := Lib.hid hR5
    clear hR2 hR3
    go_wp2_with fail
    go_loopw [10, 11] (fun pv i wr => ∃ j : Nat, j ≤ L.length ∧ i = .int .i64 j ∧ Own wr 9 pv (((L.take j).map (pieceM k)).map sv) ∧ Fresh w1.heap.size pv ∧ Ext w1 wr) (fun _ i _ => L.length - (intOf i).toNat)
    case atStart => exact ⟨0, Nat.zero_le _, rfl, by simpa using Own.nil _ _, fresh_nil _ _ _, Mod.refl _ _⟩
    case round =>
      obtain ⟨j, hj, rfl, p1, p2, p3⟩ := hrel
      have yx := ext_trans x1 p3
      by_cases hlt : j < L.length
      case neg =>
        have hbl : decide ((j : Int) < (L.length : Int)) = false := dfalse (by omega)
        rw [List.take_of_length_le (by omega)] at p1
        have hf := rfits_any x (P := L.map (pieceM k)) (show Ss wr _ _ (L.map (pieceM k)) from p1.sl) (by omega) (fun y hy => by
          obtain ⟨z, hz, rfl⟩ := List.mem_map.1 hy
          have := piece_len k z
          have := hL z hz
          omega) (by rw [List.length_map]; omega) (by rw [List.length_map]; omega)
        obtain ⟨A1, n1, c1, hu⟩ : ∃ A1 n1 c1, u10 = Value.slice A1 n1 c1 := by obtain ⟨A1, c1, h⟩ := p1.shape; exact ⟨A1, _, c1, h⟩
        subst hu
        clear p1 p2 hpc hcells
        go_wp2_with fail
        refine hf.mono ?_
        rintro e w3 ⟨rfl, x3⟩
        clear hf
        go_wp2_with fail
        go_ret2
        rw [hR5.out]
        exact ⟨rfl, ext_trans yx x3⟩
      have hbl : decide ((j : Int) < (L.length : Int)) = true := dtrue (by omega)
      obtain ⟨ad, hA, hSd, c0⟩ := (hcells yx).at_ hlt
      subst hA
      have hi0 : (0 : Int) ≤ (j : Int) := by omega
      have hi1 : (j : Int) < (L.length : Int) := by omega
      have hp := hpc wr j hlt
      have hsn := pieces_snoc k L hlt
      have hol : ((L.take j).map (pieceM k)).length = j := by rw [List.length_map, List.length_take]; omega
      generalize (L.take j).map (pieceM k) = O at *
      generalize pieceM k L[j] = y at *
      generalize L[j] = l1 at *
      replace hsn := Lib.hid hsn
      have hn1 : ((O.map sv).length + [sv y].length) * 16 ≤ 140737488355328 := by rw [List.length_map, hol]; simp; omega
      replace hn1 := Lib.hid hn1
      replace hol := Lib.hid hol
      clear hpc
      go_wp2_with fail
      refine hp.mono ?_
      rintro e w3 ⟨rfl, x3⟩
      have p1' := (Own.mod p1 x3 fun _ _ h => h).alloc (.cells #[sv y] 9)
      have y3 := ext_trans p3 x3
      obtain ⟨A1, n1, c1, hu⟩ : ∃ A1 n1 c1, u10 = Value.slice A1 n1 c1 := by obtain ⟨A1, c1, h⟩ := p1.shape; exact ⟨A1, _, c1, h⟩
      subst hu
      clear hp p1 p3
      go_wp2_with ((with_reducible show wpList _ _ _ (⟨some 56, _, _, _, _, _⟩ :: _) _ _); refine wp_app tyS p1' (Sl.one w3 9 (sv y)) (fun u hu => by rw [List.mem_singleton.1 hu]; rfl) rfl (.tmp 48) (.tmp 55) rfl rfl rfl hn1.out ?_; intro v2 w4 g1 g2 g3)
      exact ⟨⟨j + 1, by omega, by go_num, by rw [hsn.out, List.map_append]; exact g1, g3.fresh p2 (y3.alloc _).size, ext_app0 (y3.alloc _) p2 g2⟩, by simp [intOf] <;> omega⟩
end
end Go.Proofs.YteihjdefdeckaaaGreatDoor
