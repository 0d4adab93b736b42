/- match: Sub. -/
import Derived.Test.YtgghjkefbfbopaaDoorMtE
import Derived.Test.YtgghjkefbfbopaaDoorStrB
namespace Go.Proofs.YtgghjkefbfbopaaDoor
open Go.RowKit
set_option maxRecDepth 100000

theorem mids_two : ∀ (A B : List (List UInt8)) (s : List UInt8), midsF s (A ++ B) = (midsF s A).bind fun r => midsF r B
  | [], B, s => rfl
  | p :: A, B, s => by
    simp only [List.cons_append, midsF]
    cases cutO s p with
    | none => rfl
    | some r => exact mids_two A B r
theorem mids_step {s r : List UInt8} {M : List (List UInt8)} {j : Nat} (hj : j < M.length) (h : midsF s (M.take j) = some r) : midsF s (M.take (j + 1)) = cutO r M[j] := by
  rw [List.take_succ_eq_append_getElem hj, mids_two, h]
  simp only [Option.bind_some, midsF]
  cases cutO r M[j] <;> rfl
theorem mids_stop {s r : List UInt8} {M : List (List UInt8)} {j : Nat} (hj : j < M.length) (h : midsF s (M.take j) = some r) (hn : cutO r M[j] = none) : midsF s M = none := by
  have h1 := mids_step hj h
  rw [← List.take_append_drop (j + 1) M, mids_two, h1, hn]
  rfl
theorem cutO_len {s p r : List UInt8} (h : cutO s p = some r) : r.length ≤ s.length := by
  obtain ⟨x, h1, _⟩ := cutO_some h
  rw [h1]
  simp only [List.length_append]
  omega
def midsL (k : Int) (L : List (List UInt8)) : List (List UInt8) := ((L.drop 1).take (L.length - 2)).map (pieceM k)
theorem midsL_len (k : Int) (L : List (List UInt8)) : (midsL k L).length = L.length - 2 := by
  unfold midsL
  rw [List.length_map, List.length_take, List.length_drop]
  omega
theorem midsL_get (k : Int) (L : List (List UInt8)) {j : Nat} (hj' : j < (midsL k L).length) (h2 : 1 + j < L.length) : (midsL k L)[j] = pieceM k L[1 + j] := by
  simp only [midsL, List.getElem_map, List.getElem_take, List.getElem_drop]
theorem getD_x (L : List (List UInt8)) {k : Nat} (h : k < L.length) : L.getD k [] = L[k] := by rw [List.getD_eq_getElem?_getD, List.getElem?_eq_getElem h]; rfl
section
variable {w : World} {S : Nat → Prop} {v : Value}
set_option maxHeartbeats 8000000 in
theorem msub_any (k : Int) (s : List UInt8) {L : List (List UInt8)} (hv : Ss w S v L) (hs : s.length ≤ 140737488351232) (hL : ∀ x ∈ L, x.length ≤ 1000000) (hm : Mxl w) :
    Calls Tryd.prog 29 #[.int .i64 k, sv s, v] w fun e w' => e = .returned (.tuple #[.bool (subM k s L).1, .bool (subM k s L).2]) ∧ Ext w w' := by
  obtain ⟨A, c, rfl, q1, q2, q3, q4⟩ := hv.open_
  have hc := mnorm_any (w := w) k s hs
  obtain ⟨R, hR⟩ : ∃ R, R = subM k s L := ⟨_, rfl⟩
  rw [← hR]
  unfold subM at hR
  have hnl : (normM k s).2 = true → s.length ≤ 256 := fun h => normM_len h
  have hnl2 : (normM k s).1.length ≤ 100000 ∨ (normM k s).2 = false ∨ ¬ (k = 1 ∨ k = 5 ∨ k = 4) := by
    cases h : (normM k s).2 with
    | false => exact .inr (.inl rfl)
    | true =>
      have hl := hnl h
      rw [normM_short hl]
      by_cases h1 : k = 1
      · left; rw [if_pos h1]; unfold textB; split
        · simp
        · exact Nat.le_trans (normV_len s) (by omega)
      by_cases h5 : k = 5
      · left; subst h5; simp only [show ¬ (5 : Int) = 1 by decide, show ¬ (5 : Int) = 2 by decide, show ¬ (5 : Int) = 3 by decide, show ¬ (5 : Int) = 4 by decide, if_false, if_true]; exact Nat.le_trans (bare_len s) (by omega)
      by_cases h4 : k = 4
      · left; subst h4; simp only [show ¬ (4 : Int) = 1 by decide, show ¬ (4 : Int) = 2 by decide, show ¬ (4 : Int) = 3 by decide, if_false, if_true]; omega
      · exact .inr (.inr (by simp [h1, h5, h4]))
  clear hnl hv
  generalize normM k s = p at *
  obtain ⟨x, ok⟩ := p
  simp only at hc hR hnl2
  replace hR := Lib.hid hR
  go_enter Tryd.func29, Tryd.ntmps29
  go_wp2_with fail
  refine hc.mono ?_
  rintro e w1 ⟨rfl, x1⟩
  clear hc
  cases ok with
  | false =>
    have hR2 := hR.out
    rw [if_pos (.inl rfl)] at hR2
    subst hR2
    clear hR
    go_wp2_with fail
    go_ret2
    exact ⟨rfl, x1⟩
  | true =>
  by_cases hl1 : L.length < 2
  · have hb : decide ((L.length : Int) < 2) = true := dtrue (by omega)
    have hR2 := hR.out
    rw [if_pos (.inr (.inl hl1))] at hR2
    subst hR2
    clear hR
    go_wp2_with fail
    go_ret2
    exact ⟨rfl, x1⟩
  have hb : decide ((L.length : Int) < 2) = false := dfalse (by omega)
  by_cases hl2 : 16 < L.length
  · have hb2 : decide ((16 : Int) < (L.length : Int)) = true := dtrue (by omega)
    have hR2 := hR.out
    rw [if_pos (.inr (.inr (.inl hl2)))] at hR2
    subst hR2
    clear hR
    go_wp2_with fail
    go_ret2
    exact ⟨rfl, x1⟩
  have hb2 : decide ((16 : Int) < (L.length : Int)) = false := dfalse (by omega)
  by_cases hk : k ≠ 1 ∧ k ≠ 5 ∧ k ≠ 4
  · have k1 : (k != 1) = true := bne_iff_ne.2 hk.1
    have k5 : (k != 5) = true := bne_iff_ne.2 hk.2.1
    have k4 : (k != 4) = true := bne_iff_ne.2 hk.2.2
    have hR2 := hR.out
    rw [if_pos (.inr (.inr (.inr hk)))] at hR2
    subst hR2
    clear hR hnl2
    go_wp2_with fail
    go_ret2
    exact ⟨rfl, x1⟩
  have hR2 := hR.out
  rw [if_neg (by rintro (h | h | h | h) <;> first | cases h; done | omega | exact hk h)] at hR2
  clear hR
  have hxl : x.length ≤ 100000 := by
    rcases hnl2 with h | h | h
    · exact h
    · cases h
    · exact absurd ⟨fun e => h (.inl e), fun e => h (.inr (.inl e)), fun e => h (.inr (.inr e))⟩ hk
  have hkk : (k = 1 ∨ k = 5 ∨ k = 4) := by
    by_cases h1 : k = 1
    · exact .inl h1
    by_cases h5 : k = 5
    · exact .inr (.inl h5)
    by_cases h4 : k = 4
    · exact .inr (.inr h4)
    exact absurd ⟨h1, h5, h4⟩ hk
  have hkb : ((k != 1) = false) ∨ ((k != 1) = true ∧ (k != 5) = false) ∨ ((k != 1) = true ∧ (k != 5) = true ∧ (k != 4) = false) := by
    by_cases h1 : k = 1
    · left; subst h1; rfl
    right
    by_cases h5 : k = 5
    · left; subst h5; exact ⟨rfl, rfl⟩
    right
    obtain rfl : k = 4 := by omega
    exact ⟨rfl, rfl, rfl⟩
  clear hk hkk hnl2 hs
  have h0l : 0 < L.length := by omega
  have hel : L.length - 1 < L.length := by omega
  unfold hasM hasP at hR2
  rw [getD_x L h0l, getD_x L hel] at hR2
  have hp0 := piece_any (w := w1) k L[0] (hL _ (List.getElem_mem h0l))
  have hpe := fun wx : World => piece_any (w := wx) k L[L.length - 1] (hL _ (List.getElem_mem hel))
  have hcells : ∀ {wx : World}, Ext w wx → Cells wx S A (L.map sv) := fun q => q4.mod q fun _ _ _ h => h
  obtain ⟨ad, hA, hS, c0⟩ := (hcells x1).at_ h0l
  subst hA
  have c00 : w1.cell? ad = some (sv L[0]) := by
    have hz : ad.add 0 = ad := by cases ad; simp [Addr.add]
    rw [hz] at c0
    exact c0
  have cE : ∀ {wx : World}, Ext w wx → wx.cell? (ad.add (L.length - 1)) = some (sv L[L.length - 1]) := fun q => by
    obtain ⟨ad', hA', _, c'⟩ := (hcells q).at_ hel
    cases hA'
    exact c'
  generalize pieceM k L[0] = a at *
  generalize pieceM k L[L.length - 1] = b at *
  obtain ⟨M, hM⟩ : ∃ M, M = midsL k L := ⟨_, rfl⟩
  have hMl : M.length = L.length - 2 := by rw [hM]; exact midsL_len k L
  have hMg : ∀ (j : Nat) (h : j < M.length) (h2 : 1 + j < L.length), M[j] = pieceM k L[1 + j] := fun j h h2 => by subst hM; exact midsL_get k L h h2
  rw [show ((L.drop 1).take (L.length - 2)).map (pieceM k) = M from hM.symm] at hR2
  clear hM
  have hcp := fun wx : World => cutp_any (w := wx) x a
  have hp : Lib.hasPrefix x a = a.isPrefixOf x := rfl
  have htp : Lib.trimPrefix x a = if Lib.hasPrefix x a = true then x.drop a.length else x := rfl
  have hj0 : (0 : Int) ≤ (L.length : Int) - 1 := by omega
  have hj1 : (1 : Int) ≤ (L.length : Int) - 1 := by omega
  have hj2 : (L.length : Int) - 1 ≤ (c : Int) := by omega
  have hi0 : (0 : Int) < (L.length : Int) := by omega
  replace hMl := Lib.hid hMl
  replace hMg := Lib.hid hMg
  rw [← hp] at hR2
  generalize Lib.hasPrefix x a = pf at *
  clear hp
  cases pf with
  | false =>
    simp only [Bool.false_and] at hR2
    subst hR2
    clear hMl hMg hpe hcells cE
    rcases hkb with k1 | ⟨k1, k5⟩ | ⟨k1, k5, k4⟩
    all_goals
      go_wp2_with fail
      refine hp0.mono ?_
      rintro e w2 ⟨rfl, x2⟩
      have hcp2 := hcp w2
      clear hp0 hcp
      go_wp2_with fail
      refine hcp2.mono ?_
      rintro e w3 ⟨rfl, rfl⟩
      clear hcp2
      go_wp2_with fail
      go_ret2
      exact ⟨rfl, ext_trans x1 x2⟩
  | true =>
    rw [if_pos rfl] at htp
    rw [htp] at hcp
    clear htp
    have hyl : (x.drop a.length).length ≤ 100000 := by rw [List.length_drop]; omega
    simp only [Bool.true_and] at hR2
    generalize x.drop a.length = y at *
    rcases hkb with k1 | ⟨k1, k5⟩ | ⟨k1, k5, k4⟩
    all_goals
      go_wp2_with fail
      refine hp0.mono ?_
      rintro e w2 ⟨rfl, x2⟩
      have hcp2 := hcp w2
      clear hp0 hcp
      go_wp2_with fail
      refine hcp2.mono ?_
      rintro e w3 ⟨rfl, rfl⟩
      clear hcp2
      go_wp2_with fail
      generalize hmm : L.length - 1 - 1 = m at *
      have hmM : M.length = m := by have h := hMl.out; omega
      replace hmm := Lib.hid hmm
      replace hmM := Lib.hid hmM
      replace hR2 := Lib.hid hR2
      have y3 := ext_trans x1 x2
      have hmx := hm.ext y3
      clear x1 x2 c0 c00 q4
      go_loopw [8, 60] (fun r i wr => ∃ (j : Nat) (z : List UInt8), j ≤ m ∧ i = .int .i64 j ∧ r = sv z ∧ z.length ≤ 100000 ∧ Hid (midsF y (M.take j) = some z) ∧ Ext w3 wr) (fun _ i _ => m - (intOf i).toNat)
      case atStart => exact ⟨0, y, Nat.zero_le _, rfl, rfl, hyl, Lib.hid (by simp [midsF]), Mod.refl _ _⟩
      case round =>
        obtain ⟨j, z, hj, rfl, rfl, hzl, hz, hx⟩ := hrel
        have yx := ext_trans y3 hx
        by_cases hlt : j < m
        case neg =>
          have hbl : decide ((j : Int) < (m : Int)) = false := dfalse (by omega)
          have hze := hz.out
          rw [List.take_of_length_le (by rw [hmM.out]; omega)] at hze
          have hR3 := hR2.out
          rw [hze] at hR3
          have cE1 := cE yx
          have hpw := hpe wr
          have hhs := fun wx : World => hass_any (w := wx) z b (by omega)
          have hhe : Lib.hasSuffix z b = b.isSuffixOf z := rfl
          rw [hhe] at hhs
          have hw1 : (L.length : Int) - 1 < (L.length : Int) := by omega
          have hcE2 : wr.cell? (ad.add ((L.length : Int) - 1).toNat) = some (sv L[L.length - 1]) := by rw [show ((L.length : Int) - 1).toNat = L.length - 1 by omega]; exact cE1
          clear hz hze hR2 cE hpe hcells hMg hMl
          go_wp2_with fail
          refine hpw.mono ?_
          rintro e w4 ⟨rfl, x4⟩
          clear hpw
          go_wp2_with fail
          refine (hhs w4).mono ?_
          rintro e w5 ⟨rfl, rfl⟩
          clear hhs
          go_wp2_with fail
          go_ret2
          rw [hR3]
          exact ⟨rfl, ext_trans yx x4⟩
        have hbl : decide ((j : Int) < (m : Int)) = true := dtrue (by omega)
        have hj2 : 1 + j < L.length := by have := hmm.out; omega
        have hjM : j < M.length := by rw [hmM.out]; exact hlt
        obtain ⟨ad', hA', _, c1⟩ := (hcells yx).at_ hj2
        cases hA'
        rw [show ad.add (1 + j) = (⟨ad.block, ad.off + 1 + j, none⟩ : Addr) by simp [Addr.add, Nat.add_assoc]] at c1
        have hpj := piece_any (w := wr) k L[1 + j] (hL _ (List.getElem_mem hj2))
        rw [← hMg.out j hjM hj2] at hpj
        have hst := mids_step hjM hz.out
        have hsp := fun hn => mids_stop hjM hz.out hn
        have hji0 : (0 : Int) ≤ (j : Int) := by omega
        have hji1 : (j : Int) < (m : Int) := by omega
        generalize M[j] = P at *
        generalize L[1 + j] = l1 at *
        have hcu := fun (wx : World) (q : Ext wr wx) => cut_any (w := wx) z P (by omega) ((hmx.ext hx).ext q)
        cases hco : cutO z P with
        | none =>
          have h2 := cut_none hco
          have hR3 := hR2.out
          rw [hsp hco] at hR3
          rw [h2] at hcu
          clear hst hsp h2 hco hz hR2 cE hpe hcells hMg hMl
          go_wp2_with fail
          refine hpj.mono ?_
          rintro e w4 ⟨rfl, x4⟩
          have hcw := hcu w4 x4
          clear hpj hcu
          go_wp2_with fail
          refine hcw.mono ?_
          rintro e w5 ⟨rfl, n5, rfl⟩
          clear hcw
          go_wp2_with fail
          go_ret2
          rw [hR3]
          exact ⟨rfl, (ext_trans yx x4).drewN n5⟩
        | some r =>
          obtain ⟨h1, h2⟩ := cut_some hco
          rw [h1, h2] at hcu
          have hrl := cutO_len hco
          rw [hco] at hst
          replace hst := Lib.hid hst
          clear hsp h1 h2 hco hz hMg hMl
          go_wp2_with fail
          refine hpj.mono ?_
          rintro e w4 ⟨rfl, x4⟩
          have hcw := hcu w4 x4
          clear hpj hcu
          go_wp2_with fail
          refine hcw.mono ?_
          rintro e w5 ⟨rfl, n5, rfl⟩
          clear hcw
          go_wp2_with fail
          exact ⟨⟨j + 1, r, by omega, by go_num, rfl, by omega, hst, (ext_trans hx x4).drewN n5⟩, by simp [intOf] <;> omega⟩
end
end Go.Proofs.YtgghjkefbfbopaaDoor
