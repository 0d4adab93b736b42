/- batch: Check, on both sides. -/
import Derived.Test.YtlfooppmdgddkaaBatB
namespace Go.Proofs.Ytlfooppmdgddkaa
open Go.RowKit
set_option maxRecDepth 100000

/-- The bytes of rows. -/
def lR (L : List Ro) : Nat := (L.map fun c => c.key.length + c.val.length).sum
theorem lR_cons (a : Ro) (L : List Ro) : lR (a :: L) = a.key.length + a.val.length + lR L := by simp [lR]
theorem lR_append (L M : List Ro) : lR (L ++ M) = lR L + lR M := by simp [lR]
theorem lR_snoc (L : List Ro) {k : Nat} (h : k < L.length) : lR (L.take (k + 1)) = lR (L.take k) + (L[k].key.length + L[k].val.length) := by
  rw [List.take_succ_eq_append_getElem h, lR_append, lR_cons]; simp [lR]
theorem lR_w : ∀ L : List Ro, lR L ≤ wR L
  | [] => Nat.le_refl _
  | a :: L => by rw [lR_cons, wR_cons]; have := lR_w L; omega
theorem lR_take (L : List Ro) (k : Nat) : lR (L.take k) ≤ lR L := by
  have := lR_append (L.take k) (L.drop k)
  rw [List.take_append_drop] at this; omega
/-- May a row be? -/
def isR (r : Ro) : Prop := isC (cellR r 1)
instance (r : Ro) : Decidable (isR r) := inferInstanceAs (Decidable (isC _))
/-- P10.1: may rows be? -/
def chkR (L : List Ro) : Nat := if L = [] then 1 else if ∀ r ∈ L, isR r then (if 512 < L.length ∨ 32768 < lR L then 5 else 0) else 1
theorem chk_bad {L : List Ro} {k : Nat} (h : k < L.length) (hb : ¬ isR L[k]) : chkR L = 1 := by
  unfold chkR
  split
  · rfl
  · rw [if_neg (fun hall => hb (hall _ (List.getElem_mem _)))]
theorem chk_all {L : List Ro} (h0 : L ≠ []) (h : ∀ j (hj : j < L.length), isR L[j]) : chkR L = if 512 < L.length ∨ 32768 < lR L then 5 else 0 := by
  unfold chkR
  rw [if_neg h0, if_pos (fun r hr => by obtain ⟨j, hj, rfl⟩ := List.mem_iff_getElem.1 hr; exact h j hj)]
theorem chk_zero {L : List Ro} (h : chkR L = 0) : L ≠ [] ∧ (∀ r ∈ L, isR r) ∧ L.length ≤ 512 ∧ lR L ≤ 32768 := by
  unfold chkR at h
  split at h
  · cases h
  · rename_i h0
    split at h
    · rename_i h1
      split at h
      · cases h
      · rename_i h2
        exact ⟨h0, h1, by omega, by omega⟩
    · cases h

set_option maxHeartbeats 16000000 in
theorem check_any {w : World} {S : Nat → Prop} {v : Value} {L : List Ro} (h : Rs w S v L) (hw : wR L ≤ 1000000000) :
    Calls Try.prog 53 #[v] w fun e w' => e = .returned (.int .i64 (chkR L)) ∧ Ext w w' := by
  have hlw := wR_len L
  have hlr := lR_w L
  obtain ⟨A, c, rfl, h1, h2, h3, h4⟩ := h.open_ rol_len
  clear h
  have hcell := fun (wx : World) (r : Ro) => bcell_any (w := wx) r 1
  have hisc := fun (wx : World) (r : Ro) => is_any (w := wx) (cellR r 1)
  obtain ⟨R, hR⟩ : ∃ R, R = chkR L := ⟨_, rfl⟩
  rw [← hR]
  by_cases h0 : L = []
  · subst h0
    have hR1 : R = 1 := hR
    subst hR1
    clear hR
    go_enter Try.func53, Try.ntmps53
    go_wp2_with fail
    go_ret
    exact ⟨rfl, Mod.refl _ _⟩
  have hb0 : ((L.length : Int) == 0) = false := by
    rw [beq_eq_false_iff_ne]
    intro he
    exact h0 (List.eq_nil_of_length_eq_zero (by omega))
  replace hR := Lib.hid hR
  replace h0 := Lib.hid h0
  go_enter Try.func53, Try.ntmps53
  go_wp2_with fail
  go_loopw [3, 11] (fun n i wr => ∃ k : Nat, k ≤ L.length ∧ i = .int .i64 k ∧ n = .int .i64 (lR (L.take k) : Nat) ∧ Hid (∀ j (hj : j < L.length), j < k → isR L[j]) ∧ Ext w wr) (fun _ i _ => L.length - (intOf i).toNat)
  case atStart => exact ⟨0, by omega, rfl, rfl, Lib.hid (fun j hj h => by omega), Mod.refl _ _⟩
  case round =>
    obtain ⟨k, hk, rfl, rfl, hal, hxr⟩ := hrel
    have hlt2 := lR_take L k
    by_cases hlt : k < L.length
    case neg =>
      have hbl : decide ((k : Int) < (L.length : Int)) = false := dfalse (by omega)
      have hres := Lib.hid (hR.out.trans (chk_all h0.out (fun j hj => hal.out j hj (by omega))))
      have hn : lR (L.take k) = lR L := by rw [List.take_of_length_le (by omega)]
      rw [hn]
      clear hn hlt2
      obtain ⟨n, hnn⟩ : ∃ n, n = lR L := ⟨_, rfl⟩
      rw [← hnn] at hres hlr ⊢
      replace hnn := Lib.hid hnn
      by_cases hA1 : 512 < L.length
      · have hb1 : decide ((512 : Int) < (L.length : Int)) = true := dtrue (by omega)
        have hr2 := hres.out.trans (if_pos (.inl hA1))
        clear hres
        go_wp2_with fail
        go_ret
        exact ⟨by rw [hr2]; rfl, hxr⟩
      have hb1 : decide ((512 : Int) < (L.length : Int)) = false := dfalse (by omega)
      by_cases hA2 : 32768 < n
      · have hb2 : decide ((32768 : Int) < (n : Int)) = true := dtrue (by omega)
        have hr2 := hres.out.trans (if_pos (.inr hA2))
        clear hres
        go_wp2_with fail
        go_ret
        exact ⟨by rw [hr2]; rfl, hxr⟩
      have hb2 : decide ((32768 : Int) < (n : Int)) = false := dfalse (by omega)
      have hr2 := hres.out.trans (if_neg (by omega))
      clear hres
      go_wp2_with fail
      go_ret
      exact ⟨by rw [hr2]; rfl, hxr⟩
    have hbl : decide ((k : Int) < (L.length : Int)) = true := dtrue (by omega)
    obtain ⟨ad, hA, hS, c0, c1, c2⟩ := Rs.at_ (h4.ext hxr) hlt
    subst hA
    have hsn := lR_snoc L hlt
    have hlt3 := lR_take L (k + 1)
    have hbad := fun hb => Lib.hid (hR.out.trans (chk_bad hlt hb))
    have hgood : isR L[k] → Hid (∀ j (hj : j < L.length), j < k + 1 → isR L[j]) := fun hg => Lib.hid (fun j hj hjk => by
      by_cases e : j = k
      · subst e; exact hg
      · exact hal.out j hj (by omega))
    obtain ⟨P, hP⟩ : ∃ P : Prop, P = (∀ j (hj : j < L.length), j < k + 1 → isR L[j]) := ⟨_, rfl⟩
    rw [← hP] at hgood
    replace hP := Lib.hid hP
    have hi0 : (0 : Int) ≤ (k : Int) := by omega
    have hi1 : (k : Int) < (L.length : Int) := by omega
    rw [hsn] at hlt3
    obtain ⟨n2, hn2⟩ : ∃ n2, n2 = lR (L.take (k + 1)) := ⟨_, rfl⟩
    rw [← hn2] at hsn
    generalize L[k] = x at *
    obtain ⟨n, hnn⟩ : ∃ n, n = lR (L.take k) := ⟨_, rfl⟩
    rw [← hnn] at hsn hlt2 hlt3 ⊢
    replace hnn := Lib.hid hnn
    replace hn2 := Lib.hid hn2
    replace hsn := Lib.hid hsn
    have hz1 := sv_size x.key
    have hz2 := sv_size x.val
    clear hal
    obtain ⟨d0, d1, d2⟩ := boxedW wr x
    have xb : Ext wr (wr.alloc (.cells (rar x) 82)) := (Mod.refl _ wr).alloc _
    obtain ⟨w3, hw3⟩ : ∃ w3, w3 = wr.alloc (.cells (rar x) 82) := ⟨_, rfl⟩
    rw [← hw3] at d0 d1 d2 xb
    have x3 := ext_trans hxr xb
    have c9 := fun {wx : World} (hx : Ext w3 wx) => (⟨(hx.cell (lt_of_cell d0) (fun h => h)).trans d0, (hx.cell (lt_of_cell d1) (fun h => h)).trans d1⟩ : _ ∧ _)
    replace hw3 := Lib.hid hw3
    have hc2 := fun wx => hcell wx x
    have hi2 := fun wx => hisc wx x
    clear hcell hisc xb
    by_cases hx : isR x
    case neg =>
      have hR1 := hbad hx
      rw [show decide (isC (cellR x 1)) = false from dfalse hx] at hi2
      clear hbad hgood hx c9
      go_upto_region 7 with fail
      rw [← hw3.out]
      go_wp2_with fail
      refine (hc2 _).mono ?_
      rintro e w4 ⟨rfl, x4⟩
      go_wp2_with fail
      refine (hi2 _).mono ?_
      rintro e w5 ⟨rfl, x5⟩
      go_wp2_with fail
      go_ret
      exact ⟨by rw [hR1.out]; rfl, ext_trans x3 (ext_trans x4 x5)⟩
    have hP2 := hgood hx
    rw [show decide (isC (cellR x 1)) = true from dtrue hx] at hi2
    clear hbad hgood hx
    go_upto_region 7 with fail
    rw [← hw3.out]
    go_wp2_with fail
    refine (hc2 _).mono ?_
    rintro e w4 ⟨rfl, x4⟩
    go_wp2_with fail
    refine (hi2 _).mono ?_
    rintro e w5 ⟨rfl, x5⟩
    obtain ⟨e0, e1⟩ := c9 (ext_trans x4 x5)
    clear c9
    go_wp2_with fail
    exact ⟨⟨k + 1, by omega, by go_num, by rw [← hn2.out, hsn.out]; congr 1, Lib.hid (hP.out ▸ hP2.out), ext_trans x3 (ext_trans x4 x5)⟩, by simp [intOf] <;> omega⟩

set_option maxHeartbeats 16000000 in
theorem rcheck_any {w : World} {S : Nat → Prop} {v : Value} {L : List Ro} (h : Rs w S v L) (hw : wR L ≤ 1000000000) :
    Calls Try.prog 54 #[v] w fun e w' => e = .returned (.int .i64 (chkR L)) ∧ Ext w w' := by
  have hlw := wR_len L
  have hlr := lR_w L
  obtain ⟨A, c, rfl, h1, h2, h3, h4⟩ := h.open_ rol_len
  clear h
  have hcell := fun (wx : World) (r : Ro) => rbcell_any (w := wx) r 1
  have hisc := fun (wx : World) (r : Ro) => ris_any (w := wx) (cellR r 1)
  obtain ⟨R, hR⟩ : ∃ R, R = chkR L := ⟨_, rfl⟩
  rw [← hR]
  by_cases h0 : L = []
  · subst h0
    have hR1 : R = 1 := hR
    subst hR1
    clear hR
    go_enter Try.func54, Try.ntmps54
    go_wp2_with fail
    go_ret
    exact ⟨rfl, Mod.refl _ _⟩
  have hb0 : ((L.length : Int) == 0) = false := by
    rw [beq_eq_false_iff_ne]
    intro he
    exact h0 (List.eq_nil_of_length_eq_zero (by omega))
  replace hR := Lib.hid hR
  replace h0 := Lib.hid h0
  go_enter Try.func54, Try.ntmps54
  go_wp2_with fail
  go_loopw [3] (fun i wr => ∃ k : Nat, k ≤ L.length ∧ i = .int .i64 k ∧ Hid (∀ j (hj : j < L.length), j < k → isR L[j]) ∧ Ext w wr) (fun i _ => L.length - (intOf i).toNat)
  case atStart => exact ⟨0, by omega, rfl, Lib.hid (fun j hj h => by omega), Mod.refl _ _⟩
  case round =>
    obtain ⟨k, hk, rfl, hal, hxr⟩ := hrel
    by_cases hlt : k < L.length
    case neg =>
      have hbl : decide ((k : Int) < (L.length : Int)) = false := dfalse (by omega)
      have hres := Lib.hid (hR.out.trans (chk_all h0.out (fun j hj => hal.out j hj (by omega))))
      obtain ⟨n, hnn⟩ : ∃ n, n = lR L := ⟨_, rfl⟩
      rw [← hnn] at hres hlr
      by_cases hA1 : 512 < L.length
      · have hb1 : decide ((512 : Int) < (L.length : Int)) = true := dtrue (by omega)
        have hr2 := hres.out.trans (if_pos (.inl hA1))
        clear hres hnn
        go_wp2_with fail
        go_ret
        exact ⟨by rw [hr2]; rfl, hxr⟩
      have hb1 : decide ((512 : Int) < (L.length : Int)) = false := dfalse (by omega)
      replace hnn := Lib.hid hnn
      clear hal
      go_wp2_with fail
      go_loopw [4, 5] (fun n i wr => ∃ k : Nat, k ≤ L.length ∧ i = .int .i64 k ∧ n = .int .i64 (lR (L.take k) : Nat) ∧ Ext w wr) (fun _ i _ => L.length - (intOf i).toNat)
      case atStart => exact ⟨0, by omega, rfl, rfl, hxr⟩
      case round =>
        clear hxr
        obtain ⟨k, hk, rfl, rfl, hxr⟩ := hrel
        by_cases hlt : k < L.length
        case neg =>
          have hbl : decide ((k : Int) < (L.length : Int)) = false := dfalse (by omega)
          have hn : lR (L.take k) = n := by rw [List.take_of_length_le (by omega)]; exact hnn.out.symm
          rw [hn]
          clear hn
          by_cases hA2 : 32768 < n
          · have hb2 : decide ((32768 : Int) < (n : Int)) = true := dtrue (by omega)
            have hr2 := hres.out.trans (if_pos (.inr hA2))
            clear hres
            go_wp2_with fail
            go_ret
            exact ⟨by rw [hr2]; rfl, hxr⟩
          have hb2 : decide ((32768 : Int) < (n : Int)) = false := dfalse (by omega)
          have hr2 := hres.out.trans (if_neg (by omega))
          clear hres
          go_wp2_with fail
          go_ret
          exact ⟨by rw [hr2]; rfl, hxr⟩
        have hbl : decide ((k : Int) < (L.length : Int)) = true := dtrue (by omega)
        obtain ⟨ad, hA, hS, c0, c1, c2⟩ := Rs.at_ (h4.ext hxr) hlt
        subst hA
        have hsn := lR_snoc L hlt
        have hlt3 := lR_take L (k + 1)
        have hi0 : (0 : Int) ≤ (k : Int) := by omega
        have hi1 : (k : Int) < (L.length : Int) := by omega
        rw [hsn] at hlt3
        obtain ⟨n2, hn2⟩ : ∃ n2, n2 = lR (L.take (k + 1)) := ⟨_, rfl⟩
        rw [← hn2] at hsn
        generalize L[k] = x at *
        obtain ⟨n1, hnn1⟩ : ∃ n, n = lR (L.take k) := ⟨_, rfl⟩
        rw [← hnn1] at hsn hlt3 ⊢
        replace hnn1 := Lib.hid hnn1
        replace hn2 := Lib.hid hn2
        replace hsn := Lib.hid hsn
        have hlr3 : n1 + (x.key.length + x.val.length) ≤ 1000000000 := by rw [← hnn.out] at hlt3; omega
        have hz1 := sv_size x.key
        have hz2 := sv_size x.val
        clear hlt3 hlr
        have hdw : ∀ m, Ext w (wr.drewN m) := fun m => hxr.drewN m
        go_wp2_with fail
        go_quiet (fail)
        go_wp2_with fail
        exact ⟨⟨k + 1, by omega, by go_num, by rw [← hn2.out, hsn.out]; congr 1; omega, hdw _⟩, by simp [intOf] <;> omega⟩
    have hbl : decide ((k : Int) < (L.length : Int)) = true := dtrue (by omega)
    obtain ⟨ad, hA, hS, c0, c1, c2⟩ := Rs.at_ (h4.ext hxr) hlt
    subst hA
    have hbad := fun hb => Lib.hid (hR.out.trans (chk_bad hlt hb))
    have hgood : isR L[k] → Hid (∀ j (hj : j < L.length), j < k + 1 → isR L[j]) := fun hg => Lib.hid (fun j hj hjk => by
      by_cases e : j = k
      · subst e; exact hg
      · exact hal.out j hj (by omega))
    obtain ⟨P, hP⟩ : ∃ P : Prop, P = (∀ j (hj : j < L.length), j < k + 1 → isR L[j]) := ⟨_, rfl⟩
    rw [← hP] at hgood
    replace hP := Lib.hid hP
    have hi0 : (0 : Int) ≤ (k : Int) := by omega
    have hi1 : (k : Int) < (L.length : Int) := by omega
    generalize L[k] = x at *
    clear hal
    have hc2 := fun wx => hcell wx x
    have hi2 := fun wx => hisc wx x
    clear hcell hisc
    by_cases hx : isR x
    case neg =>
      have hR1 := hbad hx
      rw [show decide (isC (cellR x 1)) = false from dfalse hx] at hi2
      clear hbad hgood hx
      go_wp2_with fail
      refine (hc2 _).mono ?_
      rintro e w4 ⟨rfl, x4⟩
      go_wp2_with fail
      refine (hi2 _).mono ?_
      rintro e w5 ⟨rfl, x5⟩
      go_wp2_with fail
      go_ret
      exact ⟨by rw [hR1.out]; rfl, ext_trans hxr (ext_trans x4 x5)⟩
    have hP2 := hgood hx
    rw [show decide (isC (cellR x 1)) = true from dtrue hx] at hi2
    clear hbad hgood hx
    go_wp2_with fail
    refine (hc2 _).mono ?_
    rintro e w4 ⟨rfl, x4⟩
    go_wp2_with fail
    refine (hi2 _).mono ?_
    rintro e w5 ⟨rfl, x5⟩
    go_wp2_with fail
    exact ⟨⟨k + 1, by omega, by go_num, Lib.hid (hP.out ▸ hP2.out), ext_trans hxr (ext_trans x4 x5)⟩, by simp [intOf] <;> omega⟩
end Go.Proofs.Ytlfooppmdgddkaa
