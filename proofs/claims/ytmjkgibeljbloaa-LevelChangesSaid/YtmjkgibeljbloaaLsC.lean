/- sorting files: how two stand, as a number; what is sorted. -/
import Derived.Test.YtmjkgibeljbloaaLsB
namespace Go.Proofs.Ytmjkgibeljbloaa
open Go.RowKit
set_option maxRecDepth 100000

def cmpS (a b : List UInt8) : Int := if Op.bytesLess a b = true then -1 else if Op.bytesLess b a = true then 1 else 0
theorem cmpS_lt (a b : List UInt8) : decide (cmpS a b < 0) = Op.bytesLess a b := by
  unfold cmpS
  cases h : Op.bytesLess a b
  · rw [if_neg (by decide)]
    split <;> rfl
  · rfl
def ordI (a b : Fl) : Int := if a.lev = b.lev then (if a.lev = 0 then cmpI a.id b.id else cmpS a.first b.first) else cmpI a.lev b.lev
theorem ordI_lt (a b : Fl) : decide (ordI a b < 0) = decide (aheadF a b) := by
  unfold ordI aheadF
  by_cases h : a.lev = b.lev
  · by_cases h0 : a.lev = 0
    · simp only [if_pos h, if_pos h0]; exact cmpI_lt _ _
    · simp only [if_pos h, if_neg h0]; rw [cmpS_lt]; simp
  · simp only [if_neg h]; exact cmpI_lt _ _
set_option maxHeartbeats 4000000 in
theorem nan_any {w : World} (a : List UInt8) : Calls Try.prog 72 #[sv a] w fun e w' => e = .returned (.bool false) ∧ w' = w := by
  have hb : (a != a) = false := by rw [bne_eq_false_iff_eq]
  go_enter Try.func72, Try.ntmps72
  go_wp2_with fail
  go_ret
  exact ⟨rfl, rfl⟩
set_option maxHeartbeats 8000000 in
theorem cmpstr_any {w : World} (a b : List UInt8) : Calls Try.prog 67 #[sv a, sv b] w fun e w' => e = .returned (.int .i64 (cmpS a b)) ∧ w' = w := by
  have ka := fun wx => nan_any (w := wx) a
  have kb := fun wx => nan_any (w := wx) b
  by_cases h : Op.bytesLess a b = true
  case pos =>
    have hR : Hid (cmpS a b = -1) := Lib.hid (by unfold cmpS; rw [if_pos h])
    go_enter Try.func67, Try.ntmps67
    go_wp2_with (go_at_call 72; first | (with_reducible refine (ka _).mono ?_; rintro e' w' ⟨rfl, rfl⟩) | (with_reducible refine (kb _).mono ?_; rintro e' w' ⟨rfl, rfl⟩))
    go_ret
    exact ⟨by rw [hR.out]; rfl, rfl⟩
  have h' : Op.bytesLess a b = false := by simpa using h
  by_cases k : Op.bytesLess b a = true
  case pos =>
    have hR : Hid (cmpS a b = 1) := Lib.hid (by unfold cmpS; rw [if_neg h, if_pos k])
    clear h
    have hne : (a == b) = false := by
      rw [beq_eq_false_iff_ne]
      intro e
      rw [e] at k h'
      rw [k] at h'
      exact Bool.noConfusion h'
    go_enter Try.func67, Try.ntmps67
    go_wp2_with (go_at_call 72; first | (with_reducible refine (ka _).mono ?_; rintro e' w' ⟨rfl, rfl⟩) | (with_reducible refine (kb _).mono ?_; rintro e' w' ⟨rfl, rfl⟩))
    go_ret
    exact ⟨by rw [hR.out]; rfl, rfl⟩
  have k' : Op.bytesLess b a = false := by simpa using k
  have hR : Hid (cmpS a b = 0) := Lib.hid (by unfold cmpS; rw [if_neg h, if_neg k])
  clear h k
  have hne : (a == b) = true := by
    rw [beq_iff_eq]
    exact Decidable.byContradiction fun e => by
      have := less_asym a b e
      rw [h', k'] at this
      exact Bool.noConfusion this
  go_enter Try.func67, Try.ntmps67
  go_wp2_with (go_at_call 72; first | (with_reducible refine (ka _).mono ?_; rintro e' w' ⟨rfl, rfl⟩) | (with_reducible refine (kb _).mono ?_; rintro e' w' ⟨rfl, rfl⟩))
  go_ret
  exact ⟨by rw [hR.out]; rfl, rfl⟩
set_option maxHeartbeats 8000000 in
theorem order_any {w : World} (f g : Fl) : Calls Try.prog 51 #[.agg (fia f), .agg (fia g)] w fun e w' => e = .returned (.int .i64 (ordI f g)) ∧ Ext w w' := by
  obtain ⟨i, l, z, a, b⟩ := f
  obtain ⟨i', l', z', a', b'⟩ := g
  obtain ⟨⟨c0, c1, c2, c3, c4⟩, ⟨d0, d1, d2, d3, d4⟩⟩ := boxedF2 w ⟨i, l, z, a, b⟩ ⟨i', l', z', a', b'⟩
  have hx : Ext w ((w.alloc (.cells (fia ⟨i, l, z, a, b⟩) 48)).alloc (.cells (fia ⟨i', l', z', a', b'⟩) 48)) := ((Mod.refl _ w).alloc _).alloc _
  obtain ⟨w0, hw0⟩ : ∃ w0, w0 = (w.alloc (.cells (fia ⟨i, l, z, a, b⟩) 48)).alloc (.cells (fia ⟨i', l', z', a', b'⟩) 48) := ⟨_, rfl⟩
  rw [← hw0] at c0 c1 c2 c3 c4 d0 d1 d2 d3 d4 hx
  replace hw0 := Lib.hid hw0
  have hdef : ordI ⟨i, l, z, a, b⟩ ⟨i', l', z', a', b'⟩ = if l = l' then (if l = 0 then cmpI i i' else cmpS a a') else cmpI l l' := rfl
  by_cases h0 : l = l'
  case neg =>
    have q0 : (l != l') = true := by rw [bne_iff_ne]; exact h0
    have q0' : (l == l') = false := by rw [beq_eq_false_iff_ne]; exact h0
    have hR : Hid (ordI ⟨i, l, z, a, b⟩ ⟨i', l', z', a', b'⟩ = cmpI l l') := Lib.hid (by rw [hdef, if_neg h0])
    have hc := fun wx => cmpint_any (w := wx) l l'
    clear hdef h0
    go_enter Try.func51, Try.ntmps51
    go_upto_region 1 with fail
    rw [← hw0.out]
    go_wp2_with (go_at_call 55; refine (hc _).mono ?_; rintro e' w' ⟨rfl, rfl⟩)
    go_ret
    exact ⟨by rw [hR.out]; rfl, hx⟩
  have q0 : (l != l') = false := by rw [bne_eq_false_iff_eq]; exact h0
  have q0' : (l == l') = true := by rw [beq_iff_eq]; exact h0
  by_cases h1 : l = 0
  case neg =>
    have q1 : (l == 0) = false := by rw [beq_eq_false_iff_ne]; exact h1
    have hR : Hid (ordI ⟨i, l, z, a, b⟩ ⟨i', l', z', a', b'⟩ = cmpS a a') := Lib.hid (by rw [hdef, if_pos h0, if_neg h1])
    have hc := fun wx => cmpstr_any (w := wx) a a'
    clear hdef h0 h1
    go_enter Try.func51, Try.ntmps51
    go_upto_region 1 with fail
    rw [← hw0.out]
    go_wp2_with (go_at_call 67; refine (hc _).mono ?_; rintro e' w' ⟨rfl, rfl⟩)
    go_ret
    exact ⟨by rw [hR.out]; rfl, hx⟩
  have q1 : (l == 0) = true := by rw [beq_iff_eq]; exact h1
  have hR : Hid (ordI ⟨i, l, z, a, b⟩ ⟨i', l', z', a', b'⟩ = cmpI i i') := Lib.hid (by rw [hdef, if_pos h0, if_pos h1])
  have hc := fun wx => cmpint_any (w := wx) i i'
  clear hdef h0 h1
  go_enter Try.func51, Try.ntmps51
  go_upto_region 1 with fail
  rw [← hw0.out]
  go_wp2_with (go_at_call 55; refine (hc _).mono ?_; rintro e' w' ⟨rfl, rfl⟩)
  go_ret
  exact ⟨by rw [hR.out]; rfl, hx⟩

/-- Not behind. -/
def leF (a b : Fl) : Prop := ¬ aheadF b a
theorem leF_of {a b : Fl} (h : aheadF a b) : leF a b := by
  unfold leF aheadF at *
  split at h
  · next e =>
    rw [if_pos e.symm]
    split at h
    · next z => rw [if_pos (by omega)]; omega
    · next z =>
      rw [if_neg (by omega)]
      have := leT_of h
      simpa using this
  · next e => rw [if_neg (fun k => e k.symm)]; omega
theorem leF_of_not {a b : Fl} (h : ¬ aheadF a b) : leF b a := h
theorem leF_trans {a b c : Fl} (h : leF a b) (k : leF b c) : leF a c := by
  unfold leF aheadF at *
  by_cases e1 : b.lev = a.lev
  · by_cases e2 : c.lev = b.lev
    · by_cases z : a.lev = 0
      · rw [if_pos e1, if_pos (by omega)] at h
        rw [if_pos e2, if_pos (by omega)] at k
        rw [if_pos (by omega), if_pos (by omega)]
        omega
      · rw [if_pos e1, if_neg (by omega)] at h
        rw [if_pos e2, if_neg (by omega)] at k
        rw [if_pos (by omega), if_neg (by omega)]
        have h' : leT a.first b.first := by simpa using h
        have k' : leT b.first c.first := by simpa using k
        have := h'.trans k'
        simpa using this
    · rw [if_neg e2] at k
      rw [if_neg (by omega)]
      omega
  · rw [if_neg e1] at h
    by_cases e2 : c.lev = b.lev
    · rw [if_neg (by omega)]; omega
    · rw [if_neg e2] at k
      rw [if_neg (by omega)]; omega
abbrev Srt (L : List Fl) : Prop := L.Pairwise leF
theorem Srt.get {L : List Fl} (h : Srt L) {i j : Nat} (hij : i < j) (hj : j < L.length) : leF (L[i]'(by omega)) L[j] := List.pairwise_iff_getElem.1 h i j (by omega) hj hij
/-- What ahead of a thing stays so further down. -/
theorem Srt.ahead {L : List Fl} (h : Srt L) {x : Fl} {i j : Nat} (hij : i ≤ j) (hj : j < L.length) (ha : aheadF L[j] x) : aheadF (L[i]'(by omega)) x := by
  rcases Nat.lt_or_eq_of_le hij with q | rfl
  · exact Decidable.byContradiction fun hc => leF_trans (leF_of_not hc) (h.get q hj) ha
  · exact ha
theorem Srt.behind {L : List Fl} (h : Srt L) {x : Fl} {i j : Nat} (hij : i ≤ j) (hj : j < L.length) (ha : aheadF x (L[i]'(by omega))) : aheadF x L[j] := by
  rcases Nat.lt_or_eq_of_le hij with q | rfl
  · exact Decidable.byContradiction fun hc => leF_trans (h.get q hj) (leF_of_not hc) ha
  · exact ha
theorem Srt.app {A B : List Fl} (ha : Srt A) (hb : Srt B) (hab : ∀ x ∈ A, ∀ y ∈ B, leF x y) : Srt (A ++ B) := List.pairwise_append.2 ⟨ha, hb, hab⟩
end Go.Proofs.Ytmjkgibeljbloaa
