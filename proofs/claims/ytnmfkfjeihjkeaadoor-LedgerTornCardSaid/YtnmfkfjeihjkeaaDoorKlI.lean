/- ledger: the records of a log taken in, one behind the other. -/
import Derived.Test.YtnmfkfjeihjkeaaDoorKlH
namespace Go.Proofs.YtnmfkfjeihjkeaaDoor
open Go.RowKit Go.Maps Go.WideMaps
set_option maxRecDepth 100000

/-- Records numbered from m on. -/
def numd (m : Nat) : Tx → Tx
  | [] => []
  | p :: ps => numB m p :: numd (m + 1) ps
theorem numd_len : ∀ (m : Nat) (ps : Tx), (numd m ps).length = ps.length
  | _, [] => rfl
  | m, p :: ps => by rw [numd, List.length_cons, numd_len, List.length_cons]
theorem numd_get : ∀ (m : Nat) (ps : Tx) (k : Nat) (hk : k < ps.length) (hk' : k < (numd m ps).length), (numd m ps)[k] = numB (m + k) ps[k]
  | _, [], k, hk, _ => absurd hk (by simp)
  | m, p :: ps, 0, _, _ => by simp [numd]
  | m, p :: ps, k + 1, hk, _ => by
    simp only [numd, List.getElem_cons_succ]
    rw [numd_get (m + 1) ps k (by simpa using hk), show m + 1 + k = m + (k + 1) by omega]
theorem numd_app : ∀ (m : Nat) (ps qs : Tx), numd m (ps ++ qs) = numd m ps ++ numd (m + ps.length) qs
  | _, [], _ => rfl
  | m, p :: ps, qs => by
    simp only [List.cons_append, numd, List.length_cons]
    rw [numd_app, show m + 1 + ps.length = m + (ps.length + 1) by omega]
theorem esN_drop {base m k : Nat} {ps : Tx} (hm : m ≤ base + 1) (hk : k < ps.length) : esN base (m + k) ((ps.take k).drop (base + 1 - m)) ps[k] = (ps.take (k + 1)).drop (base + 1 - m) := by
  unfold esN
  by_cases h : m + k ≤ base
  · rw [if_pos h, List.drop_of_length_le (by rw [List.length_take]; omega), List.drop_of_length_le (by rw [List.length_take]; omega)]
  · rw [if_neg h, List.take_succ_eq_append_getElem hk, List.drop_append_of_le_length (by rw [List.length_take]; omega)]
section
variable {w w' : World} {t : Nat} {y : Value} {base m : Nat} {ps : Tx} {V : Nat → Prop}
set_option maxHeartbeats 16000000 in
theorem each5_any (tk : Blk w t 133 (tcells base 0 (.slice none 0 0))) (hrows : Rw w V y (numd m ps)) (hV : ∀ k, V k → k < w.heap.size ∧ k ≠ t) (h1 : 1 ≤ m) (hm : m ≤ base + 1) (hmost : m + ps.length ≤ 1099511627776) (hps : ps.length ≤ 100000) (hp : ∀ p ∈ ps, p.length ≤ 900000) (hbase : base ≤ 1099511627776) :
    Calls Tryd.prog 97 #[y, .func (.func 98) #[pv t] #[]] w fun e w' => e = .returned (.int .i64 0) ∧ (∃ ah tv vs, Blk w' t 133 (tcells base ah tv) ∧ Orw w' w.heap.size tv vs (ps.drop (base + 1 - m))) ∧ Mod (fun k => k = t) w w' := by
  obtain ⟨A, c, vs0, rfl, p1, p2, p3, p0, p5, p6⟩ := hrows.open_
  clear hrows
  have hnl := numd_len m ps
  rw [hnl] at p1
  obtain ⟨E, hE⟩ : ∃ E, E = ps.drop (base + 1 - m) := ⟨_, rfl⟩
  rw [← hE]
  replace hE := Lib.hid hE
  rw [hnl]
  go_enter Tryd.func97, Tryd.ntmps97
  go_wp2_with fail
  go_loopw [10] (fun i wr => ∃ (k : Nat), k ≤ ps.length ∧ i = .int .i64 k ∧ (∃ ah tv vs, Hid (ah = 0 ∨ m + k = ah + 1) ∧ ah ≤ 1099511627776 ∧ Blk wr t 133 (tcells base ah tv) ∧ Orw wr w.heap.size tv vs ((ps.take k).drop (base + 1 - m))) ∧ Mod (fun k => k = t) w wr) (fun i _ => ps.length - (intOf i).toNat)
  case atStart => exact ⟨0, Nat.zero_le _, rfl, ⟨0, _, _, Lib.hid (.inl rfl), by omega, tk, by rw [List.take_zero, List.drop_nil]; exact Orw.nil _ _⟩, Mod.refl _ _⟩
  case round =>
    clear tk
    obtain ⟨k, hk, rfl, ⟨ah, tv, vs, hah, hah2, tk, ho⟩, hmod⟩ := hrel
    by_cases hlt : k < ps.length
    case neg =>
      have hbl : decide ((k : Int) < (ps.length : Int)) = false := dfalse (by omega)
      rw [List.take_of_length_le (by omega), ← hE.out] at ho
      go_wp2_with fail
      go_ret
      exact ⟨rfl, ⟨ah, tv, vs, tk, ho⟩, hmod⟩
    have hbl : decide ((k : Int) < (ps.length : Int)) = true := dtrue (by omega)
    obtain ⟨ad, x, hA, hS, hc, hB⟩ := row_at (L := numd m ps) p0 (p5.mod hmod fun k _ hk e => (hV k hk).2 e) (fun k x l h1 h2 => (p6 k x l h1 h2).mod hmod fun k _ hk e => (hV k hk).2 e) (by rw [hnl]; exact hlt)
    rw [numd_get m ps k hlt (by rw [hnl]; exact hlt)] at hB
    have hpl := hp _ (List.getElem_mem hlt)
    have hnb := numB_len (m + k) ps[k] (by omega) (by omega)
    have hel : ((ps.take k).drop (base + 1 - m)).length = k - (base + 1 - m) := by rw [List.length_drop, List.length_take, Nat.min_eq_left (by omega)]
    have hct := take5_any tk ho hmod.size hB (by omega) (Img.numB (m + k) ps[k] (by omega) (by omega)) (by omega) hah.out (by rw [hel]; omega) hah2 hbase (by rw [hel]; omega)
    rw [esN_drop hm hlt] at hct
    subst hA
    have hi0 : (0 : Int) ≤ (k : Int) := by omega
    have hi1 : (k : Int) < (ps.length : Int) := by omega
    have hfresh := ho.fresh
    have hnx : (m + k = 0 ∨ m + (k + 1) = m + k + 1) := .inr (by omega)
    clear tk ho hB hel hnb p5 p6
    generalize hG : (ps.take (k + 1)).drop (base + 1 - m) = G at hct
    replace hG := Lib.hid hG
    go_wp2_with fail
    refine hct.mono ?_
    rintro e w2 ⟨rfl, ⟨tv', vs', tk', ho'⟩, m2⟩
    have hm2 : Mod (fun k => k = t) w w2 := hmod.trans m2 (fun _ _ h => h) (fun k hk h => h.elim id fun h => by have := hfresh k h; omega)
    clear hct m2 hmod
    go_wp2_with fail
    exact ⟨⟨k + 1, by omega, by go_num, ⟨m + k, tv', vs', Lib.hid (.inr (by omega)), by omega, tk', by rw [hG.out]; exact ho'⟩, hm2⟩, by simp [intOf] <;> omega⟩
end
end Go.Proofs.YtnmfkfjeihjkeaaDoor
