/- table: what a reader has, as a Table. -/
import Derived.Test.YthohghnfiicndaaDoorTabH
namespace Go.Proofs.YthohghnfiicndaaDoor
open Go.RowKit Go.Maps Go.WideMaps
set_option maxRecDepth 100000

def mSt : Option (List UInt8) → Nat
  | some l => l.length + 1
  | none => 0
def rms (w : World) (b : Nat) : Nat := match w.cell? ⟨b, 0, none⟩, w.cell? ⟨b, 1, none⟩ with
  | some (.slice _ n _), some (.bool false) => n + 1
  | _, _ => 0
theorem Rd.rms {w : World} {b : Nat} {S : Nat → Prop} {v : Value} {st : Option (List UInt8)} (h : Rd w b S v st) : rms w b = mSt st := by
  obtain ⟨A, c, hv, _⟩ := h.row.open_
  have c0 : w.cell? ⟨b, 0, none⟩ = some v := h.blk.cell 0
  have c1 : w.cell? ⟨b, 1, none⟩ = some (.bool st.isNone) := h.blk.cell 1
  unfold Go.Proofs.YthohghnfiicndaaDoor.rms
  rw [c0, c1, hv]
  cases st <;> rfl
theorem takeB_lt {l l1 : List UInt8} (h : (takeB (some l)).2 = some l1) : l1.length < l.length := by
  unfold takeB at h
  rcases hn : takeN (some l) with ⟨n, s⟩
  rw [hn] at h
  cases s with
  | none => cases h
  | some t =>
    have h1 := takeN_lt hn
    simp only [takeRaw] at h
    split at h
    · cases h
    · injection h with h
      rw [← h, List.length_drop]; omega
theorem nx_lt {l l1 : List UInt8} (h : nxT (some l) = some l1) : l1.length < l.length := by
  unfold nxT at h
  cases h1 : (takeB (some l)).2 with
  | none => rw [h1, takeN_no, takeB_none] at h; cases h
  | some t =>
    have a1 := takeB_lt h1
    have a2 := takeN_len (takeB (some l)).2
    have a3 := takeB_sum (takeN (takeB (some l)).2).2
    rw [h] at a3
    rw [h1] at a2
    rw [h1] at a3
    unfold szO at a3
    simp only [Option.getD_some] at a2 a3
    omega
theorem nx_mSt (l : List UInt8) : mSt (nxT (some l)) < mSt (some l) := by
  cases h : nxT (some l) with
  | none => exact Nat.succ_pos _
  | some t => exact Nat.succ_lt_succ (nx_lt h)
theorem run_weight : ∀ (m : Nat) (st : Option (List UInt8)) (acc acc' : List Bl) (st' : Option (List UInt8)), runT m st acc = some (acc', st') →
    wC (allT acc') + 4 * szO st' ≤ wC (allT acc) + 4 * szO st ∧ acc'.length + mSt st' ≤ acc.length + mSt st
  | 0, st, acc, acc', st', h => by
    injection h with h; injection h with h1 h2
    subst h1; subst h2
    exact ⟨Nat.le_refl _, Nat.le_refl _⟩
  | m + 1, none, acc, acc', st', h => by
    injection h with h; injection h with h1 h2
    subst h1; subst h2
    exact ⟨Nat.le_refl _, Nat.le_refl _⟩
  | m + 1, some l, acc, acc', st', h => by
    by_cases hb : hasE acc (enT (some l)) = true ∨ (decB (byT (some l))).2 ≠ 0
    · rw [runT_bad hb] at h; cases h
    · have e1 : hasE acc (enT (some l)) = false := by cases h1 : hasE acc (enT (some l)); · rfl
                                                      · exact absurd (.inl h1) hb
      have e2 : (decB (byT (some l))).2 = 0 := Decidable.byContradiction fun h1 => hb (.inr h1)
      rw [runT_step e1 e2] at h
      obtain ⟨i1, i2⟩ := run_weight m _ _ _ _ h
      have a1 := (dec_weight e2).1
      have a2 := nx_size (some l)
      have a3 := nx_mSt l
      rw [allT_snoc, wC_append] at i1
      rw [List.length_append, List.length_singleton] at i2
      simp only at i1
      constructor
      · omega
      · omega
theorem open_weight {p : List UInt8} {x : List Bl × Nat × List UInt8} (h : openT p = some x) : wC (allT x.1) ≤ 4 * p.length ∧ x.1.length ≤ p.length + 1 := by
  unfold openT at h
  cases hr : runT (takeN (some p)).1 (takeN (some p)).2 [] with
  | none => rw [hr] at h; cases h
  | some y =>
    rw [hr] at h
    obtain ⟨acc', st'⟩ := y
    obtain ⟨h1, h2⟩ := run_weight _ _ _ _ _ hr
    have h3 := takeN_len (some p)
    have h4 : mSt (takeN (some p)).2 ≤ p.length + 1 := by
      cases h5 : (takeN (some p)).2 with
      | none => exact Nat.zero_le _
      | some t => rw [h5] at h3; simp only [Option.getD_some] at h3; show t.length + 1 ≤ _; omega
    have h0 : x.1 = acc' := by
      simp only [Option.bind_some, restT] at h
      split at h
      · injection h with h; rw [← h]
      · cases h
    rw [h0]
    unfold szO at h1
    simp only [allT, List.flatMap_nil, Option.getD_some, List.length_nil, wC, List.map_nil, List.sum_nil] at h1 h2 h3 ⊢
    exact ⟨by omega, by omega⟩
theorem enT_fit {st : Option (List UInt8)} (h : szO st ≤ 1000000) : EFit (enT st) := by
  have h1 := takeB_sum st
  have h2 : (takeN (takeB st).2).1 ≤ 4611686018427387904 := by
    cases (takeB st).2 with
    | none => exact Nat.zero_le _
    | some l =>
      rcases hn : takeN (some l) with ⟨n, s⟩
      cases s with
      | none =>
        unfold takeN takeNum at hn
        simp only at hn
        split at hn
        · injection hn with hn _; omega
        · cases hn
      | some t =>
        unfold takeN takeNum at hn
        simp only at hn
        split at hn
        · cases hn
        · rename_i n' t' hh
          have := (numF_lt _ _ _ _ _ _ hh).2
          injection hn with hn _
          omega
  unfold EFit enT
  refine ⟨by show (takeB st).1.length ≤ _; omega, by show (0 : Int) ≤ ((takeN (takeB st).2).1 : Int); omega, by show ((takeN (takeB st).2).1 : Int) ≤ _; omega⟩
end Go.Proofs.YthohghnfiicndaaDoor
