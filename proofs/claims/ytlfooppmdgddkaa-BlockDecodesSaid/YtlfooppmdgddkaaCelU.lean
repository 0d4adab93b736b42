/- block: the reader and the cells that are taken: what is kept from call to call. -/
import Derived.Test.YtlfooppmdgddkaaCelT
import Derived.Test.YtlfooppmdgddkaaOctS
namespace Go.Proofs.Ytlfooppmdgddkaa
open Go.RowKit
set_option maxRecDepth 100000

abbrev szO (st : Option (List UInt8)) : Nat := (st.getD []).length
theorem takeB_sum (st : Option (List UInt8)) : (takeB st).1.length + szO (takeB st).2 ≤ szO st := by
  have h := takeN_len st
  unfold takeB
  generalize (takeN st).1 = n at *
  generalize (takeN st).2 = t at *
  cases t with
  | none => exact Nat.zero_le _
  | some l =>
    unfold takeRaw
    have e0 : ((some l).getD []).length = l.length := rfl
    by_cases hn : (n : Int) < 0 ∨ (l.length : Int) < (n : Int)
    · simp only [if_pos hn]
      exact Nat.zero_le _
    · simp only [if_neg hn]
      show (l.take _).length + (l.drop _).length ≤ szO st
      rw [List.length_take, List.length_drop]
      unfold szO
      omega

/-- What stands between the calls: the reader, and the cells of one's own. -/
structure Rk (w : World) (g : Nat) (T : Nat → Prop) (wr : World) (vr : Value) (st : Option (List UInt8)) (va : Value) (acc : List Ce) : Prop where
  r : Rr wr g T vr st
  p : OwnC wr va acc
  fr : Fresh (g + 1) va
  ex : Ext w wr
  lo : w.heap.size ≤ g
  ts : ∀ k, T k → k < w.heap.size
section
variable {w wr w' : World} {g : Nat} {T F : Nat → Prop} {vr v' va : Value} {st st' : Option (List UInt8)} {acc : List Ce}
theorem Rk.call (h : Rk w g T wr vr st va acc) (r' : Rr w' g T v' st') (m : Mod (fun k => k = g) wr w') : Rk w g T w' v' st' va acc :=
  ⟨r', h.p.mod m (fun b hb hF => by have := h.fr b hb; omega), h.fr, h.ex.trans m (fun _ _ h => h) (fun k hk hF => by have := h.lo; omega), h.lo, h.ts⟩
theorem Rk.mod (h : Rk w g T wr vr st va acc) (m : Mod F wr w') (hF : ∀ k, F k → g < k ∧ ¬ own va k) : Rk w g T w' vr st va acc :=
  ⟨h.r.mod m (fun hg => by have := (hF g hg).1; omega) (fun k _ hk hf => by have := h.ts k hk; have := (hF k hf).1; have := h.lo; omega), h.p.mod m (fun b hb hf => (hF b hf).2 hb), h.fr,
    h.ex.trans m (fun _ _ h => h) (fun k hk hf => by have := (hF k hf).1; have := h.lo; omega), h.lo, h.ts⟩
theorem Rk.ext (h : Rk w g T wr vr st va acc) (m : Ext wr w') : Rk w g T w' vr st va acc := h.mod m (fun _ h => h.elim)
theorem Rr.rlen (h : Rr wr g T vr st) : rlen wr g = szO st := by
  obtain ⟨A, c, hv, _⟩ := h.row.open_
  unfold Proofs.Ytlfooppmdgddkaa.rlen
  rw [h.blk.c1.1, hv]
/-- The new room of a call. -/
theorem Rk.begin {y : Value} {bs : List UInt8} {S : Nat → Prop} (hy : Bs w S y bs) : Rk w w.heap.size (fun k => S k ∧ k < w.heap.size) (w.alloc (.cells #[y, .bool false] 97)) y (some bs) (.slice none 0 0) [] :=
  ⟨⟨Blk.new w _ _, (hy.mono fun k hk hs => ⟨hs, hk⟩).ext ((Mod.refl _ w).alloc _), fun h => absurd h.2 (Nat.lt_irrefl _)⟩, OwnR.nil _ _ _ _, fresh_nil _ _ _, (Mod.refl _ w).alloc _, Nat.le_refl _, fun k hk => hk.2⟩
end
/-- The key behind. -/
theorem prevC_snoc (acc : List Ce) (c : Ce) : prevC (acc ++ [c]) (acc ++ [c]).length = c.key := by
  unfold prevC
  rw [if_neg (by simp)]
  simp
end Go.Proofs.Ytlfooppmdgddkaa
