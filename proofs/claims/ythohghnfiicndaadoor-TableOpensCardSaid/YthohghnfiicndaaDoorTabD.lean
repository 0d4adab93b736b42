/- table: cells cut into blocks. -/
import Derived.Test.YthohghnfiicndaaDoorTabA
import Derived.Deep.CutBlock
namespace Go.Proofs.YthohghnfiicndaaDoor
open Go.RowKit
set_option maxRecDepth 100000

theorem tyP : SliceTy Tryd.prog 44 22 (.slice none 0 0) 24 := ⟨Tryd.underlying44, by kernel_rfl, rfl, by omega⟩
/-- These values are slices that read as these pieces. -/
def El (w : World) (S : Nat → Prop) (vs : List Value) (Ls : List (List Ce)) : Prop := vs.length = Ls.length ∧ ∀ (k : Nat) (x : Value) (l : List Ce), vs[k]? = some x → Ls[k]? = some l → Cs w S x l
theorem El.nil (w : World) (S : Nat → Prop) : El w S [] [] := ⟨rfl, fun k x l hx hl => by simp at hx⟩
theorem El.snoc {w : World} {S : Nat → Prop} {vs : List Value} {Ls : List (List Ce)} {x : Value} {l : List Ce} (h : El w S vs Ls) (hx : Cs w S x l) : El w S (vs ++ [x]) (Ls ++ [l]) := by
  refine ⟨by rw [List.length_append, List.length_append, h.1]; rfl, fun k y m hy hm => ?_⟩
  by_cases hk : k < vs.length
  · rw [List.getElem?_append_left hk] at hy
    rw [List.getElem?_append_left (by rw [← h.1]; exact hk)] at hm
    exact h.2 k y m hy hm
  · rw [List.getElem?_append_right (by omega)] at hy
    rw [List.getElem?_append_right (by rw [← h.1]; omega), ← h.1] at hm
    generalize k - vs.length = j at *
    cases j with
    | zero =>
      simp at hy hm
      subst hy; subst hm
      exact hx
    | succ j => simp at hy
theorem El.ext {w w' : World} {S : Nat → Prop} {vs : List Value} {Ls : List (List Ce)} (h : El w S vs Ls) (hm : Ext w w') : El w' S vs Ls := ⟨h.1, fun k x l hx hl => (h.2 k x l hx hl).ext hm⟩
theorem Cs.piece {w : World} {S : Nat → Prop} {ad : Addr} {c s i : Nat} {L : List Ce} (h : Cs w S (.slice (some ad) L.length c) L) (hs : s ≤ i) (hi : i ≤ L.length) :
    Cs w S (.slice (some (ad.add (s * 4))) (i - s) (c - s)) ((L.take i).drop s) := by
  have h1 := Rc.begin cel_len h hi
  have e : (L.take i).length = i := by rw [List.length_take]; omega
  have h2 : Cs w S (.slice (some ad) (L.take i).length c) (L.take i) := by rw [e]; exact h1
  have h3 := Rc.rest cel_len h2 (m := s) (by omega)
  rw [e] at h3
  exact h3
/-- The cutting stands behind k cells, the open block from s on. -/
structure SpAt (L : List Ce) (k s n : Nat) (ps : List (List Ce)) : Prop where
  run : spRun (L.take k) = ⟨ps, (L.take k).drop s, n⟩
  le : s ≤ k
  lt : 0 < k → s < k
  hk : k ≤ L.length
theorem SpAt.begin (L : List Ce) : SpAt L 0 0 0 [] := ⟨rfl, Nat.le_refl _, fun h => absurd h (Nat.lt_irrefl _), Nat.zero_le _⟩
theorem SpAt.size {L : List Ce} {k s n : Nat} {ps : List (List Ce)} (h : SpAt L k s n ps) : n ≤ wC L + 16 * L.length ∧ ps.length ≤ L.length := by
  have h1 := (sp_ok (L.take k)).size
  have h2 := flat_len_ge _ (sp_ok (L.take k)).full
  have h3 := (sp_ok (L.take k)).all
  rw [h.run] at h1 h2 h3
  have h4 := congrArg List.length h3
  rw [List.length_append, List.length_take] at h4
  have h5 := wC_take L k
  have h6 := h.hk
  rw [List.length_take] at h1
  simp only at h1 h2 h4
  omega
theorem SpAt.close {L : List Ce} {k s n : Nat} {ps : List (List Ce)} (h : SpAt L k s n ps) (hk : k < L.length) (h1 : s < k) (h2 : 512 < n + szC L[k]) : SpAt L (k + 1) k (szC L[k]) (ps ++ [(L.take k).drop s]) := by
  refine ⟨?_, by omega, fun _ => by omega, hk⟩
  rw [spRun_snoc L hk, h.run]
  unfold spStep
  have hne : (L.take k).drop s ≠ [] := by
    intro e
    have := congrArg List.length e
    rw [List.length_drop, List.length_take, List.length_nil] at this
    omega
  have e : (L.take (k + 1)).drop k = [L[k]] := by
    rw [List.take_succ_eq_append_getElem hk, List.drop_append_of_le_length (by rw [List.length_take]; omega), List.drop_of_length_le (by rw [List.length_take]; omega)]
    rfl
  rw [if_pos ⟨hne, h2⟩, e]
theorem SpAt.more {L : List Ce} {k s n : Nat} {ps : List (List Ce)} (h : SpAt L k s n ps) (hk : k < L.length) (h1 : ¬ (s < k ∧ 512 < n + szC L[k])) : SpAt L (k + 1) s (n + szC L[k]) ps := by
  refine ⟨?_, by have := h.le; omega, fun _ => by have := h.le; omega, hk⟩
  rw [spRun_snoc L hk, h.run]
  unfold spStep
  rw [if_neg, List.take_succ_eq_append_getElem hk, List.drop_append_of_le_length (by rw [List.length_take]; have := h.le; omega)]
  rintro ⟨a, b⟩
  refine h1 ⟨?_, b⟩
  refine Decidable.byContradiction fun hn => a ?_
  exact List.drop_of_length_le (by rw [List.length_take]; have := h.le; omega)
theorem SpAt.done {L : List Ce} {s n : Nat} {ps : List (List Ce)} (h : SpAt L L.length s n ps) (hne : L ≠ []) : splitB L = ps ++ [(L.take L.length).drop s] := by
  rw [split_eq hne]
  have := h.run
  rw [List.take_length] at this
  rw [this, List.take_length]

set_option maxHeartbeats 8000000 in
theorem split_any {w : World} {S : Nat → Prop} {v : Value} {L : List Ce} (h : Cs w S v L) (hne : L ≠ []) (hw : wC L ≤ 1000000000) :
    Calls Tryd.prog 28 #[v] w fun e w' => ∃ v' vs, e = .returned v' ∧ Own w' 22 v' vs ∧ El w S vs (splitB L) ∧ Fresh w.heap.size v' ∧ Ext w w' := by
  have hlw := wC_len L
  have h0 := h
  obtain ⟨A, c, rfl, h1, h2, h3, h4⟩ := h.open_ cel_len
  have hpos : 0 < L.length := List.length_pos_iff.2 hne
  obtain ⟨ad, rfl⟩ : ∃ ad, A = some ad := by
    rcases A with _ | ad
    · have := h3 rfl; omega
    · exact ⟨ad, rfl⟩
  have hdone := fun (s n : Nat) (ps : List (List Ce)) (a : SpAt L L.length s n ps) => a.done hne
  have hpc := fun (s i : Nat) (a : s ≤ i) (b : i ≤ L.length) => Cs.piece h0 a b
  clear h h0 hne h3
  go_enter Tryd.func28, Tryd.ntmps28
  go_wp2_with fail
  go_loopw [3, 4, 5, 11] (fun u s n i wr => ∃ (k a m : Nat) (ps : List (List Ce)) (vs : List Value), i = .int .i64 k ∧ s = .int .i64 a ∧ n = .int .i64 m ∧ Hid (SpAt L k a m ps) ∧ Own wr 22 u vs ∧ Hid (El w S vs ps) ∧ Fresh w.heap.size u ∧ Ext w wr) (fun _ _ _ i _ => L.length - (intOf i).toNat)
  case atStart => exact ⟨0, 0, 0, [], [], rfl, rfl, rfl, Lib.hid (SpAt.begin L), Own.nil _ _, Lib.hid (El.nil _ _), fresh_nil _ _ _, Mod.refl _ _⟩
  case round =>
    obtain ⟨k, a, m, ps, vs, rfl, rfl, rfl, hsp, ho, hel, hf, hx⟩ := hrel
    have hk := hsp.out.hk
    have hak := hsp.out.le
    obtain ⟨hm1, hm2⟩ := hsp.out.size
    have hvl : vs.length = ps.length := hel.out.1
    by_cases hlt : k < L.length
    · have hbl : decide ((k : Int) < (L.length : Int)) = true := dtrue (by omega)
      obtain ⟨ad', hA, hS, c0, c1, c2, c3⟩ := Cs.at_ (h4.ext hx) hlt
      cases hA
      have hcl := hsp.out.close hlt
      have hmo := hsp.out.more hlt
      have hfit := wC_mem (List.getElem_mem hlt)
      have hi0 : (0 : Int) ≤ (k : Int) := by omega
      have hi1 : (k : Int) < (L.length : Int) := by omega
      have hpc1 := hpc a k hak hk
      unfold szC at hcl hmo
      generalize L[k] = x at *
      have hs1 := fun wx => size_any (w := wx) x ⟨by omega, by omega⟩
      obtain ⟨z, hz⟩ : ∃ z, z = x.key.length + x.val.length + 16 := ⟨_, rfl⟩
      rw [← hz] at hcl hmo hs1
      have hmm : m ≤ 100000000000 := by omega
      have hzz : z ≤ 100000000000 := by omega
      have hpl : vs.length ≤ 1000000000 := by omega
      clear hsp hm1 hm2 hfit hz
      go_wp2_with fail
      refine (hs1 _).mono ?_
      rintro e w2 ⟨rfl, x2⟩
      have x3 : Ext wr w2 := ext_trans ((Mod.refl _ wr).alloc _) x2
      have q2 : Ext w w2 := ext_trans hx x3
      have o2 := ho.mod x3 (fun _ _ h => h)
      clear hs1 x2 c0 c1 c2 c3 ho
      by_cases hj : a < k
      · have b1 : decide ((a : Int) < (k : Int)) = true := dtrue (by omega)
        by_cases hg : 512 < m + z
        · have b2 : decide ((512 : Int) < (m : Int) + (z : Int)) = true := dtrue (by omega)
          have hn := Lib.hid (hcl hj hg)
          have hel2 := Lib.hid (hel.out.snoc hpc1)
          have ha0 : (0 : Int) ≤ (a : Int) := by omega
          have ha1 : (a : Int) ≤ (k : Int) := by omega
          have hac : ¬ c = a := by omega
          have hkc : (k : Int) ≤ (c : Int) := by omega
          clear hcl hmo hel hpc hpc1 hdone
          go_wp2_with ((with_reducible show wpList _ _ _ (⟨some 33, _, _, _, _, _⟩ :: _) _ _); refine wp_app tyP (o2.alloc _) (Sl.one _ _ _) (one_ok _ rfl) rfl _ _ rfl rfl rfl (by simp; omega) ?_; intro u' w3 o3 m3 n3)
          exact ⟨⟨k + 1, k, z, _, _, by go_num, rfl, by go_num, hn, o3, hel2, n3.fresh hf (by have := q2.size; simp; omega), ext_app q2 (fun j hj => by have := hf j hj; have := x3.size; omega) m3⟩, by simp [intOf] <;> omega⟩
        · have b2 : decide ((512 : Int) < (m : Int) + (z : Int)) = false := dfalse (by omega)
          have hn := Lib.hid (hmo (fun h => hg h.2))
          clear hcl hmo hpc hpc1 hdone
          go_wp2_with fail
          exact ⟨⟨k + 1, a, m + z, _, _, by go_num, rfl, by go_num, hn, o2, hel, hf, q2⟩, by simp [intOf] <;> omega⟩
      · have b1 : decide ((a : Int) < (k : Int)) = false := dfalse (by omega)
        have hn := Lib.hid (hmo (fun h => hj h.1))
        clear hcl hmo hpc hpc1 hdone
        go_wp2_with fail
        exact ⟨⟨k + 1, a, m + z, _, _, by go_num, rfl, by go_num, hn, o2, hel, hf, q2⟩, by simp [intOf] <;> omega⟩
    have hbl : decide ((k : Int) < (L.length : Int)) = false := dfalse (by omega)
    obtain rfl : k = L.length := by omega
    have hal : a < L.length := hsp.out.lt hpos
    have hn := hdone _ _ _ hsp.out
    have hpc1 := hpc a L.length hak hk
    have hel2 := Lib.hid (hel.out.snoc hpc1)
    rw [← hn] at hel2
    have ha0 : (0 : Int) ≤ (a : Int) := by omega
    have ha1 : (a : Int) ≤ (L.length : Int) := by omega
    have hac : ¬ c = a := by omega
    have hpl : vs.length ≤ 1000000000 := by omega
    have hkc : (L.length : Int) ≤ (c : Int) := by omega
    clear hpc hpc1 hdone hel hn hsp h4 hm1 hm2
    go_wp2_with ((with_reducible show wpList _ _ _ (⟨some 44, _, _, _, _, _⟩ :: _) _ _); refine wp_app tyP (ho.alloc _) (Sl.one _ _ _) (one_ok _ rfl) rfl _ _ rfl rfl rfl (by simp; omega) ?_; intro u' w3 o3 m3 n3)
    go_ret
    exact ⟨u', _, rfl, o3, hel2.out, n3.fresh hf (by have := hx.size; simp; omega), ext_app hx hf m3⟩
end Go.Proofs.YthohghnfiicndaaDoor
