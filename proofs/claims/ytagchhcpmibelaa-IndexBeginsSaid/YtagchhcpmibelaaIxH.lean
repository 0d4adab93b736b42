/- index: Diff, as the document has it; cut; Lay. -/
import Derived.Test.YtagchhcpmibelaaIxC
namespace Go.Proofs.Ytagchhcpmibelaa
open Go.RowKit
set_option maxRecDepth 100000

theorem mrg_nil : mrg [] [] = [] := by rw [mrg]
theorem mrg_gone {x : List UInt8} {a b : Tx} (h : ∀ hn : 0 < b.length, Op.bytesLess x b[0] = true) : mrg (x :: a) b = goneR x :: mrg a b := by
  cases b with
  | nil => rw [mrg]
  | cons y b => rw [mrg, if_pos (show Op.bytesLess x y = true from h (by simp))]
theorem mrg_new {y : List UInt8} {a b : Tx} (h : ∀ hn : 0 < a.length, Op.bytesLess y a[0] = true) : mrg a (y :: b) = newR y :: mrg a b := by
  cases a with
  | nil => rw [mrg]
  | cons x a =>
    have h1 := h (by simp)
    have h2 : ¬ Op.bytesLess x y = true := fun h3 => by have := less_trans _ _ _ h1 h3; rw [show ((x :: a)[0]'(by simp)) = x from rfl] at h1; rw [less_irr] at this; cases this
    rw [mrg, if_neg h2, if_pos (show Op.bytesLess y x = true from h1)]
theorem mrg_both {x : List UInt8} {a b : Tx} : mrg (x :: a) (x :: b) = mrg a b := by
  rw [mrg, if_neg (by rw [less_irr]; simp), if_neg (by rw [less_irr]; simp)]
theorem gap2 (n : Nat) (h : n ≤ 100000) : (n + 1) * 40 ≤ 140737488355328 := by omega

/-- What is still to be merged: i of a, k of b are done. -/
def Mg (a b : Tx) (i k : Nat) (l : List Ro) : Prop := l ++ mrg (a.drop i) (b.drop k) = mrg a b ∧ l.length ≤ i + k
theorem Mg.start (a b : Tx) : Mg a b 0 0 [] := ⟨by simp, by simp⟩
theorem Mg.gone {a b : Tx} {i k : Nat} {l : List Ro} (h : Mg a b i k l) (hi : i < a.length) (hl : ∀ hk : k < b.length, Op.bytesLess a[i] b[k] = true) : Mg a b (i + 1) k (l ++ [goneR a[i]]) := by
  refine ⟨?_, by rw [List.length_append, List.length_singleton]; have := h.2; omega⟩
  rw [← h.1, List.drop_eq_getElem_cons hi, mrg_gone, List.append_assoc]
  · rfl
  · intro hn
    rw [List.length_drop] at hn
    simpa using hl (by omega)
theorem Mg.new_ {a b : Tx} {i k : Nat} {l : List Ro} (h : Mg a b i k l) (hk : k < b.length) (hl : ∀ hi : i < a.length, Op.bytesLess b[k] a[i] = true) : Mg a b i (k + 1) (l ++ [newR b[k]]) := by
  refine ⟨?_, by rw [List.length_append, List.length_singleton]; have := h.2; omega⟩
  rw [← h.1, List.drop_eq_getElem_cons hk, mrg_new, List.append_assoc]
  · rfl
  · intro hn
    rw [List.length_drop] at hn
    simpa using hl (by omega)
theorem Mg.both {a b : Tx} {i k : Nat} {l : List Ro} (h : Mg a b i k l) (hi : i < a.length) (hk : k < b.length) (he : a[i] = b[k]) : Mg a b (i + 1) (k + 1) l := by
  refine ⟨?_, by have := h.2; omega⟩
  rw [← h.1, List.drop_eq_getElem_cons hi, List.drop_eq_getElem_cons hk, he, mrg_both]
theorem Mg.end_ {a b : Tx} {i k : Nat} {l : List Ro} (h : Mg a b i k l) (hi : a.length ≤ i) (hk : b.length ≤ k) : l = mrg a b := by
  rw [← h.1, List.drop_of_length_le hi, List.drop_of_length_le hk, mrg_nil, List.append_nil]

set_option maxHeartbeats 16000000 in
theorem refDiff_any {w : World} {S S' : Nat → Prop} {v v' : Value} {a b : Tx} (ha : Ts w S v a) (hb : Ts w S' v' b) (la : a.length ≤ 1000) (lb : b.length ≤ 1000) :
    Calls Try.prog 44 #[v, v'] w fun e w' => ∃ u, e = .returned u ∧ OwnW w' u (mrg a b) ∧ Fresh w.heap.size u ∧ Ext w w' := by
  obtain ⟨A, c, rfl, h1, h2, h3, h4⟩ := ha.open_
  obtain ⟨B, d, rfl, j1, j2, j3, j4⟩ := hb.open_
  go_enter Try.func44, Try.ntmps44
  go_wp2_with fail
  go_loopw [5, 6, 7] (fun u i k wr => ∃ (l : List Ro) (m n : Nat), i = .int .i64 m ∧ k = .int .i64 n ∧ m ≤ a.length ∧ n ≤ b.length ∧ Hid (Mg a b m n l) ∧ OwnW wr u l ∧ Fresh w.heap.size u ∧ Ext w wr) (fun _ i k _ => a.length + b.length - (intOf i).toNat - (intOf k).toNat)
  case atStart => exact ⟨[], 0, 0, rfl, rfl, by omega, by omega, Lib.hid (Mg.start a b), OwnR.nil rol 3 _ 66, fresh_nil _ _ _, Mod.refl _ _⟩
  case round =>
    obtain ⟨l, m, n, rfl, rfl, hm, hn, hg, ho, hf, hx⟩ := hrel
    have hll := hg.out.2
    have hll2 := gap2 l.length (by omega)
    have hdw : ∀ q, Ext w (wr.drewN q) := fun q => hx.drewN q
    have hod : ∀ q, OwnW (wr.drewN q) _ l := fun q => ho
    by_cases hma : m < a.length
    case neg =>
      have hbm : decide ((m : Int) < (a.length : Int)) = false := dfalse (by omega)
      by_cases hnb : n < b.length
      case neg =>
        have hbn : decide ((n : Int) < (b.length : Int)) = false := dfalse (by omega)
        obtain rfl := hg.out.end_ (by omega) (by omega)
        go_wp2_with fail
        go_ret
        exact ⟨_, rfl, ho, hf, hx⟩
      have hbn : decide ((n : Int) < (b.length : Int)) = true := dtrue (by omega)
      have he1 : ((n : Int) == (b.length : Int)) = false := by rw [beq_eq_false_iff_ne]; omega
      have he2 : ((m : Int) == (a.length : Int)) = true := by rw [beq_iff_eq]; omega
      obtain ⟨bd, hB, hT, d0⟩ := (Cells.mod j4 hx (fun _ _ _ h => h)).at_ hnb
      subst hB
      have hgn := Lib.hid (hg.out.new_ hnb (fun hi => absurd hi hma))
      have hi0 : (0 : Int) ≤ (n : Int) := by omega
      have hi1 : (n : Int) < (b.length : Int) := by omega
      clear hg
      generalize b[n] = y at *
      go_wp2_with fail
      go_quiet (fail)
      go_wp2_with fail
      go_quiet (fail)
      go_wp2_with ((with_reducible show wpList _ _ _ (⟨some 77, _, _, _, _, _⟩ :: _) _ _); refine wp_appR tyW rol_len (x := newR y) (hod _) rfl (rol_ok _) hll2 rfl _ _ rfl rfl rfl ?_; intro v6 w6 o6 m6 n6)
      exact ⟨⟨_, m, n + 1, rfl, by go_num, hm, by omega, hgn, o6, n6.fresh hf (hdw _).size, ext_app0 (hdw _) hf m6⟩, by simp [intOf] <;> omega⟩
    have hbm : decide ((m : Int) < (a.length : Int)) = true := dtrue (by omega)
    obtain ⟨ad, hA, hS, c0⟩ := (Cells.mod h4 hx (fun _ _ _ h => h)).at_ hma
    subst hA
    have hm0 : (0 : Int) ≤ (m : Int) := by omega
    have hm1 : (m : Int) < (a.length : Int) := by omega
    by_cases hnb : n < b.length
    case neg =>
      have he1 : ((n : Int) == (b.length : Int)) = true := by rw [beq_iff_eq]; omega
      have hgn := Lib.hid (hg.out.gone hma (fun hi => absurd hi hnb))
      clear hg
      generalize a[m] = x at *
      go_wp2_with fail
      go_quiet (fail)
      go_wp2_with ((with_reducible show wpList _ _ _ (⟨some 51, _, _, _, _, _⟩ :: _) _ _); refine wp_appR tyW rol_len (x := goneR x) (hod _) rfl (rol_ok _) hll2 rfl _ _ rfl rfl rfl ?_; intro v6 w6 o6 m6 n6)
      exact ⟨⟨_, m + 1, n, by go_num, rfl, by omega, hn, hgn, o6, n6.fresh hf (hdw _).size, ext_app0 (hdw _) hf m6⟩, by simp [intOf] <;> omega⟩
    have he1 : ((n : Int) == (b.length : Int)) = false := by rw [beq_eq_false_iff_ne]; omega
    have he2 : ((m : Int) == (a.length : Int)) = false := by rw [beq_eq_false_iff_ne]; omega
    obtain ⟨bd, hB, hT, d0⟩ := (Cells.mod j4 hx (fun _ _ _ h => h)).at_ hnb
    subst hB
    have hi0 : (0 : Int) ≤ (n : Int) := by omega
    have hi1 : (n : Int) < (b.length : Int) := by omega
    have g1 : Op.bytesLess a[m] b[n] = true → Hid (Mg a b (m + 1) n (l ++ [goneR a[m]])) := fun h => Lib.hid (hg.out.gone hma (fun _ => h))
    have g2 : Op.bytesLess b[n] a[m] = true → Hid (Mg a b m (n + 1) (l ++ [newR b[n]])) := fun h => Lib.hid (hg.out.new_ hnb (fun _ => h))
    have g3 : a[m] = b[n] → Hid (Mg a b (m + 1) (n + 1) l) := fun h => Lib.hid (hg.out.both hma hnb h)
    clear hg
    generalize a[m] = x at *
    generalize b[n] = y at *
    cases hxy : Op.bytesLess x y
    case true =>
      have hgn := g1 hxy
      clear g1 g2 g3
      go_wp2_with fail
      go_quiet (fail)
      go_wp2_with ((with_reducible show wpList _ _ _ (⟨some 51, _, _, _, _, _⟩ :: _) _ _); refine wp_appR tyW rol_len (x := goneR x) (hod _) rfl (rol_ok _) hll2 rfl _ _ rfl rfl rfl ?_; intro v6 w6 o6 m6 n6)
      exact ⟨⟨_, m + 1, n, by go_num, rfl, by omega, hn, hgn, o6, n6.fresh hf (hdw _).size, ext_app0 (hdw _) hf m6⟩, by simp [intOf] <;> omega⟩
    cases hyx : Op.bytesLess y x
    case true =>
      have hgn := g2 hyx
      clear g1 g2 g3
      go_wp2_with fail
      go_quiet (fail)
      go_wp2_with fail
      go_quiet (fail)
      go_wp2_with ((with_reducible show wpList _ _ _ (⟨some 77, _, _, _, _, _⟩ :: _) _ _); refine wp_appR tyW rol_len (x := newR y) (hod _) rfl (rol_ok _) hll2 rfl _ _ rfl rfl rfl ?_; intro v6 w6 o6 m6 n6)
      exact ⟨⟨_, m, n + 1, rfl, by go_num, hm, by omega, hgn, o6, n6.fresh hf (hdw _).size, ext_app0 (hdw _) hf m6⟩, by simp [intOf] <;> omega⟩
    have hgn := g3 (Classical.byContradiction fun hne => by rw [less_tot hxy hne] at hyx; cases hyx)
    clear g1 g2 g3
    go_wp2_with fail
    go_quiet (fail)
    go_wp2_with fail
    go_quiet (fail)
    go_wp2_with fail
    exact ⟨⟨l, m + 1, n + 1, by go_num, by go_num, by omega, by omega, hgn, hod _, hf, hdw _⟩, by simp [intOf] <;> omega⟩
end Go.Proofs.Ytagchhcpmibelaa
