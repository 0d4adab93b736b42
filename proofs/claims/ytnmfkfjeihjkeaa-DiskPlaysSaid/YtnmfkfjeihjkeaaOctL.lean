/- octet: the document's check sum; bytes with room behind them, which is marked. -/
import Derived.Test.YtnmfkfjeihjkeaaOctF
namespace Go.Proofs.Ytnmfkfjeihjkeaa
open Go.RowKit
set_option maxRecDepth 100000

set_option maxHeartbeats 400000 in
theorem roomy_any {w : World} {S : Nat → Prop} {y : Value} {l : List UInt8} (hy : Bs w S y l) (hl : l.length + 2 ≤ 140737488355328) :
    Calls Try.prog 24 #[y] w fun e w' => ∃ v', e = .returned v' ∧ Own w' 5 v' ((l ++ [171]).map bv) ∧ Fresh w.heap.size v' ∧ Ext w w' := by
  obtain ⟨A, c, rfl, h1, h2, h3, h4⟩ := hy.open_
  go_enter Try.func24, Try.ntmps24
  go_wp2_with (first
    | ((with_reducible show wpList _ _ _ (⟨some 5, _, _, _, _, _⟩ :: _) _ _); refine wp_app tyB (Own.empty w 5) (hy.alloc _) (bv_one _) rfl (.tmp 3) (.tmp 4) rfl rfl rfl ?hn ?_; rotate_right; intro v1 w1 hown1 hmod1 hnx1)
    | ((with_reducible show wpList _ _ _ (⟨some 7, _, _, _, _, _⟩ :: _) _ _); refine wp_app tyB (hown1.alloc _) (Sl.one _ _ _) (by simp [Value.oneCell']) rfl (.tmp 5) (.tmp 6) rfl rfl rfl ?hn2 ?_; rotate_right; intro v2 w2 hown2 hmod2 hnx2)
    | ((with_reducible show wpList _ _ _ (⟨some 9, _, _, _, _, _⟩ :: _) _ _); refine wp_app tyB (hown2.alloc _) (Sl.one _ _ _) (by simp [Value.oneCell']) rfl (.tmp 7) (.tmp 8) rfl rfl rfl ?hn3 ?_; rotate_right; intro v3 w3 hown3 hmod3 hnx3; obtain ⟨A3, c3, hv3⟩ := hown3.shape; subst hv3; have hcap : l.length + 2 ≤ c3 := by simpa using own_cap hown3))
  case hn => simp; omega
  case hn2 => simp; omega
  case hn3 => simp; omega
  go_ret
  have hfr0 : Fresh w.heap.size (.slice (some ⟨w.heap.size, 0, none⟩) 0 0) := fun k hk => by have : w.heap.size = k := Option.some.inj hk; omega
  have hx1 : Ext w w1 := ext_app (Mod.refl _ w) hfr0 hmod1
  have hf1 : Fresh w.heap.size v1 := hnx1.fresh hfr0 (by simp)
  have hx2 : Ext w w2 := ext_app hx1 hf1 hmod2
  have hf2 : Fresh w.heap.size v2 := hnx2.fresh hf1 (Nat.le_trans hx1.size (by simp))
  have hx3 : Ext w w3 := ext_app hx2 hf2 hmod3
  have hf3 := hnx3.fresh hf2 (Nat.le_trans hx2.size (by simp))
  have hb := hown3.begin (m := l.length + 1) (by simp)
  have e1 : (([] ++ l.map bv ++ [Value.int .u8 171] ++ [Value.int .u8 171]).take (l.length + 1)) = (l ++ [171]).map bv := by
    rw [List.nil_append, List.take_append_of_le_length (by simp), List.take_of_length_le (by simp), List.map_append]
    rfl
  rw [e1] at hb
  have hf4 : Fresh w.heap.size (.slice A3 (l.length + 1) c3) := by
    cases A3 with
    | none => exact fresh_nil _ _ _
    | some a => exact fun k hk => hf3 k hk
  exact ⟨_, rfl, hb, hf4, hx3⟩
set_option maxHeartbeats 400000 in
theorem stands_any {w : World} {S T : Nat → Prop} {u v : Value} {l : List UInt8} (h : Bs w S u (l ++ [171])) (h' : Bs w T v l) :
    Calls Try.prog 26 #[u, v] w fun e w' => e = .returned (.bool true) ∧ ∃ k, w' = w.drewN k := by
  obtain ⟨A, c, rfl, h1, h2, h3, h4⟩ := h.open_
  obtain ⟨A', c', rfl, h1', h2', h3', h4'⟩ := h'.open_
  obtain ⟨ad, rfl, hs, hc⟩ := h4.byte (k := l.length) (by simp)
  have hb : Bs w S (.slice (some ad) l.length c) l := by
    have := Bs.begin h (m := l.length) (by simp)
    rwa [List.take_append_of_le_length (Nat.le_refl _), List.take_of_length_le (Nat.le_refl _)] at this
  have e1 : (l ++ [171])[l.length]'(by simp) = (171 : UInt8) := by simp
  rw [e1] at hc
  have e2 : (l ++ [171]).length = l.length + 1 := by simp
  rw [e2] at h1 h ⊢
  go_enter Try.func26, Try.ntmps26
  go_wp2_with fail
  refine (same_any hb h').mono ?_
  rintro e w1 ⟨rfl, k, rfl⟩
  rw [decide_eq_true (rfl : l = l)]
  go_wp2_with fail
  go_ret
  exact ⟨rfl, k, rfl⟩
end Go.Proofs.Ytnmfkfjeihjkeaa
