/- octet: Join; the ways in which the statements look at bytes; the document's answer. -/
import Derived.Test.YtnmfkfjeihjkeaaOctA
namespace Go.Proofs.Ytnmfkfjeihjkeaa
open Go.RowKit

theorem take_next {α : Type} {xs ys : List α} {k : Nat} (hx : k < xs.length) (hy : k < ys.length) (h : xs.take k = ys.take k) (he : xs[k] = ys[k]) : xs.take (k + 1) = ys.take (k + 1) := by
  rw [List.take_succ_eq_append_getElem hx, List.take_succ_eq_append_getElem hy, h, he]
theorem byte_bne (a b : UInt8) : ((a.toNat : Int) != (b.toNat : Int)) = decide (a ≠ b) := by
  rw [Bool.eq_iff_iff]; simp only [bne_iff_ne, ne_eq, decide_eq_true_eq, ← UInt8.toNat_inj]; omega
set_option maxHeartbeats 400000 in
theorem same_any {w : World} {S T : Nat → Prop} {u v : Value} {xs ys : List UInt8} (h : Bs w S u xs) (h' : Bs w T v ys) :
    Calls Try.prog 16 #[u, v] w fun e w' => e = .returned (.bool (decide (xs = ys))) ∧ ∃ k, w' = w.drewN k := by
  obtain ⟨A, c, rfl, h1, h2, h3, h4⟩ := h.open_
  obtain ⟨A', c', rfl, h1', h2', h3', h4'⟩ := h'.open_
  by_cases hl : xs.length = ys.length
  · have HL := Lib.hid hl
    have hb : ((xs.length : Int) != (ys.length : Int)) = false := by simp [hl]
    clear hl
    go_enter Try.func16, Try.ntmps16
    go_wp2
    go_loopw [5] (fun i wr => ∃ k n : Nat, k ≤ xs.length ∧ i = .int .i64 k ∧ wr = w.drewN n ∧ Hid (xs.take k = ys.take k)) (fun i _ => xs.length - (intOf i).toNat)
    case atStart => exact ⟨0, 0, Nat.zero_le _, rfl, rfl, rfl⟩
    case round =>
      obtain ⟨k, n, hk, rfl, rfl, hr⟩ := hrel
      by_cases hlt : k < xs.length
      · have hlt' : k < ys.length := by have := HL.out; omega
        obtain ⟨ad, rfl, hB, hc⟩ := h4.byte hlt
        obtain ⟨ad', rfl, hB', hc'⟩ := h4'.byte hlt'
        by_cases he : xs[k] = ys[k]
        · have hne : ((xs[k].toNat : Int) != (ys[k].toNat : Int)) = false := by simp [he]
          replace he := Lib.hid he
          go_wp2
          go_quiet (fail)
          go_wp2
          exact ⟨⟨k + 1, n + nq, by omega, by go_num, by simp, Lib.hid (take_next hlt hlt' hr.out he.out)⟩, by simp [intOf]; omega⟩
        · have hne : ((xs[k].toNat : Int) != (ys[k].toNat : Int)) = true := by simp [byte_bne, he]
          replace he := Lib.hid he
          go_wp2
          go_quiet (fail)
          go_wp2
          go_ret
          have : xs ≠ ys := by rintro rfl; exact he.out rfl
          exact ⟨by simp [this], n + nq, by simp⟩
      · go_wp2
        go_ret
        refine ⟨?_, n, rfl⟩
        have : xs = ys := by
          have h1 := hr.out
          rwa [List.take_of_length_le (by omega), List.take_of_length_le (by have := HL.out; omega)] at h1
        simp [this]
  · have hb : ((xs.length : Int) != (ys.length : Int)) = true := by simp; omega
    have hn : decide (xs = ys) = false := by simp; rintro rfl; exact hl rfl
    rw [hn]
    clear hn
    go_enter Try.func16, Try.ntmps16
    go_wp2
    go_ret
    exact ⟨rfl, 0, rfl⟩
set_option maxHeartbeats 400000 in
theorem spoil_any {w : World} {v : Value} {l : List UInt8} (h : Own w 5 v (l.map bv)) (hl : l.length + 1 ≤ 140737488355328) :
    Calls Try.prog 27 #[v] w fun e w' => e = .returned (.tuple #[]) ∧ Mod (own v) w w' := by
  go_enter Try.func27, Try.ntmps27
  go_wp2_with (((with_reducible show wpList _ _ _ (⟨some 6, _, _, _, _, _⟩ :: _) _ _); refine wp_app tyB (h.alloc _) (Sl.one _ _ _) (by simp [Value.oneCell']) rfl (.tmp 4) (.tmp 5) rfl rfl rfl ?hn ?_; rotate_right; intro v1 w1 hown1 hmod1 hnx1; obtain ⟨A1, c1, hv1⟩ := hown1.shape; subst hv1))
  case hn => simp; omega
  have hm1 : Mod (own v) w w1 := ((Mod.refl _ w).alloc _).trans hmod1 (fun _ _ h => h) (fun _ _ h => h)
  have hg : ∃ g, A1 = some ⟨g, 0, none⟩ ∧ (g < w.heap.size → own v g) := by
    rcases hown1.form with ⟨_, h6⟩ | ⟨g, cap, h6, h7, h8, h9⟩
    · simp at h6
    · injection h6 with h6
      refine ⟨g, h6, fun hlt => ?_⟩
      exact hnx1.sub (k := g) (by simp; omega) (by rw [h6]; rfl)
  obtain ⟨g, rfl, hgs⟩ := hg
  have hlen : ((l.map bv ++ [Value.int .u8 99]).length) = l.length + 1 := by simp
  rw [hlen] at hown1
  clear hnx1 hmod1 hlen
  go_loopw [3] (fun i wr => ∃ (k : Nat) (ys : List Value), k ≤ l.length + 1 ∧ i = .int .i64 k ∧ Own wr 5 (.slice (some ⟨g, 0, none⟩) (l.length + 1) c1) ys ∧ Mod (own v) w wr) (fun i _ => l.length + 1 - (intOf i).toNat)
  case atStart => exact ⟨0, _, Nat.zero_le _, rfl, hown1, hm1⟩
  case round =>
    obtain ⟨k, ys, hk, rfl, hown, hm⟩ := hrel
    have hy := hown.length_eq
    by_cases hlt : k < l.length + 1
    · have hc := hown.cellAt (j := k) (by omega)
      have hf := hown.frozenAt k
      replace hy := Lib.hid hy
      go_wp2
      exact ⟨⟨k + 1, _, by omega, by go_num, hown.store _, hm.setCell hgs _⟩, by simp [intOf]; omega⟩
    · replace hy := Lib.hid hy
      go_wp2
      go_end0
      exact ⟨rfl, hm⟩
/-- How much rows weigh. -/
def weight (L : List (List UInt8)) : Nat := (L.map fun p => p.length + 3).sum
theorem weight_snoc (L : List (List UInt8)) (k : Nat) (h : k < L.length) : weight (L.take (k + 1)) = weight (L.take k) + (L[k].length + 3) := by
  unfold weight
  rw [List.take_succ_eq_append_getElem h, List.map_append, List.sum_append]
  simp
theorem weight_take (L : List (List UInt8)) (k : Nat) : weight (L.take k) ≤ weight L := by
  have e : weight L = weight (L.take k) + weight (L.drop k) := by
    unfold weight
    rw [← List.sum_append, ← List.map_append, List.take_append_drop]
  omega
end Go.Proofs.Ytnmfkfjeihjkeaa
