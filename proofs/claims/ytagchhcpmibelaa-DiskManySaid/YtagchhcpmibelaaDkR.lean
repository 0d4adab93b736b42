/- disk: DiskFuses. -/
import Derived.Test.YtagchhcpmibelaaDkQ
import Derived.Test.YtagchhcpmibelaaOctP
namespace Go.Proofs.Ytagchhcpmibelaa
open Go.RowKit Go.Maps Go.WideMaps
set_option maxRecDepth 100000

/-- What has been laid under a fuse of n. -/
def fs (n : Nat) (P : Tx) (m : Nat) : Ds := ⟨1048576, if m = 0 then [] else [⟨[102], (P.take m).flatten, 0⟩], true, n - m⟩
theorem flat_le (P : Tx) (m : Nat) : (P.take m).flatten.length ≤ tot P := by
  rw [flat_len]
  exact tot_le P m
theorem fs_ok {n : Nat} {P : Tx} {i : Nat} (h : i < n) (hi : i < P.length) (ht : tot P ≤ 8000) : appendD (fs n P i) [102] [P[i]] = (fs n P (i + 1), 0) := by
  have hb : begD (fs n P i) [[102]] = 0 := by
    unfold begD fs
    rw [if_neg (by simp only; omega)]
    rfl
  have hs := tot_snoc P i hi
  have hl := tot_le P (i + 1)
  have hfl := flat_len (P.take i)
  have hf2 := flat_snoc2 P i hi
  have hd : doneD ⟨1048576, [⟨[102], (P.take (i + 1)).flatten, 0⟩], true, n - i⟩ = fs n P (i + 1) := by
    unfold doneD fs
    simp only [if_pos, Nat.add_one_ne_zero, if_false]
    rw [show n - i - 1 = n - (i + 1) by omega]
  unfold appendD
  rw [if_neg (by rw [hb]; simp), ← hd, hf2]
  by_cases h0 : i = 0
  · subst h0
    rw [if_neg (by simp only [fs, sumB, tot, List.map_cons, List.map_nil, List.sum_cons, List.sum_nil, if_pos] at *; omega)]
    simp only [fs, if_pos, getF, List.find?_nil, putF, List.length_nil]
    rw [if_neg (by omega)]
    simp
  · have e : (fs n P i).L = [⟨[102], (P.take i).flatten, 0⟩] := by unfold fs; rw [if_neg h0]
    rw [if_neg (by rw [e]; simp only [sumB, tot, fs, List.map_cons, List.map_nil, List.sum_cons, List.sum_nil] at *; omega), e]
    simp only [getF, List.find?_cons, beq_self_eq_true, putF, if_pos]
    simp [fs]
theorem fs_dead {n : Nat} {P : Tx} {x : List UInt8} : appendD (fs n P n) [102] [x] = (fs n P n, 9) := by
  have hb : begD (fs n P n) [[102]] = 9 := by
    unfold begD fs
    rw [if_pos ⟨rfl, by simp⟩]
  unfold appendD
  rw [if_pos (by rw [hb]; simp), hb]
def noneT : List UInt8 := [110, 111, 110, 101]
theorem fs_remove {n : Nat} {P : Tx} {m : Nat} (hm : m ≤ n) : eachD removeD (fs n P m) [noneT] = (fs n P m, if m = n then 9 else 7) := by
  have hg : getF (fs n P m).L noneT = none := by
    unfold fs
    by_cases h0 : m = 0
    · rw [if_pos h0]; rfl
    · rw [if_neg h0]; rfl
  have hr : removeD (fs n P m) noneT = (fs n P m, if m = n then 9 else 7) := by
    by_cases h : m = n
    · subst h
      have hb : begD (fs m P m) [noneT] = 9 := by unfold begD fs; rw [if_pos ⟨rfl, by simp⟩]
      rw [removeD, onF_err _ (by rw [hb]; simp), hb, if_pos rfl]
    · have hb : begD (fs n P m) [noneT] = 0 := by
        unfold begD fs
        rw [if_neg (by simp only; omega)]
        rfl
      rw [removeD, onF_none _ hb hg, if_neg h]
  rw [eachD_err (by rw [hr]; simp only; split <;> simp), hr]
theorem fs_last {n : Nat} {P : Tx} {m : Nat} (ht : tot P ≤ 8000) : (appendD (crashD 0 (fs n P m)) [122] [[]]).2 = 0 := by
  have hfl := flat_le P m
  have hb : begD (crashD 0 (fs n P m)) [[122]] = 0 := by
    unfold begD crashD
    rw [if_neg (by simp)]
    rfl
  unfold appendD
  rw [if_neg (by rw [hb]; simp)]
  unfold crashD fs
  by_cases h0 : m = 0
  · simp only [if_pos h0, List.map_nil]
    rfl
  · simp only [if_neg h0, List.map_cons, List.map_nil]
    have e : crashF 0 ⟨[102], (P.take m).flatten, 0⟩ = ⟨[102], [], 0⟩ := by
      unfold crashF crashN
      simp
    rw [e]
    rfl
end Go.Proofs.Ytagchhcpmibelaa
