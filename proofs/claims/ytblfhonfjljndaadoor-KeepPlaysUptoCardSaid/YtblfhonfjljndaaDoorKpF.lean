/- keep: KeepLast. -/
import Derived.Test.YtblfhonfjljndaaDoorKpE
namespace Go.Proofs.YtblfhonfjljndaaDoor
open Go.RowKit Go.Maps Go.WideMaps
set_option maxRecDepth 100000

/-- Rows that a law was handed: their blocks were there at first. -/
theorem Rw.old {w : World} {v : Value} {P : Tx} (h : Rw w (fun _ => True) v P) : Rw w (fun k => k < w.heap.size) v P := by
  obtain ⟨vs, h1, h2, h3⟩ := h
  exact ⟨vs, h1, h2.mono (fun k hk _ => hk), fun k x l hx hl => (h3 k x l hx hl).mono (fun k hk _ => hk)⟩
theorem hold_fuse {w0 wj : World} {v : Value} {d : Ds} (H : Hold w0 wj v d) (n : Nat) (hn : n ≤ 1000) :
    Calls Tryd.prog 17 #[v, .int .i64 (n : Int)] wj fun e w' => e = .returned (.tuple #[]) ∧ Hold w0 w' v { d with fu := true, left := n } := by
  refine (held_call (d' := { d with fu := true, left := n }) H (Mod.refl _ _) fun U _ hdk => ?_).mono fun e w' ⟨h1, h2, _⟩ => ⟨h1, h2⟩
  obtain ⟨bd, bm, D, G, rfl, h⟩ := hdk
  refine (fuse_any h n (by omega)).mono fun e w' ⟨h1, h2, h3⟩ => ⟨h1, ⟨bd, bm, D, G, rfl, ?_⟩, h3.mono fun k _ hk => hk ▸ h.sd⟩
  have e2 : fuseD d (n : Int) = { d with fu := true, left := n } := by
    unfold fuseD
    rw [dtrue (show (0 : Int) ≤ (n : Int) by omega)]
    simp
  rw [← e2]
  exact h2.mono fun k _ hk => .inl hk
/-- The one file, behind k rows that were saved. -/
def lastL (P : Tx) : Nat → Fis
  | 0 => []
  | k + 1 => [⟨[102], frec (P.getD k []), (frec (P.getD k [])).length⟩]
theorem lastL_rise (P : Tx) (k : Nat) : Rise (lastL P k) := by cases k <;> simp [lastL, Rise, nms, riseT]
theorem lastL_one (P : Tx) (k : Nat) : getF (lastL P k) ([102] ++ [126]) = none := by cases k <;> rfl
theorem lastL_put (P : Tx) (k : Nat) (hk : k < P.length) : putF (lastL P k) ⟨[102], frec P[k], (frec P[k]).length⟩ = lastL P (k + 1) := by
  have e : P.getD k [] = P[k] := by simp [List.getD, hk]
  cases k with
  | zero => simp only [lastL, putF, e]
  | succ k => simp only [lastL, putF, if_pos, e]
theorem getD_le {P : Tx} (k : Nat) (h : tot P ≤ 5000) : (P.getD k []).length ≤ 5000 := by
  rcases Nat.lt_or_ge k P.length with hk | hk
  · have e : P.getD k [] = P[k] := by simp [List.getD, hk]
    have h1 := tot_snoc P k hk
    have h2 := tot_le P (k + 1)
    rw [e]
    simp only [tot] at *
    omega
  · have e : P.getD k [] = [] := by simp [List.getD, hk]
    rw [e]; simp
theorem lastL_sum {P : Tx} (k : Nat) (h : tot P ≤ 5000) : sumB (lastL P k) ≤ 6000 := by
  cases k with
  | zero => simp [lastL, sumB]
  | succ k =>
    have := getD_le k h
    simp only [lastL, sumB, List.map_cons, List.map_nil, List.sum_cons, List.sum_nil, frec_len]
    omega
theorem lastL_get (P : Tx) (k : Nat) : getF (lastL P (k + 1)) [102] = some ⟨[102], frec (P.getD k []), (frec (P.getD k [])).length⟩ := rfl
def lastD (P : Tx) (n k : Nat) : Ds := ⟨1048576, lastL P k, true, n - 3 * k⟩
theorem last_save {P : Tx} {n k : Nat} (hk : k < P.length) (ht : tot P ≤ 5000) (h3 : 3 * k ≤ n) :
    (3 * (k + 1) ≤ n ∧ saveD (lastD P n k) [102] P[k] = (lastD P n (k + 1), 0)) ∨ (∃ d, saveD (lastD P n k) [102] P[k] = (d, 9) ∧ getF d.L [102] = getF (lastL P k) [102]) := by
  have h1 := lastL_sum k ht
  have h2 := tot_snoc P k hk
  have h4 := tot_le P (k + 1)
  have hlen : (lastL P k).length < 4096 := by cases k <;> simp [lastL]
  by_cases h : 3 * (k + 1) ≤ n
  · left
    refine ⟨h, ?_⟩
    have := save_ok (r := 1048576) (l := n - 3 * k) (L := lastL P k) (fu := true) (x := [102]) (p := P[k]) (lastL_rise P k) (by decide) (by decide) (lastL_one P k) (by simp only [tot] at *; omega) hlen (fun _ => by omega)
    unfold lastD
    rw [this, lastL_put P k hk]
    simp only [sub, if_true]
    rw [show n - 3 * k - 3 = n - 3 * (k + 1) by omega]
  · right
    obtain ⟨L', h5, _, h6⟩ := save_burnt (r := 1048576) (l := n - 3 * k) (L := lastL P k) (x := [102]) (p := P[k]) (lastL_rise P k) (by decide) (by decide) (lastL_one P k) (by simp only [tot] at *; omega) hlen (by omega)
    exact ⟨_, h5, h6⟩
theorem last_load {P : Tx} {d : Ds} {k : Nat} {draw : Int} (ht : tot P ≤ 5000) (h : getF d.L [102] = getF (lastL P k) [102]) :
    (k = 0 ∧ loadD (crashD draw d) [102] = ([], 7)) ∨ (∃ j, k = j + 1 ∧ loadD (crashD draw d) [102] = (P.getD j [], 0)) := by
  cases k with
  | zero =>
    left
    exact ⟨rfl, load_none (by rw [crash_get, h]; rfl)⟩
  | succ j =>
    right
    refine ⟨j, rfl, load_saved (n := (frec (P.getD j [])).length) ?_ (by have := getD_le j ht; omega)⟩
    rw [crash_get, h, lastL_get, Option.map_some, crash_keeps rfl]
end Go.Proofs.YtblfhonfjljndaaDoor
