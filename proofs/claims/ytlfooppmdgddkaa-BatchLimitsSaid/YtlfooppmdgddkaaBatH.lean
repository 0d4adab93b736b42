/- batch: the law Limits. -/
import Derived.Test.YtlfooppmdgddkaaBatF
namespace Go.Proofs.Ytlfooppmdgddkaa
open Go.RowKit Go.ChangeShapes
set_option maxRecDepth 100000

/-- So many rows of one letter and m - 1 noughts. -/
def limL (n m : Nat) : List Ro := List.replicate n ⟨[107], List.replicate (m - 1) 0, false⟩
theorem limL_len (n m : Nat) : (limL n m).length = n := by simp [limL]
theorem limL_lR (n m : Nat) (hm : 1 ≤ m) : lR (limL n m) = n * m := by
  induction n with
  | zero => simp [limL, lR]
  | succ n ih =>
    have : limL (n + 1) m = ⟨[107], List.replicate (m - 1) 0, false⟩ :: limL n m := rfl
    rw [this, lR_cons, ih, Nat.succ_mul]
    simp; omega
theorem limL_wR (n m : Nat) (hm : 1 ≤ m) : wR (limL n m) = n * (m + 1) := by
  induction n with
  | zero => simp [limL, wR]
  | succ n ih =>
    have : limL (n + 1) m = ⟨[107], List.replicate (m - 1) 0, false⟩ :: limL n m := rfl
    rw [this, wR_cons, ih, Nat.succ_mul]
    simp; omega
theorem limL_snoc (n m : Nat) : limL n m ++ [⟨[107], List.replicate (m - 1) 0, false⟩] = limL (n + 1) m := by
  unfold limL
  rw [List.replicate_succ']
theorem limL_chk (n m : Nat) (hn : 1 ≤ n) (hm : 1 ≤ m) (hm2 : m ≤ 100) : chkR (limL n m) = if 512 < n ∨ 32768 < n * m then 5 else 0 := by
  unfold chkR
  have h0 : limL n m ≠ [] := by
    intro h
    have := congrArg List.length h
    rw [limL_len] at this
    simp at this; omega
  rw [if_neg h0, if_pos, limL_len, limL_lR n m hm]
  intro r hr
  have := (List.mem_replicate.1 hr).2
  subst this
  refine ⟨by simp [cellR], by simp [cellR], by simp [cellR]; omega, by simp [cellR], by simp [cellR], by simp [cellR]⟩

set_option maxHeartbeats 32000000 in
theorem batchLimits_walk {w : World} {n m : Int} : Calls Try.prog 19 #[.int .i64 n, .int .i64 m] w fun e w' => e = .returned (.bool true) ∧ Ext w w' := by
  have hkn := fun wx => known10_any (w := wx)
  by_cases hout : n < 1 ∨ 600 < n ∨ m < 1 ∨ 100 < m
  case pos =>
    have hb : (decide (n < 1) || decide (600 < n) || decide (m < 1) || decide (100 < m)) = true := by
      rcases hout with h | h | h | h <;> simp [h]
    have key : ∀ a b c d : Bool, (a || b || c || d) = true → a = true ∨ (a = false ∧ b = true) ∨ (a = false ∧ b = false ∧ c = true) ∨ (a = false ∧ b = false ∧ c = false ∧ d = true) := by decide
    rcases key _ _ _ _ hb with h1 | ⟨h1, h2⟩ | ⟨h1, h2, h3⟩ | ⟨h1, h2, h3, h4⟩
    all_goals (
      clear hb hout key
      go_enter Try.func19, Try.ntmps19
      go_wp2_with fail
      refine (hkn _).mono ?_
      rintro e w1 ⟨rfl, x1⟩
      go_wp2_with fail
      go_ret
      exact ⟨rfl, x1⟩)
  obtain ⟨N, rfl⟩ : ∃ N : Nat, n = N := ⟨n.toNat, by omega⟩
  obtain ⟨M, rfl⟩ : ∃ M : Nat, m = M := ⟨m.toNat, by omega⟩
  have h1 : decide ((N : Int) < 1) = false := dfalse (by omega)
  have h2 : decide ((600 : Int) < (N : Int)) = false := dfalse (by omega)
  have h3 : decide ((M : Int) < 1) = false := dfalse (by omega)
  have h4 : decide ((100 : Int) < (M : Int)) = false := dfalse (by omega)
  have n1 : 1 ≤ N := by omega
  have n2 : N ≤ 600 := by omega
  have m1 : 1 ≤ M := by omega
  have m2 : M ≤ 100 := by omega
  clear hout
  go_enter Try.func19, Try.ntmps19
  go_wp2_with fail
  go_loopw [5, 6] (fun t i wr => ∃ (k : Nat), k ≤ N ∧ i = .int .i64 (k : Nat) ∧ OwnW wr t (limL k M) ∧ Fresh w.heap.size t ∧ Ext w wr) (fun _ i _ => N - (intOf i).toNat)
  case atStart => exact ⟨0, Nat.zero_le _, rfl, OwnR.nil _ _ _ _, fresh_nil _ _ _, Mod.refl _ _⟩
  case round =>
    obtain ⟨k, hk, rfl, o1, f1, x1⟩ := hrel
    by_cases hlt : k < N
    case neg =>
      have hbl : decide ((k : Int) < (N : Int)) = false := dfalse (by omega)
      obtain rfl : k = N := by omega
      have hck := check_any o1.rc (by rw [limL_wR k M m1]; have : k * (M + 1) ≤ 600 * 101 := Nat.mul_le_mul n2 (by omega); omega)
      rw [limL_chk k M n1 m1 m2] at hck
      have hmul : (k : Int) * (M : Int) = ((k * M : Nat) : Int) := by simp
      have hkm : k * M ≤ 60000 := Nat.le_trans (Nat.mul_le_mul n2 m2) (by omega)
      obtain ⟨A, c, hv⟩ := o1.shape
      subst hv
      obtain ⟨R, hR⟩ : ∃ R : Nat, R = if 512 < k ∨ 32768 < k * M then 5 else 0 := ⟨_, rfl⟩
      rw [← hR] at hck
      obtain ⟨Z, hZ⟩ : ∃ Z : Nat, Z = k * M := ⟨_, rfl⟩
      rw [← hZ] at hR hkm hmul
      replace hZ := Lib.hid hZ
      by_cases hA1 : 512 < k
      · have hb1 : decide ((512 : Int) < (k : Int)) = true := dtrue (by omega)
        have hr2 : R = 5 := hR.trans (if_pos (.inl hA1))
        subst hr2
        clear hR
        go_wp2_with fail
        refine hck.mono ?_
        rintro e w2 ⟨rfl, x2⟩
        go_wp2_with fail
        refine (hkn _).mono ?_
        rintro e w3 ⟨rfl, x3⟩
        go_wp2_with fail
        go_ret
        exact ⟨rfl, ext_trans x1 (ext_trans x2 x3)⟩
      have hb1 : decide ((512 : Int) < (k : Int)) = false := dfalse (by omega)
      by_cases hA2 : 32768 < Z
      · have hb2 : decide ((32768 : Int) < (Z : Int)) = true := dtrue (by omega)
        have hr2 : R = 5 := hR.trans (if_pos (.inr hA2))
        subst hr2
        clear hR
        go_wp2_with fail
        refine hck.mono ?_
        rintro e w2 ⟨rfl, x2⟩
        go_wp2_with fail
        refine (hkn _).mono ?_
        rintro e w3 ⟨rfl, x3⟩
        go_wp2_with fail
        go_ret
        exact ⟨rfl, ext_trans x1 (ext_trans x2 x3)⟩
      have hb2 : decide ((32768 : Int) < (Z : Int)) = false := dfalse (by omega)
      have hr2 : R = 0 := hR.trans (if_neg (by omega))
      subst hr2
      clear hR
      go_wp2_with fail
      refine hck.mono ?_
      rintro e w2 ⟨rfl, x2⟩
      go_wp2_with fail
      refine (hkn _).mono ?_
      rintro e w3 ⟨rfl, x3⟩
      go_wp2_with fail
      go_ret
      exact ⟨rfl, ext_trans x1 (ext_trans x2 x3)⟩
    have hbl : decide ((k : Int) < (N : Int)) = true := dtrue (by omega)
    have hsn := Lib.hid (limL_snoc k M)
    have hml : ((M : Int) - 1) = ((M - 1 : Nat) : Int) := by omega
    have hlk := limL_len k M
    replace hlk := Lib.hid hlk
    go_wp2_with (first
      | ((with_reducible show wpList _ _ _ (⟨some 31, _, _, _, _, _⟩ :: _) _ _); refine wp_make tyB (M - 1) rfl _ _ rfl rfl rfl (by omega) ?_; intro w2 o2 x2 z2; have o3 : Own w2 5 _ ((List.replicate (M - 1) (0 : UInt8)).map bv) := (by rw [List.map_replicate]; exact o2); have cv := run_conv (P := Try.prog) Try.underlying30 Try.underlying5 Try.underlying9 o3.sl)
      | ((with_reducible show wpList _ _ _ (⟨some 35, _, _, _, _, _⟩ :: _) _ _); refine wp_appR tyW rol_len (x := ⟨[107], List.replicate (M - 1) 0, false⟩) (o1.ext x2) rfl (rol_ok _) (by rw [hlk.out]; omega) rfl _ _ rfl rfl rfl ?_; intro v4 w4 o4 m4 n4))
    rw [hsn.out] at o4
    have y2 := ext_trans x1 x2
    exact ⟨⟨k + 1, by omega, by go_num, o4, n4.fresh f1 y2.size, y2.trans m4 (fun _ _ h => h) (fun b hb h => by have := f1 b h; omega)⟩, by simp [intOf] <;> omega⟩
end Go.Proofs.Ytlfooppmdgddkaa
