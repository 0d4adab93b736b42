/- filter: the law FilterDeep. -/
import Derived.Test.YtekocbphdckmkaaFqH
namespace Go.Proofs.Ytekocbphdckmkaa
open Go.RowKit
set_option maxRecDepth 100000

def deepT : Nat → List UInt8
  | 0 => [40, 99, 110, 61, 97, 41]
  | k + 1 => ([40, 33] ++ deepT k) ++ [41]
theorem deepT_len : ∀ k, (deepT k).length = 6 + 3 * k
  | 0 => rfl
  | k + 1 => by
    have := deepT_len k
    simp only [deepT, List.length_append, List.length_cons, List.length_nil]
    omega
def chkD (k : Nat) : Bool :=
  match parseP (deepT k) with
  | .error x => x == 10 && decide (16 ≤ k)
  | .ok F => decide (k < 16) && nodesN 16 F == k + 1
theorem chk_all : ∀ k, k < 61 → chkD k = true := by decide +kernel
theorem deep_err {k : Nat} (h : k < 61) (h2 : 16 ≤ k) : parseP (deepT k) = .error 10 := by
  have h1 := chk_all k h
  unfold chkD at h1
  split at h1
  · rename_i x hx
    rw [Bool.and_eq_true_iff, beq_iff_eq] at h1
    rw [hx, h1.1]
  · rw [Bool.and_eq_true_iff, decide_eq_true_eq] at h1
    omega
theorem deep_ok {k : Nat} (h2 : k < 16) : ∃ F, parseP (deepT k) = .ok F ∧ nodesN 16 F = k + 1 := by
  have h1 := chk_all k (by omega)
  unfold chkD at h1
  split at h1
  · rw [Bool.and_eq_true_iff, decide_eq_true_eq] at h1
    omega
  · rename_i F hF
    rw [Bool.and_eq_true_iff, beq_iff_eq] at h1
    exact ⟨F, hF, h1.2⟩
theorem fz_in (w : World) : FilN 16 w fz (.slice none 0 0) (.slice none 0 0) :=
  FilN.more (n := 1) ⟨⟨by simp [fz, Fi.kind], by simp [fz, Fi.typ], by simp [fz, Fi.val], by simp [fz, Fi.subs], by simp [fz, Fi.subs], by simp [fz, Fi.kids]⟩, Sl.nil _ _, [], Rc.nil _ _ _ _, rfl, fun x hx => by cases hx⟩ (by omega)
set_option maxHeartbeats 16000000 in
theorem ldeep_any {w : World} {n : Int} :
    Calls Try.prog 7 #[.int .i64 n] w fun e w' => e = .returned (.bool true) ∧ Ext w w' := by
  by_cases hr : 0 ≤ n ∧ n ≤ 60
  rotate_left
  · have hc : (decide (n < 0) = true) ∨ (decide (n < 0) = false ∧ decide (60 < n) = true) := by
      by_cases h : n < 0
      · exact .inl (dtrue h)
      · exact .inr ⟨dfalse h, dtrue (by omega)⟩
    clear hr
    rcases hc with c1 | ⟨c1, c2⟩
    all_goals
      go_enter Try.func7, Try.ntmps7
      go_wp2_with fail
      refine (knownF_any w).mono ?_
      rintro e w2 ⟨rfl, x2⟩
      go_wp2_with fail
      go_ret
      exact ⟨rfl, x2⟩
  obtain ⟨m, rfl⟩ : ∃ m : Nat, n = m := ⟨n.toNat, by omega⟩
  have hm : m ≤ 60 := by omega
  have c1 : decide ((m : Int) < 0) = false := dfalse (by omega)
  have c2 : decide ((60 : Int) < (m : Int)) = false := dfalse (by omega)
  clear hr
  go_enter Try.func7, Try.ntmps7
  go_wp2_with fail
  go_loopw [3, 4] (fun s i wr => ∃ k : Nat, k ≤ m ∧ i = .int .i64 k ∧ s = sv (deepT k) ∧ wr = w) (fun _ i _ => m - (intOf i).toNat)
  case atStart => exact ⟨0, Nat.zero_le _, rfl, rfl, rfl⟩
  case round =>
    obtain ⟨k, hk, rfl, rfl, rfl⟩ := hrel
    by_cases hlt : k < m
    · have hbl : decide ((k : Int) < (m : Int)) = true := dtrue (by omega)
      have hbn : decide (k < m) = true := dtrue (by omega)
      have hlen := deepT_len k
      have hc1 : (⟨#[40, 33]⟩ : ByteArray) ++ ⟨(deepT k).toArray⟩ = ⟨([40, 33] ++ deepT k).toArray⟩ := cat_data [40, 33] (deepT k)
      have hc2 : (⟨([40, 33] ++ deepT k).toArray⟩ : ByteArray) ++ ⟨#[41]⟩ = ⟨(deepT (k + 1)).toArray⟩ := cat_data ([40, 33] ++ deepT k) [41]
      have hl2 : ([40, 33] ++ deepT k).length = 8 + 3 * k := by rw [List.length_append, hlen]; simp; omega
      obtain ⟨t2, ht2⟩ : ∃ t2, t2 = deepT (k + 1) := ⟨_, rfl⟩
      rw [← ht2] at hc2
      replace ht2 := Lib.hid ht2
      generalize ht1 : [40, 33] ++ deepT k = t1 at *
      clear ht1
      generalize deepT k = t0 at *
      have ha1 : ¬ 9223372036854775807 < 2 + t0.length := by omega
      have ha2 : ¬ 9223372036854775807 < t1.length + 1 := by omega
      replace hlen := Lib.hid hlen
      replace hl2 := Lib.hid hl2
      go_wp2_with fail
      exact ⟨⟨k + 1, by omega, by go_num, by rw [← ht2.out], by trivial⟩, by simp [intOf] <;> omega⟩
    have hbl : decide ((k : Int) < (m : Int)) = false := dfalse (by omega)
    have hbn : decide (k < m) = false := dfalse (by omega)
    obtain rfl : k = m := by omega
    have hpa := fparse_any (w := wr) (deepT k) (by rw [deepT_len]; omega)
    have her := deep_err (k := k) (by omega)
    have hok := deep_ok (k := k)
    generalize deepT k = t at *
    replace hpa := Lib.hid hpa
    replace her := Lib.hid her
    replace hok := Lib.hid hok
    go_wp2_with fail
    refine hpa.out.mono ?_
    rintro e w2 ⟨hpo, x2⟩
    clear hpa
    by_cases h16 : 16 ≤ k
    · have hb16 : decide ((16 : Int) ≤ (k : Int)) = true := dtrue (by omega)
      have hbn16 : decide (16 ≤ k) = true := dtrue h16
      obtain ⟨rfl, -⟩ := hpo.err_ (her.out h16)
      have hsm := rsame_any 16 (fz_in (w2.alloc (.cells z5 25))) (fz_in (w2.alloc (.cells z5 25)))
      rw [show eqN 16 fz fz = true from rfl] at hsm
      replace hsm : Calls Try.prog 10 #[.agg #[.int .i64 0, sv [], sv [], .slice none 0 0, .slice none 0 0], .agg #[.int .i64 0, sv [], sv [], .slice none 0 0, .slice none 0 0]] (w2.alloc (.cells z5 25)) fun e w' => e = .returned (.bool true) ∧ Ext (w2.alloc (.cells z5 25)) w' := hsm
      rw [show filV fz (.slice none 0 0) (.slice none 0 0) = .agg #[.int .i64 0, sv [], sv [], .slice none 0 0, .slice none 0 0] from rfl]
      obtain ⟨w3, hw3⟩ : ∃ y, y = w2.alloc (.cells #[.int .i64 0, sv [], sv [], .slice none 0 0, .slice none 0 0] 25) := ⟨_, rfl⟩
      obtain ⟨q, hq⟩ : ∃ y, y = w2.heap.size := ⟨_, rfl⟩
      have x3 : Ext w2 w3 := by rw [hw3]; exact (Mod.refl _ w2).alloc _
      have BQ : Blk w3 q 25 #[.int .i64 0, sv [], sv [], .slice none 0 0, .slice none 0 0] := by rw [hw3, hq]; exact Blk.new w2 _ _
      obtain ⟨-, q0, q1, q2, q3, q4⟩ := BQ.five
      rw [show w2.alloc (.cells z5 25) = w3 from hw3.symm] at hsm
      replace hw3 := Lib.hid hw3
      replace hq := Lib.hid hq
      replace hsm := Lib.hid hsm
      clear her hok hpo BQ
      go_upto_region 9 with fail
      rw [← hw3.out, ← hq.out]
      go_wp2_with fail
      refine hsm.out.mono ?_
      rintro e w4 ⟨rfl, x4⟩
      clear hsm q0 q1 q2 q3 q4
      go_wp2_with fail
      refine (knownF_any w4).mono ?_
      rintro e w5 ⟨rfl, x5⟩
      go_wp2_with fail
      go_ret
      exact ⟨rfl, ext_trans (ext_trans x2 x3) (ext_trans x4 x5)⟩
    · have hb16 : decide ((16 : Int) ≤ (k : Int)) = false := dfalse (by omega)
      have hbn16 : decide (16 ≤ k) = false := dfalse h16
      obtain ⟨F, hF1, hF2⟩ := hok.out (by omega)
      obtain ⟨us, uk, rfl, hF⟩ := hpo.ok_ hF1
      obtain ⟨⟨U1, U2, U3, rfl⟩, V1, V2, V3, rfl⟩ := hF.shape
      obtain ⟨w3, hw3⟩ : ∃ y, y = w2.alloc (.cells #[.int .i64 F.kind, sv F.typ, sv F.val, .slice U1 U2 U3, .slice V1 V2 V3] 25) := ⟨_, rfl⟩
      obtain ⟨q, hq⟩ : ∃ y, y = w2.heap.size := ⟨_, rfl⟩
      have x3 : Ext w2 w3 := by rw [hw3]; exact (Mod.refl _ w2).alloc _
      have BQ : Blk w3 q 25 #[.int .i64 F.kind, sv F.typ, sv F.val, .slice U1 U2 U3, .slice V1 V2 V3] := by rw [hw3, hq]; exact Blk.new w2 _ _
      obtain ⟨-, q0, q1, q2, q3, q4⟩ := BQ.five
      have hno := fnodes_any 16 (hF.ext x3) (by omega)
      rw [hF2] at hno
      have hnb : (((k + 1 : Nat) : Int) == (k : Int) + 1) = true := by rw [beq_iff_eq]; omega
      generalize hk1 : ((k + 1 : Nat) : Int) = k1 at *
      simp only [iN] at hno
      rw [hk1] at hno
      replace hk1 := Lib.hid hk1
      replace hw3 := Lib.hid hw3
      replace hq := Lib.hid hq
      replace hno := Lib.hid hno
      clear her hok hpo BQ hF hF1 hF2
      go_upto_region 9 with fail
      rw [← hw3.out, ← hq.out]
      go_wp2_with fail
      refine hno.out.mono ?_
      rintro e w4 ⟨rfl, x4⟩
      clear hno q0 q1 q2 q3 q4
      go_wp2_with fail
      refine (knownF_any w4).mono ?_
      rintro e w5 ⟨rfl, x5⟩
      go_wp2_with fail
      go_ret
      exact ⟨rfl, ext_trans (ext_trans x2 x3) (ext_trans x4 x5)⟩
end Go.Proofs.Ytekocbphdckmkaa
