/- ber: what stands under a tag is read as it was, whatever stands behind: the statement's own walk. -/
import Derived.Test.YtcffefadagfdcaaBerJ
namespace Go.Proofs.Ytcffefadagfdcaa
open Go.RowKit
set_option maxRecDepth 100000

theorem rep_len (n : Nat) (b : List UInt8) : (List.replicate n b).flatten.length = n * b.length := by simp
theorem rep_snoc (n : Nat) (b : List UInt8) : (List.replicate (n + 1) b).flatten = (List.replicate n b).flatten ++ b := by
  rw [List.replicate_succ', List.flatten_append]; simp

set_option maxHeartbeats 2000000 in
theorem law_back {w : World} {y z : Value} {body rest : List UInt8} (t : UInt8) (hy : Bs w (fun _ => True) y body) (hz : Bs w (fun _ => True) z rest) (a : Int) :
    Calls Try.prog 10 #[.int .u8 t.toNat, y, z, .int .i64 a] w fun e w' => e = .returned (.bool true) ∧ Ext w w' := by
  have hy0 := hy
  have hz0 := hz
  obtain ⟨Ay, cy, rfl, y1, y2, y3, y4⟩ := hy.open_
  obtain ⟨Az, cz, rfl, z1, z2, z3, z4⟩ := hz.open_
  clear y3 y4 hy z3 z4 hz
  obtain ⟨zz, ha, hb⟩ := and31_ex t
  by_cases hl : 300 < body.length
  · go_enter Try.func10, Try.ntmps10
    go_wp2_with fail
    go_ret
    exact ⟨rfl, Mod.refl _ _⟩
  by_cases hl2 : 300 < rest.length
  · go_enter Try.func10, Try.ntmps10
    go_wp2_with fail
    go_ret
    exact ⟨rfl, Mod.refl _ _⟩
  by_cases ht : t &&& 31 = 31
  · rw [decide_eq_true ht] at hb
    go_enter Try.func10, Try.ntmps10
    go_wp2_with fail
    go_ret
    exact ⟨rfl, Mod.refl _ _⟩
  rw [decide_eq_false ht] at hb
  by_cases ha0 : a < 0
  · go_enter Try.func10, Try.ntmps10
    go_wp2_with fail
    go_ret
    exact ⟨rfl, Mod.refl _ _⟩
  by_cases ha1 : 150 < a
  · go_enter Try.func10, Try.ntmps10
    go_wp2_with fail
    go_ret
    exact ⟨rfl, Mod.refl _ _⟩
  obtain ⟨m, rfl⟩ : ∃ m : Nat, a = (m : Int) := Int.eq_ofNat_of_zero_le (by omega)
  have hm : m ≤ 150 := by omega
  clear ha0 ha1
  replace ht := Lib.hid ht
  go_enter Try.func10, Try.ntmps10
  go_wp2_with fail
  go_loopw [9, 10] (fun v i wr => ∃ k : Nat, k ≤ m + 1 ∧ i = .int .i64 k ∧ Own wr 5 v ((List.replicate k body).flatten.map bv) ∧ Fresh w.heap.size v ∧ Ext w wr) (fun _ i _ => m + 1 - (intOf i).toNat)
  case atStart => exact ⟨0, Nat.zero_le _, rfl, Own.nil _ _, fresh_nil _ _ _, Mod.refl _ _⟩
  case round =>
    obtain ⟨k, hk, rfl, hown, hf, hx⟩ := hrel
    have hlen := rep_len k body
    have hmul : k * body.length ≤ 151 * 300 := Nat.mul_le_mul (by omega) (by omega)
    by_cases hlt : k < m + 1
    · have hn1 : (((List.replicate k body).flatten.map bv).length + (body.map bv).length) * 1 ≤ 140737488355328 := by
        rw [List.length_map, List.length_map, hlen]; omega
      replace hn1 := Lib.hid hn1
      clear hlen hmul
      have hbs := hy0.ext hx
      have hki : (k : Int) ≤ (m : Int) := by omega
      go_wp2_with ((with_reducible show wpList _ _ _ (⟨some 43, _, _, _, _, _⟩ :: _) _ _); refine wp_app tyB hown hbs (bv_one _) rfl (.tmp 41) (.tmp 42) rfl rfl rfl hn1.out ?_; intro v2 w2 hown2 hmod2 hnx2)
      exact ⟨⟨k + 1, by omega, by go_num, by rw [rep_snoc, List.map_append]; exact hown2, hnx2.fresh hf hx.size, ext_app0 hx hf hmod2⟩, by simp [intOf] <;> omega⟩
    · have hki : ¬ (k : Int) ≤ (m : Int) := by omega
      generalize (List.replicate k body).flatten = all at *
      have hal : all.length ≤ 45300 := by omega
      have hnext := @bnext_hd t (lay all.length) all rest ht.out (lay_hd (by omega)) (by omega)
      replace hnext := Lib.hid hnext
      clear hlen hmul
      obtain ⟨A1, c1, rfl⟩ := hown.shape
      rw [List.length_map] at hown hf ⊢
      have hv1 : Bs wr (fun k => k < wr.heap.size) (.slice A1 all.length c1) all := hown.sl.mono (fun k _ h => hown.lt h)
      have hll := lay_len all.length
      go_wp2_with fail
      refine (tag_any t (Rw.one 24 hv1) (by simp; omega)).mono ?_
      rintro e w2 ⟨v2, rfl, g1, g2, g3⟩
      have hx2 : Ext w w2 := ext_trans (Mod.alloc hx _) g3
      have hf0 : Fresh wr.heap.size v2 := g2.mono (by simp)
      have hf2 : Fresh w.heap.size v2 := g2.mono (by have := hx.size; simp; omega)
      have hv2 := hv1.ext (ext_trans ((Mod.refl _ wr).alloc _) g3)
      rw [show ([all] : List (List UInt8)).flatten = all by simp] at g1
      have hfl : (t :: lay all.length ++ all).length = 1 + (lay all.length).length + all.length := by simp; omega
      generalize t :: lay all.length ++ all = fr at *
      have hn2 : ((fr.map bv).length + (rest.map bv).length) * 1 ≤ 140737488355328 := by rw [List.length_map, List.length_map, hfl]; omega
      replace hn2 := Lib.hid hn2
      have hz2 := hz0.ext hx2
      have hfl2 : (fr ++ rest).length ≤ 140737488355328 := by rw [List.length_append]; omega
      replace hfl2 := Lib.hid hfl2
      clear g2 g3 hll hfl hown hf hv1
      go_wp2_with ((with_reducible show wpList _ _ _ (⟨some 50, _, _, _, _, _⟩ :: _) _ _); refine wp_app tyB g1 hz2 (bv_one _) rfl (.tmp 48) (.tmp 49) rfl rfl rfl hn2.out ?_; intro v4 w4 q1 q2 q3)
      have hx4 : Ext w w4 := ext_app0 hx2 hf2 q2
      rw [← List.map_append] at q1
      have hv4 := hv2.mod q2 (fun k _ h1 h2 => by have h3 : k < wr.heap.size := h1; have := hf0 k h2; omega)
      refine (bnext_any q1.sl hfl2.out).mono ?_
      rintro e w5 ⟨v5, v6, rfl, p1, p2, p3, p4, p5⟩
      rw [hnext.out] at p1 p2 ⊢
      have hx5 := ext_trans hx4 p5
      have kc1 := run_conv (P := Try.prog) Try.underlying24 Try.underlying5 Try.underlying9 p1.sl
      have kc2 := run_conv (P := Try.prog) Try.underlying24 Try.underlying5 Try.underlying9 p2.sl
      have kc3 := run_conv (P := Try.prog) Try.underlying24 Try.underlying5 Try.underlying9 (hv4.ext p5)
      have kc4 := run_conv (P := Try.prog) Try.underlying24 Try.underlying5 Try.underlying9 (hz0.ext hx5)
      clear p1 p2 p3 p4 p5 q1 q2 q3 hv2 hv4 hz2
      go_wp2_with fail
      refine known24_any.mono ?_
      rintro e w6 ⟨rfl, hx6⟩
      go_wp2_with fail
      go_ret
      exact ⟨rfl, ext_trans hx5 hx6⟩
end Go.Proofs.Ytcffefadagfdcaa
