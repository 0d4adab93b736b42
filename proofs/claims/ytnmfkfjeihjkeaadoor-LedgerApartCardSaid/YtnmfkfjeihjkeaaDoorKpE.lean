/- keep: KeepOfNothing. -/
import Derived.Test.YtnmfkfjeihjkeaaDoorKpD
namespace Go.Proofs.YtnmfkfjeihjkeaaDoor
open Go.RowKit Go.Maps Go.WideMaps
set_option maxRecDepth 100000

theorem run_makeN {P : Program} {t e : TypeId} {z : Value} {bytes : Nat} (hT : SliceTy P t e z bytes) (w : World) (n : Nat) (kl kc : IntKind) (hn : bytes * n ≤ 281474976710656) :
    ∃ w', (Instr.makeSlice t (.int kl (n : Int)) (.int kc (n : Int))).run P w = .ok (.slice (some ⟨w.heap.size, 0, none⟩) n n) w' ∧ Own w' e (.slice (some ⟨w.heap.size, 0, none⟩) n n) (List.replicate n z) ∧ Ext w w' := by
  obtain ⟨i, hi, hz0, hz1, hz2⟩ := info_parts hT.hi
  have hb : 1 * n ≤ bytes * n := Nat.mul_le_mul_right _ hT.hb
  obtain ⟨w', hrun, h2, h3⟩ := run_make_full (P := P) w 0 t e i z 1 hT.ht hi hz0 hz1 kl kc n (by rw [hz2]; exact hn) (by simp only [maxLen]; omega) (Nat.zero_le _)
  rw [hT.hz, Nat.mul_one, toList_madeCells_one] at h2
  have h2' : Own w' e (.slice (some ⟨w.heap.size, 0, none⟩) n n) (List.replicate n z) := by unfold Own; rw [List.length_replicate]; exact h2
  exact ⟨w', hrun, h2', Mod.of_grown h3 fun k hk => by cases hk⟩
set_option maxHeartbeats 2000000 in
theorem nil_load {w : World} {x : Value} :
    Calls Tryd.prog 17 #[.pointer none, x] w fun e w' => e = .returned (.tuple #[.slice none 0 0, ev 1]) ∧ Ext w w' := by
  go_enter Tryd.func17, Tryd.ntmps17
  go_wp2_with fail
  go_ret2
  exact ⟨rfl, Mod.refl _ _⟩
set_option maxHeartbeats 2000000 in
theorem nil_save {w : World} {x y : Value} :
    Calls Tryd.prog 15 #[.pointer none, x, y] w fun e w' => e = .returned (ev 1) ∧ Ext w w' := by
  go_enter Tryd.func15, Tryd.ntmps15
  go_wp2_with fail
  go_ret
  exact ⟨rfl, Mod.refl _ _⟩
set_option maxHeartbeats 2000000 in
theorem nil_clear {w : World} {x y : Value} :
    Calls Tryd.prog 20 #[.pointer none, x, y] w fun e w' => e = .returned (ev 1) ∧ Ext w w' := by
  go_enter Tryd.func20, Tryd.ntmps20
  go_wp2_with fail
  go_ret
  exact ⟨rfl, Mod.refl _ _⟩
theorem new_save {x p : List UInt8} (hx : x.length ≤ 100) (hp : p.length ≤ 5000) : ∃ d, saveD (newD 1048576) x p = (d, if x.length < 1 ∨ 60 < x.length then 1 else 0) := by
  by_cases h : x.length < 1 ∨ 60 < x.length
  · rw [if_pos h]
    exact ⟨_, by unfold saveD; rw [if_pos h]⟩
  · rw [if_neg h]
    have := save_ok (r := 1048576) (l := 0) (L := []) (fu := false) (x := x) (p := p) List.Pairwise.nil (by omega) (by omega) rfl (by simp [sumB]; omega) (by simp) (by simp)
    exact ⟨_, this⟩
theorem Bs.old {w : World} {v : Value} {l : List UInt8} (h : Bs w (fun _ => True) v l) : Bs w (fun k => k < w.heap.size) v l := Sl.mono h fun k hk _ => hk
set_option maxHeartbeats 8000000 in
theorem nothing4_any {w : World} {v : Value} {b : List UInt8} {n : Int} (hb : Bs w (fun _ => True) v b) (hz : b.length ≤ 140737488351232) (hn : -9223372036854775808 ≤ n ∧ n ≤ 9223372036854775807) (hN : Nib w) :
    Calls Tryd.prog 5 #[v, .int .i64 n] w fun e w' => e = .returned (.bool true) ∧ Ext w w' := by
  obtain ⟨A, c, rfl, h1, h2, h3, h4⟩ := hb.open_
  by_cases hbig : 5000 < b.length
  · have hd : decide ((5000 : Int) < (b.length : Int)) = true := dtrue (by omega)
    clear hb h4
    go_enter Tryd.func5, Tryd.ntmps5
    go_wp2_with fail
    go_ret
    exact ⟨rfl, Mod.refl _ _⟩
  have hd : decide ((5000 : Int) < (b.length : Int)) = false := dfalse (by omega)
  by_cases hn0 : n < 0
  · have hd1 : decide (n < 0) = true := dtrue hn0
    clear hb h4
    go_enter Tryd.func5, Tryd.ntmps5
    go_wp2_with fail
    go_ret
    exact ⟨rfl, Mod.refl _ _⟩
  have hd1 : decide (n < 0) = false := dfalse hn0
  by_cases hn1 : 100 < n
  · have hd2 : decide (100 < n) = true := dtrue hn1
    clear hb h4
    go_enter Tryd.func5, Tryd.ntmps5
    go_wp2_with fail
    go_ret
    exact ⟨rfl, Mod.refl _ _⟩
  have hd2 : decide (100 < n) = false := dfalse hn1
  obtain ⟨m, rfl⟩ : ∃ m : Nat, n = (m : Int) := ⟨n.toNat, by omega⟩
  obtain ⟨ds, hds⟩ := new_save (x := List.replicate m 0) (p := b) (by simp; omega) (by omega)
  rw [List.length_replicate] at hds
  have hwant : (decide ((m : Int) < 1) = true ∧ (if m < 1 ∨ 60 < m then 1 else 0) = 1) ∨ (decide ((m : Int) < 1) = false ∧ decide (60 < (m : Int)) = true ∧ (if m < 1 ∨ 60 < m then 1 else 0) = 1) ∨ (decide ((m : Int) < 1) = false ∧ decide (60 < (m : Int)) = false ∧ (if m < 1 ∨ 60 < m then 1 else 0) = 0) := by
    by_cases q1 : m < 1
    · exact .inl ⟨dtrue (by omega), if_pos (.inl q1)⟩
    · by_cases q2 : 60 < m
      · exact .inr (.inl ⟨dfalse (by omega), dtrue (by omega), if_pos (.inr q2)⟩)
      · exact .inr (.inr ⟨dfalse (by omega), dfalse (by omega), if_neg (by omega)⟩)
  generalize (if m < 1 ∨ 60 < m then 1 else 0) = k at hds hwant
  have hml : m ≤ 100 := by omega
  have hi0 : (0 : Int) ≤ (m : Int) := by omega
  have hbl : b.length ≤ 5000 := by omega
  clear hn hn0 hn1 hbig
  go_enter Tryd.func5, Tryd.ntmps5
  go_wp2_with fail
  refine (new_hold (w0 := w) 1048576 (by omega) (by omega) (Mod.refl _ _)).mono ?_
  rintro e w1 ⟨bd, rfl, H1⟩
  go_wp2_with fail
  refine nil_load.mono ?_
  rintro e w2 ⟨rfl, x2⟩
  have H2 := H1.ext x2
  clear H1 x2
  rcases hwant with ⟨q1, rfl⟩ | ⟨q1, q2, rfl⟩ | ⟨q1, q2, rfl⟩
  all_goals
    go_wp2_with fail
    refine nil_save.mono ?_
    rintro e w3 ⟨rfl, x3⟩
    have H3 := H2.ext (ext_trans ((Mod.refl _ _).alloc _) x3)
    clear H2 x3
    go_wp2_with fail
    refine nil_clear.mono ?_
    rintro e w4 ⟨rfl, x4⟩
    have H4 := H3.ext x4
    clear H3 x4
    obtain ⟨w5, hmk, o5, x5⟩ := run_makeN (P := Tryd.prog) tyB w4 m .i64 .i64 (by omega)
    have b5 : Bs w5 (own (.slice (some ⟨w4.heap.size, 0, none⟩) m m)) (.slice (some ⟨w4.heap.size, 0, none⟩) m m) (List.replicate m 0) := by
      have := o5.sl
      rw [show List.replicate m (Value.int .u8 0) = (List.replicate m (0 : UInt8)).map bv from by rw [List.map_replicate]; rfl] at this
      exact this
    have hcv := run_conv (P := Tryd.prog) (src := 32) (dst := 9) (e := 5) Tryd.underlying32 Tryd.underlying5 Tryd.underlying9 b5
    have hx5 := ext_trans H4.xt x5
    have hr := row_one (hb.mod hx5 (fun _ _ _ h => h))
    have hc := hold_save H4 (ext_trans x5 ((Mod.refl _ _).alloc _)) (List.replicate m 0) (by simp; omega) hr hN (by simp; omega) (by simpa using hds)
    clear b5 o5 x5 hr hx5 hds H4 hb h4
    generalize List.replicate m (0 : UInt8) = x at *
    go_wp2_with fail
    refine hc.mono ?_
    rintro e w6 ⟨rfl, H6⟩
    have hk := known4_any (hN.ext H6.xt)
    clear hc
    go_wp2_with fail
    refine hk.mono ?_
    rintro e w7 ⟨rfl, x7⟩
    clear hk
    go_wp2_with fail
    go_ret
    exact ⟨rfl, ext_trans H6.xt x7⟩
end Go.Proofs.YtnmfkfjeihjkeaaDoor
