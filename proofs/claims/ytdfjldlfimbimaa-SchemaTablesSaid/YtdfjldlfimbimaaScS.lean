/- schema: Types; a text as an attribute and as a class; the law Tables. -/
import Derived.Test.YtdfjldlfimbimaaScR
namespace Go.Proofs.Ytdfjldlfimbimaa
open Go.RowKit
set_option maxRecDepth 100000

theorem tyNames_mem (x : List UInt8) : x ∈ tyNames ↔ x ∈ typesL := by
  have h1 : tyNames.all (fun x => typesL.contains x) = true := by decide
  have h2 : typesL.all (fun x => tyNames.contains x) = true := by decide
  constructor
  · intro h
    have := List.all_eq_true.1 h1 x h
    rwa [List.contains_iff_mem] at this
  · intro h
    have := List.all_eq_true.1 h2 x h
    rwa [List.contains_iff_mem] at this
theorem typesL_rise : riseT typesL := by unfold riseT; decide
set_option maxHeartbeats 4000000 in
theorem stypes_any {w : World} : Calls Try.prog 6 #[] w fun e w' => ∃ u, e = .returned u ∧ Ts w' AllE u typesL ∧ Ext w w' := by
  have ht := typesU_any (w := w)
  have hK := @sortedK_holds
  go_enter Try.func6, Try.ntmps6
  go_wp2_with fail
  refine ht.mono ?_
  rintro e w1 ⟨b, D, rfl, hM, hS, x1⟩
  have hc := hK (by omega) hM hS
  clear hK ht
  go_wp2_with fail
  refine hc.mono ?_
  rintro e w2 ⟨f, rfl, x2, hc3⟩
  clear hc
  go_wp2_with fail
  refine hc3.mono ?_
  rintro e w3 ⟨u, G, rfl, o3, -, r3, m3, x3⟩
  have hG : G = typesL := riseT_ext r3 typesL_rise (fun x => (m3 x).trans (tyNames_mem x))
  subst hG
  go_wp2_with fail
  go_ret
  exact ⟨_, rfl, (Own.sl o3).mono (fun _ _ _ => trivial), ext_trans x1 x3⟩
set_option maxHeartbeats 16000000 in
theorem one_any {w : World} {s : List UInt8} (hs : s.length ≤ 1000000) :
    Calls Try.prog 9 #[sv s] w fun e w' => e = .returned (.bool true) ∧ Ext w w' := by
  have hty : ∃ (t : List UInt8) (n : Int) (q ok : Bool), (∀ wx : World, Calls Try.prog 20 #[sv s] wx fun e w' => e = .returned (.tuple #[sv t, .int .i64 n, .bool q, .bool ok]) ∧ Ext wx w') ∧
      (∀ wx : World, Calls Try.prog 16 #[sv s] wx fun e w' => e = .returned (.tuple #[sv t, .int .i64 n, .bool q, .bool ok]) ∧ Ext wx w') := by
    by_cases h : foldB s ∈ typesL
    · exact ⟨foldB s, synT (foldB s), oneT (foldB s), true, fun wx => stype_yes (by omega) (lk_types _ h), fun wx => rtype_yes (by omega) h⟩
    · exact ⟨[], 0, false, false, fun wx => stype_no (by omega) (lk_others h), fun wx => rtype_no (by omega) h⟩
  obtain ⟨t, n, q, ok, h1, h2⟩ := hty
  have h3 := fun wx : World => class_any (w := wx) (s := s) (by omega)
  have h4 := fun wx : World => rclass_any (w := wx) (s := s) (by omega)
  have e1 : (t == t) = true := by simp
  have e2 : (n == n) = true := by simp
  have e3 : (q == q) = true := by cases q <;> rfl
  have e4 : (ok == ok) = true := by cases ok <;> rfl
  go_enter Try.func9, Try.ntmps9
  go_wp2_with fail
  refine (h1 _).mono ?_
  rintro e w1 ⟨rfl, x1⟩
  go_wp2_with fail
  refine (h2 _).mono ?_
  rintro e w2 ⟨rfl, x2⟩
  clear h1 h2
  cases hc : clP (foldB s) with
  | none =>
    simp only [hc] at h3 h4
    replace hc := Lib.hid hc
    have e5 : (false == false) = true := rfl
    go_wp2_with fail
    refine (h3 _).mono ?_
    rintro e w3 ⟨hr, x3⟩
    obtain rfl : e = .returned (.tuple #[.slice none 0 0, .slice none 0 0, .bool false]) := hr
    clear h3
    go_wp2_with fail
    refine (h4 _).mono ?_
    rintro e w4 ⟨hr, x4⟩
    obtain rfl : e = .returned (.tuple #[.slice none 0 0, .slice none 0 0, .bool false]) := hr
    clear h4
    have ht := fun wx : World => texts14_any (w := wx) (L := []) (M := []) (Sl.nil wx AllE) (Sl.nil wx AllE)
    rw [dtrueI (rfl : ([] : Tx) = [])] at ht
    go_wp2_with fail
    refine (ht _).mono ?_
    rintro e w5 ⟨rfl, x5⟩
    go_wp2_with fail
    refine (ht _).mono ?_
    rintro e w6 ⟨rfl, x6⟩
    go_wp2_with fail
    go_ret
    exact ⟨rfl, ext_trans x1 (ext_trans x2 (ext_trans x3 (ext_trans x4 (ext_trans x5 x6))))⟩
  | some c =>
    simp only [hc] at h3 h4
    replace hc := Lib.hid hc
    have e5 : (true == true) = true := rfl
    go_wp2_with fail
    refine (h3 _).mono ?_
    rintro e w3 ⟨⟨vx, vy, rfl, t1, t2⟩, x3⟩
    clear h3
    go_wp2_with fail
    refine (h4 _).mono ?_
    rintro e w4 ⟨⟨ux, uy, rfl, t3, t4⟩, x4⟩
    clear h4
    have hA := texts14_any (t1.ext x4) t3
    rw [dtrueI (rfl : c.1 = c.1)] at hA
    have hB := fun (wx : World) (x : Ext w4 wx) => texts14_any ((t2.ext x4).ext x) (t4.ext x)
    simp only [dtrueI (rfl : c.2 = c.2)] at hB
    go_wp2_with fail
    refine hA.mono ?_
    rintro e w5 ⟨rfl, x5⟩
    go_wp2_with fail
    refine (hB _ x5).mono ?_
    rintro e w6 ⟨rfl, x6⟩
    go_wp2_with fail
    go_ret
    exact ⟨rfl, ext_trans x1 (ext_trans x2 (ext_trans x3 (ext_trans x4 (ext_trans x5 x6))))⟩
theorem i64_and16 (a : Int) : bits .and .i64 a 65535 = a % 65536 := by
  show IntKind.i64.wrap (((BitVec.ofInt 64 a &&& BitVec.ofInt 64 65535).toNat : Nat) : Int) = _
  rw [BitVec.toNat_and, show (BitVec.ofInt 64 65535).toNat = 2 ^ 16 - 1 by decide, Nat.and_two_pow_sub_one_eq_mod, BitVec.toNat_ofInt]
  have : 0 ≤ a % 18446744073709551616 := Int.emod_nonneg _ (by omega)
  have h2 : ((a % ((2 ^ 64 : Nat) : Int)).toNat : Int) = a % 18446744073709551616 := by
    rw [Int.toNat_of_nonneg (by exact this)]; rfl
  have h3 : (((a % ((2 ^ 64 : Nat) : Int)).toNat % 2 ^ 16 : Nat) : Int) = a % 65536 := by
    rw [Int.natCast_emod, h2]; omega
  rw [h3, IntKind.wrap_i64]
  omega
set_option maxHeartbeats 16000000 in
theorem ltables_any {w : World} {s : List UInt8} {i : Int} (hs : s.length ≤ 140737488351232) :
    Calls Try.prog 3 #[sv s, .int .i64 i] w fun e w' => e = .returned (.bool true) ∧ Ext w w' := by
  have hsz := sv_size s
  have hty := fun wx : World => stypes_any (w := wx)
  have hrt := fun wx : World => rtypes_any (w := wx)
  have hkn := known14_any
  by_cases hgt : 200 < s.length
  case pos =>
    have q1 : decide ((200 : Int) < (s.length : Int)) = true := dtrueI (by omega)
    have q2 : decide (200 < s.length) = true := dtrueI hgt
    go_enter Try.func3, Try.ntmps3
    go_wp2_with fail
    go_ret
    exact ⟨rfl, Mod.refl _ _⟩
  have q1 : decide ((200 : Int) < (s.length : Int)) = false := dfalseI (by omega)
  have q2 : decide (200 < s.length) = false := dfalseI hgt
  have hone := fun wx : World => one_any (w := wx) (s := s) (by omega)
  have hand := i64_and16 i
  obtain ⟨j, hj⟩ : ∃ j : Nat, j = ((i % 65536) % (19 : Int)).toNat := ⟨_, rfl⟩
  have hjm := Int.emod_lt_of_pos (i % 65536) (show (0 : Int) < 19 by omega)
  have hjn := Int.emod_nonneg (i % 65536) (show (19 : Int) ≠ 0 by omega)
  have hjl : j < 19 := by omega
  have hmod : Int.tmod (i % 65536) 19 = (j : Int) := by rw [Int.tmod_eq_emod_of_nonneg (by omega)]; omega
  have hl19 : typesL.length = 19 := rfl
  have hlt : j < typesL.length := by rw [hl19]; exact hjl
  have hm : typesL[j] ∈ typesL := List.getElem_mem hlt
  have hsm : ∀ t ∈ typesL, t.length ≤ 1000 := by decide
  have htl := hsm _ hm
  have hi0 : (0 : Int) ≤ (j : Int) := by omega
  have hi1 : (j : Int) < 19 := by omega
  have jw : IntKind.i64.wrap (j : Int) = (j : Int) := by rw [IntKind.wrap_i64]; omega
  clear hj hjm hjn hm hsm
  go_enter Try.func3, Try.ntmps3
  go_wp2_with fail
  refine (hty _).mono ?_
  rintro e w1 ⟨u, rfl, o1, x1⟩
  obtain ⟨A1, c1, hu, -, -, -, hc1⟩ := Sl.open_ o1
  rw [hl19] at hu
  subst hu
  clear hty
  go_wp2_with fail
  refine (hrt _).mono ?_
  rintro e w2 ⟨u2, rfl, o2, x2⟩
  have ht := texts14_any (o1.ext x2) o2
  rw [dtrueI (rfl : typesL = typesL)] at ht
  obtain ⟨A2, c2, hu2, -⟩ := Sl.open_ o2
  rw [hl19] at hu2
  subst hu2
  clear hrt
  go_wp2_with fail
  refine ht.mono ?_
  rintro e w3 ⟨rfl, x3⟩
  clear ht
  go_wp2_with fail
  refine (hone _).mono ?_
  rintro e w4 ⟨rfl, x4⟩
  have x14 := ext_trans x2 (ext_trans x3 x4)
  obtain ⟨A3, c3, hu3, -, -, -, hc3⟩ := Sl.open_ (o1.ext x14)
  rw [hl19] at hu3
  injection hu3 with e1 e2 e3
  subst e1
  subst e3
  clear e2
  obtain ⟨ad, hA, -, cV⟩ := Cells.at_ hc3 hlt
  subst hA
  generalize typesL[j] = t at *
  have hone2 := fun wx : World => one_any (w := wx) (s := t) (by omega)
  clear hone hc3 hc1 o1 o2 hl19 hlt
  go_wp2_with fail
  refine (hone2 _).mono ?_
  rintro e w5 ⟨rfl, x5⟩
  clear cV
  go_wp2_with fail
  refine (hkn _).mono ?_
  rintro e w6 ⟨rfl, x6⟩
  go_wp2_with fail
  go_ret
  exact ⟨rfl, ext_trans x1 (ext_trans x14 (ext_trans x5 x6))⟩
end Go.Proofs.Ytdfjldlfimbimaa
