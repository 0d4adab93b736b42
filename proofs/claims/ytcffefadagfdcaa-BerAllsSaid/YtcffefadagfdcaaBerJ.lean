/- ber: what stands under a tag is read as it was; cut short it is too short; a longer length: the statements' own walks. -/
import Derived.Test.YtcffefadagfdcaaBerG
import Derived.Test.YtcffefadagfdcaaBerI
namespace Go.Proofs.Ytcffefadagfdcaa
open Go.RowKit
set_option maxRecDepth 100000

theorem and31 (t : UInt8) : bits .and .u8 (t.toNat : Int) 31 = ((t &&& 31).toNat : Int) := u8_and_nat t.toNat 31 t.toNat_lt (by omega)
theorem and31_eq (t : UInt8) : ((((t &&& 31).toNat : Nat) : Int) == 31) = decide (t &&& 31 = 31) := by
  rw [Bool.eq_iff_iff, beq_iff_eq, decide_eq_true_eq, ← UInt8.toNat_inj, show (31 : UInt8).toNat = 31 from rfl]
  omega
theorem and31_ex (t : UInt8) : ∃ z : Int, bits .and .u8 (t.toNat : Int) 31 = z ∧ (z == 31) = decide (t &&& 31 = 31) := ⟨_, and31 t, and31_eq t⟩
theorem i64_and16 (a : Int) : bits .and .i64 a 65535 = a % 65536 := by
  show IntKind.i64.wrap (((BitVec.ofInt 64 a &&& BitVec.ofInt 64 65535).toNat : Nat) : Int) = _
  rw [BitVec.toNat_and, show (BitVec.ofInt 64 65535).toNat = 2 ^ 16 - 1 by decide, Nat.and_two_pow_sub_one_eq_mod, BitVec.toNat_ofInt]
  have : 0 ≤ a % 18446744073709551616 := Int.emod_nonneg _ (by omega)
  have h2 : ((a % ((2 ^ 64 : Nat) : Int)).toNat : Int) = a % 18446744073709551616 := by
    rw [Int.toNat_of_nonneg (by exact this)]; rfl
  have h3 : (((a % ((2 ^ 64 : Nat) : Int)).toNat % 2 ^ 16 : Nat) : Int) = a % 65536 := by
    rw [Int.natCast_emod, h2]; omega
  rw [h3, IntKind.wrap_i64]
  omega
theorem list_beq (l : List UInt8) : (l == l) = true := by simp

set_option maxHeartbeats 2000000 in
theorem law_cuts {w : World} {y : Value} {body : List UInt8} (t : UInt8) (hy : Bs w (fun _ => True) y body) (a : Int) :
    Calls Try.prog 11 #[.int .u8 t.toNat, y, .int .i64 a] w fun e w' => e = .returned (.bool true) ∧ Ext w w' := by
  have hy0 := hy
  obtain ⟨Ay, cy, rfl, y1, y2, y3, y4⟩ := hy.open_
  clear y3 y4 hy
  obtain ⟨zz, ha, hb⟩ := and31_ex t
  by_cases hl : 600 < body.length
  · go_enter Try.func11, Try.ntmps11
    go_wp2_with fail
    go_ret
    exact ⟨rfl, Mod.refl _ _⟩
  by_cases ht : t &&& 31 = 31
  · rw [decide_eq_true ht] at hb
    go_enter Try.func11, Try.ntmps11
    go_wp2_with fail
    go_ret
    exact ⟨rfl, Mod.refl _ _⟩
  rw [decide_eq_false ht] at hb
  have hcut := fun j hj => @blook_cut t (lay body.length) body ht (lay_hd (by omega)) (by omega) j hj
  have hll := lay_len body.length
  replace hcut := Lib.hid hcut
  replace ht := Lib.hid ht
  go_enter Try.func11, Try.ntmps11
  go_wp2_with fail
  refine (tag_any t (Rw.one 24 hy0) (by simp; omega)).mono ?_
  rintro e w1 ⟨v1, rfl, g1, g2, g3⟩
  have hx1 : Ext w w1 := ext_trans ((Mod.refl _ w).alloc _) g3
  rw [show ([body] : List (List UInt8)).flatten = body by simp] at g1
  have hfl : (t :: lay body.length ++ body).length = 1 + (lay body.length).length + body.length := by simp; omega
  generalize lay body.length = ly at *
  generalize t :: ly ++ body = fr at *
  obtain ⟨A1, c1, rfl⟩ := g1.shape
  rw [List.length_map] at g1 ⊢
  have hand := i64_and16 a
  have ha0 : 0 ≤ a % 65536 := Int.emod_nonneg _ (by omega)
  have ha1 : a % 65536 < 65536 := Int.emod_lt_of_pos _ (by omega)
  obtain ⟨r, hr⟩ : ∃ r : Nat, a % 65536 = (r : Int) := Int.eq_ofNat_of_zero_le ha0
  rw [hr] at hand ha0 ha1
  clear hr
  obtain ⟨lr, hlr⟩ : ∃ lr, lr = fr.length := ⟨_, rfl⟩
  rw [← hlr] at hfl g1 ⊢
  obtain ⟨i, hi⟩ : ∃ i, i = r % lr := ⟨_, rfl⟩
  have hil : i < lr := by rw [hi]; exact Nat.mod_lt _ (by omega)
  have hmod2 : Int.tmod (r : Int) (lr : Int) = (i : Int) := by rw [hi]; rfl
  have hmod : (r : Int) % (lr : Int) = (i : Int) := by rw [hi]; rfl
  have hlb : lr ≤ 605 := by omega
  have hlp : 2 ≤ lr := by omega
  have hb3 : ((lr : Int) == 0) = false := by rw [beq_eq_false_iff_ne]; omega
  have hcf := hcut.out i (by rw [← hlr]; exact hil)
  have hbn := bnext_err hcf (by omega)
  have hown := g1.begin (m := i) (by rw [List.length_map]; omega)
  rw [← List.map_take] at hown
  have hlt : (fr.take i).length ≤ 605 := by rw [List.length_take]; omega
  have hcap : lr ≤ c1 := by have := own_cap g1; rw [List.length_map, ← hlr] at this; exact this
  have hic : (i : Int) ≤ (c1 : Int) := by omega
  replace hlr := Lib.hid hlr
  generalize fr.take i = f2 at *
  replace hbn := Lib.hid hbn
  clear hcut hcf hi hfl g1 g2 hll ha0 ha1
  go_wp2_with fail
  refine (bnext_any hown.sl (by omega)).mono ?_
  rintro e w2 ⟨v2, v3, rfl, p1, p2, p3, p4, p5⟩
  rw [hbn.out] at p1 p2 ⊢
  have hx2 := ext_trans hx1 p5
  obtain ⟨A2, c2, rfl⟩ := p1.shape
  obtain ⟨A3, c3, rfl⟩ := p2.shape
  clear p1 p2 p3 p4 p5 hown
  go_wp2_with fail
  refine known24_any.mono ?_
  rintro e w6 ⟨rfl, hx6⟩
  go_wp2_with fail
  go_ret
  exact ⟨rfl, ext_trans hx2 hx6⟩
end Go.Proofs.Ytcffefadagfdcaa
