/- frame: a record of which one byte is another one: the statement's own walk. -/
import Derived.Test.YtckgnnopoekniaaDoorFrmG
namespace Go.Proofs.YtckgnnopoekniaaDoor
open Go.RowKit
set_option maxRecDepth 100000
theorem i64_and30 (a : Int) : bits .and .i64 a 1073741823 = a % 1073741824 := by
  show IntKind.i64.wrap (((BitVec.ofInt 64 a &&& BitVec.ofInt 64 1073741823).toNat : Nat) : Int) = _
  rw [BitVec.toNat_and, show (BitVec.ofInt 64 1073741823).toNat = 2 ^ 30 - 1 by decide, Nat.and_two_pow_sub_one_eq_mod, BitVec.toNat_ofInt]
  have : 0 ≤ a % 18446744073709551616 := Int.emod_nonneg _ (by omega)
  have h2 : ((a % ((2 ^ 64 : Nat) : Int)).toNat : Int) = a % 18446744073709551616 := by
    rw [Int.toNat_of_nonneg (by exact this)]; rfl
  have h3 : (((a % ((2 ^ 64 : Nat) : Int)).toNat % 2 ^ 30 : Nat) : Int) = a % 1073741824 := by
    rw [Int.natCast_emod, h2]; omega
  rw [h3, IntKind.wrap_i64]
  omega

set_option maxHeartbeats 2000000 in
theorem law_sees {w : World} {y z : Value} {p more : List UInt8} (hy : Bs w (fun _ => True) y p) (hz : Bs w (fun _ => True) z more) (hpl : p.length ≤ 140737488351232) (hml : more.length ≤ 140737488351232) (a : Int) (c : UInt8) (hN : Nib w) :
    Calls Tryd.prog 5 #[y, z, .int .i64 a, .int .u8 c.toNat] w fun e w' => e = .returned (.bool true) ∧ Ext w w' := by
  have hy0 := hy
  have hz0 := hz
  obtain ⟨Ay, cy, rfl, y1, y2, y3, y4⟩ := hy.open_
  obtain ⟨Az, cz, rfl, z1, z2, z3, z4⟩ := hz.open_
  clear y3 y4 z3 z4 hy hz
  by_cases hb1 : 4000 < p.length + more.length
  · go_enter Tryd.func5, Tryd.ntmps5
    go_wp2_with fail
    go_ret
    exact ⟨rfl, Mod.refl _ _⟩
  by_cases hc0 : c = 0
  · subst hc0
    have hcz : ((UInt8.toNat 0 : Int) == 0) = true := rfl
    go_enter Tryd.func5, Tryd.ntmps5
    go_wp2_with fail
    go_ret
    exact ⟨rfl, Mod.refl _ _⟩
  have hb2 : ((c.toNat : Int) == 0) = false := by
    rw [beq_eq_false_iff_ne]; intro h; exact hc0 (UInt8.toNat_inj.1 (by simpa using h))
  go_enter Tryd.func5, Tryd.ntmps5
  go_wp2_with fail
  refine (encode_any (Rw.one 23 hy0) (hN.mod ((Mod.refl (fun _ => False) w).alloc _) (fun h => h)) (by simp; omega)).mono ?_
  rintro e w1 ⟨v1, rfl, g1, g2, g3⟩
  have hx1 : Ext w w1 := ext_trans ((Mod.refl _ w).alloc _) g3
  rw [show ([p] : List (List UInt8)).flatten = p by simp] at g1
  have hflip := dec_flip p more
  have hlen := frec_len p
  generalize frec p = fr at *
  obtain ⟨A1, c1, rfl⟩ := g1.shape
  rw [List.length_map] at g1 ⊢
  obtain ⟨lr, hlr⟩ : ∃ lr, lr = fr.length := ⟨_, rfl⟩
  rw [← hlr] at hlen g1 ⊢
  have hlb : lr ≤ 5000 := by omega
  have hlp : 12 ≤ lr := by omega
  have hb3 : ((lr : Int) == 0) = false := by rw [beq_eq_false_iff_ne]; omega
  have hn1 : (([] : List Value).length + (fr.map bv).length) * 1 ≤ 140737488355328 := by rw [List.length_map, ← hlr]; simp; omega
  replace hn1 := Lib.hid hn1
  have hlr0 := hlr
  replace hlr := Lib.hid hlr
  replace hlr0 := Lib.hid hlr0
  replace hflip := Lib.hid hflip
  clear g2 g3 hlen
  have hand := i64_and30 a
  have ha0 : 0 ≤ a % 1073741824 := Int.emod_nonneg _ (by omega)
  have ha1 : a % 1073741824 < 1073741824 := Int.emod_lt_of_pos _ (by omega)
  obtain ⟨r, hr⟩ : ∃ r : Nat, a % 1073741824 = (r : Int) := Int.eq_ofNat_of_zero_le ha0
  rw [hr] at hand ha0 ha1
  clear hr
  obtain ⟨i, hi⟩ : ∃ i, i = r % lr := ⟨_, rfl⟩
  have hil : i < lr := by rw [hi]; exact Nat.mod_lt _ (by omega)
  have hmod : (r : Int) % (lr : Int) = (i : Int) := by rw [hi]; rfl
  have hmod2 : Int.tmod (r : Int) (lr : Int) = (i : Int) := by rw [hi]; rfl
  clear hi ha0 ha1
  go_upto_region 7 with ((with_reducible show wpList _ _ _ (⟨some 39, _, _, _, _, _⟩ :: _) _ _); refine wp_app tyB (Own.empty w1 5) (g1.alloc _).sl (bv_one _) rfl (.tmp 37) (.tmp 38) rfl rfl rfl hn1.out ?_; intro v2 w2 k1 k2 k3; obtain ⟨A2, c2, hv2⟩ := k1.shape; subst hv2)
  have hfr0 : Fresh w1.heap.size (.slice (some ⟨w1.heap.size, 0, none⟩) 0 0) := (fun k hk => by have : w1.heap.size = k := Option.some.inj hk; omega)
  have hx2 : Ext w w2 := ext_trans hx1 (ext_app (Mod.refl _ w1) hfr0 k2)
  have hf2 := k3.fresh hfr0 (Nat.le_of_lt (by simp : w1.heap.size < (w1.alloc (.cells #[] 5)).heap.size))
  simp only [List.nil_append, List.length_map, ← hlr.out] at k1 hf2
  rw [← hlr.out]
  have hs1 := hx1.size
  clear k2 k3 hfr0 g1
  obtain ⟨g, rfl⟩ : ∃ g, A2 = some ⟨g, 0, none⟩ := by
    rcases k1.form with ⟨h, _⟩ | ⟨g, cap, h, _⟩
    · injection h with h1 h2; omega
    · injection h with h; exact ⟨g, h⟩
  have hgf : w1.heap.size ≤ g := hf2 g rfl
  have hil2 : i < fr.length := by rw [← hlr.out]; exact hil
  have hc9 : w2.cell? ⟨g, i, none⟩ = some (.int .u8 (fr[i].toNat : Int)) := by
    have := k1.cellAt (j := i) (by simpa using hil2)
    simpa using this
  have hz9 := k1.frozenAt i
  have hcb := c.toNat_lt
  have hlb2 := fr[i].toNat_lt
  obtain ⟨x, hx⟩ : ∃ x, x = fr[i] ^^^ c := ⟨_, rfl⟩
  have hxo : bits .xor .u8 (fr[i].toNat : Int) (c.toNat : Int) = (x.toNat : Int) := by
    rw [hx, UInt8.toNat_xor]; exact u8_xor_nat _ _ (by omega) (by omega)
  have hne : x ≠ fr[i] := by
    intro h
    rw [hx] at h
    have h2 := congrArg (fr[i] ^^^ ·) h
    simp only [← UInt8.xor_assoc, UInt8.xor_self, UInt8.zero_xor] at h2
    exact hc0 h2
  clear hx
  have hfl := hflip.out i x hil2 (by rw [List.getElem?_eq_getElem hil2]; exact fun h => hne (Option.some.inj h).symm) (by omega)
  have hown10 := k1.store (j := i) (bv x)
  rw [show (fr.map bv).set i (bv x) = (fr.set i x).map bv from (List.map_set ..).symm] at hown10
  have hx10 : Ext w (w2.setCell ⟨g, i, none⟩ (bv x)) := Mod.setCell hx2 (p := ⟨g, i, none⟩) (fun h => by have : g < w.heap.size := h; omega) _
  have hlen2 : (fr.set i x).length = lr := by rw [List.length_set, ← hlr.out]
  replace hlen2 := Lib.hid hlen2
  replace hfl := Lib.hid hfl
  generalize fr.set i x = fr2 at *
  clear hmod2 hne
  have hz10 := hz0.ext hx10
  have hn2 : ((fr2.map bv).length + (more.map bv).length) * 1 ≤ 140737488355328 := by rw [List.length_map, List.length_map, hlen2.out]; omega
  replace hn2 := Lib.hid hn2
  go_wp2_with ((with_reducible show wpList _ _ _ (⟨some 54, _, _, _, _, _⟩ :: _) _ _); refine wp_app tyB hown10 hz10 (bv_one _) rfl (.tmp 52) (.tmp 53) rfl rfl rfl hn2.out ?_; intro v4 w4 q1 q2 q3)
  rw [← List.map_append] at q1
  have hx4 : Ext w w4 := hx10.trans q2 (fun _ _ h => h) (fun k hk h => by have : g = k := Option.some.inj h; omega)
  have hde := dec_err hfl.out
  obtain ⟨er, her⟩ : ∃ er, er = (dec (fr2 ++ more)).2.2 := ⟨_, rfl⟩
  have her0 : er ≠ 0 := by rw [her]; exact hfl.out
  rw [← her] at hde
  replace hde := Lib.hid hde
  clear q2 q3 hx10 hz10 hown10
  refine (decode_any q1.sl (hN.mod hx4 (fun h => h)) (by rw [List.length_append, hlen2.out]; omega)).mono ?_
  rintro e w5 ⟨v5, rfl, m1, m2, m3⟩
  rw [hde.out] at m1 ⊢
  have hx5 := ext_trans hx4 m3
  simp only [List.map_nil] at m1 ⊢
  obtain ⟨A5, c5, rfl⟩ := m1.shape
  have hb5 : ((er : Int) != 0) = true := by rw [bne_iff_ne]; omega
  clear m1 m2 m3 q1 hx4 her
  go_wp2_with fail
  refine (known2_any (hN.mod hx5 (fun h => h))).mono ?_
  rintro e w6 ⟨rfl, hx6⟩
  go_wp2_with fail
  go_ret
  exact ⟨rfl, ext_trans hx5 hx6⟩
end Go.Proofs.YtckgnnopoekniaaDoor
