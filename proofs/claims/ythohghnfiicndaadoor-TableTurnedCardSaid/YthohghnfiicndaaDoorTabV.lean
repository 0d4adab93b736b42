/- table: a byte that is another one. -/
import Derived.Test.YthohghnfiicndaaDoorTabT
namespace Go.Proofs.YthohghnfiicndaaDoor
open Go.RowKit Go.Maps Go.WideMaps
set_option maxRecDepth 100000

theorem i64_and30 (a : Int) : bits .and .i64 a 1073741823 = a % 1073741824 := by
  show IntKind.i64.wrap (((BitVec.ofInt 64 a &&& BitVec.ofInt 64 1073741823).toNat : Nat) : Int) = _
  rw [BitVec.toNat_and, show (BitVec.ofInt 64 1073741823).toNat = 2 ^ 30 - 1 by decide, Nat.and_two_pow_sub_one_eq_mod, BitVec.toNat_ofInt]
  have : 0 ≤ a % 18446744073709551616 := Int.emod_nonneg _ (by omega)
  have h2 : ((a % ((2 ^ 64 : Nat) : Int)).toNat : Int) = a % 18446744073709551616 := by
    rw [Int.toNat_of_nonneg (by exact this)]; rfl
  have h3 : (((a % ((2 ^ 64 : Nat) : Int)).toNat % 2 ^ 30 : Nat) : Int) = a % 1073741824 := by
    rw [Int.natCast_emod, h2]; omega
  rw [h3, IntKind.wrap_i64]
  omega
theorem flip_none {L : List Ce} (hb : buildN L = 0) (hw : wC L ≤ 300000) {i : Nat} {x : UInt8} (hi : i < (buildB L).length) (hx : (buildB L)[i]? ≠ some x) : openL ((buildB L).set i x) = none ∧ openN ((buildB L).set i x) ≠ 0 := by
  obtain ⟨e1, e2, e3, e4⟩ := open_build hb hw
  rw [e3] at hi hx ⊢
  have h := dec_flip (bodyB L) [] i x hi hx e4
  rw [List.append_nil] at h
  have h1 : (oneR ((frec (bodyB L)).set i x)).2 ≠ 0 := by
    unfold oneR
    rw [if_pos h]
    exact h
  constructor
  · unfold openL
    rw [if_pos h1]
  · unfold openN
    rw [if_pos h1]
    exact h1

set_option maxHeartbeats 16000000 in
theorem turned8_any {w : World} {S : Nat → Prop} {v : Value} {L : List Ce} (h : Cs w S v L) (hf : LFits L) (a : Int) (c : UInt8) (hN : Nib w) :
    Calls Tryd.prog 6 #[v, .int .i64 a, .int .u8 c.toNat] w fun e w' => e = .returned (.bool true) ∧ Ext w w' := by
  have hc1 := heavy8_any h hf
  have hcs := fun {wx : World} (x : Ext w wx) => Rc.ext h x
  obtain ⟨A, cp, rfl, -, -, -, -⟩ := h.open_ cel_len
  go_enter Tryd.func6, Tryd.ntmps6
  go_wp2_with fail
  refine hc1.mono ?_
  rintro e w1 ⟨q, rfl, hq, x1⟩
  clear hc1 h
  cases q with
  | true =>
    go_wp2_with fail
    go_ret
    exact ⟨rfl, x1⟩
  | false =>
  obtain ⟨hw, hl⟩ := hq rfl
  have hc2 := rise_any (hcs x1) (by omega)
  clear hq
  go_wp2_with fail
  refine hc2.mono ?_
  rintro e w2 ⟨rfl, x2⟩
  have y2 := ext_trans x1 x2
  clear hc2 x1 x2
  by_cases hr : riseN L = 0
  case neg =>
    have hb : ((riseN L : Int) != 0) = true := by rw [bne_iff_ne]; omega
    generalize riseN L = n at *
    go_wp2_with fail
    go_ret
    exact ⟨rfl, y2⟩
  have hb : ((riseN L : Int) != 0) = false := by rw [bne_eq_false_iff_eq]; omega
  by_cases h0 : L = []
  · have hb0 : ((L.length : Int) == 0) = true := by rw [h0]; rfl
    generalize riseN L = n at *
    go_wp2_with fail
    go_ret
    exact ⟨rfl, y2⟩
  have hpos : 0 < L.length := List.length_pos_iff.2 h0
  have hb0 : ((L.length : Int) == 0) = false := by rw [beq_eq_false_iff_ne]; omega
  by_cases hc0 : c = 0
  · subst hc0
    have hcz : ((UInt8.toNat 0 : Int) == 0) = true := rfl
    generalize riseN L = n at *
    go_wp2_with fail
    go_ret
    exact ⟨rfl, y2⟩
  have hcz : ((c.toNat : Int) == 0) = false := by
    rw [beq_eq_false_iff_ne]; intro h; exact hc0 (UInt8.toNat_inj.1 (by simpa using h))
  have hB := build_of hr h0 (by omega)
  have hc3 := build_any (hcs y2) (by omega) (hN.mod y2 (fun h => h))
  rw [hB] at hc3
  have hbl := build_len hB (by omega) hl
  have hflip := fun i x => @flip_none L hB (by omega) i x
  have hbp : 12 ≤ (buildB L).length := by
    have e : buildB L = frec (bodyB L) := if_pos hB
    rw [e, frec_len]; omega
  generalize riseN L = n at *
  generalize buildB L = fr at *
  replace hflip := Lib.hid hflip
  clear hr h0 hB
  go_wp2_with fail
  refine hc3.mono ?_
  rintro e w3 ⟨v3, rfl, o3, f3, x3⟩
  have y3 := ext_trans y2 x3
  have hs3 := y2.size
  clear hc3 x3
  obtain ⟨A3, c3, rfl⟩ := o3.shape
  rw [List.length_map] at o3 f3 ⊢
  obtain ⟨lr, hlr⟩ : ∃ lr, lr = fr.length := ⟨_, rfl⟩
  rw [← hlr] at hbl hbp o3 f3 ⊢
  replace hlr := Lib.hid hlr
  have hb3 : ((lr : Int) == 0) = false := by rw [beq_eq_false_iff_ne]; omega
  have hand := i64_and30 a
  have ha0 : 0 ≤ a % 1073741824 := Int.emod_nonneg _ (by omega)
  have ha1 : a % 1073741824 < 1073741824 := Int.emod_lt_of_pos _ (by omega)
  obtain ⟨r, hr⟩ : ∃ r : Nat, a % 1073741824 = (r : Int) := Int.eq_ofNat_of_zero_le ha0
  rw [hr] at hand ha0 ha1
  clear hr
  obtain ⟨i, hi⟩ : ∃ i, i = r % lr := ⟨_, rfl⟩
  have hil : i < lr := by rw [hi]; exact Nat.mod_lt _ (by omega)
  have hmod : (r : Int) % (lr : Int) = (i : Int) := by rw [hi]; rfl
  clear hi ha0 ha1
  obtain ⟨g, rfl⟩ : ∃ g, A3 = some ⟨g, 0, none⟩ := by
    rcases o3.form with ⟨h, _⟩ | ⟨g, cap, h, _⟩
    · injection h with h1 h2; omega
    · injection h with h; exact ⟨g, h⟩
  have hgf : w2.heap.size ≤ g := f3 g rfl
  have hil2 : i < fr.length := by rw [← hlr.out]; exact hil
  have hc9 : w3.cell? ⟨g, i, none⟩ = some (.int .u8 (fr[i].toNat : Int)) := by
    have := o3.cellAt (j := i) (by simpa using hil2)
    simpa using this
  have hz9 := o3.frozenAt i
  have hcb := c.toNat_lt
  have hlb2 := fr[i].toNat_lt
  obtain ⟨x, hx⟩ : ∃ x, x = fr[i] ^^^ c := ⟨_, rfl⟩
  have hxo : bits .xor .u8 (fr[i].toNat : Int) (c.toNat : Int) = (x.toNat : Int) := by
    rw [hx, UInt8.toNat_xor]; exact u8_xor_nat _ _ (by omega) (by omega)
  have hne : x ≠ fr[i] := by
    intro h
    rw [hx] at h
    have h2 := congrArg (fr[i] ^^^ ·) h
    simp only [← UInt8.xor_assoc, UInt8.xor_self, UInt8.zero_xor] at h2
    exact hc0 h2
  clear hx
  obtain ⟨hfl1, hfl2⟩ := hflip.out i x hil2 (by rw [List.getElem?_eq_getElem hil2]; exact fun h => hne (Option.some.inj h).symm)
  have o4 := o3.store (j := i) (bv x)
  rw [show (fr.map bv).set i (bv x) = (fr.set i x).map bv from (List.map_set ..).symm] at o4
  have y4 : Ext w (w3.setCell ⟨g, i, none⟩ (bv x)) := Mod.setCell y3 (p := ⟨g, i, none⟩) (fun h => by have : g < w.heap.size := h; omega) _
  have hlen2 : (fr.set i x).length = lr := by rw [List.length_set, ← hlr.out]
  have hc4 := open_any o4.sl (hN.mod y4 (fun h => h)) (by rw [hlen2]; omega)
  rw [hfl1] at hc4
  generalize openN (fr.set i x) = er at *
  have hb5 : ((er : Int) != 0) = true := by rw [bne_iff_ne]; omega
  clear hflip hne o4 hlen2 hfl1 hfl2
  have hi0 : (0 : Int) ≤ (i : Int) := by omega
  have hi1 : (i : Int) < (lr : Int) := by omega
  have hlr0 : ¬ (lr : Int) = 0 := by omega
  go_wp2_with fail
  refine hc4.mono ?_
  rintro e w5 ⟨u, rfl, rfl, x5⟩
  have y5 := ext_trans y4 x5
  go_wp2_with fail
  refine (known8_any (hN.mod y5 (fun h => h))).mono ?_
  rintro e w6 ⟨rfl, x6⟩
  go_wp2_with fail
  go_ret
  exact ⟨rfl, ext_trans y5 x6⟩
end Go.Proofs.YthohghnfiicndaaDoor
