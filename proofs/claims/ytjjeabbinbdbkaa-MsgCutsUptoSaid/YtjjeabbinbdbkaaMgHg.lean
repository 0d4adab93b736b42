/- msg: the law Cuts. -/
import Derived.Test.YtjjeabbinbdbkaaMgHf
import Derived.Test.YtjjeabbinbdbkaaMgFr
import Derived.Test.YtjjeabbinbdbkaaBerQm
namespace Go.Proofs.Ytjjeabbinbdbkaa
open Go.RowKit
set_option maxRecDepth 100000

set_option maxHeartbeats 32000000 in
theorem lcuts_any {n : Nat} {w : World} {a : Rq} {A0 A1 A2 A3 A4 : Option Addr} {A0n A0c A1n A1c A2n A2c A3n A3c A4n A4c : Nat} {S : Nat → Prop} {vr : Value} {rest : List UInt8} (h : RqAt n w a (.slice A0 A0n A0c) (.slice A1 A1n A1c) (.slice A2 A2n A2c) (.slice A3 A3n A3c) (.slice A4 A4n A4c)) (na : NFit a) (ba : BFit a) (hr : Bs w S vr rest) (cut : Int) :
    Calls Try.prog 5 #[.agg #[.int .i64 a.num, .int .i64 a.kind, sv a.dn, sv a.pass, .int .i64 a.scope, .int .i64 a.limit, .int .i64 a.fil.kind, sv a.fil.typ, sv a.fil.val, .slice A0 A0n A0c, .slice A1 A1n A1c, .slice A2 A2n A2c, .slice A3 A3n A3c, .slice A4 A4n A4c, sv a.rdn, .bool a.keep, .bool a.above, sv a.up, sv a.avt, sv a.avv, .int .i64 a.which], .int .i64 cut, vr] w fun e w' => e = .returned (.bool true) ∧ Ext w w' := by
  obtain ⟨Ar, cr, rfl, -, -, -, -⟩ := id hr.open_
  obtain ⟨w2, hw2⟩ : ∃ x, x = w.alloc (.cells #[.int .i64 a.num, .int .i64 a.kind, sv a.dn, sv a.pass, .int .i64 a.scope, .int .i64 a.limit, .int .i64 a.fil.kind, sv a.fil.typ, sv a.fil.val, .slice A0 A0n A0c, .slice A1 A1n A1c, .slice A2 A2n A2c, .slice A3 A3n A3c, .slice A4 A4n A4c, sv a.rdn, .bool a.keep, .bool a.above, sv a.up, sv a.avt, sv a.avv, .int .i64 a.which] 31) := ⟨_, rfl⟩
  obtain ⟨p, hp⟩ : ∃ p, p = w.heap.size := ⟨_, rfl⟩
  have x2 : Ext w w2 := by rw [hw2]; exact (Mod.refl _ w).alloc _
  have x2a : Blk w2 p 31 #[.int .i64 a.num, .int .i64 a.kind, sv a.dn, sv a.pass, .int .i64 a.scope, .int .i64 a.limit, .int .i64 a.fil.kind, sv a.fil.typ, sv a.fil.val, .slice A0 A0n A0c, .slice A1 A1n A1c, .slice A2 A2n A2c, .slice A3 A3n A3c, .slice A4 A4n A4c, sv a.rdn, .bool a.keep, .bool a.above, sv a.up, sv a.avt, sv a.avv, .int .i64 a.which] := by rw [hw2, hp]; exact Blk.new w _ _
  have hA := Lib.hid (heavy25_any (h.ext x2) ba)
  obtain ⟨Ha, hHa⟩ : ∃ H, H = heavyQ n a := ⟨_, rfl⟩
  rw [← hHa] at hA
  replace hHa := Lib.hid hHa
  obtain ⟨lr, hlr⟩ : ∃ l, l = rest.length := ⟨_, rfl⟩
  rw [← hlr] at hr ⊢
  replace hlr := Lib.hid hlr
  replace hw2 := Lib.hid hw2
  replace hp := Lib.hid hp
  cases Ha
  rotate_left
  · clear hHa h ba na hr
    go_enter Try.func5, Try.ntmps5
    go_upto_region 1 with fail
    rw [← hw2.out, ← hp.out]
    clear hw2 hp
    go_wp2_with ((with_reducible show wpList _ _ _ (⟨some 13, _, _, _, _, _⟩ :: _) _ _); refine wpList_load_row rfl 31 (.tmp 3) rfl _ rfl _ _ _ _ x2a Try.underlying31 rfl size21 ?_)
    refine hA.out.mono ?_
    rintro e w3 ⟨rfl, x3⟩
    go_wp2_with fail
    go_ret
    exact ⟨rfl, ext_trans x2 x3⟩
  have hh : heavyQ n a = false := hHa.out.symm
  have hf := rfit_of hh na
  go_enter Try.func5, Try.ntmps5
  go_upto_region 1 with fail
  rw [← hw2.out, ← hp.out]
  clear hw2 hp
  go_wp2_with ((with_reducible show wpList _ _ _ (⟨some 13, _, _, _, _, _⟩ :: _) _ _); refine wpList_load_row rfl 31 (.tmp 3) rfl _ rfl _ _ _ _ x2a Try.underlying31 rfl size21 ?_)
  refine hA.out.mono ?_
  rintro e w3 ⟨rfl, x3⟩
  have z3 := ext_trans x2 x3
  have hRI := rIs25_any (h.ext z3) hf na.num.1 na.num.2 (hnod_of hh) (is_hk hh)
  rw [may_same] at hRI
  have hE := fun {wx : World} (x : Ext w wx) => Encode25_any (h.ext x) hf na.num.1 na.num.2 (enc_hk hh)
  have hlen : mayQ n a = true → (reqB n a).length ≤ 65536 := fun e => by
    unfold mayQ at e
    simp only [Bool.and_eq_true, decide_eq_true_eq] at e
    exact e.2.2.2.2
  obtain ⟨M, hM⟩ : ∃ M, M = mayQ n a := ⟨_, rfl⟩
  rw [← hM] at hRI hlen
  simp only [← hM] at hE
  obtain ⟨Z, hZ⟩ : ∃ Z, Z = reqB n a := ⟨_, rfl⟩
  rw [← hZ] at hlen
  simp only [← hZ] at hE
  replace hRI := Lib.hid hRI
  replace hZ := Lib.hid (show Z = tlv 48 (nuB 2 a.num ++ tlv (opT a.kind) (bodyB n a)) from hZ)
  have hrg := rowAt (l := [.int .i64 a.num, .int .i64 a.kind, sv a.dn, sv a.pass, .int .i64 a.scope, .int .i64 a.limit, .int .i64 a.fil.kind, sv a.fil.typ, sv a.fil.val, .slice A0 A0n A0c, .slice A1 A1n A1c, .slice A2 A2n A2c, .slice A3 A3n A3c, .slice A4 A4n A4c, sv a.rdn, .bool a.keep, .bool a.above, sv a.up, sv a.avt, sv a.avv, .int .i64 a.which]) (x2a.mod x3 (fun h => h))
  clear hA hM hHa hh ba na hf
  go_wp2_with ((with_reducible show wpList _ _ _ (⟨some 16, _, _, _, _, _⟩ :: _) _ _); refine wpList_load_mid_on (by rfl) 31 (.tmp 3) rfl p 0 rfl [.int .i64 a.num, .int .i64 a.kind, sv a.dn, sv a.pass, .int .i64 a.scope, .int .i64 a.limit, .int .i64 a.fil.kind, sv a.fil.typ, sv a.fil.val, .slice A0 A0n A0c, .slice A1 A1n A1c, .slice A2 A2n A2c, .slice A3 A3n A3c, .slice A4 A4n A4c, sv a.rdn, .bool a.keep, .bool a.above, sv a.up, sv a.avt, sv a.avv, .int .i64 a.which] _ hrg Try.underlying31 rfl (by kernel_rfl) ?_)
  refine hRI.out.mono ?_
  rintro e w4 ⟨rfl, x4⟩
  have z4 := ext_trans z3 x4
  have y4 := ext_trans x3 x4
  clear hRI hrg
  cases M
  · clear hE hlen hZ h hr x2a
    go_wp2_with fail
    go_ret
    exact ⟨rfl, z4⟩
  by_cases hbig : 500 < lr
  · have b1 : decide ((lr : Int) > 500) = true := dtrue (by omega)
    have b2 : decide ((500 : Int) < (lr : Int)) = true := dtrue (by omega)
    have b3 : decide (500 < lr) = true := dtrue hbig
    clear hE hlen hZ h hr x2a hbig
    go_wp2_with fail
    go_ret
    exact ⟨rfl, z4⟩
  have b1 : decide ((lr : Int) > 500) = false := dfalse (by omega)
  have b2 : decide ((500 : Int) < (lr : Int)) = false := dfalse (by omega)
  have b3 : decide (500 < lr) = false := dfalse hbig
  have hlz := hlen (by first | rfl | trivial)
  have hE4 : Hid (Calls Try.prog 7 #[.agg #[.int .i64 a.num, .int .i64 a.kind, sv a.dn, sv a.pass, .int .i64 a.scope, .int .i64 a.limit, .int .i64 a.fil.kind, sv a.fil.typ, sv a.fil.val, .slice A0 A0n A0c, .slice A1 A1n A1c, .slice A2 A2n A2c, .slice A3 A3n A3c, .slice A4 A4n A4c, sv a.rdn, .bool a.keep, .bool a.above, sv a.up, sv a.avt, sv a.avv, .int .i64 a.which]] w4 fun e w' => ∃ v', e = .returned (.tuple #[v', .int .i64 0]) ∧ Own w' 5 v' (Z.map bv) ∧ Ext w4 w') := Lib.hid (hE z4)
  have BA4 := x2a.mod y4 (fun h => h)
  clear hE hlen h x2a
  go_wp2_with ((with_reducible show wpList _ _ _ (⟨some 26, _, _, _, _, _⟩ :: _) _ _); refine wpList_load_row rfl 31 (.tmp 3) rfl _ rfl _ _ _ _ BA4 Try.underlying31 rfl size21 ?_)
  refine hE4.out.mono ?_
  rintro e w5 ⟨v5, rfl, o5, x5⟩
  have z5 := ext_trans z4 x5
  clear hE4 BA4 b1 b2 b3
  obtain ⟨C1, d1, e1⟩ := o5.shape
  rw [List.length_map] at e1
  subst e1
  have hzp : 2 ≤ Z.length := by
    rw [hZ.out]
    have := (lay_len (nuB 2 a.num ++ tlv (opT a.kind) (bodyB n a)).length).1
    show 2 ≤ (48 :: lay _ ++ _).length
    rw [List.length_append, List.length_cons]
    omega
  have hcutf : ∀ j, j < Z.length → mframe (Z.take j) = (0, 0) := fun j hj => by rw [hZ.out]; exact mframe_cut (by rw [← hZ.out]; exact hlz) (by rw [← hZ.out]; exact hj)
  have hwhole : mframe (Z ++ rest) = (Z.length, 0) := by
    have := mframe_whole (X := nuB 2 a.num ++ tlv (opT a.kind) (bodyB n a)) (rest := rest) (by rw [← hZ.out]; exact hlz)
    rw [← hZ.out] at this
    exact this
  clear hZ
  obtain ⟨lz, hlzz⟩ : ∃ l, l = Z.length := ⟨_, rfl⟩
  rw [← hlzz] at hlz hzp hwhole o5 ⊢
  simp only [← hlzz] at hcutf
  replace hlzz := Lib.hid hlzz
  have hand := i64_and16 cut
  have ha0 : 0 ≤ cut % 65536 := Int.emod_nonneg _ (by omega)
  have ha1 : cut % 65536 < 65536 := Int.emod_lt_of_pos _ (by omega)
  obtain ⟨r, hrr⟩ : ∃ r : Nat, cut % 65536 = (r : Int) := Int.eq_ofNat_of_zero_le ha0
  rw [hrr] at hand ha0 ha1
  clear hrr
  obtain ⟨i, hi⟩ : ∃ i, i = r % lz := ⟨_, rfl⟩
  have hil : i < lz := by rw [hi]; exact Nat.mod_lt _ (by omega)
  have hmod2 : Int.tmod (r : Int) (lz : Int) = (i : Int) := by rw [hi]; rfl
  have hmod : (r : Int) % (lz : Int) = (i : Int) := by rw [hi]; rfl
  have hb0 : ((lz : Int) == 0) = false := by rw [beq_eq_false_iff_ne]; omega
  have hb1 : (lz == 0) = false := by rw [beq_eq_false_iff_ne]; omega
  have hi0 : (0 : Int) ≤ (i : Int) := by omega
  have hi1 : (i : Int) ≤ (lz : Int) := by omega
  have hsub : Bs w5 (own (.slice C1 i d1)) (.slice C1 i d1) (Z.take i) := by
    have := Own.begin (m := i) o5 (by rw [List.length_map, ← hlzz.out]; omega)
    rw [← List.map_take] at this
    exact this.sl
  have hlen2 : (Z.take i).length ≤ 70000 := by rw [List.length_take, ← hlzz.out]; omega
  have hfr1 : Hid (Calls Try.prog 21 #[.slice C1 i d1] w5 fun e w' => e = .returned (.tuple #[.int .i64 0, .int .i64 0]) ∧ w' = w5) := Lib.hid (by
    have h := frameL_any hsub hlen2
    rw [hcutf i hil] at h
    exact h)
  have hcap : lz ≤ d1 := by
    have := own_cap o5
    rw [List.length_map, ← hlzz.out] at this
    exact this
  have hic : (i : Int) ≤ (d1 : Int) := by omega
  clear hi hcutf ha0 ha1 hlen2
  go_wp2_with fail
  refine hfr1.out.mono ?_
  rintro e w6 ⟨rfl, hw6⟩
  subst hw6
  clear hfr1 hand hmod hmod2 hsub
  obtain ⟨g5, hg5⟩ : ∃ g, g = w6.heap.size := ⟨_, rfl⟩
  have own0 : Own (w6.alloc (.cells #[] 5)) 5 (.slice (some ⟨w6.heap.size, 0, none⟩) 0 0) [] := Own.lit w6 5 [] (by simp [maxLen])
  have al : Ext w6 (w6.alloc (.cells #[] 5)) := (Mod.refl (fun _ => False) w6).alloc _
  have fr0 : Fresh w6.heap.size (.slice (some ⟨w6.heap.size, 0, none⟩) 0 0) := fun k hk => Nat.le_of_eq (Option.some.inj hk)
  have o5a := o5.mod al (fun _ _ h => h)
  have hln := Lib.hid (show (([] : List Value).length + (Z.map bv).length) * 1 ≤ 140737488355328 by rw [List.length_map, ← hlzz.out]; simp; omega)
  have hln2 := Lib.hid (show (([] ++ Z.map bv).length + (rest.map bv).length) * 1 ≤ 140737488355328 by rw [List.nil_append, List.length_map, List.length_map, ← hlzz.out, ← hlr.out]; omega)
  clear hg5
  go_wp2_with (first
    | ((with_reducible show wpList _ _ _ (⟨some 51, _, _, _, _, _⟩ :: _) _ _); refine wp_app tyB own0 o5a.sl (bv_one _) rfl (.tmp 49) (.tmp 50) rfl rfl rfl hln.out ?_; intro v7 w7 q1 q2 q3; have xa : Ext w6 w7 := al.trans q2 (fun _ _ h => h) (fun b hb h => by have := fr0 b h; omega); have hr7 : Bs w7 S (.slice Ar lr cr) rest := Sl.mod hr (ext_trans z5 xa) (fun _ _ _ h => h); have fr7 : Fresh w6.heap.size v7 := q3.fresh fr0 al.size; clear own0 o5a fr0 q2 q3 al hln)
    | ((with_reducible show wpList _ _ _ (⟨some 53, _, _, _, _, _⟩ :: _) _ _); refine wp_app tyB q1 hr7 (bv_one _) rfl (.tmp 51) (.tmp 52) rfl rfl rfl hln2.out ?_; intro v8 w8 s1 s2 s3; have xb : Ext w6 w8 := xa.trans s2 (fun _ _ h => h) (fun b hb h => by have := fr7 b h; omega); clear s3))
  rw [List.nil_append, ← List.map_append] at s1
  have hfr2 := Lib.hid (frameL_any s1.sl (by rw [List.length_append, ← hlzz.out, ← hlr.out]; omega))
  rw [hwhole] at hfr2
  clear q1 hr7 fr7 s2 xa hr hwhole o5
  refine hfr2.out.mono ?_
  rintro e w9 ⟨rfl, hw9⟩
  subst hw9
  clear hfr2 s1
  go_wp2_with fail
  refine known25_any.mono ?_
  rintro e w10 ⟨rfl, x10⟩
  go_wp2_with fail
  go_ret
  exact ⟨rfl, ext_trans z5 (ext_trans xb x10)⟩
end Go.Proofs.Ytjjeabbinbdbkaa
