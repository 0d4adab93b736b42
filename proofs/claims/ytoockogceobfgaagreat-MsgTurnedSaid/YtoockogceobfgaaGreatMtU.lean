/- msg: the law Turned. -/
import Derived.Test.YtoockogceobfgaaGreatMgHe
import Derived.Test.YtoockogceobfgaaGreatMgKn
import Derived.Test.YtoockogceobfgaaGreatMgFr
import Derived.Test.YtoockogceobfgaaGreatMdTm
namespace Go.Proofs.YtoockogceobfgaaGreat
open Go.RowKit
set_option maxRecDepth 100000

theorem rowAt {w : World} {g : Nat} {t : TypeId} {l : List Value} (h : Blk w g t l.toArray) : w.rangeAt g 0 l := fun j v hj => by rw [Nat.zero_add, h.cell]; simpa using hj
theorem hd_lay {n : Nat} (h : n < 16777216) : Hd (lay n) n := lay_hd h
theorem bnext_tlv {t : UInt8} {X rest : List UInt8} (ht : ¬ t &&& 31 = 31) (h : X.length ≤ 65536) : bnext (tlv t X ++ rest) = (t, X, rest, 0) := bnext_hd ht (hd_lay (by omega)) h
theorem bnext_tlv_cut {t : UInt8} {X : List UInt8} (ht : ¬ t &&& 31 = 31) (h : X.length ≤ 65536) {j : Nat} (hj : j < (tlv t X).length) : (bnext ((tlv t X).take j)).2.2.2 = 2 := by
  rw [bnext_err (blook_cut ht (hd_lay (by omega)) h hj) (by decide)]
set_option maxHeartbeats 32000000 in
theorem lturned_any {n : Nat} {w : World} {a : Rq} {A0 A1 A2 A3 A4 : Option Addr} {A0n A0c A1n A1c A2n A2c A3n A3c A4n A4c : Nat} {S : Nat → Prop} {vr : Value} {rest : List UInt8} (h : RqAt n w a (.slice A0 A0n A0c) (.slice A1 A1n A1c) (.slice A2 A2n A2c) (.slice A3 A3n A3c) (.slice A4 A4n A4c)) (na : NFit a) (ba : LFit a) (hr : Bs w S vr rest) :
    Calls Tryz.prog 6 #[.agg #[.int .i64 a.num, .int .i64 a.kind, sv a.dn, sv a.pass, .int .i64 a.scope, .int .i64 a.limit, .int .i64 a.fil.kind, sv a.fil.typ, sv a.fil.val, .slice A0 A0n A0c, .slice A1 A1n A1c, .slice A2 A2n A2c, .slice A3 A3n A3c, .slice A4 A4n A4c, sv a.rdn, .bool a.keep, .bool a.above, sv a.up, sv a.avt, sv a.avv, .int .i64 a.which], vr] w fun e w' => e = .returned (.bool true) ∧ Ext w w' := by
  obtain ⟨Ar, cr, rfl, -, -, -, -⟩ := id hr.open_
  obtain ⟨w2, hw2⟩ : ∃ x, x = w.alloc (.cells #[.int .i64 a.num, .int .i64 a.kind, sv a.dn, sv a.pass, .int .i64 a.scope, .int .i64 a.limit, .int .i64 a.fil.kind, sv a.fil.typ, sv a.fil.val, .slice A0 A0n A0c, .slice A1 A1n A1c, .slice A2 A2n A2c, .slice A3 A3n A3c, .slice A4 A4n A4c, sv a.rdn, .bool a.keep, .bool a.above, sv a.up, sv a.avt, sv a.avv, .int .i64 a.which] 32) := ⟨_, rfl⟩
  obtain ⟨p, hp⟩ : ∃ p, p = w.heap.size := ⟨_, rfl⟩
  have x2 : Ext w w2 := by rw [hw2]; exact (Mod.refl _ w).alloc _
  have x2a : Blk w2 p 32 #[.int .i64 a.num, .int .i64 a.kind, sv a.dn, sv a.pass, .int .i64 a.scope, .int .i64 a.limit, .int .i64 a.fil.kind, sv a.fil.typ, sv a.fil.val, .slice A0 A0n A0c, .slice A1 A1n A1c, .slice A2 A2n A2c, .slice A3 A3n A3c, .slice A4 A4n A4c, sv a.rdn, .bool a.keep, .bool a.above, sv a.up, sv a.avt, sv a.avv, .int .i64 a.which] := by rw [hw2, hp]; exact Blk.new w _ _
  have hA := Lib.hid (heavy25_any (h.ext x2) ba)
  obtain ⟨lr, hlr⟩ : ∃ l, l = rest.length := ⟨_, rfl⟩
  rw [← hlr] at hr ⊢
  replace hlr := Lib.hid hlr
  replace hw2 := Lib.hid hw2
  replace hp := Lib.hid hp
  go_enter Tryz.func6, Tryz.ntmps6
  go_upto_region 1 with fail
  rw [← hw2.out, ← hp.out]
  clear hw2 hp
  go_wp2_with ((with_reducible show wpList _ _ _ (⟨some 11, _, _, _, _, _⟩ :: _) _ _); refine wpList_load_row rfl 32 (.tmp 2) rfl _ rfl _ _ _ _ x2a Tryz.underlying32 rfl size21 ?_)
  refine hA.out.mono ?_
  rintro e w3 ⟨Hv, rfl, hH1, hH2, x3⟩
  have z3 := ext_trans x2 x3
  clear hA
  cases Hv
  rotate_left
  · clear hH1 hH2 h ba na hr x2a
    go_wp2_with fail
    go_ret
    exact ⟨rfl, z3⟩
  have hg : listsQ a = true → heavyQ n a = false := fun g => (hH1 g).symm
  have hRI := rIs25_any (h.ext z3) na.md na.num.1 na.num.2 (hnod_of (hH2 rfl)) (is_hk hg na)
  rw [may_same] at hRI
  have hE := fun {wx : World} (x : Ext w wx) => Encode25_any (h.ext x) na.num.1 na.num.2 (enc_hk hg na)
  have hlen : mayQ n a = true → (reqB n a).length ≤ 65536 := fun e => by
    unfold mayQ at e
    simp only [Bool.and_eq_true, decide_eq_true_eq] at e
    exact e.2.2.2.2
  obtain ⟨M, hM⟩ : ∃ M, M = mayQ n a := ⟨_, rfl⟩
  rw [← hM] at hRI hlen
  simp only [← hM] at hE
  obtain ⟨Z, hZ⟩ : ∃ Z, Z = reqB n a := ⟨_, rfl⟩
  rw [← hZ] at hlen
  simp only [← hZ] at hE
  replace hRI := Lib.hid hRI
  replace hZ := Lib.hid (show Z = tlv 48 (nuB 2 a.num ++ tlv (opT a.kind) (bodyB n a)) from hZ)
  have hrg := rowAt (l := [.int .i64 a.num, .int .i64 a.kind, sv a.dn, sv a.pass, .int .i64 a.scope, .int .i64 a.limit, .int .i64 a.fil.kind, sv a.fil.typ, sv a.fil.val, .slice A0 A0n A0c, .slice A1 A1n A1c, .slice A2 A2n A2c, .slice A3 A3n A3c, .slice A4 A4n A4c, sv a.rdn, .bool a.keep, .bool a.above, sv a.up, sv a.avt, sv a.avv, .int .i64 a.which]) (x2a.mod x3 (fun h => h))
  clear hM hH1 hH2 hg ba na
  go_wp2_with ((with_reducible show wpList _ _ _ (⟨some 14, _, _, _, _, _⟩ :: _) _ _); refine wpList_load_mid_on (by rfl) 32 (.tmp 2) rfl p 0 rfl [.int .i64 a.num, .int .i64 a.kind, sv a.dn, sv a.pass, .int .i64 a.scope, .int .i64 a.limit, .int .i64 a.fil.kind, sv a.fil.typ, sv a.fil.val, .slice A0 A0n A0c, .slice A1 A1n A1c, .slice A2 A2n A2c, .slice A3 A3n A3c, .slice A4 A4n A4c, sv a.rdn, .bool a.keep, .bool a.above, sv a.up, sv a.avt, sv a.avv, .int .i64 a.which] _ hrg Tryz.underlying32 rfl (by kernel_rfl) ?_)
  refine hRI.out.mono ?_
  rintro e w4 ⟨rfl, x4⟩
  have z4 := ext_trans z3 x4
  have y4 := ext_trans x3 x4
  clear hRI hrg
  cases M
  · clear hE hlen hZ h hr x2a
    go_wp2_with fail
    go_ret
    exact ⟨rfl, z4⟩
  by_cases hsm : lr < 1
  · have b1 : decide ((lr : Int) < 1) = true := dtrue (by omega)
    have b3 : decide (lr < 1) = true := dtrue hsm
    clear hE hlen hZ h hr x2a hsm
    go_wp2_with fail
    go_ret
    exact ⟨rfl, z4⟩
  have s1 : decide ((lr : Int) < 1) = false := dfalse (by omega)
  have s3 : decide (lr < 1) = false := dfalse hsm
  by_cases hbig : 300 < lr
  · have b1 : decide ((lr : Int) > 300) = true := dtrue (by omega)
    have b2 : decide ((300 : Int) < (lr : Int)) = true := dtrue (by omega)
    have b3 : decide (300 < lr) = true := dtrue hbig
    clear hE hlen hZ h hr x2a hbig
    go_wp2_with fail
    go_ret
    exact ⟨rfl, z4⟩
  have b1 : decide ((lr : Int) > 300) = false := dfalse (by omega)
  have b2 : decide ((300 : Int) < (lr : Int)) = false := dfalse (by omega)
  have b3 : decide (300 < lr) = false := dfalse hbig
  have hlz := hlen (by first | rfl | trivial)
  have hE4 : Hid (Calls Tryz.prog 15 #[.agg #[.int .i64 a.num, .int .i64 a.kind, sv a.dn, sv a.pass, .int .i64 a.scope, .int .i64 a.limit, .int .i64 a.fil.kind, sv a.fil.typ, sv a.fil.val, .slice A0 A0n A0c, .slice A1 A1n A1c, .slice A2 A2n A2c, .slice A3 A3n A3c, .slice A4 A4n A4c, sv a.rdn, .bool a.keep, .bool a.above, sv a.up, sv a.avt, sv a.avv, .int .i64 a.which]] w4 fun e w' => ∃ v', e = .returned (.tuple #[v', .int .i64 0]) ∧ Own w' 5 v' (Z.map bv) ∧ Ext w4 w') := Lib.hid (hE z4)
  have BA4 := x2a.mod y4 (fun h => h)
  clear hE hlen h x2a
  go_wp2_with ((with_reducible show wpList _ _ _ (⟨some 29, _, _, _, _, _⟩ :: _) _ _); refine wpList_load_row rfl 32 (.tmp 2) rfl _ rfl _ _ _ _ BA4 Tryz.underlying32 rfl size21 ?_)
  refine hE4.out.mono ?_
  rintro e w5 ⟨v5, rfl, o5, x5⟩
  have z5 := ext_trans z4 x5
  clear hE4 BA4 b1 b2 b3 s1 s3
  obtain ⟨C1, d1, e1⟩ := o5.shape
  rw [List.length_map] at e1
  subst e1
  have hbl : (nuB 2 a.num ++ tlv (opT a.kind) (bodyB n a)).length ≤ 65536 := by
    have := tlv_leF (t := 48) (l := nuB 2 a.num ++ tlv (opT a.kind) (bodyB n a)) (by rw [← hZ.out]; exact hlz)
    exact this
  have hzp : 2 ≤ Z.length := by
    rw [hZ.out]
    have := (lay_len (nuB 2 a.num ++ tlv (opT a.kind) (bodyB n a)).length).1
    show 2 ≤ (48 :: lay _ ++ _).length
    rw [List.length_append, List.length_cons]
    omega
  have hcut : (bnext (Z.take (Z.length - 1))).2.2.2 = 2 := by
    have hj : Z.length - 1 < (tlv 48 (nuB 2 a.num ++ tlv (opT a.kind) (bodyB n a))).length := by rw [← hZ.out]; omega
    have := bnext_tlv_cut (t := 48) (by decide) hbl hj
    rw [← hZ.out] at this
    exact this
  have hwhole : bnext (Z ++ rest) = (48, nuB 2 a.num ++ tlv (opT a.kind) (bodyB n a), rest, 0) := by
    have := bnext_tlv (t := 48) (X := nuB 2 a.num ++ tlv (opT a.kind) (bodyB n a)) (rest := rest) (by decide) hbl
    rw [← hZ.out] at this
    exact this
  clear hZ hbl
  obtain ⟨lz, hlzz⟩ : ∃ l, l = Z.length := ⟨_, rfl⟩
  rw [← hlzz] at hlz hzp hcut o5 ⊢
  replace hlzz := Lib.hid hlzz
  obtain ⟨i, hi⟩ : ∃ i, i = lz - 1 := ⟨_, rfl⟩
  rw [← hi] at hcut
  have hii : (lz : Int) - 1 = (i : Int) := by omega
  have hsub : Bs w5 (own (.slice C1 i d1)) (.slice C1 i d1) (Z.take i) := by
    have := Own.begin (m := i) o5 (by rw [List.length_map, ← hlzz.out]; omega)
    rw [← List.map_take] at this
    exact this.sl
  have hil : (Z.take i).length = i := by rw [List.length_take, ← hlzz.out]; omega
  have hfr1 : Hid (Calls Tryz.prog 9 #[.slice C1 i d1] w5 fun e w' => e = .returned (.tuple #[.agg z21, .int .i64 2]) ∧ Ext w5 w') := Lib.hid (dec_err_any (k := 2) hsub (by rw [hil]; omega) hcut (by decide))
  have hcap : lz ≤ d1 := by
    have := own_cap o5
    rw [List.length_map, ← hlzz.out] at this
    exact this
  have hi0 : (0 : Int) ≤ (i : Int) := by omega
  have hi1 : (i : Int) ≤ (d1 : Int) := by omega
  have hw64 : IntKind.i64.wrap ((lz : Int) - 1) = (i : Int) := by rw [hii]; exact wid (by omega) (by omega)
  have e0 : decide ((lz : Int) < 1) = false := dfalse (by omega)
  have e1' : decide (lz < 1) = false := dfalse (by omega)
  replace hii := Lib.hid hii
  replace hi := Lib.hid hi
  clear hcut hil hsub
  go_wp2_with fail
  refine hfr1.out.mono ?_
  rintro e w6 ⟨rfl, x6⟩
  have z6 := ext_trans z5 x6
  clear hfr1 e0 e1' hw64
  obtain ⟨w7, hw7⟩ : ∃ x, x = (w6.alloc (.cells z21 32)).setRow w6.heap.size z21 := ⟨_, rfl⟩
  have x7 : Ext w6 w7 := by rw [hw7]; exact ((Mod.refl (fun _ => False) w6).alloc _).setRow (fun h => absurd h (Nat.lt_irrefl _)) _
  have B7 := Blk.new w6 32 z21
  replace hw7 := Lib.hid hw7
  go_upto_region 7 with ((with_reducible show wpList _ _ _ (⟨none, .store 32 _ _, _, _, _, _⟩ :: _) _ _); refine wpList_store_row rfl 32 (.tmp 7) (.tmp 47) rfl _ z21 rfl rfl _ _ B7 size21 rfl (by simp [Value.oneCell']) ?_)
  rw [← hw7.out]
  clear hw7 B7
  have z7 := ext_trans z6 x7
  have o7 := (o5.mod x6 (fun _ _ h => h)).mod x7 (fun _ _ h => h)
  clear o5 x6 x7 z6
  have own0 : Own (w7.alloc (.cells #[] 5)) 5 (.slice (some ⟨w7.heap.size, 0, none⟩) 0 0) [] := Own.lit w7 5 [] (by simp [maxLen])
  have al : Ext w7 (w7.alloc (.cells #[] 5)) := (Mod.refl (fun _ => False) w7).alloc _
  have fr0 : Fresh w7.heap.size (.slice (some ⟨w7.heap.size, 0, none⟩) 0 0) := fun k hk => Nat.le_of_eq (Option.some.inj hk)
  have o7a := o7.mod al (fun _ _ h => h)
  have hln := Lib.hid (show (([] : List Value).length + (Z.map bv).length) * 1 ≤ 140737488355328 by rw [List.length_map, ← hlzz.out]; simp; omega)
  have hln2 := Lib.hid (show (([] ++ Z.map bv).length + (rest.map bv).length) * 1 ≤ 140737488355328 by rw [List.nil_append, List.length_map, List.length_map, ← hlzz.out, ← hlr.out]; omega)
  go_wp2_with (first
    | ((with_reducible show wpList _ _ _ (⟨some 52, _, _, _, _, _⟩ :: _) _ _); refine wp_app tyB own0 o7a.sl (bv_one _) rfl (.tmp 50) (.tmp 51) rfl rfl rfl hln.out ?_; intro v8 w8 q1 q2 q3; have xa : Ext w7 w8 := al.trans q2 (fun _ _ h => h) (fun b hb h => by have := fr0 b h; omega); have hr8 : Bs w8 S (.slice Ar lr cr) rest := Sl.mod hr (ext_trans z7 xa) (fun _ _ _ h => h); have fr8 : Fresh w7.heap.size v8 := q3.fresh fr0 al.size; clear own0 o7a fr0 q2 q3 al hln)
    | ((with_reducible show wpList _ _ _ (⟨some 54, _, _, _, _, _⟩ :: _) _ _); refine wp_app tyB q1 hr8 (bv_one _) rfl (.tmp 52) (.tmp 53) rfl rfl rfl hln2.out ?_; intro v9 w9 s1 s2 s3; have xb : Ext w7 w9 := xa.trans s2 (fun _ _ h => h) (fun b hb h => by have := fr8 b h; omega); clear s3))
  rw [List.nil_append, ← List.map_append] at s1
  have hfr2 := Lib.hid (dec_rest_any s1.sl (by rw [List.length_append, ← hlzz.out, ← hlr.out]; omega) hwhole (fun h => by rw [h] at hlr; have := hlr.out; simp only [List.length_nil] at this; omega))
  clear q1 hr8 fr8 s2 xa hr hwhole o7
  refine hfr2.out.mono ?_
  rintro e w10 ⟨rfl, x10⟩
  have z10 := ext_trans (ext_trans z7 xb) x10
  clear hfr2 s1 xb x10 z7
  obtain ⟨w11, hw11⟩ : ∃ x, x = (w10.alloc (.cells z21 32)).setRow w10.heap.size z21 := ⟨_, rfl⟩
  have x11 : Ext w10 w11 := by rw [hw11]; exact ((Mod.refl (fun _ => False) w10).alloc _).setRow (fun h => absurd h (Nat.lt_irrefl _)) _
  have B11 := Blk.new w10 32 z21
  replace hw11 := Lib.hid hw11
  go_upto_region 8 with ((with_reducible show wpList _ _ _ (⟨none, .store 32 _ _, _, _, _, _⟩ :: _) _ _); refine wpList_store_row rfl 32 (.tmp 9) (.tmp 56) rfl _ z21 rfl rfl _ _ B11 size21 rfl (by simp [Value.oneCell']) ?_)
  rw [← hw11.out]
  clear hw11 B11
  have z11 := ext_trans z10 x11
  clear z10 x11
  go_wp2_with fail
  refine known25_any.mono ?_
  rintro e w12 ⟨rfl, x12⟩
  go_wp2_with fail
  go_ret
  exact ⟨rfl, ext_trans z11 x12⟩
end Go.Proofs.YtoockogceobfgaaGreat
