/- entry: the law EntryEncodes, of entries that are no more than an int tells. -/
import Derived.Test.YtlaaicdofompkaaEntS
namespace Go.Proofs.Ytlaaicdofompkaa
open Go.RowKit
set_option maxRecDepth 100000

theorem Rc.lit {α : Type} {f : α → List Value} {k : Nat} (w : World) (e : TypeId) (L : List α) (hk : (L.flatMap f).length = L.length * k) (hm : (L.flatMap f).length ≤ maxLen) (hn : L.length ≤ maxLen) : Rc f k (w.alloc (.cells (L.flatMap f).toArray e)) All (.slice (some ⟨w.heap.size, 0, none⟩) L.length L.length) L := by
  obtain ⟨A, c, hv, _, _, _, hc⟩ := Sl.lit w e (L.flatMap f) hm
  injection hv with hv _ _
  rw [← hv] at hc
  exact ⟨_, _, rfl, Nat.le_refl _, hn, by simp, hk, fun j u hu => by obtain ⟨ad, h1, _, h3⟩ := hc j u hu; exact ⟨ad, h1, trivial, h3⟩⟩

set_option maxHeartbeats 16000000 in
theorem lencodes_any {w : World} {vd va vd' va' : Value} {a b : Ent} {typ : List UInt8} (hd : As w All vd a.dn) (ha : Ats w va a.ats) (hF : EFits a) (hd' : As w All vd' b.dn) (ha' : Ats w va' b.ats) (hF' : EFits b) (hwT : wE a + wE b ≤ 4611686018427387904) (hty : typ.length ≤ 140737488351232) :
    Calls Try.prog 3 #[.agg #[vd, va], .agg #[vd', va'], sv typ] w fun e' w' => e' = .returned (.bool true) ∧ Ext w w' := by
  have hzt := sv_size' typ
  obtain ⟨A, c, hva, -⟩ := ha.open_
  obtain ⟨A0, c0, hvd⟩ := Rc.shape hd
  obtain ⟨B, d, hvb, -⟩ := ha'.open_
  obtain ⟨B0, d0, hve⟩ := Rc.shape hd'
  obtain ⟨n1, hn1⟩ : ∃ n, n = a.ats.length := ⟨_, rfl⟩
  obtain ⟨n0, hn0⟩ : ∃ n, n = a.dn.length := ⟨_, rfl⟩
  obtain ⟨m1, hm1⟩ : ∃ n, n = b.ats.length := ⟨_, rfl⟩
  obtain ⟨m0, hm0⟩ : ∃ n, n = b.dn.length := ⟨_, rfl⟩
  rw [← hn1] at hva
  rw [← hn0] at hvd
  rw [← hm1] at hvb
  rw [← hm0] at hve
  subst hva
  subst hvd
  subst hvb
  subst hve
  obtain ⟨x2a, x2b, x2⟩ := Blk.twoN w #[.slice A0 n0 c0, .slice A n1 c] #[.slice B0 m0 d0, .slice B m1 d] 25 25
  obtain ⟨w2, hw2⟩ : ∃ x, x = (w.alloc (.cells #[.slice A0 n0 c0, .slice A n1 c] 25)).alloc (.cells #[.slice B0 m0 d0, .slice B m1 d] 25) := ⟨_, rfl⟩
  rw [← hw2] at x2a x2b x2
  obtain ⟨q, hq⟩ : ∃ q, q = w.heap.size + 1 := ⟨_, rfl⟩
  obtain ⟨p, hp⟩ : ∃ p, p = w.heap.size := ⟨_, rfl⟩
  rw [← hq] at x2b
  rw [← hp] at x2a
  have hcc : ∀ {wx : World}, Ext w2 wx → wx.cell? ⟨p, 0, none⟩ = some (.slice A0 n0 c0) ∧ wx.cell? ⟨p, 1, none⟩ = some (.slice A n1 c) ∧ wx.cell? ⟨q, 0, none⟩ = some (.slice B0 m0 d0) ∧ wx.cell? ⟨q, 1, none⟩ = some (.slice B m1 d) :=
    fun x => ⟨(x2a.mod x (fun h => h)).cell 0, (x2a.mod x (fun h => h)).cell 1, (x2b.mod x (fun h => h)).cell 0, (x2b.mod x (fun h => h)).cell 1⟩
  obtain ⟨p0, p1, q0, q1⟩ := hcc (Mod.refl _ w2)
  obtain ⟨w3, hw3⟩ : ∃ x, x = w2.alloc (.cells #[.slice A0 n0 c0, .slice A n1 c, .slice B0 m0 d0, .slice B m1 d] 25) := ⟨_, rfl⟩
  obtain ⟨g, hg⟩ : ∃ p, p = w2.heap.size := ⟨_, rfl⟩
  have x3 : Ext w2 w3 := by rw [hw3]; exact (Mod.refl _ w2).alloc _
  have y3 := ext_trans x2 x3
  have hE : Ents w3 (.slice (some ⟨g, 0, none⟩) 2 2) [a, b] := by
    refine ⟨[(.slice A0 n0 c0, .slice A n1 c), (.slice B0 m0 d0, .slice B m1 d)], ?_, rfl, fun k x e' hx he => ?_⟩
    · have h := Rc.lit (f := enc2) (k := 2) w2 25 [((.slice A0 n0 c0, .slice A n1 c) : EnV), (.slice B0 m0 d0, .slice B m1 d)] rfl (by simp [maxLen]) (by simp [maxLen])
      rw [hw3, hg]
      exact h
    · match k, hx, he with
      | 0, hx, he =>
        simp at hx he
        subst hx; subst he
        exact ⟨hd.ext y3, ha.ext y3⟩
      | 1, hx, he =>
        simp at hx he
        subst hx; subst he
        exact ⟨hd'.ext y3, ha'.ext y3⟩
      | k + 2, hx, he => simp at hx
  have hgr := great20_any hE (by simp) (fun x hx => by
    rcases List.mem_cons.1 hx with hx | hx
    · rw [hx]; exact hF
    · rw [List.mem_singleton.1 hx]; exact hF')
  have hT : sumF wE [a, b] = wE a + wE b := by simp [sumF]
  rw [hT] at hgr
  have hax := fun {wx : World} (x : Ext w2 wx) => And.intro (hd.ext (ext_trans x2 x)) (ha.ext (ext_trans x2 x))
  have hbx := fun {wx : World} (x : Ext w2 wx) => And.intro (hd'.ext (ext_trans x2 x)) (ha'.ext (ext_trans x2 x))
  replace hw2 := Lib.hid hw2
  replace hq := Lib.hid hq
  replace hp := Lib.hid hp
  replace hw3 := Lib.hid hw3
  replace hg := Lib.hid hg
  replace hn1 := Lib.hid hn1
  replace hn0 := Lib.hid hn0
  replace hm1 := Lib.hid hm1
  replace hm0 := Lib.hid hm0
  clear hd ha hd' ha' hE hT x2a x2b y3 hF'
  go_enter Try.func3, Try.ntmps3
  go_upto_region 1 with fail
  rw [← hw2.out, ← hq.out, ← hp.out]
  clear hw2 hq hp
  go_wp2_with fail
  rw [← hw3.out, ← hg.out]
  refine hgr.mono ?_
  rintro e' w4 ⟨⟨r, rfl, hr⟩, x4⟩
  have y4 := ext_trans x3 x4
  clear hgr hw3 hg x3 x4 p0 p1 q0 q1
  cases r
  case true =>
    clear hr
    go_wp2_with fail
    go_ret
    exact ⟨rfl, ext_trans x2 y4⟩
  have hT4 : wE a + wE b ≤ 4000 := by
    have h := hr hwT
    exact Nat.le_of_not_lt (of_decide_eq_false h.symm)
  clear hr hwT
  by_cases h100 : 100 < typ.length
  · have hb : decide ((100 : Int) < (typ.length : Int)) = true := dtrue (by omega)
    have hbn : decide (100 < typ.length) = true := dtrue (by omega)
    go_wp2_with fail
    go_ret
    exact ⟨rfl, ext_trans x2 y4⟩
  have hb : decide ((100 : Int) < (typ.length : Int)) = false := dfalse (by omega)
  have hbn : decide (100 < typ.length) = false := dfalse (by omega)
  have h1 := fun {wx : World} (x : Ext w2 wx) => eenc_any (hax x).1 (hax x).2 (by omega)
  have h2 := fun {wx : World} (x : Ext w2 wx) => reenc_any (hax x).1 (hax x).2 (by omega)
  have h3 := fun {wx : World} (x : Ext w2 wx) => eis_any (hax x).1 (hax x).2 (by omega)
  have h4 := fun {wx : World} (x : Ext w2 wx) => reis_any (hax x).1 (hax x).2 (by omega)
  have h5 := fun {wx : World} (x : Ext w2 wx) => get20_any (typ := typ) (hax x).1 (hax x).2 (by omega) (by omega)
  have h6 := fun {wx : World} (x : Ext w2 wx) => vals14_any (typ := typ) (hax x).1 (hax x).2 (by omega) (by omega)
  have h7 := fun {wx : World} (x : Ext w2 wx) => same20_any (hax x).1 (hax x).2 (hbx x).1 (hbx x).2 (by omega)
  have h8 := fun {wx : World} (x : Ext w2 wx) => rsame20_any (hax x).1 (hax x).2 (hbx x).1 (hbx x).2 (by omega) (by omega)
  have h9 := fun {wx : World} (x : Ext w2 wx) => same20_any (hax x).1 (hax x).2 (hax x).1 (hax x).2 (by omega)
  have h10 := fun {wx : World} (x : Ext w2 wx) => own20_any (hax x).1 (hax x).2 hF
  have hwa : wE a ≤ 1000000 := by omega
  have h11 := fun {wx : World} {y z : Value} {S : Nat → Prop} (x : Ext w2 wx) (hy : As wx S y a.dn) (hz : Ats wx z a.ats) => rsame20_any hy hz (hax x).1 (hax x).2 hwa hwa
  have hsl : (a.ats.flatMap (selE (foldB typ))).length ≤ 1000000 := by
    have g1 := selE_len (foldB typ) a.ats
    have g2 : wE a = wD a.dn + wA a.ats := rfl
    omega
  rw [sameE_refl] at h9
  simp only [sameE_refl] at h11
  generalize bytesE a = s at *
  generalize codeE a = C at *
  generalize decide (isE a) = I at *
  generalize sameE a b = R at *
  generalize a.ats.flatMap (selE (foldB typ)) = X at *
  have hss : (s == s) = true := beq_self_eq_true s
  have hCC : ((C : Int) == (C : Int)) = true := beq_self_eq_true _
  have hII : (I == I) = true := beq_self_eq_true I
  have hRR : (R == R) = true := beq_self_eq_true R
  have hkn := fun wx => known20_any (w := wx)
  obtain ⟨p0, p1, q0, q1⟩ := hcc y4
  have h1' := h1 y4
  clear h1 h100 hT4 hwa
  go_wp2_with fail
  refine h1'.mono ?_
  rintro e' w5 ⟨rfl, x5⟩
  have y5 := ext_trans y4 x5
  have h2' := h2 y5
  clear h1' h2 p0 p1 q0 q1 y4 x5
  obtain ⟨p0, p1, q0, q1⟩ := hcc y5
  go_wp2_with fail
  refine h2'.mono ?_
  rintro e' w6 ⟨rfl, x6⟩
  have y6 := ext_trans y5 x6
  clear h2' p0 p1 q0 q1 y5 x6
  obtain ⟨p0, p1, q0, q1⟩ := hcc y6
  go_wp2_with fail
  have z0 : Ext w2 w6.drew := ext_trans y6 ((Mod.refl _ w6).drew)
  go_region_held3 (fun wx => wx.cell? ⟨p, 0, none⟩ = some (.slice A0 n0 c0) ∧ wx.cell? ⟨p, 1, none⟩ = some (.slice A n1 c) ∧ wx.cell? ⟨q, 0, none⟩ = some (.slice B0 m0 d0) ∧ wx.cell? ⟨q, 1, none⟩ = some (.slice B m1 d)) (first | exact hcc z0 | exact hcc z1 | exact hcc z2 | exact hcc z3 | exact hcc z4 | exact hcc z5 | exact hcc z6 | exact hcc z7 | exact hcc z8 | exact hcc z9 | exact hcc z10 | exact hcc z11) (first
    | (go_at_call 9; (with_reducible refine (h3 z0).mono ?_); rintro e7 w7 ⟨rfl, x7⟩; have z1 := ext_trans z0 x7)
    | (go_at_call 10; (with_reducible refine (h4 z1).mono ?_); rintro e8 w8 ⟨rfl, x8⟩; have z2 := ext_trans z1 x8)
    | (go_at_call 12; (with_reducible refine (h5 z2).mono ?_); rintro e9 w9 ⟨v9, rfl, o9, x9⟩; have z3 := ext_trans z2 x9)
    | (go_at_call 13; (with_reducible refine (h6 z3).mono ?_); rintro e10 w10 ⟨v10, rfl, o10, x10⟩; have z4 := ext_trans z3 x10; have ht := texts20_any (o9.sl.ext x10) o10.sl hsl; rw [decide_eq_true rfl] at ht)
    | (go_at_call 11; (with_reducible refine ht.mono ?_); rintro e11 w11 ⟨rfl, x11⟩; have z5 := ext_trans z4 x11)
    | (go_at_call 14; (with_reducible refine (h7 z5).mono ?_); rintro e12 w12 ⟨rfl, x12⟩; have z6 := ext_trans z5 x12)
    | (go_at_call 15; (with_reducible refine (h8 z6).mono ?_); rintro e13 w13 ⟨rfl, x13⟩; have z7 := ext_trans z6 x13)
    | (go_at_call 14; (with_reducible refine (h9 z7).mono ?_); rintro e14 w14 ⟨rfl, x14⟩; have z8 := ext_trans z7 x14)
    | (go_at_call 16; (with_reducible refine (h10 z8).mono ?_); rintro e15 w15 ⟨y15, u15, rs15, rfl, od15, oa15, -, -, -, x15⟩; have z9 := ext_trans z8 x15; have h16 := h11 z9 od15.rc oa15.ats)
    | (go_at_call 15; (with_reducible refine h16.mono ?_); rintro e16 w16 ⟨rfl, x16⟩; have z10 := ext_trans z9 x16)
    | (go_at_call 17; (with_reducible refine (hkn _).mono ?_); rintro e17 w17 ⟨rfl, x17⟩; have z11 := ext_trans z10 x17))
  go_wp2_with fail
  go_ret
  exact ⟨rfl, ext_trans x2 z11⟩
end Go.Proofs.Ytlaaicdofompkaa
