/- index: the law IndexCase. -/
import Derived.Test.YtacmbomnjedbeaaIkN
namespace Go.Proofs.Ytacmbomnjedbeaa
open Go.RowKit
set_option maxRecDepth 100000

set_option maxHeartbeats 32000000 in
theorem lcase_any {w : World} {vd va : Value} {E : Ent} (hd : As w AllE vd E.dn) (ha : Ats w va E.ats) (hF : EFits E) (hwT : wE E ≤ 4611686018427387904) :
    Calls Try.prog 6 #[.agg #[vd, va]] w fun e w' => e = .returned (.bool true) ∧ Ext w w' := by
  obtain ⟨A, c, hva, -⟩ := ha.open_
  obtain ⟨A0, c0, hvd⟩ := Rc.shape hd
  obtain ⟨n1, hn1⟩ : ∃ n, n = E.ats.length := ⟨_, rfl⟩
  obtain ⟨n0, hn0⟩ : ∃ n, n = E.dn.length := ⟨_, rfl⟩
  rw [← hn1] at hva
  rw [← hn0] at hvd
  subst hva
  subst hvd
  obtain ⟨w2, hw2⟩ : ∃ x, x = w.alloc (.cells #[.slice A0 n0 c0, .slice A n1 c] 25) := ⟨_, rfl⟩
  obtain ⟨p, hp⟩ : ∃ p, p = w.heap.size := ⟨_, rfl⟩
  have x2 : Ext w w2 := by rw [hw2]; exact (Mod.refl _ w).alloc _
  have BP : Blk w2 p 25 #[.slice A0 n0 c0, .slice A n1 c] := by rw [hw2, hp]; exact Blk.new w _ _
  have hcc : ∀ {wx : World}, Ext w2 wx → wx.cell? ⟨p, 0, none⟩ = some (.slice A0 n0 c0) ∧ wx.cell? ⟨p, 1, none⟩ = some (.slice A n1 c) := fun x => ⟨(BP.mod x (fun h => h)).cell 0, (BP.mod x (fun h => h)).cell 1⟩
  obtain ⟨p0, p1⟩ := hcc (Mod.refl _ w2)
  obtain ⟨w3, hw3⟩ : ∃ x, x = w2.alloc (.cells #[.slice A0 n0 c0, .slice A n1 c] 25) := ⟨_, rfl⟩
  obtain ⟨g, hg⟩ : ∃ p, p = w2.heap.size := ⟨_, rfl⟩
  have x3 : Ext w2 w3 := by rw [hw3]; exact (Mod.refl _ w2).alloc _
  have y3 := ext_trans x2 x3
  have hE : Ents w3 (.slice (some ⟨g, 0, none⟩) 1 1) [E] := by
    refine ⟨[(.slice A0 n0 c0, .slice A n1 c)], ?_, rfl, fun k x e' hx he => ?_⟩
    · have h := Rc.lit (f := enc2) (k := 2) w2 25 [((.slice A0 n0 c0, .slice A n1 c) : EnV)] rfl (by simp [maxLen]) (by simp [maxLen])
      rw [hw3, hg]
      exact h
    · match k, hx, he with
      | 0, hx, he =>
        simp at hx he
        subst hx; subst he
        exact ⟨hd.ext y3, ha.ext y3⟩
      | k + 1, hx, he => simp at hx
  have hgr := great20_any hE (by simp) (fun x hx => by rw [List.mem_singleton.1 hx]; exact hF)
  have hT : sumF wE [E] = wE E := by simp [sumF]
  rw [hT] at hgr
  have hax := fun {wx : World} (x : Ext w2 wx) => And.intro (hd.ext (ext_trans x2 x)) (ha.ext (ext_trans x2 x))
  replace hw2 := Lib.hid hw2
  replace hp := Lib.hid hp
  replace hw3 := Lib.hid hw3
  replace hg := Lib.hid hg
  replace hn1 := Lib.hid hn1
  replace hn0 := Lib.hid hn0
  clear hd ha hE hT y3 BP hF
  go_enter Try.func6, Try.ntmps6
  go_upto_region 1 with fail
  rw [← hw2.out, ← hp.out]
  clear hw2 hp
  go_wp2_with fail
  rw [← hw3.out, ← hg.out]
  refine hgr.mono ?_
  rintro e' w4 ⟨⟨r, rfl, hr⟩, x4⟩
  have y4 := ext_trans x3 x4
  clear hgr hw3 hg x3 x4 p0 p1
  cases r
  case true =>
    clear hr
    go_wp2_with fail
    go_ret
    exact ⟨rfl, ext_trans x2 y4⟩
  have hT4 : wE E ≤ 4000 := by
    have h := hr hwT
    exact Nat.le_of_not_lt (of_decide_eq_false h.symm)
  clear hr hwT
  have h4 := fun {wx : World} (x : Ext w2 wx) => keysI_any sortedK_holds (w := wx) (hax x).1 (hax x).2 (by omega)
  obtain ⟨q, hq⟩ : ∃ q, q = w4.heap.size := ⟨_, rfl⟩
  obtain ⟨w5, hw5⟩ : ∃ x, x = w4.alloc (.cells #[.slice none 0 0, .slice none 0 0] 25) := ⟨_, rfl⟩
  have x5 : Ext w4 w5 := by rw [hw5]; exact (Mod.refl _ w4).alloc _
  have BQ : Blk w5 q 25 #[.slice none 0 0, .slice none 0 0] := by rw [hw5, hq]; exact Blk.new w4 _ _
  replace hw5 := Lib.hid hw5
  replace hq := Lib.hid hq
  have hN0 : n0 ≤ 4000 := by
    have h1 := wD_ge E.dn
    have e : wE E = wD E.dn + wA E.ats := rfl
    have := hn0.out
    omega
  obtain ⟨D, hD⟩ : ∃ D, D = E.dn := ⟨_, rfl⟩
  have hn02 := hn0
  rw [← hD] at hn02
  have hdx : ∀ {wx : World}, Ext w2 wx → As wx AllE (.slice A0 n0 c0) D := fun x => by rw [hD]; exact (hax x).1
  have hdl : ∀ a ∈ D, a.1.length ≤ 4000 ∧ a.2.length ≤ 4000 := fun a hm => by
    rw [hD] at hm
    have h1 := wD_mem hm
    have e : wE E = wD E.dn + wA E.ats := rfl
    omega
  replace hD := Lib.hid hD
  go_upto_region 4 with fail
  rw [← hq.out, show w4.alloc (.cells #[.slice none 0 0, .slice none 0 0] 25) = w5 from hw5.out.symm]
  go_wp2_with fail
  go_loopw [4] (fun i wr => ∃ (k : Nat) (ud : Value), k ≤ n0 ∧ i = .int .i64 k ∧ Blk wr q 25 #[ud, .slice none 0 0] ∧ OwnR avc 2 wr 46 ud ((D.take k).map upAv) ∧ Fresh (q + 1) ud ∧ Ext w4 wr) (fun i _ => n0 - (intOf i).toNat)
  case atStart => exact ⟨0, _, Nat.zero_le _, rfl, BQ, OwnR.nil _ _ _ _, fresh_nil _ _ _, x5⟩
  case round =>
    clear BQ x5
    obtain ⟨k, ud, hk, rfl, BQ, ho, hf, hx⟩ := hrel
    have y5 := ext_trans y4 hx
    have q0 := (hcc y5).1
    by_cases hlt : k < n0
    case neg =>
      have hbl : decide ((k : Int) < (n0 : Int)) = false := dfalse (by omega)
      have hbn : decide (k < n0) = false := dfalse (by omega)
      have hkm : D.take k = D := List.take_of_length_le (by have := hn02.out; omega)
      rw [hkm] at ho
      obtain ⟨L, hL⟩ : ∃ L, L = E.ats := ⟨_, rfl⟩
      have hwa : wA E.ats ≤ 4000 := by have e : wE E = wD E.dn + wA E.ats := rfl; omega
      have hge := wA_ge E.ats
      rw [← hL] at hwa hge
      have hax2 := fun {wx : World} (x : Ext w2 wx) => (hax x).2
      rw [← hL] at hax2
      have hn12 := hn1.out
      rw [← hL] at hn12
      have hN1 : n1 ≤ 4000 := by omega
      replace hL := Lib.hid hL
      replace hn12 := Lib.hid hn12
      have hq4 : w4.heap.size ≤ q := by have := hq.out; omega
      have hqB := BQ.lt
      clear q0 hdl
      go_wp2_with fail
      go_loopw [5] (fun i wr' => ∃ (k : Nat) (ua : Value) (rs : List AtV), k ≤ n1 ∧ i = .int .i64 k ∧ Blk wr' q 25 #[ud, ua] ∧ OwnR avc 2 wr' 46 ud (D.map upAv) ∧ OAt wr' ua rs ((L.take k).map upAt) ∧ Fresh (q + 1) ua ∧ (∀ r ∈ rs, Fresh (q + 1) r.2) ∧ Ext w4 wr' ∧ q < wr'.heap.size) (fun i _ => n1 - (intOf i).toNat)
      case atStart => exact ⟨0, _, [], Nat.zero_le _, rfl, BQ, ho, OAt.nil _, fresh_nil _ _ _, fun r h => (by cases h), hx, hqB⟩
      case round =>
        clear BQ ho hx y5 hqB hk hlt hbl hbn hkm
        obtain ⟨k, ua, rs, hk, rfl, BQ, ho, hoa, hfa, hfr, hx, hqB⟩ := hrel
        have y5 := ext_trans y4 hx
        obtain ⟨q0, q1⟩ := hcc y5
        by_cases hlt : k < n1
        case neg =>
          have hbl : decide ((k : Int) < (n1 : Int)) = false := dfalse (by omega)
          have hbn : decide (k < n1) = false := dfalse (by omega)
          have hkl : L.take k = L := List.take_of_length_le (by have := hn12.out; omega)
          rw [hkl] at hoa
          have hEw : wE (⟨D.map upAv, L.map upAt⟩ : Ent) ≤ 20000 := by
            show wD (D.map upAv) + wA (L.map upAt) ≤ 20000
            rw [wD_up, wA_up, hD.out, hL.out]
            have e : wE E = wD E.dn + wA E.ats := rfl
            omega
          have h5 := fun {wx : World} (x : Ext wr wx) => keysI_any sortedK_holds (w := wx) (E := ⟨D.map upAv, L.map upAt⟩) ((ho.ext x).rc.mono (T := AllE) (fun _ _ _ => trivial)) (hoa.ext x).ats hEw
          have h6 := fun {wx : World} (x : Ext w2 wx) => keysI_any sortedK_holds (w := wx) (hax x).1 (hax x).2 (by omega)
          have hkq : ∀ x, isKey (keyB (D.map upAv)) (L.map upAt) x ↔ isKey (keyB E.dn) E.ats x := fun x => by rw [isKey_up, key_up, hD.out, hL.out]
          have hkn := fun wx : World => known21_holds wx
          have hall : ∀ {wx : World}, Ext wr wx → wx.cell? ⟨q, 0, none⟩ = some ud ∧ wx.cell? ⟨q, 1, none⟩ = some ua ∧ wx.cell? ⟨p, 0, none⟩ = some (.slice A0 n0 c0) ∧ wx.cell? ⟨p, 1, none⟩ = some (.slice A n1 c) := fun x => ⟨(BQ.mod x (fun h => h)).cell 0, (BQ.mod x (fun h => h)).cell 1, hcc (ext_trans y5 x)⟩
          have z0 : Ext wr wr.drew := (Mod.refl _ wr).drew
          clear hEw hdx hoa ho BQ q0 q1
          go_upto_region 20 with fail
          go_region_held3 (fun wx => wx.cell? ⟨q, 0, none⟩ = some ud ∧ wx.cell? ⟨q, 1, none⟩ = some ua ∧ wx.cell? ⟨p, 0, none⟩ = some (.slice A0 n0 c0) ∧ wx.cell? ⟨p, 1, none⟩ = some (.slice A n1 c)) (first | exact hall z0 | exact hall z1 | exact hall z2 | exact hall z3 | exact hall z4) (first
            | (go_at_call 9; (with_reducible refine (h5 z0).mono ?_); rintro e7 w7 ⟨u7, G7, rfl, o7, f7, r7, m7, x7⟩; have z1 := ext_trans z0 x7)
            | (go_at_call 9; (with_reducible refine (h6 (ext_trans y5 z1)).mono ?_); rintro e8 w8 ⟨u8, G8, rfl, o8, f8, r8, m8, x8⟩; have z2 := ext_trans z1 x8; have he := riseT_ext r7 r8 (fun x => (m7 x).trans ((hkq x).trans (m8 x).symm)); have ht := texts21_any (o7.mod x8 (fun _ _ h => h)).sl o8.sl; rw [decide_eq_true he] at ht)
            | (go_at_call 8; (with_reducible refine ht.mono ?_); rintro e9 w9 ⟨rfl, x9⟩; have z3 := ext_trans z2 x9)
            | (go_at_call 11; (with_reducible refine (hkn _).mono ?_); rintro e17 w17 ⟨rfl, x17⟩; have z4 := ext_trans z3 x17))
          go_wp2_with fail
          go_ret
          exact ⟨rfl, ext_trans x2 (ext_trans y5 z4)⟩
        have hbl : decide ((k : Int) < (n1 : Int)) = true := dtrue (by omega)
        have hbn : decide (k < n1) = true := dtrue (by omega)
        have hi0 : (0 : Int) ≤ (k : Int) := by omega
        have hi1 : (k : Int) < (n1 : Int) := by omega
        have l1 : k < L.length := by have := hn12.out; omega
        obtain ⟨A8, c8, e8, h5⟩ := (hax2 y4).open_
        rw [← hn12.out] at e8
        injection e8 with e1 e2 e3
        clear e2
        subst e1
        subst e3
        obtain ⟨ad, y, e2, h6, h7, h8⟩ := h5 k l1
        subst e2
        have hsn := up_snoc upAt L l1
        have hwn := wA_next L l1
        have hwt := wA_take L (k + 1)
        have hua : upAt L[k] = ⟨L[k].typ.map up, L[k].vals.map (upV L[k].typ.length)⟩ := rfl
        rw [hua] at hsn
        clear hua
        generalize L[k].typ = t at *
        generalize L[k].vals = V at *
        have hge2 := wV_ge V
        have hvl : ∀ v ∈ V, v.length ≤ 4000 := fun v hv => by have := wV_mem hv; omega
        obtain ⟨Ay, cy, ey, -, -, -, -⟩ := h8.open_
        obtain ⟨M, hM2⟩ : ∃ N, N = V.length := ⟨_, rfl⟩
        rw [← hM2] at ey
        subst ey
        have hM4 : M ≤ 4000 := by omega
        replace hM2 := Lib.hid hM2
        have hvx : ∀ {wx : World}, Ext w4 wx → wx.cell? (ad.add (k * 2)) = some (sv t) ∧ wx.cell? ⟨(ad.add (k * 2)).block, (ad.add (k * 2)).off + 1, none⟩ = some (.slice Ay M cy) := fun x => ⟨ext_cell x h6, ext_cell x h7⟩
        obtain ⟨t0, t1⟩ := hvx hx
        have hu := upper_any (w := wr) (s := t) (by omega)
        clear h5 l1 h6 h7
        go_wp2_with fail
        refine hu.mono ?_
        rintro e w7 ⟨rfl, x7⟩
        clear hu q0 q1 t0 t1
        have hx7 := ext_trans hx x7
        obtain ⟨r, hr⟩ : ∃ r, r = w7.heap.size := ⟨_, rfl⟩
        obtain ⟨w8, hw8⟩ : ∃ x, x = w7.alloc (.cells #[sv (t.map up), .slice none 0 0] 37) := ⟨_, rfl⟩
        have x8 : Ext w7 w8 := by rw [hw8]; exact (Mod.refl _ w7).alloc _
        have BR : Blk w8 r 37 #[sv (t.map up), .slice none 0 0] := by rw [hw8, hr]; exact Blk.new w7 _ _
        replace hw8 := Lib.hid hw8
        replace hr := Lib.hid hr
        have hzt := sv_sizeI t
        go_upto_region 12 with fail
        rw [← hr.out, show w7.alloc (.cells #[sv (t.map up), .slice none 0 0] 37) = w8 from hw8.out.symm]
        clear hw8
        go_wp2_with fail
        go_loopw [7, 8] (fun i t8 wx => ∃ (j : Nat) (va : Value), j ≤ M ∧ i = .int .i64 j ∧ Blk wx r 37 #[sv (t.map up), va] ∧ Own wx 9 va (((V.take j).map (upV t.length)).map sv) ∧ Fresh (r + 1) va ∧ Ext w7 wx) (fun i _ _ => M - (intOf i).toNat)
        case atStart => exact ⟨0, _, Nat.zero_le _, rfl, BR, Own.nil _ _, fresh_nil _ _ _, x8⟩
        case round =>
          clear BR x8
          obtain ⟨j, va, hj, rfl, BR, hov, hfv, x8⟩ := hrel
          have hx8 := ext_trans hx7 x8
          obtain ⟨q0, q1⟩ := hcc (ext_trans y4 hx8)
          obtain ⟨t0, t1⟩ := hvx hx8
          by_cases hjt : j < M
          case neg =>
            have hjl : decide ((j : Int) < (M : Int)) = false := dfalse (by omega)
            have hjn : decide (j < M) = false := dfalse (by omega)
            have hjm : V.take j = V := List.take_of_length_le (by have := hM2.out; omega)
            rw [hjm] at hov
            have x9 := ext_trans x7 x8
            have hoa9 := hoa.ext x9
            have ho9 := ho.ext x9
            have BQ9 := BQ.mod x9 (fun h => h)
            have d1 := BQ9.cell 1
            have r0 := BR.cell 0
            have r1 := BR.cell 1
            have hrl : rs.length ≤ 4000 := by have := hoa9.len; rw [List.length_map, List.length_take] at this; omega
            have hok1 : ∀ u ∈ atc ((t.map up, va) : AtV), u.oneCell' = true := by
              obtain ⟨A, c, e⟩ := hov.shape
              rw [e]; exact atc_ok
            have hsz9 := x9.size
            clear hjm
            go_wp2_with ((with_reducible show wpList _ _ _ (⟨some 95, _, _, _, _, _⟩ :: _) _ _); refine wp_appR (x := ((t.map up, va) : AtV)) tyAt atc_len hoa9.own rfl hok1 (by omega) rfl (.tmp 92) (.tmp 94) rfl rfl rfl ?_; intro v9 w9 g1 g2 g3; have hq9 : ¬ own ua q := fun h => (by have := hfa q h; omega); have B9 : Blk w9 q 25 #[ud, ua] := BQ9.mod g2 hq9; have d9 : w9.cell? ⟨q, 1, none⟩ = some ua := B9.cell 1; have f9 : w9.frozen? ⟨q, 1, none⟩ = false := B9.frozen 1; obtain ⟨A10, c10, rfl⟩ : ∃ A10 c10, v9 = .slice A10 (rs.length + 1) c10 := (by obtain ⟨A, c, e⟩ := g1.shape; rw [List.length_append] at e; exact ⟨A, c, e⟩))
            have hqn := hq.out
            have hrn := hr.out
            have hq4 : w4.heap.size ≤ q := by omega
            have hs7 := x7.size
            have hs9 := x9.size
            have hrq : q < r := by omega
            have MS : ∀ v, Mod (fun b => b = q) w9 (w9.setCell ⟨q, 1, none⟩ v) := fun v => (Mod.refl (fun b => b = q) w9).setCell (fun _ => rfl) v
            have f11 : Fresh (q + 1) (.slice A10 (rs.length + 1) c10) := g3.fresh hfa (by omega)
            have f12 : ∀ r' ∈ rs ++ [((t.map up, va) : AtV)], Fresh (q + 1) r'.2 := fun r' hr' => (List.mem_append.1 hr').elim (hfr r') (fun h => by rw [List.mem_singleton.1 h]; exact hfv.mono (by omega))
            have h10 : Ext w4 (w9.setCell ⟨q, 1, none⟩ (.slice A10 (rs.length + 1) c10)) := (ext_app0 hx8 (hfa.mono (by omega)) g2).setCell (fun h => absurd h (by show ¬ q < w4.heap.size; omega)) _
            refine ⟨⟨k + 1, _, rs ++ [((t.map up, va) : AtV)], by omega, by go_num, B9.set_ 1 _, ?_, ?_, f11, f12, h10, ?_⟩, by simp [intOf] <;> omega⟩
            · exact (ho9.mod g2 (fun b hb hv => own_neAA ho9 hoa9.own (by decide) hb hv)).mod (MS _) (fun b hb e => by have := hf b hb; omega)
            · rw [hsn]
              exact (OAt.snoc (a := ⟨t.map up, V.map (upV t.length)⟩) hoa9 g1 g2 rfl hov).mod (MS _) (fun b hb e => by have := f11 b hb; omega) (fun r' hr' b hb e => by have := f12 r' hr' b hb; omega)
            · have := (MS (.slice A10 (rs.length + 1) c10)).size; have := g2.size; omega
          have hjl : decide ((j : Int) < (M : Int)) = true := dtrue (by omega)
          have hjn : decide (j < M) = true := dtrue (by omega)
          have hj0 : (0 : Int) ≤ (j : Int) := by omega
          have hj1 : (j : Int) < (M : Int) := by omega
          have hjv : j < V.length := by have := hM2.out; omega
          obtain ⟨A9, c9, e9, _, _, _, h5⟩ := (Sl.ext h8 hx8).open_
          rw [← hM2.out] at e9
          injection e9 with e1 e2 e3
          clear e2
          subst e1
          subst e3
          obtain ⟨ag, e2, _, h9⟩ := h5.at_ hjv
          subst e2
          have hvn := up_snoc (upV t.length) V hjv
          have hvl2 := hvl _ (List.getElem_mem hjv)
          generalize V[j] = v at *
          clear h5
          by_cases ht5 : t.length ≤ 5
          · have hb5 : decide ((t.length : Int) ≤ 5) = true := dtrue (by omega)
            have hb6 : decide (t.length ≤ 5) = true := dtrue (by omega)
            have hu := fun wx : World => upper_any (w := wx) (s := v) (by omega)
            go_wp2_with fail
            refine (hu _).mono ?_
            rintro e w11 ⟨rfl, x11⟩
            have hup : upV t.length v = v.map up := if_pos ht5
            have BR11 := BR.mod x11 (fun h => h)
            have r11 := BR11.cell 1
            have ho11 : OwnT w11 va ((V.take j).map (upV t.length)) := hov.mod x11 (fun _ _ h => h)
            have hlj : ((V.take j).map (upV t.length)).length = j := by rw [List.length_map, List.length_take]; omega
            have hsz11 := (ext_trans x8 x11).size
            have hlt11 : r < w11.heap.size := BR11.lt
            go_wp2_with ((with_reducible show wpList _ _ _ (⟨some 89, _, _, _, _, _⟩ :: _) _ _); refine wp_appT (x := v.map up) ho11 (by omega) rfl (.tmp 86) (.tmp 88) rfl rfl rfl ?_; intro v12 w12 g1 g2 g3; have hq12 : ¬ own va r := fun h => (by have := hfv r h; omega); have B12 : Blk w12 r 37 #[sv (t.map up), va] := BR11.mod g2 hq12; have d12 : w12.cell? ⟨r, 1, none⟩ = some va := B12.cell 1; have f12 : w12.frozen? ⟨r, 1, none⟩ = false := B12.frozen 1; obtain ⟨A12, c12, rfl⟩ : ∃ A12 c12, v12 = .slice A12 (j + 1) c12 := (by obtain ⟨A, c, e⟩ := g1.shape; rw [List.length_map, List.length_append, hlj] at e; exact ⟨A, c, e⟩))
            have hrn := hr.out
            have f14 : Fresh (r + 1) (.slice A12 (j + 1) c12) := g3.fresh hfv (by omega)
            have MS : ∀ v, Mod (fun b => b = r) w12 (w12.setCell ⟨r, 1, none⟩ v) := fun v => (Mod.refl (fun b => b = r) w12).setCell (fun _ => rfl) v
            have o14 : Own (w12.setCell ⟨r, 1, none⟩ (.slice A12 (j + 1) c12)) 9 (.slice A12 (j + 1) c12) (((V.take (j + 1)).map (upV t.length)).map sv) := by
              rw [hvn, hup]
              exact Own.mod g1 (MS _) (fun b hb e => by have := f14 b hb; omega)
            exact ⟨⟨j + 1, _, by omega, by go_num, B12.set_ 1 _, o14, f14, (ext_app0 (ext_trans x8 x11) (hfv.mono (by omega)) g2).setCell (fun h => absurd h (by show ¬ r < w7.heap.size; omega)) _⟩, by simp [intOf] <;> omega⟩
          · have hb5 : decide ((t.length : Int) ≤ 5) = false := dfalse (by omega)
            have hb6 : decide (t.length ≤ 5) = false := dfalse (by omega)
            have hup : upV t.length v = v := if_neg ht5
            have BR11 := BR
            have r11 := BR11.cell 1
            have ho11 : OwnT wr va ((V.take j).map (upV t.length)) := hov
            have hlj : ((V.take j).map (upV t.length)).length = j := by rw [List.length_map, List.length_take]; omega
            have hsz11 := (x8).size
            have hlt11 : r < wr.heap.size := BR11.lt
            go_wp2_with ((with_reducible show wpList _ _ _ (⟨some 89, _, _, _, _, _⟩ :: _) _ _); refine wp_appT (x := v) ho11 (by omega) rfl (.tmp 86) (.tmp 88) rfl rfl rfl ?_; intro v12 w12 g1 g2 g3; have hq12 : ¬ own va r := fun h => (by have := hfv r h; omega); have B12 : Blk w12 r 37 #[sv (t.map up), va] := BR11.mod g2 hq12; have d12 : w12.cell? ⟨r, 1, none⟩ = some va := B12.cell 1; have f12 : w12.frozen? ⟨r, 1, none⟩ = false := B12.frozen 1; obtain ⟨A12, c12, rfl⟩ : ∃ A12 c12, v12 = .slice A12 (j + 1) c12 := (by obtain ⟨A, c, e⟩ := g1.shape; rw [List.length_map, List.length_append, hlj] at e; exact ⟨A, c, e⟩))
            have hrn := hr.out
            have f14 : Fresh (r + 1) (.slice A12 (j + 1) c12) := g3.fresh hfv (by omega)
            have MS : ∀ v, Mod (fun b => b = r) w12 (w12.setCell ⟨r, 1, none⟩ v) := fun v => (Mod.refl (fun b => b = r) w12).setCell (fun _ => rfl) v
            have o14 : Own (w12.setCell ⟨r, 1, none⟩ (.slice A12 (j + 1) c12)) 9 (.slice A12 (j + 1) c12) (((V.take (j + 1)).map (upV t.length)).map sv) := by
              rw [hvn, hup]
              exact Own.mod g1 (MS _) (fun b hb e => by have := f14 b hb; omega)
            exact ⟨⟨j + 1, _, by omega, by go_num, B12.set_ 1 _, o14, f14, (ext_app0 (x8) (hfv.mono (by omega)) g2).setCell (fun h => absurd h (by show ¬ r < w7.heap.size; omega)) _⟩, by simp [intOf] <;> omega⟩
    have hbl : decide ((k : Int) < (n0 : Int)) = true := dtrue (by omega)
    have hbn : decide (k < n0) = true := dtrue (by omega)
    have hi0 : (0 : Int) ≤ (k : Int) := by omega
    have hi1 : (k : Int) < (n0 : Int) := by omega
    have l1 : k < D.length := by have := hn02.out; omega
    obtain ⟨A9, c9, e9, _, _, _, hat⟩ := (hdx y4).open_ avc_len
    rw [← hn02.out] at e9
    injection e9 with e1 e2 e3
    clear e2
    subst e1
    subst e3
    obtain ⟨ad, e2, _, c0', c1'⟩ := As.at_ hat l1
    subst e2
    have hsn := upAv_snoc D l1
    have hdx2 := hdl _ (List.getElem_mem l1)
    have hln : ((D.take k).map upAv).length = k := by rw [List.length_map, List.length_take]; omega
    generalize D[k] = x at *
    have hu1 := fun wx : World => upper_any (w := wx) (s := x.1) (by omega)
    have hu2 := fun wx : World => upper_any (w := wx) (s := x.2) (by omega)
    have hn1 := Lib.hid (show (((D.take k).map upAv).length + 1) * 32 ≤ 140737488355328 by omega)
    replace hsn := Lib.hid hsn
    obtain ⟨A3, c3, hud⟩ := ho.shape
    rw [hln] at hud
    subst hud
    have hS : ∀ {wx : World}, Ext w4 wx → wx.cell? ⟨p, 0, none⟩ = some (.slice (some ad) n0 c0) ∧ wx.cell? (ad.add (k * 2)) = some (sv x.1) ∧ wx.cell? ⟨(ad.add (k * 2)).block, (ad.add (k * 2)).off + 1, none⟩ = some (sv x.2) := fun z => ⟨(hcc (ext_trans y4 z)).1, ext_cell z c0', ext_cell z c1'⟩
    have hqx : ∀ {wx : World}, Ext wr wx → Blk wx q 25 #[.slice A3 k c3, .slice none 0 0] := fun z => BQ.mod z (fun h => h)
    have z0 : Ext wr wr.drew := (Mod.refl _ wr).drew
    have h0 : Ext w4 wr.drew := ext_trans hx z0
    have d0 : wr.drew.cell? ⟨q, 0, none⟩ = some (.slice A3 k c3) := (hqx z0).cell 0
    have hav := avc_ok (upAv x)
    have hqn := hq.out
    have hq4 : w4.heap.size ≤ q := by omega
    clear hqn
    have hf4 : Fresh w4.heap.size (.slice A3 k c3) := hf.mono (by omega)
    clear hat hdx h4 c0' c1'
    go_upto_region 7 with fail
    refine wp_region_held_drew (S := fun wx => wx.cell? ⟨p, 0, none⟩ = some (.slice (some ad) n0 c0) ∧ wx.cell? (ad.add (k * 2)) = some (sv x.1) ∧ wx.cell? ⟨(ad.add (k * 2)).block, (ad.add (k * 2)).off + 1, none⟩ = some (sv x.2)) (by kernel_rfl) (hS h0) (fun hH => ?_)
    (refine wpAnyH_take (i := 0) (oi := ⟨_, _, _, _, _, _⟩) (v := ?tv2) rfl (by kernel_rfl) (by kernel_rfl) (by kernel_rfl) (fun _ _ _ h => h) (Or.inl ⟨by kernel_rfl, ?hy2⟩) hH ?rs2; (case hy2 => (intro wx hSw; (try dsimp only at hSw); go_simp; try with_reducible rfl)); try simp only [Act.put, List.setIfInBounds_toArray, List.set_cons_zero, List.set_cons_succ]; try simp only [List.getElem_toArray, List.getElem_cons_succ, List.getElem_cons_zero])
    (refine wpAnyH_take (i := 2) (oi := ⟨_, _, _, _, _, _⟩) (v := ?tv3) rfl (by kernel_rfl) (by kernel_rfl) (by kernel_rfl) (fun _ _ _ h => h) (Or.inl ⟨by kernel_rfl, ?hy3⟩) hH ?rs3; (case hy3 => (intro wx hSw; (try dsimp only at hSw); go_simp; try with_reducible rfl)); try simp only [Act.put, List.setIfInBounds_toArray, List.set_cons_zero, List.set_cons_succ]; try simp only [List.getElem_toArray, List.getElem_cons_succ, List.getElem_cons_zero])
    (refine wpAnyH_take (i := 3) (oi := ⟨_, _, _, _, _, _⟩) (v := ?tv4) rfl (by kernel_rfl) (by kernel_rfl) (by kernel_rfl) (fun _ _ _ h => h) (Or.inl ⟨by kernel_rfl, ?hy4⟩) hH ?rs4; (case hy4 => (intro wx hSw; (try dsimp only at hSw); go_simp; try with_reducible rfl)); try simp only [Act.put, List.setIfInBounds_toArray, List.set_cons_zero, List.set_cons_succ]; try simp only [List.getElem_toArray, List.getElem_cons_succ, List.getElem_cons_zero])
    (refine wpAnyH_take (i := 4) (oi := ⟨_, _, _, _, _, _⟩) (v := ?tv5) rfl (by kernel_rfl) (by kernel_rfl) (by kernel_rfl) (fun _ _ _ h => h) (Or.inl ⟨by kernel_rfl, ?hy5⟩) hH ?rs5; (case hy5 => (intro wx hSw; (try dsimp only at hSw); go_simp; try with_reducible rfl)); try simp only [Act.put, List.setIfInBounds_toArray, List.set_cons_zero, List.set_cons_succ]; try simp only [List.getElem_toArray, List.getElem_cons_succ, List.getElem_cons_zero])
    (refine wpAnyH_take (i := 5) (oi := ⟨_, _, _, _, _, _⟩) (v := ?tv6) rfl (by kernel_rfl) (by kernel_rfl) (by kernel_rfl) (fun _ _ _ h => h) (Or.inl ⟨by kernel_rfl, ?hy6⟩) hH ?rs6; (case hy6 => (intro wx hSw; (try dsimp only at hSw); go_simp; try with_reducible rfl)); try simp only [Act.put, List.setIfInBounds_toArray, List.set_cons_zero, List.set_cons_succ]; try simp only [List.getElem_toArray, List.getElem_cons_succ, List.getElem_cons_zero])
    (refine wpAnyH_take (i := 6) (oi := ⟨_, _, _, _, _, _⟩) (v := ?tv7) rfl (by kernel_rfl) (by kernel_rfl) (by kernel_rfl) (fun _ _ _ h => h) (Or.inl ⟨by kernel_rfl, ?hy7⟩) hH ?rs7; (case hy7 => (intro wx hSw; (try dsimp only at hSw); go_simp; try with_reducible rfl)); try simp only [Act.put, List.setIfInBounds_toArray, List.set_cons_zero, List.set_cons_succ]; try simp only [List.getElem_toArray, List.getElem_cons_succ, List.getElem_cons_zero])
    (refine wpAnyH_take (i := 7) (oi := ⟨_, _, _, _, _, _⟩) (v := ?tv8) rfl (by kernel_rfl) (by kernel_rfl) (by kernel_rfl) (fun _ _ _ h => h) (Or.inl ⟨by kernel_rfl, ?hy8⟩) hH ?rs8; (case hy8 => (intro wx hSw; (try dsimp only at hSw); go_simp; try with_reducible rfl)); try simp only [Act.put, List.setIfInBounds_toArray, List.set_cons_zero, List.set_cons_succ]; try simp only [List.getElem_toArray, List.getElem_cons_succ, List.getElem_cons_zero])
    (refine wpAnyH_take (i := 9) (oi := ⟨_, _, _, _, _, _⟩) (v := ?tv9) rfl (by kernel_rfl) (by kernel_rfl) (by kernel_rfl) (fun _ _ _ h => h) (Or.inl ⟨by kernel_rfl, ?hy9⟩) hH ?rs9; (case hy9 => (intro wx hSw; (try dsimp only at hSw); go_simp; try with_reducible rfl)); try simp only [Act.put, List.setIfInBounds_toArray, List.set_cons_zero, List.set_cons_succ]; try simp only [List.getElem_toArray, List.getElem_cons_succ, List.getElem_cons_zero])
    (refine wpAnyH_take (i := 10) (oi := ⟨_, _, _, _, _, _⟩) (v := ?tv10) rfl (by kernel_rfl) (by kernel_rfl) (by kernel_rfl) (fun _ _ _ h => h) (Or.inl ⟨by kernel_rfl, ?hy10⟩) hH ?rs10; (case hy10 => (intro wx hSw; (try dsimp only at hSw); go_simp; try with_reducible rfl)); try simp only [Act.put, List.setIfInBounds_toArray, List.set_cons_zero, List.set_cons_succ]; try simp only [List.getElem_toArray, List.getElem_cons_succ, List.getElem_cons_zero])
    (refine wpAnyH_take (i := 11) (oi := ⟨_, _, _, _, _, _⟩) (v := ?tv11) rfl (by kernel_rfl) (by kernel_rfl) (by kernel_rfl) (fun _ _ _ h => h) (Or.inl ⟨by kernel_rfl, ?hy11⟩) hH ?rs11; (case hy11 => (intro wx hSw; (try dsimp only at hSw); go_simp; try with_reducible rfl)); try simp only [Act.put, List.setIfInBounds_toArray, List.set_cons_zero, List.set_cons_succ]; try simp only [List.getElem_toArray, List.getElem_cons_succ, List.getElem_cons_zero])
    (refine wpAnyH_take (i := 12) (oi := ⟨_, _, _, _, _, _⟩) (v := ?tv12) rfl (by kernel_rfl) (by kernel_rfl) (by kernel_rfl) (fun _ _ _ h => h) (Or.inl ⟨by kernel_rfl, ?hy12⟩) hH ?rs12; (case hy12 => (intro wx hSw; (try dsimp only at hSw); go_simp; try with_reducible rfl)); try simp only [Act.put, List.setIfInBounds_toArray, List.set_cons_zero, List.set_cons_succ]; try simp only [List.getElem_toArray, List.getElem_cons_succ, List.getElem_cons_zero])
    (refine wpAnyH_take (i := 13) (oi := ⟨_, _, _, _, _, _⟩) (v := ?tv13) rfl (by kernel_rfl) (by kernel_rfl) (by kernel_rfl) (fun _ _ _ h => h) (Or.inl ⟨by kernel_rfl, ?hy13⟩) hH ?rs13; (case hy13 => (intro wx hSw; (try dsimp only at hSw); go_simp; try with_reducible rfl)); try simp only [Act.put, List.setIfInBounds_toArray, List.set_cons_zero, List.set_cons_succ]; try simp only [List.getElem_toArray, List.getElem_cons_succ, List.getElem_cons_zero])
    (refine wpAnyH_take (i := 14) (oi := ⟨_, _, _, _, _, _⟩) (v := ?tv14) rfl (by kernel_rfl) (by kernel_rfl) (by kernel_rfl) (fun _ _ _ h => h) (Or.inl ⟨by kernel_rfl, ?hy14⟩) hH ?rs14; (case hy14 => (intro wx hSw; (try dsimp only at hSw); go_simp; try with_reducible rfl)); try simp only [Act.put, List.setIfInBounds_toArray, List.set_cons_zero, List.set_cons_succ]; try simp only [List.getElem_toArray, List.getElem_cons_succ, List.getElem_cons_zero])
    refine wpAnyH_ready (rs := [1, 8]) (by kernel_rfl) (by simp) ?_
    refine AllReadyH.cons rfl (fun K hK => ?_) (AllReadyH.cons rfl (fun K hK => ?_) AllReadyH.nil)
    case' refine_1 =>
      go_simp
      (go_wp2_with fail; refine hK.out _ _ (hH) (fun hH => ?_); clear hK K; try simp only [Act.put, List.setIfInBounds_toArray, List.set_cons_zero, List.set_cons_succ]; try simp only [List.getElem_toArray, List.getElem_cons_succ, List.getElem_cons_zero])
      (refine wpAnyH_ready (rs := [8]) (by kernel_rfl) (by simp) ?_; refine AllReadyH.cons rfl (fun K hK => ?_) AllReadyH.nil)
      go_simp
      refine (hu1 _).mono ?_
      rintro e7 w7 ⟨rfl, x7⟩
      have z1 := ext_trans z0 x7
      have h1 := ext_trans hx z1
      have d1 : w7.cell? ⟨q, 0, none⟩ = some (.slice A3 k c3) := (hqx z1).cell 0
      (go_wp2_with fail; refine hK.out _ _ (hS h1) (fun hH => ?_); clear hK K; try simp only [Act.put, List.setIfInBounds_toArray, List.set_cons_zero, List.set_cons_succ]; try simp only [List.getElem_toArray, List.getElem_cons_succ, List.getElem_cons_zero])
      (refine wpAnyH_ready (rs := [15]) (by kernel_rfl) (by simp) ?_; refine AllReadyH.cons rfl (fun K hK => ?_) AllReadyH.nil)
      go_simp
      refine (hu2 _).mono ?_
      rintro e8 w8 ⟨rfl, x8⟩
      have z2 := ext_trans z1 x8
      have h2 := ext_trans hx z2
      have d2 : w8.cell? ⟨q, 0, none⟩ = some (.slice A3 k c3) := (hqx z2).cell 0
      (go_wp2_with fail; refine hK.out _ _ (hS h2) (fun hH => ?_); clear hK K; try simp only [Act.put, List.setIfInBounds_toArray, List.set_cons_zero, List.set_cons_succ]; try simp only [List.getElem_toArray, List.getElem_cons_succ, List.getElem_cons_zero])
      (refine wpAnyH_take (i := 16) (oi := ⟨_, _, _, _, _, _⟩) (v := ?tv15) rfl (by kernel_rfl) (by kernel_rfl) (by kernel_rfl) (fun _ _ _ h => h) (Or.inl ⟨by kernel_rfl, ?hy15⟩) hH ?rs15; (case hy15 => (intro wx hSw; (try dsimp only at hSw); go_simp; try with_reducible rfl)); try simp only [Act.put, List.setIfInBounds_toArray, List.set_cons_zero, List.set_cons_succ]; try simp only [List.getElem_toArray, List.getElem_cons_succ, List.getElem_cons_zero])
      (refine wpAnyH_ready (rs := [17]) (by kernel_rfl) (by simp) ?_; refine AllReadyH.cons rfl (fun K hK => ?_) AllReadyH.nil)
      go_simp
      (go_wp2_with fail; refine hK.out _ _ (hS (h2.alloc _)) (fun hH => ?_); clear hK K; try simp only [Act.put, List.setIfInBounds_toArray, List.set_cons_zero, List.set_cons_succ]; try simp only [List.getElem_toArray, List.getElem_cons_succ, List.getElem_cons_zero])
      (refine wpAnyH_ready (rs := [18]) (by kernel_rfl) (by simp) ?_; refine AllReadyH.cons rfl (fun K hK => ?_) AllReadyH.nil)
      have o2 : OwnR avc 2 w8 46 (.slice A3 k c3) ((D.take k).map upAv) := ho.ext z2
      refine step_appR (x := upAv x) tyA avc_len o2 rfl hav hn1.out rfl rfl (.tmp 21) (.tmp 37) rfl rfl rfl ?_
      intro v9 w9 g1 g2 g3
      have h3 := ext_app0 h2 hf4 g2
      (refine hK.out _ _ (hS h3) (fun hH => ?_); clear hK K; try simp only [Act.put, List.setIfInBounds_toArray]; try simp only [List.getElem_toArray, List.getElem_cons_succ, List.getElem_cons_zero])
      obtain ⟨A10, c10, rfl⟩ : ∃ A10 c10, v9 = .slice A10 (k + 1) c10 := by obtain ⟨A, c, e⟩ := g1.shape; rw [List.length_append, hln] at e; exact ⟨A, c, e⟩
      have hq9 : ¬ own (.slice A3 k c3) q := fun h => by have := hf q h; omega
      have B9 : Blk w9 q 25 #[.slice A3 k c3, .slice none 0 0] := (hqx z2).mod g2 hq9
      have d9 : w9.cell? ⟨q, 0, none⟩ = some (.slice A3 k c3) := B9.cell 0
      have f9 : w9.frozen? ⟨q, 0, none⟩ = false := B9.frozen 0
      have h10 : Ext w4 (w9.setCell ⟨q, 0, none⟩ (.slice A10 (k + 1) c10)) := h3.setCell (fun h => absurd h (by show ¬ q < w4.heap.size; omega)) _
      have b1 := B9.set_ 0 (.slice A10 (k + 1) c10)
      (refine wpAnyH_take (i := 19) (oi := ⟨_, _, _, _, _, _⟩) (v := ?tv1) rfl (by kernel_rfl) (by kernel_rfl) (by kernel_rfl) (fun _ _ _ h => h) (Or.inl ⟨by kernel_rfl, ?hy1⟩) hH ?rs1; (case hy1 => (intro wx hSw; (try dsimp only at hSw); go_simp; try with_reducible rfl)); try simp only [Act.put, List.setIfInBounds_toArray, List.set_cons_zero, List.set_cons_succ]; try simp only [List.getElem_toArray, List.getElem_cons_succ, List.getElem_cons_zero])
      (refine wpAnyH_ready (rs := [20]) (by kernel_rfl) (by simp) ?_; refine AllReadyH.cons rfl (fun K hK => ?_) AllReadyH.nil)
      go_simp
      (go_wp2_with fail; refine hK.out _ _ (hS h10) (fun hH => ?_); clear hK K; try simp only [Act.put, List.setIfInBounds_toArray, List.set_cons_zero, List.set_cons_succ]; try simp only [List.getElem_toArray, List.getElem_cons_succ, List.getElem_cons_zero])
      refine wpAnyH_done (by kernel_rfl) ?_ _
    case' refine_2 =>
      go_simp
      refine (hu1 _).mono ?_
      rintro e7 w7 ⟨rfl, x7⟩
      have z1 := ext_trans z0 x7
      have h1 := ext_trans hx z1
      have d1 : w7.cell? ⟨q, 0, none⟩ = some (.slice A3 k c3) := (hqx z1).cell 0
      (go_wp2_with fail; refine hK.out _ _ (hS h1) (fun hH => ?_); clear hK K; try simp only [Act.put, List.setIfInBounds_toArray, List.set_cons_zero, List.set_cons_succ]; try simp only [List.getElem_toArray, List.getElem_cons_succ, List.getElem_cons_zero])
      refine wpAnyH_ready (rs := [1, 15]) (by kernel_rfl) (by simp) ?_
      refine AllReadyH.cons rfl (fun K hK => ?_) (AllReadyH.cons rfl (fun K hK => ?_) AllReadyH.nil)
      case' refine_1 =>
        go_simp
        (go_wp2_with fail; refine hK.out _ _ (hH) (fun hH => ?_); clear hK K; try simp only [Act.put, List.setIfInBounds_toArray, List.set_cons_zero, List.set_cons_succ]; try simp only [List.getElem_toArray, List.getElem_cons_succ, List.getElem_cons_zero])
        (refine wpAnyH_ready (rs := [15]) (by kernel_rfl) (by simp) ?_; refine AllReadyH.cons rfl (fun K hK => ?_) AllReadyH.nil)
        go_simp
        refine (hu2 _).mono ?_
        rintro e8 w8 ⟨rfl, x8⟩
        have z2 := ext_trans z1 x8
        have h2 := ext_trans hx z2
        have d2 : w8.cell? ⟨q, 0, none⟩ = some (.slice A3 k c3) := (hqx z2).cell 0
        (go_wp2_with fail; refine hK.out _ _ (hS h2) (fun hH => ?_); clear hK K; try simp only [Act.put, List.setIfInBounds_toArray, List.set_cons_zero, List.set_cons_succ]; try simp only [List.getElem_toArray, List.getElem_cons_succ, List.getElem_cons_zero])
        (refine wpAnyH_take (i := 16) (oi := ⟨_, _, _, _, _, _⟩) (v := ?tv16) rfl (by kernel_rfl) (by kernel_rfl) (by kernel_rfl) (fun _ _ _ h => h) (Or.inl ⟨by kernel_rfl, ?hy16⟩) hH ?rs16; (case hy16 => (intro wx hSw; (try dsimp only at hSw); go_simp; try with_reducible rfl)); try simp only [Act.put, List.setIfInBounds_toArray, List.set_cons_zero, List.set_cons_succ]; try simp only [List.getElem_toArray, List.getElem_cons_succ, List.getElem_cons_zero])
        (refine wpAnyH_ready (rs := [17]) (by kernel_rfl) (by simp) ?_; refine AllReadyH.cons rfl (fun K hK => ?_) AllReadyH.nil)
        go_simp
        (go_wp2_with fail; refine hK.out _ _ (hS (h2.alloc _)) (fun hH => ?_); clear hK K; try simp only [Act.put, List.setIfInBounds_toArray, List.set_cons_zero, List.set_cons_succ]; try simp only [List.getElem_toArray, List.getElem_cons_succ, List.getElem_cons_zero])
        (refine wpAnyH_ready (rs := [18]) (by kernel_rfl) (by simp) ?_; refine AllReadyH.cons rfl (fun K hK => ?_) AllReadyH.nil)
        have o2 : OwnR avc 2 w8 46 (.slice A3 k c3) ((D.take k).map upAv) := ho.ext z2
        refine step_appR (x := upAv x) tyA avc_len o2 rfl hav hn1.out rfl rfl (.tmp 21) (.tmp 37) rfl rfl rfl ?_
        intro v9 w9 g1 g2 g3
        have h3 := ext_app0 h2 hf4 g2
        (refine hK.out _ _ (hS h3) (fun hH => ?_); clear hK K; try simp only [Act.put, List.setIfInBounds_toArray]; try simp only [List.getElem_toArray, List.getElem_cons_succ, List.getElem_cons_zero])
        obtain ⟨A10, c10, rfl⟩ : ∃ A10 c10, v9 = .slice A10 (k + 1) c10 := by obtain ⟨A, c, e⟩ := g1.shape; rw [List.length_append, hln] at e; exact ⟨A, c, e⟩
        have hq9 : ¬ own (.slice A3 k c3) q := fun h => by have := hf q h; omega
        have B9 : Blk w9 q 25 #[.slice A3 k c3, .slice none 0 0] := (hqx z2).mod g2 hq9
        have d9 : w9.cell? ⟨q, 0, none⟩ = some (.slice A3 k c3) := B9.cell 0
        have f9 : w9.frozen? ⟨q, 0, none⟩ = false := B9.frozen 0
        have h10 : Ext w4 (w9.setCell ⟨q, 0, none⟩ (.slice A10 (k + 1) c10)) := h3.setCell (fun h => absurd h (by show ¬ q < w4.heap.size; omega)) _
        have b1 := B9.set_ 0 (.slice A10 (k + 1) c10)
        (refine wpAnyH_take (i := 19) (oi := ⟨_, _, _, _, _, _⟩) (v := ?tv1) rfl (by kernel_rfl) (by kernel_rfl) (by kernel_rfl) (fun _ _ _ h => h) (Or.inl ⟨by kernel_rfl, ?hy1⟩) hH ?rs1; (case hy1 => (intro wx hSw; (try dsimp only at hSw); go_simp; try with_reducible rfl)); try simp only [Act.put, List.setIfInBounds_toArray, List.set_cons_zero, List.set_cons_succ]; try simp only [List.getElem_toArray, List.getElem_cons_succ, List.getElem_cons_zero])
        (refine wpAnyH_ready (rs := [20]) (by kernel_rfl) (by simp) ?_; refine AllReadyH.cons rfl (fun K hK => ?_) AllReadyH.nil)
        go_simp
        (go_wp2_with fail; refine hK.out _ _ (hS h10) (fun hH => ?_); clear hK K; try simp only [Act.put, List.setIfInBounds_toArray, List.set_cons_zero, List.set_cons_succ]; try simp only [List.getElem_toArray, List.getElem_cons_succ, List.getElem_cons_zero])
        refine wpAnyH_done (by kernel_rfl) ?_ _
      case' refine_2 =>
        go_simp
        refine (hu2 _).mono ?_
        rintro e8 w8 ⟨rfl, x8⟩
        have z2 := ext_trans z1 x8
        have h2 := ext_trans hx z2
        have d2 : w8.cell? ⟨q, 0, none⟩ = some (.slice A3 k c3) := (hqx z2).cell 0
        (go_wp2_with fail; refine hK.out _ _ (hS h2) (fun hH => ?_); clear hK K; try simp only [Act.put, List.setIfInBounds_toArray, List.set_cons_zero, List.set_cons_succ]; try simp only [List.getElem_toArray, List.getElem_cons_succ, List.getElem_cons_zero])
        (refine wpAnyH_take (i := 16) (oi := ⟨_, _, _, _, _, _⟩) (v := ?tv17) rfl (by kernel_rfl) (by kernel_rfl) (by kernel_rfl) (fun _ _ _ h => h) (Or.inl ⟨by kernel_rfl, ?hy17⟩) hH ?rs17; (case hy17 => (intro wx hSw; (try dsimp only at hSw); go_simp; try with_reducible rfl)); try simp only [Act.put, List.setIfInBounds_toArray, List.set_cons_zero, List.set_cons_succ]; try simp only [List.getElem_toArray, List.getElem_cons_succ, List.getElem_cons_zero])
        refine wpAnyH_ready (rs := [1, 17]) (by kernel_rfl) (by simp) ?_
        refine AllReadyH.cons rfl (fun K hK => ?_) (AllReadyH.cons rfl (fun K hK => ?_) AllReadyH.nil)
        case' refine_1 =>
          go_simp
          (go_wp2_with fail; refine hK.out _ _ (hH) (fun hH => ?_); clear hK K; try simp only [Act.put, List.setIfInBounds_toArray, List.set_cons_zero, List.set_cons_succ]; try simp only [List.getElem_toArray, List.getElem_cons_succ, List.getElem_cons_zero])
          (refine wpAnyH_ready (rs := [17]) (by kernel_rfl) (by simp) ?_; refine AllReadyH.cons rfl (fun K hK => ?_) AllReadyH.nil)
          go_simp
          (go_wp2_with fail; refine hK.out _ _ (hS (h2.alloc _)) (fun hH => ?_); clear hK K; try simp only [Act.put, List.setIfInBounds_toArray, List.set_cons_zero, List.set_cons_succ]; try simp only [List.getElem_toArray, List.getElem_cons_succ, List.getElem_cons_zero])
          (refine wpAnyH_ready (rs := [18]) (by kernel_rfl) (by simp) ?_; refine AllReadyH.cons rfl (fun K hK => ?_) AllReadyH.nil)
          have o2 : OwnR avc 2 w8 46 (.slice A3 k c3) ((D.take k).map upAv) := ho.ext z2
          refine step_appR (x := upAv x) tyA avc_len o2 rfl hav hn1.out rfl rfl (.tmp 21) (.tmp 37) rfl rfl rfl ?_
          intro v9 w9 g1 g2 g3
          have h3 := ext_app0 h2 hf4 g2
          (refine hK.out _ _ (hS h3) (fun hH => ?_); clear hK K; try simp only [Act.put, List.setIfInBounds_toArray]; try simp only [List.getElem_toArray, List.getElem_cons_succ, List.getElem_cons_zero])
          obtain ⟨A10, c10, rfl⟩ : ∃ A10 c10, v9 = .slice A10 (k + 1) c10 := by obtain ⟨A, c, e⟩ := g1.shape; rw [List.length_append, hln] at e; exact ⟨A, c, e⟩
          have hq9 : ¬ own (.slice A3 k c3) q := fun h => by have := hf q h; omega
          have B9 : Blk w9 q 25 #[.slice A3 k c3, .slice none 0 0] := (hqx z2).mod g2 hq9
          have d9 : w9.cell? ⟨q, 0, none⟩ = some (.slice A3 k c3) := B9.cell 0
          have f9 : w9.frozen? ⟨q, 0, none⟩ = false := B9.frozen 0
          have h10 : Ext w4 (w9.setCell ⟨q, 0, none⟩ (.slice A10 (k + 1) c10)) := h3.setCell (fun h => absurd h (by show ¬ q < w4.heap.size; omega)) _
          have b1 := B9.set_ 0 (.slice A10 (k + 1) c10)
          (refine wpAnyH_take (i := 19) (oi := ⟨_, _, _, _, _, _⟩) (v := ?tv1) rfl (by kernel_rfl) (by kernel_rfl) (by kernel_rfl) (fun _ _ _ h => h) (Or.inl ⟨by kernel_rfl, ?hy1⟩) hH ?rs1; (case hy1 => (intro wx hSw; (try dsimp only at hSw); go_simp; try with_reducible rfl)); try simp only [Act.put, List.setIfInBounds_toArray, List.set_cons_zero, List.set_cons_succ]; try simp only [List.getElem_toArray, List.getElem_cons_succ, List.getElem_cons_zero])
          (refine wpAnyH_ready (rs := [20]) (by kernel_rfl) (by simp) ?_; refine AllReadyH.cons rfl (fun K hK => ?_) AllReadyH.nil)
          go_simp
          (go_wp2_with fail; refine hK.out _ _ (hS h10) (fun hH => ?_); clear hK K; try simp only [Act.put, List.setIfInBounds_toArray, List.set_cons_zero, List.set_cons_succ]; try simp only [List.getElem_toArray, List.getElem_cons_succ, List.getElem_cons_zero])
          refine wpAnyH_done (by kernel_rfl) ?_ _
        case' refine_2 =>
          go_simp
          (go_wp2_with fail; refine hK.out _ _ (hS (h2.alloc _)) (fun hH => ?_); clear hK K; try simp only [Act.put, List.setIfInBounds_toArray, List.set_cons_zero, List.set_cons_succ]; try simp only [List.getElem_toArray, List.getElem_cons_succ, List.getElem_cons_zero])
          have d3 : (w8.alloc (.cells #[sv (x.1.map up), sv (x.2.map up)] 46)).cell? ⟨q, 0, none⟩ = some (.slice A3 k c3) := (hqx (z2.alloc _)).cell 0
          (refine wpAnyH_ready (rs := [1]) (by kernel_rfl) (by simp) ?_; refine AllReadyH.cons rfl (fun K hK => ?_) AllReadyH.nil)
          go_simp
          (go_wp2_with fail; refine hK.out _ _ (hH) (fun hH => ?_); clear hK K; try simp only [Act.put, List.setIfInBounds_toArray, List.set_cons_zero, List.set_cons_succ]; try simp only [List.getElem_toArray, List.getElem_cons_succ, List.getElem_cons_zero])
          (refine wpAnyH_ready (rs := [18]) (by kernel_rfl) (by simp) ?_; refine AllReadyH.cons rfl (fun K hK => ?_) AllReadyH.nil)
          have o2 : OwnR avc 2 w8 46 (.slice A3 k c3) ((D.take k).map upAv) := ho.ext z2
          refine step_appR (x := upAv x) tyA avc_len o2 rfl hav hn1.out rfl rfl (.tmp 21) (.tmp 37) rfl rfl rfl ?_
          intro v9 w9 g1 g2 g3
          have h3 := ext_app0 h2 hf4 g2
          (refine hK.out _ _ (hS h3) (fun hH => ?_); clear hK K; try simp only [Act.put, List.setIfInBounds_toArray]; try simp only [List.getElem_toArray, List.getElem_cons_succ, List.getElem_cons_zero])
          obtain ⟨A10, c10, rfl⟩ : ∃ A10 c10, v9 = .slice A10 (k + 1) c10 := by obtain ⟨A, c, e⟩ := g1.shape; rw [List.length_append, hln] at e; exact ⟨A, c, e⟩
          have hq9 : ¬ own (.slice A3 k c3) q := fun h => by have := hf q h; omega
          have B9 : Blk w9 q 25 #[.slice A3 k c3, .slice none 0 0] := (hqx z2).mod g2 hq9
          have d9 : w9.cell? ⟨q, 0, none⟩ = some (.slice A3 k c3) := B9.cell 0
          have f9 : w9.frozen? ⟨q, 0, none⟩ = false := B9.frozen 0
          have h10 : Ext w4 (w9.setCell ⟨q, 0, none⟩ (.slice A10 (k + 1) c10)) := h3.setCell (fun h => absurd h (by show ¬ q < w4.heap.size; omega)) _
          have b1 := B9.set_ 0 (.slice A10 (k + 1) c10)
          (refine wpAnyH_take (i := 19) (oi := ⟨_, _, _, _, _, _⟩) (v := ?tv1) rfl (by kernel_rfl) (by kernel_rfl) (by kernel_rfl) (fun _ _ _ h => h) (Or.inl ⟨by kernel_rfl, ?hy1⟩) hH ?rs1; (case hy1 => (intro wx hSw; (try dsimp only at hSw); go_simp; try with_reducible rfl)); try simp only [Act.put, List.setIfInBounds_toArray, List.set_cons_zero, List.set_cons_succ]; try simp only [List.getElem_toArray, List.getElem_cons_succ, List.getElem_cons_zero])
          (refine wpAnyH_ready (rs := [20]) (by kernel_rfl) (by simp) ?_; refine AllReadyH.cons rfl (fun K hK => ?_) AllReadyH.nil)
          go_simp
          (go_wp2_with fail; refine hK.out _ _ (hS h10) (fun hH => ?_); clear hK K; try simp only [Act.put, List.setIfInBounds_toArray, List.set_cons_zero, List.set_cons_succ]; try simp only [List.getElem_toArray, List.getElem_cons_succ, List.getElem_cons_zero])
          refine wpAnyH_done (by kernel_rfl) ?_ _
    all_goals
      have g11 : OwnR avc 2 (w9.setCell ⟨q, 0, none⟩ (.slice A10 (k + 1) c10)) 46 (.slice A10 (k + 1) c10) ((D.take (k + 1)).map upAv) := by
        rw [hsn.out]
        refine g1.mod ((Mod.refl (fun b => b = q) w9).setCell (fun _ => rfl) _) (fun b hb e => ?_)
        have h9 := (g3.fresh hf (by have := z2.size; have := BQ.lt; omega)) b hb
        omega
      have f11 : Fresh (q + 1) (.slice A10 (k + 1) c10) := g3.fresh hf (by have := z2.size; have := BQ.lt; omega)
      have b2 : Blk (w9.setCell ⟨q, 0, none⟩ (.slice A10 (k + 1) c10)) q 25 #[.slice A10 (k + 1) c10, .slice none 0 0] := b1
      go_wp2_with fail
      exact ⟨⟨k + 1, _, by omega, by go_num, b2, g11, f11, h10⟩, by simp [intOf] <;> omega⟩
end Go.Proofs.Ytacmbomnjedbeaa
