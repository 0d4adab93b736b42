/- block: the document's Decode. -/
import Derived.Test.YtlfooppmdgddkaaCelU
import Derived.Deep.DeepCutAuto
namespace Go.Proofs.Ytlfooppmdgddkaa
open Go.RowKit
set_option maxRecDepth 100000

theorem set1_mod (w : World) (g i : Nat) (u : Value) : Mod (fun k => k = g) w (w.setCell ⟨g, i, none⟩ u) := (Mod.refl (fun k => k = g) w).setCell (p := ⟨g, i, none⟩) (fun _ => rfl) u

theorem Rk.app {w wr w' : World} {g : Nat} {T : Nat → Prop} {vr v' va : Value} {st : Option (List UInt8)} {acc : List Ce} {c : Ce} (h : Rk w g T wr vr st va acc) (k1 : OwnC w' v' (acc ++ [c])) (k2 : Mod (own va) wr w') (k3 : Next wr.heap.size va v') : Rk w g T w' vr st v' (acc ++ [c]) :=
  ⟨h.r.mod k2 (fun hg => by have := h.fr g hg; omega) (fun k _ hk ho => by have := h.fr k ho; have := h.ts k hk; have := h.lo; omega), k1, k3.fresh h.fr h.r.blk.lt,
    h.ex.trans k2 (fun _ _ h => h) (fun k hk ho => by have := h.fr k ho; have := h.lo; omega), h.lo, h.ts⟩

set_option maxHeartbeats 32000000 in
theorem rdecode_any {w : World} {S : Nat → Prop} {y : Value} {bs : List UInt8} (hy : Bs w S y bs) (hlen : bs.length ≤ 2000) :
    Calls Try.prog 31 #[y] w fun e w' => ∃ v', e = .returned (.tuple #[v', .int .i64 (decB bs).2]) ∧ OwnC w' v' (decB bs).1 ∧ Fresh w.heap.size v' ∧ Ext w w' := by
  obtain ⟨V, hV⟩ : ∃ V, V = rdecF (bs.length + 1) [] bs [] := ⟨_, rfl⟩
  obtain ⟨R, hR⟩ : ∃ R, R = decB bs := ⟨_, rfl⟩
  rw [← hR]
  have hRV : R = outD bs V := by rw [hR, hV, rdecB]
  clear hR
  replace hRV := Lib.hid hRV
  replace hV := Lib.hid hV
  obtain ⟨A, c, hyv, -⟩ := hy.open_
  subst hyv
  have D0 := Rk.begin hy
  obtain ⟨T, hT⟩ : ∃ T : Nat → Prop, T = fun k => S k ∧ k < w.heap.size := ⟨_, rfl⟩
  rw [← hT] at D0
  clear hT
  go_enter Try.func31, Try.ntmps31
  go_wp2_with fail
  generalize w.alloc (.cells #[.slice A bs.length c, .bool false] 97) = w1 at *
  obtain ⟨g, hg⟩ : ∃ g, g = w.heap.size := ⟨_, rfl⟩
  rw [← hg] at D0 ⊢
  replace hg := Lib.hid hg
  go_loopw [5] (fun t wr => ∃ (l : List UInt8) (acc : List Ce) (f : Nat) (vr va : Value), t = va ∧ Rk w g T wr vr (some l) va acc ∧ Hid (l.length < f ∧ rdecF f (prevC acc acc.length) l acc = V ∧ (prevC acc acc.length).length + l.length ≤ bs.length ∧ acc.length + l.length ≤ bs.length ∧ wC acc ≤ 4001 * acc.length)) (fun _ wr => rlen wr g)
  case atStart => exact ⟨bs, [], bs.length + 1, _, _, rfl, D0, Lib.hid ⟨by omega, hV.out.symm, by simp [prevC], by simp, by simp [wC]⟩⟩
  case round =>
    clear D0
    obtain ⟨l, acc, f, vr, va, rfl, D, hf⟩ := hrel
    have hat := D.r.rlen
    obtain ⟨A1, c1, hvr, -⟩ := (show Bs wr T vr l from D.r.row).open_
    obtain ⟨A5, c5, hva⟩ := D.p.shape
    subst hvr
    subst hva
    have b0 : wr.cell? ⟨g, 0, none⟩ = some (.slice A1 l.length c1) := D.r.blk.c1.1
    have b1 : wr.cell? ⟨g, 1, none⟩ = some (.bool false) := D.r.blk.c1.2
    by_cases hl0 : l = []
    · subst hl0
      have hb0 : decide (0 < ([] : List UInt8).length) = false := dfalse (by simp)
      have hV0 : V = some acc := by
        obtain ⟨h1, h2, -⟩ := hf.out
        obtain ⟨f, rfl⟩ : ∃ g, f = g + 1 := ⟨f - 1, by omega⟩
        rw [← h2, rdecF, if_pos rfl]
      have hen := fun (wx : World) (hx : Ext wr wx) => rencode_any (D.p.rc.ext hx) (by have := hf.out; omega)
      obtain ⟨RN, hRN⟩ : ∃ x, x = riseN acc := ⟨_, rfl⟩
      obtain ⟨EN, hEN⟩ : ∃ x, x = encR acc := ⟨_, rfl⟩
      rw [← hRN, ← hEN] at hen
      have hRout : Hid (R = if riseN acc = 0 ∧ encB acc = bs then (acc, 0) else ([], 3)) := Lib.hid (by rw [hRV.out, hV0]; rfl)
      replace hRN := Lib.hid hRN
      replace hEN := Lib.hid hEN
      go_wp2_with fail
      refine (hen _ (Mod.refl _ _)).mono ?_
      rintro e w2 ⟨v2, rfl, o2, -, x2⟩
      have D2 := D.ext x2
      have b1 : w2.cell? ⟨g, 1, none⟩ = some (.bool false) := D2.r.blk.c1.2
      have y2 := run_conv (P := Try.prog) Try.underlying30 Try.underlying5 Try.underlying9 o2.sl
      have y3 := run_conv (P := Try.prog) Try.underlying30 Try.underlying5 Try.underlying9 (hy.ext D2.ex)
      by_cases h0 : RN = 0
      case neg =>
        have hb1 : ((RN : Int) != 0) = true := by rw [bne_iff_ne]; omega
        have hR3 := Lib.hid (hRout.out.trans (if_neg (fun h => h0 (hRN.out.trans h.1))))
        clear h0
        go_wp2_with fail
        go_ret2
        exact ⟨_, by rw [hR3.out]; rfl, by rw [hR3.out]; exact OwnR.nil _ _ _ _, fresh_nil _ _ _, D2.ex⟩
      have hb1 : ((RN : Int) != 0) = false := by rw [h0]; rfl
      by_cases hE : EN = bs
      case neg =>
        have hbe : (EN != bs) = true := by rw [bne_iff_ne]; exact hE
        have hbq : (EN == bs) = false := by rw [beq_eq_false_iff_ne]; exact hE
        have hR3 := Lib.hid (hRout.out.trans (if_neg (fun h => hE (by rw [hEN.out, encR_zero h.1]; exact h.2))))
        clear h0
        go_wp2_with fail
        go_ret2
        exact ⟨_, by rw [hR3.out]; rfl, by rw [hR3.out]; exact OwnR.nil _ _ _ _, fresh_nil _ _ _, D2.ex⟩
      have hbe : (EN != bs) = false := by rw [bne_eq_false_iff_eq]; exact hE
      have hbq : (EN == bs) = true := by rw [beq_iff_eq]; exact hE
      have hR3 := Lib.hid (hRout.out.trans (if_pos ⟨hRN.out.symm.trans h0, by rw [← encR_zero (hRN.out.symm.trans h0), ← hEN.out]; exact hE⟩))
      clear h0 hE
      go_wp2_with fail
      go_ret2
      exact ⟨_, by rw [hR3.out]; rfl, by rw [hR3.out]; exact D2.p, fun i hi => by have := D2.fr i hi; have := D2.lo; omega, D2.ex⟩
    have hpos : 0 < l.length := List.length_pos_iff.2 hl0
    have hb0 : decide ((0 : Int) < (l.length : Int)) = true := dtrue (by omega)
    rcases e1 : takeN (some l) with ⟨n, s1⟩
    rcases e2 : takeB s1 with ⟨rs, s2⟩
    rcases e3 : takeN s2 with ⟨q, s3⟩
    rcases e4 : takeN s3 with ⟨d, s4⟩
    rcases e5 : takeB s4 with ⟨vl, s5⟩
    have hpt := takeC_parts (a := prevC acc acc.length) e1 e2 e3 e4
    rw [e5] at hpt
    have z0 : l.length ≤ 2000 := by have := hf.out; omega
    have z1 : szO s1 ≤ l.length := by have := takeN_len (some l); rw [e1] at this; exact this
    have z2 : rs.length + szO s2 ≤ szO s1 := by have := takeB_sum s1; rw [e2] at this; exact this
    have z3 : szO s3 ≤ szO s2 := by have := takeN_len s2; rw [e3] at this; exact this
    have z4 : szO s4 ≤ szO s3 := by have := takeN_len s3; rw [e4] at this; exact this
    have z5 : vl.length + szO s5 ≤ szO s4 := by have := takeB_sum s4; rw [e5] at this; exact this
    have k1 := fun (wx : World) (v : Value) (r : Rr wx g T v (some l)) => rrnum_any r (by show l.length ≤ _; omega)
    have k2 := fun (wx : World) (v : Value) (r : Rr wx g T v s1) => rrbytes_any r (by show szO s1 ≤ _; omega)
    have k3 := fun (wx : World) (v : Value) (r : Rr wx g T v s2) => rrnum_any r (by show szO s2 ≤ _; omega)
    have k4 := fun (wx : World) (v : Value) (r : Rr wx g T v s3) => rrnum_any r (by show szO s3 ≤ _; omega)
    have k5 := fun (wx : World) (v : Value) (r : Rr wx g T v s4) => rrbytes_any r (by show szO s4 ≤ _; omega)
    simp only [e1] at k1
    simp only [e2] at k2
    simp only [e3] at k3
    simp only [e4] at k4
    simp only [e5] at k5
    replace hpt := Lib.hid hpt
    have hfl := hf.out
    obtain ⟨f, rfl⟩ : ∃ g, f = g + 1 := ⟨f - 1, by omega⟩
    have hVn : Hid (∀ c, takeC (prevC acc acc.length) (some l) = (c, none) → V = none) := Lib.hid fun c h => by rw [← hfl.2.1, rdecF_none hl0 h]
    have hVs : Hid (∀ c l', takeC (prevC acc acc.length) (some l) = (c, some l') → rdecF f c.key l' (acc ++ [c]) = V) := Lib.hid fun c l' h => by rw [← hfl.2.1, rdecF_step hl0 h]
    have hal : (prevC acc acc.length).length ≤ 2000 := by omega
    clear hfl e1 e2 e3 e4 e5
    go_wp2_with fail
    refine (k1 _ _ D.r).mono ?_
    rintro e w2 ⟨v2, rfl, r2, m2⟩
    have D2 := D.call r2 m2
    clear b0 b1 D m2 k1
    go_wp2_with fail
    refine (k2 _ _ D2.r).mono ?_
    rintro e w3 ⟨v3, vb, rfl, r3, ob, fb, m3⟩
    have D3 := D2.call r3 m3
    have yb3 := ob.sl
    have hvb : Hid (∀ k, own vb k → g < k ∧ k < w3.heap.size) := Lib.hid fun k hk => ⟨by have := fb k hk; have := r2.blk.lt; omega, ob.lt hk⟩
    clear D2 m3 k2 r2 ob fb
    go_wp2_with fail
    refine (k3 _ _ D3.r).mono ?_
    rintro e w4 ⟨v4, rfl, r4, m4⟩
    have D4 := D3.call r4 m4
    have yb4 := yb3.mod m4 (fun k _ hk hF => by have := (hvb.out k hk).1; omega)
    have sz4 := m4.size
    clear D3 m4 k3 r3 yb3
    have D5 := D4.ext ((Mod.refl (fun _ => False) w4).alloc (.cells #[sv [], sv [], .bool false, .int .i64 q] 23))
    have yb5 := yb4.ext ((Mod.refl (fun _ => False) w4).alloc (.cells #[sv [], sv [], .bool false, .int .i64 q] 23))
    have B5 : Blk (w4.alloc (.cells #[sv [], sv [], .bool false, .int .i64 q] 23)) w4.heap.size 23 #[sv [], sv [], .bool false, .int .i64 q] := Blk.new w4 _ _
    have hno : Hid (∀ k, own (.slice A5 acc.length c5) k → k < w4.heap.size) := Lib.hid fun k hk => D4.p.lt hk
    have hgl : Hid (g < w4.heap.size) := Lib.hid r4.blk.lt
    have hvb4 : Hid (∀ k, own vb k → g < k ∧ k < w4.heap.size) := Lib.hid fun k hk => ⟨(hvb.out k hk).1, by have := (hvb.out k hk).2; omega⟩
    clear hvb D4 yb4 sz4
    go_wp2_with fail
    refine (k4 _ _ D5.r).mono ?_
    rintro e w6 ⟨v6, rfl, r6, m6⟩
    have D6 := D5.call r6 m6
    have yb6 := yb5.mod m6 (fun k _ hk hF => by have := (hvb4.out k hk).1; omega)
    have B6 := B5.mod m6 (fun hF => by have := hgl.out; omega)
    clear D5 yb5 B5 m6 k4 r4
    generalize w4.heap.size = g8 at *
    have f2 := Blk.frozen B6 2
    have e2 : _ = some _ := Blk.cell B6 2
    obtain ⟨bd, hbd⟩ : ∃ bd, bd = decide (d = 1) := ⟨_, rfl⟩
    have hd1 : ((d : Int) == 1) = bd := by rw [hbd, Bool.eq_iff_iff, beq_iff_eq, decide_eq_true_eq]; omega
    obtain ⟨vv, hvv⟩ : ∃ vv, vv = if d = 0 then vl else [] := ⟨_, rfl⟩
    obtain ⟨s6, hs6⟩ : ∃ s6, s6 = if d = 0 then s5 else s4 := ⟨_, rfl⟩
    replace hbd := Lib.hid hbd
    replace hvv := Lib.hid hvv
    replace hs6 := Lib.hid hs6
    have hF : Hid (∀ k, k = g8 → g < k ∧ ¬ own (.slice A5 acc.length c5) k) := Lib.hid fun k hk => ⟨by rw [hk]; exact hgl.out, fun ho => by have := hno.out k ho; omega⟩
    have D7 := D6.mod (set1_mod w6 g8 2 (.bool bd)) hF.out
    have yb7 := yb6.mod (set1_mod w6 g8 2 (.bool bd)) (fun k _ hk hF => by have := (hvb4.out k hk).2; omega)
    have B7 : Blk (w6.setCell ⟨g8, 2, none⟩ (.bool bd)) g8 23 #[sv [], sv [], .bool bd, .int .i64 q] := B6.set_ 2 (.bool bd)
    clear D6 yb6 B6
    go_upto_if 42 with fail
    clear f2 e2
    go_cut [8] (fun s8 wx => s8 = .pointer (some ⟨g8, 0, none⟩) ∧ (∃ v8, Rk w g T wx v8 s6 (.slice A5 acc.length c5) acc) ∧ Blk wx g8 23 #[sv [], sv vv, .bool bd, .int .i64 q] ∧ Bs wx (own vb) vb rs)
    case first =>
      by_cases hd0 : d = 0
      · have hb : ((d : Int) == 0) = true := by rw [hd0]; rfl
        have hvv2 := Lib.hid (hvv.out.trans (if_pos hd0))
        have hs62 := Lib.hid (hs6.out.trans (if_pos hd0))
        clear hd0 hvv hs6
        go_wp2_with fail
        refine (k5 _ _ D7.r).mono ?_
        rintro e w8 ⟨v8, vc, rfl, r8, oc, -, m8⟩
        have D8 := D7.call r8 m8
        have B8 := B7.mod m8 (fun hF => by have := hgl.out; omega)
        have yb8 := yb7.mod m8 (fun k _ hk hF => by have := (hvb4.out k hk).1; omega)
        have hcv := run_conv (P := Try.prog) Try.underlying30 Try.underlying5 Try.underlying9 oc.sl
        have f1 := Blk.frozen B8 1
        have e1 : _ = some _ := Blk.cell B8 1
        clear D7 B7 yb7 k5 oc m8
        go_wp2_with fail
        (try go_meet)
        rw [hs62.out, hvv2.out]
        exact ⟨rfl, ⟨_, D8.mod (set1_mod w8 g8 1 (sv vl)) hF.out⟩, B8.set_ 1 (sv vl), yb8.mod (set1_mod w8 g8 1 (sv vl)) (fun k _ hk hF => by have := (hvb4.out k hk).2; omega)⟩
      · have hb : ((d : Int) == 0) = false := by rw [beq_eq_false_iff_ne]; omega
        have hvv2 := Lib.hid (hvv.out.trans (if_neg hd0))
        have hs62 := Lib.hid (hs6.out.trans (if_neg hd0))
        clear hd0 hvv hs6
        go_wp2_with fail
        (try go_meet)
        rw [hs62.out, hvv2.out]
        exact ⟨rfl, ⟨_, D7⟩, B7, yb7⟩
    case rest =>
      obtain ⟨rfl, ⟨v8, D8⟩, B8, yb8⟩ := hcut
      clear D7 B7 yb7 k5
      obtain ⟨last, hlast⟩ : ∃ last, last = prevC acc acc.length := ⟨_, rfl⟩
      rw [← hlast] at hpt hVn hVs hal
      replace hlast := Lib.hid hlast
      obtain ⟨A9, c9, hv9, -, -, -, h4⟩ := D8.p.rc.open_ cel_len
      injection hv9 with hv9 _ hv10
      subst hv9
      subst hv10
      go_upto_if 49 with fail
      go_cut [10] (fun s10 wx => s10 = sv last ∧ wx = wc)
      case first =>
        by_cases h0 : acc.length = 0
        · have hb : decide (0 < acc.length) = false := dfalse (by omega)
          have hl2 : Hid (last = []) := Lib.hid (by rw [hlast.out, h0]; rfl)
          have hz : ¬ 0 < acc.length := by omega
          clear h0
          go_wp2_with fail
          go_meet
          rw [hl2.out]
          exact ⟨rfl, rfl⟩
        · obtain ⟨m, hm⟩ : ∃ m, acc.length = m + 1 := ⟨acc.length - 1, by omega⟩
          obtain ⟨ad, hA, -, c0, c1, c2, c3⟩ := Cs.at_ h4 (i := m) (by omega)
          subst hA
          have hl2 : Hid (last = (acc[m]'(by omega)).key) := Lib.hid (by
            rw [hlast.out]
            unfold prevC
            rw [if_neg h0, show acc.length - 1 = m by omega, getD_c acc (k := m) (by omega)])
          have hi1 : (m : Int) < (acc.length : Int) := by omega
          have hi0 : (0 : Int) ≤ (m : Int) := by omega
          have hm2 : acc.length ≤ 2000 := by have := hf.out; omega
          have hz : 0 < acc.length := by omega
          have hi2 : (acc.length : Int) - 1 = (m : Int) := by omega
          generalize (acc[m]'(by omega)) = x at *
          clear hm h0
          go_wp2_with fail
          go_meet
          rw [hl2.out]
          exact ⟨rfl, rfl⟩
      case rest =>
        obtain ⟨rfl, rfl⟩ := hcut
        have hno3 : Hid (s6 = none ∨ last.length < n ∨ 1 < d → R = ([], 3)) := Lib.hid fun h => by
          have hx : ∃ c, takeC last (some l) = (c, none) := by
            rw [hpt.out]
            by_cases h1 : last.length < n
            · exact ⟨_, if_pos h1⟩
            · rw [if_neg h1]
              by_cases h2 : d = 1
              · have h6 := hs6.out
                rw [if_neg (by omega)] at h6
                rw [if_pos h2]
                rcases h with h | h | h
                · exact ⟨_, by rw [← h6, h]⟩
                · exact absurd h h1
                · omega
              · rw [if_neg h2]
                by_cases h3 : 1 < d
                · exact ⟨_, if_pos h3⟩
                · have h6 := hs6.out
                  rw [if_pos (by omega)] at h6
                  rw [if_neg h3]
                  rcases h with h | h | h
                  · exact ⟨_, by rw [← h6, h]⟩
                  · exact absurd h h1
                  · exact absurd h h3
          obtain ⟨c, hc⟩ := hx
          rw [hRV.out, hVn.out c hc]
          rfl
        have hzl := sv_size last
        cases s6 with
        | none =>
          have b1 : wc.cell? ⟨g, 1, none⟩ = some (.bool true) := D8.r.blk.c1.2
          have hR3 := Lib.hid (hno3.out (.inl rfl))
          go_wp2_with fail
          go_ret2
          exact ⟨_, by rw [hR3.out]; rfl, by rw [hR3.out]; exact OwnR.nil _ _ _ _, fresh_nil _ _ _, D8.ex⟩
        | some l' =>
          have b1 : wc.cell? ⟨g, 1, none⟩ = some (.bool false) := D8.r.blk.c1.2
          by_cases hfar : last.length < n
          case pos =>
            have hb : decide (last.length < n) = true := dtrue hfar
            have hb' : decide ((last.length : Int) < (n : Int)) = true := dtrue (by omega)
            have hf1 : ¬ n ≤ last.length := by omega
            have hR3 := Lib.hid (hno3.out (.inr (.inl hfar)))
            clear hfar
            go_wp2_with fail
            go_ret2
            exact ⟨_, by rw [hR3.out]; rfl, by rw [hR3.out]; exact OwnR.nil _ _ _ _, fresh_nil _ _ _, D8.ex⟩
          have hb : decide (last.length < n) = false := dfalse hfar
          have hb' : decide ((last.length : Int) < (n : Int)) = false := dfalse (by omega)
          have hf1 : n ≤ last.length := by omega
          by_cases hgt : 1 < d
          case pos =>
            have hb2 : decide (1 < d) = true := dtrue hgt
            have hb2' : decide ((1 : Int) < (d : Int)) = true := dtrue (by omega)
            have hf2 : ¬ (d : Int) ≤ 1 := by omega
            have hR3 := Lib.hid (hno3.out (.inr (.inr hgt)))
            go_wp2_with fail
            go_ret2
            exact ⟨_, by rw [hR3.out]; rfl, by rw [hR3.out]; exact OwnR.nil _ _ _ _, fresh_nil _ _ _, D8.ex⟩
          have hb2 : decide (1 < d) = false := dfalse hgt
          have hb2' : decide ((1 : Int) < (d : Int)) = false := dfalse (by omega)
          have hf2 : (d : Int) ≤ 1 := by omega
          have htc : Hid (takeC last (some l) = (⟨last.take n ++ rs, vv, bd, (q : Nat)⟩, some l')) := Lib.hid (by
            rw [hpt.out, if_neg hfar]
            by_cases h2 : d = 1
            · have h6 := hs6.out
              rw [if_neg (by omega)] at h6
              have hv := hvv.out
              rw [if_neg (by omega)] at hv
              rw [if_pos h2, hv, hbd.out, decide_eq_true h2, ← h6]
            · have h6 := hs6.out
              rw [if_pos (by omega)] at h6
              have hv := hvv.out
              rw [if_pos (by omega)] at hv
              rw [if_neg h2, if_neg hgt, hv, hbd.out, decide_eq_false h2, ← h6])
          have hlt := takeC_lt htc.out
          have hz6 : l'.length ≤ szO s4 := by
            have h6 := hs6.out
            have e : l'.length = szO (some l') := rfl
            rw [e, h6]
            split <;> omega
          have hzv : vv.length ≤ 2000 := by
            rw [hvv.out]
            split
            · omega
            · exact Nat.zero_le _
          have hV2 := Lib.hid (hVs.out _ _ htc.out)
          have hn0 : (0 : Int) ≤ (n : Int) := by omega
          have hn1 : (n : Int) ≤ (last.length : Int) := by omega
          have hxt := ext_head last n
          have hhl : (last.take n).length ≤ last.length := by rw [List.length_take]; omega
          replace hno3 := hno3
          clear hno3 htc hVn hVs hpt hfar
          generalize last.take n = hd at *
          have hcat := cat_data hd rs
          have hzh := sv_size hd
          have hzr := sv_size rs
          have hcc : ¬ 9223372036854775807 < hd.length + rs.length := by omega
          have D9 := (D8.mod (set1_mod wc g8 0 (sv (hd ++ rs))) hF.out).ext ((Mod.refl (fun _ => False) _).drew)
          have B9 : Blk (wc.setCell ⟨g8, 0, none⟩ (sv (hd ++ rs))) g8 23 (car ⟨hd ++ rs, vv, bd, (q : Nat)⟩) := Blk.set_ B8 0 (sv (hd ++ rs))
          have yb9 := (yb8.ext ((Mod.refl (fun _ => False) wc).drew)).mod (set1_mod wc.drew g8 0 (sv (hd ++ rs))) (fun k _ hk hF => by have := (hvb4.out k hk).2; omega)
          have hcv := run_conv (P := Try.prog) Try.underlying30 Try.underlying5 Try.underlying9 (yb8.ext ((Mod.refl (fun _ => False) wc).drew))
          have hcv9 := run_conv (P := Try.prog) Try.underlying30 Try.underlying5 Try.underlying9 yb9
          have f0 : wc.drew.frozen? ⟨g8, 0, none⟩ = false := Blk.frozen (w := wc.drew) B8 0
          have e0 : wc.drew.cell? ⟨g8, 0, none⟩ = some (sv []) := Blk.cell (w := wc.drew) B8 0
          go_wp2_with fail
          go_region_held3 (fun w' => (convert 30 9 vb).run Try.prog w' = .ok (sv rs) w') (first | exact hcv | exact hcv9) (fail)
          obtain ⟨wn, hwn⟩ : ∃ wn, wn = (wc.setCell ⟨g8, 0, none⟩ (sv (hd ++ rs))).drew := ⟨_, rfl⟩
          rw [← hwn] at D9
          have B9 : Blk wn g8 23 (car ⟨hd ++ rs, vv, bd, (q : Nat)⟩) := by rw [hwn]; exact B9
          rw [← hwn]
          replace hwn := Lib.hid hwn
          have e0' : _ = some (sv (hd ++ rs)) := Blk.cell B9 0
          have e1' : _ = some (sv vv) := Blk.cell B9 1
          have e2' : _ = some (Value.bool bd) := Blk.cell B9 2
          have e3' : _ = some (Value.int .i64 (q : Nat)) := Blk.cell B9 3
          have hn1 := Lib.hid (show (acc.length + 1) * 48 ≤ 140737488355328 by have := hf.out; omega)
          clear hcv hcv9 hcat hcc f0 e0 yb9
          go_wp2_with ((with_reducible show wpList _ _ _ (⟨some 81, _, _, _, _, _⟩ :: _) _ _); refine wp_appR (x := (⟨hd ++ rs, vv, bd, (q : Nat)⟩ : Ce)) tyC cel_len D9.p rfl (cel_ok _) hn1.out rfl (.tmp 78) (.tmp 80) rfl rfl rfl ?_; intro v10 w10 k1 k2 k3)
          have D10 := D9.app k1 k2 k3
          have hff := hf.out
          have hlst := hlast.out
          refine ⟨⟨l', acc ++ [⟨hd ++ rs, vv, bd, (q : Nat)⟩], f, v8, v10, rfl, D10, Lib.hid ⟨?_, ?_, ?_, ?_, ?_⟩⟩, ?_⟩
          · omega
          · rw [prevC_snoc]; exact hV2.out
          · rw [prevC_snoc]
            show (hd ++ rs).length + l'.length ≤ bs.length
            rw [← hlst] at hff
            rw [List.length_append]
            omega
          · rw [List.length_append, List.length_singleton]; omega
          · rw [wC_append, List.length_append, List.length_singleton]
            have : wC [(⟨hd ++ rs, vv, bd, (q : Nat)⟩ : Ce)] = 1 + (hd ++ rs).length + vv.length := by unfold wC; simp
            rw [← hlst] at hff
            rw [this, List.length_append]
            omega
          · rw [D10.r.rlen, hat]
            exact hlt
end Go.Proofs.Ytlfooppmdgddkaa
