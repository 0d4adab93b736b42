/- index: the law IndexKeys. -/
import Derived.Test.YtacmbomnjedbeaaIkI
namespace Go.Proofs.Ytacmbomnjedbeaa
open Go.RowKit
set_option maxRecDepth 100000

set_option maxHeartbeats 16000000 in
theorem lkeys_any {w : World} {vd va : Value} {E : Ent} (hd : As w AllE vd E.dn) (ha : Ats w va E.ats) (hF : EFits E) (hwT : wE E ≤ 4611686018427387904) :
    Calls Try.prog 3 #[.agg #[vd, va]] w fun e w' => e = .returned (.bool true) ∧ Ext w w' := by
  obtain ⟨A, c, hva, -⟩ := ha.open_
  obtain ⟨A0, c0, hvd⟩ := Rc.shape hd
  obtain ⟨n1, hn1⟩ : ∃ n, n = E.ats.length := ⟨_, rfl⟩
  obtain ⟨n0, hn0⟩ : ∃ n, n = E.dn.length := ⟨_, rfl⟩
  rw [← hn1] at hva
  rw [← hn0] at hvd
  subst hva
  subst hvd
  obtain ⟨w2, hw2⟩ : ∃ x, x = w.alloc (.cells #[.slice A0 n0 c0, .slice A n1 c] 25) := ⟨_, rfl⟩
  obtain ⟨p, hp⟩ : ∃ p, p = w.heap.size := ⟨_, rfl⟩
  have x2 : Ext w w2 := by rw [hw2]; exact (Mod.refl _ w).alloc _
  have BP : Blk w2 p 25 #[.slice A0 n0 c0, .slice A n1 c] := by rw [hw2, hp]; exact Blk.new w _ _
  have hcc : ∀ {wx : World}, Ext w2 wx → wx.cell? ⟨p, 0, none⟩ = some (.slice A0 n0 c0) ∧ wx.cell? ⟨p, 1, none⟩ = some (.slice A n1 c) := fun x => ⟨(BP.mod x (fun h => h)).cell 0, (BP.mod x (fun h => h)).cell 1⟩
  obtain ⟨p0, p1⟩ := hcc (Mod.refl _ w2)
  obtain ⟨w3, hw3⟩ : ∃ x, x = w2.alloc (.cells #[.slice A0 n0 c0, .slice A n1 c] 25) := ⟨_, rfl⟩
  obtain ⟨g, hg⟩ : ∃ p, p = w2.heap.size := ⟨_, rfl⟩
  have x3 : Ext w2 w3 := by rw [hw3]; exact (Mod.refl _ w2).alloc _
  have y3 := ext_trans x2 x3
  have hE : Ents w3 (.slice (some ⟨g, 0, none⟩) 1 1) [E] := by
    refine ⟨[(.slice A0 n0 c0, .slice A n1 c)], ?_, rfl, fun k x e' hx he => ?_⟩
    · have h := Rc.lit (f := enc2) (k := 2) w2 25 [((.slice A0 n0 c0, .slice A n1 c) : EnV)] rfl (by simp [maxLen]) (by simp [maxLen])
      rw [hw3, hg]
      exact h
    · match k, hx, he with
      | 0, hx, he =>
        simp at hx he
        subst hx; subst he
        exact ⟨hd.ext y3, ha.ext y3⟩
      | k + 1, hx, he => simp at hx
  have hgr := great20_any hE (by simp) (fun x hx => by rw [List.mem_singleton.1 hx]; exact hF)
  have hT : sumF wE [E] = wE E := by simp [sumF]
  rw [hT] at hgr
  have hax := fun {wx : World} (x : Ext w2 wx) => And.intro (hd.ext (ext_trans x2 x)) (ha.ext (ext_trans x2 x))
  replace hw2 := Lib.hid hw2
  replace hp := Lib.hid hp
  replace hw3 := Lib.hid hw3
  replace hg := Lib.hid hg
  replace hn1 := Lib.hid hn1
  replace hn0 := Lib.hid hn0
  clear hd ha hE hT y3 BP hF
  go_enter Try.func3, Try.ntmps3
  go_upto_region 1 with fail
  rw [← hw2.out, ← hp.out]
  clear hw2 hp
  go_wp2_with fail
  rw [← hw3.out, ← hg.out]
  refine hgr.mono ?_
  rintro e' w4 ⟨⟨r, rfl, hr⟩, x4⟩
  have y4 := ext_trans x3 x4
  clear hgr hw3 hg x3 x4 p0 p1
  cases r
  case true =>
    clear hr
    go_wp2_with fail
    go_ret
    exact ⟨rfl, ext_trans x2 y4⟩
  have hT4 : wE E ≤ 4000 := by
    have h := hr hwT
    exact Nat.le_of_not_lt (of_decide_eq_false h.symm)
  clear hr hwT
  have h4 := fun {wx : World} (x : Ext w2 wx) => keysI_any sortedK_holds (w := wx) (hax x).1 (hax x).2 (by omega)
  have h5 := fun {wx : World} (x : Ext w2 wx) => rkeysI_any (w := wx) (hax x).1 (hax x).2 (by omega)
  have hkn := fun wx : World => known21_holds wx
  go_upto_region 3 with fail
  have z0 : Ext w2 w4.drew := y4.drew
  go_region_held3 (fun wx => wx.cell? ⟨p, 0, none⟩ = some (.slice A0 n0 c0) ∧ wx.cell? ⟨p, 1, none⟩ = some (.slice A n1 c)) (first | exact hcc z0 | exact hcc z1 | exact hcc z2 | exact hcc z3 | exact hcc z4) (first
    | (go_at_call 9; (with_reducible refine (h4 z0).mono ?_); rintro e7 w7 ⟨u7, G7, rfl, o7, f7, r7, m7, x7⟩; have z1 := ext_trans z0 x7)
    | (go_at_call 10; (with_reducible refine (h5 z1).mono ?_); rintro e8 w8 ⟨u8, rfl, G8, o8, r8, m8, x8⟩; have z2 := ext_trans z1 x8; have he := riseT_ext r7 r8 (fun x => (m7 x).trans (m8 x).symm); have ht := texts21_any (o7.mod x8 (fun _ _ h => h)).sl o8; rw [decide_eq_true he] at ht)
    | (go_at_call 8; (with_reducible refine ht.mono ?_); rintro e9 w9 ⟨rfl, x9⟩; have z3 := ext_trans z2 x9)
    | (go_at_call 11; (with_reducible refine (hkn _).mono ?_); rintro e17 w17 ⟨rfl, x17⟩; have z4 := ext_trans z3 x17))
  go_wp2_with fail
  go_ret
  exact ⟨rfl, ext_trans x2 z4⟩
end Go.Proofs.Ytacmbomnjedbeaa
