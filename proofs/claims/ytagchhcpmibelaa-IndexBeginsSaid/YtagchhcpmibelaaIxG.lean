/- index: Diff. -/
import Derived.Test.YtagchhcpmibelaaIxF
import Derived.Test.YtagchhcpmibelaaIxD
namespace Go.Proofs.Ytagchhcpmibelaa
open Go.RowKit Go.Maps
set_option maxRecDepth 100000

theorem gap (L : List Ro) (n : Nat) (h : L.length ≤ n) (hn : n ≤ 100000) : (L.length + 1) * 40 ≤ 140737488355328 := by omega

/-- What slices.SortFunc does to no rows. -/
def SortN : Prop := ∀ w : World, Calls Try.prog 75 #[.slice none 0 0, .func (.func 76) #[] #[]] w fun e w' => e = .returned (.tuple #[]) ∧ Ext w w'

set_option maxHeartbeats 32000000 in
theorem diff_any (hsort : SortW) (hnil : SortN) {w : World} {S S' : Nat → Prop} {v v' : Value} {a b : Tx} (ha : Ts w S v a) (hb : Ts w S' v' b) (fa : TFits a) (fb : TFits b) (la : a.length ≤ 1000) (lb : b.length ≤ 1000) :
    Calls Try.prog 43 #[v, v'] w fun e w' => ∃ u D, e = .returned u ∧ OwnW w' u D ∧ Fresh w.heap.size u ∧ IsDif a b D ∧ Ext w w' := by
  have hc1 := setOf_any ha fa (by omega)
  have hc2 := fun (wx : World) (x : Ext w wx) => setOf_any (Sl.mod hb x (fun _ _ _ h => h)) fb (by omega)
  replace fa := Lib.hid fa
  replace fb := Lib.hid fb
  go_enter Try.func43, Try.ntmps43
  go_wp2_with fail
  refine hc1.mono ?_
  rintro e w1 ⟨b1, DA, rfl, hb1, M1, s1, x1⟩
  have hc3 := hc2 w1 x1
  clear hc1 hc2
  go_wp2_with fail
  refine hc3.mono ?_
  rintro e w2 ⟨b2, DB, rfl, hb2, M2, s2, x2⟩
  have M1' := ownsMap_mod M1 x2 (fun h => h)
  have y2 := ext_trans x1 x2
  have h12 : b1 ≠ b2 := fun h => by have := M1.lt; omega
  replace s1 := Lib.hid s1
  replace s2 := Lib.hid s2
  clear M1 x1 x2 hc3
  go_wp2_with (first
    | (at_range; refine wpList_range_own _ rfl _ 101 rfl 9 99 keyS Try.underlying101 _ b1 a.length _ rfl M1' ?_; intro w3 hrg0 hg0 hs0))
  go_frame
  have x3 : Ext w2 w3 := Mod.of_grown hg0 (fun k e => by cases e)
  have y3 := ext_trans y2 x3
  have M23 := ownsMap_mod M2 x3 (fun h => h)
  have hsz := M1'.size_le
  have hr1 : w.heap.size ≤ w2.heap.size := y2.size
  clear M1' M2 x3 y2 hg0 hs0
  obtain ⟨r1, hr⟩ : ∃ r1, r1 = w2.heap.size := ⟨_, rfl⟩
  rw [← hr] at hrg0 hr1 ⊢
  clear hr
  go_loopw [7] (fun u wr => ∃ left cnt os, wr.ranges Try.prog 9 unitElem b1 r1 a.length DA left cnt ∧ SetU wr b2 b.length DB ∧ OwnW wr u os ∧ Fresh w.heap.size u ∧ os.length + cnt ≤ a.length ∧ Hid (Gat goneR a b left os) ∧ Ext w wr) (fun _ wr => wr.rangeLeft b1 r1)
  case atStart => exact ⟨_, _, [], hrg0, M23, OwnR.nil rol 3 _ 66, fresh_nil _ _ _, by simpa using hsz, Lib.hid (Gat.start s1.out), y3⟩
  case round =>
    clear hrg0 M23 y3
    obtain ⟨left, cnt, os, hrg, hM, ho, hf, hlen, hg, hx⟩ := hrel
    go_wp2_with (first
      | (at_next; refine wpList_next_ranges _ rfl _ rfl 9 keyS unitElem sv (fun _ : Unit => .agg #[]) invS invU b1 r1 a.length _ _ _ rfl hrg ?_ ?_))
    · intro hc0 hl0
      have hall := Lib.hid (hg.out.all hl0)
      have M1 := hrg.owns
      have hlo : os.length ≤ a.length := by omega
      clear hg hrg hc0 hl0 hlen hsz
      go_wp2_with (first
        | (at_range; refine wpList_range_own _ rfl _ 101 rfl 9 99 keyS Try.underlying101 _ b2 b.length _ rfl hM ?_; intro w3 hrg0 hg0 hs0))
      go_frame
      have x3 : Ext wr w3 := Mod.of_grown hg0 (fun k e => by cases e)
      have y3 := ext_trans hx x3
      have M13 := ownsMap_mod M1 x3 (fun h => h)
      have o3 := ho.ext x3
      have hsz := hM.size_le
      have hr2 : w.heap.size ≤ wr.heap.size := hx.size
      clear hM M1 ho x3 hx hg0 hs0
      obtain ⟨r2, hr⟩ : ∃ r2, r2 = wr.heap.size := ⟨_, rfl⟩
      rw [← hr] at hrg0 hr2 ⊢
      clear hr left cnt
      go_loopw [7] (fun u wr => ∃ left cnt os2, wr.ranges Try.prog 9 unitElem b2 r2 b.length DB left cnt ∧ SetU wr b1 a.length DA ∧ OwnW wr u (os ++ os2) ∧ Fresh w.heap.size u ∧ os2.length + cnt ≤ b.length ∧ Hid (Gat newR b a left os2) ∧ Ext w wr) (fun _ wr => wr.rangeLeft b2 r2)
      case atStart => exact ⟨_, _, [], hrg0, M13, by rw [List.append_nil]; exact o3, hf, by simpa using hsz, Lib.hid (Gat.start s2.out), y3⟩
      case round =>
        clear hrg0 M13 y3 o3 hf hr1 hsz
        obtain ⟨left, cnt, os2, hrg, hM, ho, hf, hlen, hg, hx⟩ := hrel
        go_wp2_with (first
          | (at_next; refine wpList_next_ranges _ rfl _ rfl 9 keyS unitElem sv (fun _ : Unit => .agg #[]) invS invU b2 r2 b.length _ _ _ rfl hrg ?_ ?_))
        · intro hc0 hl0
          have hall2 := Lib.hid (hg.out.all hl0)
          have hlt : (os ++ os2).length ≤ 100000 := by rw [List.length_append]; omega
          have hdif : ∀ D : List Ro, D.Perm (os ++ os2) → (D.Pairwise fun x y => Op.bytesLess y.key x.key = false) → IsDif a b D := fun D hp hs => dif_of hall.out hall2.out hp hs
          clear hg hrg hc0 hl0 hlen hM hall hall2
          generalize os ++ os2 = O at *
          replace hdif := Lib.hid hdif
          rcases OwnK.form ho with ⟨hv, h0⟩ | ⟨g, cp, hv, hg, _, _⟩
          · have hn : O = [] := List.eq_nil_of_length_eq_zero h0
            subst hv
            have hd : IsDif a b [] := hdif.out [] (by rw [hn]) List.Pairwise.nil
            clear hn h0 hdif hlt ho
            replace hd := Lib.hid hd
            have hc := hnil wr
            go_wp2_with fail
            refine hc.mono ?_
            rintro e w5 ⟨rfl, x5⟩
            go_wp2_with fail
            go_ret
            exact ⟨_, [], rfl, OwnR.nil rol 3 _ 66, fresh_nil _ _ _, hd.out, ext_trans hx x5⟩
          · subst hv
            have hc := hsort ho hlt
            go_wp2_with fail
            refine hc.mono ?_
            rintro e w5 ⟨rfl, L', hp, hs, o5, m5⟩
            have hd := Lib.hid (hdif.out _ hp hs)
            have x5 : Ext w w5 := hx.trans m5 (fun _ _ h => h) (fun k hk h => by subst h; have := hf k rfl; omega)
            go_wp2_with fail
            go_ret
            exact ⟨_, L', rfl, o5, hf, hd.out, x5⟩
        · intro x c kl yd w4 cnt2 hkey hlk hv hat hrg2 hlt hg2 hs2 hen
          obtain ⟨rfl, hkl⟩ := keyIs hkey
          have hxa : x ∈ b := left_in s2.out hat
          have x4 : Mod (fun k => k = r2) wr w4 := Mod.of_grown hg2 (fun k e => by injection e with e; exact e.symm)
          have y4 : Ext w w4 := hx.trans x4 (fun _ _ h => h) (fun k hk h => by omega)
          have M4 := ownsMap_mod hM x4 (map_ne_iter hM hrg)
          have o4 := OwnR.mod ho x4 (fun k hk h => by subst h; exact own_ne_iter ho hrg hk)
          have hhas := s1.out.2 x
          have hml := hrg.left_eq
          clear hg2 hs2 hrg hM ho hx x4 hv hat
          obtain ⟨q, hq⟩ : ∃ q, q = decide (x ∈ a) := ⟨_, rfl⟩
          rw [← hq] at hhas
          replace hq := Lib.hid hq
          obtain ⟨w5, hw5⟩ : ∃ w5, w5 = w4.alloc (.cells #[] 99) := ⟨_, rfl⟩
          have x5 : Ext w4 w5 := by rw [hw5]; exact (Mod.refl _ w4).alloc _
          replace hw5 := Lib.hid hw5
          go_upto_region 13 with (at_lookup; refine wpList_lookup_own_unit _ rfl _ _ 101 rfl 9 99 keyS Try.underlying101 (zeroU _) b1 a.length _ rfl M4 _ _ rfl hkey ?_; rw [hhas])
          rw [← hw5.out]
          have y5 := ext_trans y4 x5
          have hrg5 := ranges_mod hrg2 x5 (fun h => h) (fun h => h)
          have M5 := ownsMap_mod M4 x5 (fun h => h)
          have o5 := o4.ext x5
          clear y4 x5 hrg2 M4 o4 hen hkey hhas
          cases q
          case true =>
            have hxb : x ∈ a := by simpa using hq.out.symm
            have hgn := Lib.hid (hg.out.stay hxb)
            go_wp2_with fail
            exact ⟨⟨_, cnt2, os2, hrg5, M5, o5, hf, by omega, hgn, y5⟩, by rw [hrg5.left_eq, hml]; exact hlt⟩
          have hxb : ¬ x ∈ a := by simpa using hq.out.symm
          have hgn := Lib.hid (hg.out.more new_inj hxa hlk hxb)
          go_wp2_with ((with_reducible show wpList _ _ _ (⟨some 55, _, _, _, _, _⟩ :: _) _ _); refine wp_appR tyW rol_len (x := newR x) o5 rfl (rol_ok _) (gap _ (a.length + b.length) (by rw [List.length_append]; omega) (by omega)) rfl _ _ rfl rfl rfl ?_; intro v6 w6 o6 m6 n6)
          have hrg6 := ranges_mod hrg5 m6 (gone_ne o5 hrg5.owns) (own_ne_iter o5 hrg5)
          have M6 := ownsMap_mod M5 m6 (gone_ne o5 M5)
          exact ⟨⟨_, cnt2, _, hrg6, M6, by rw [← List.append_assoc]; exact o6, n6.fresh hf y5.size, by simp only [List.length_append, List.length_cons, List.length_nil]; omega, hgn, ext_app0 y5 hf m6⟩, by rw [hrg6.left_eq, hml]; exact hlt⟩
    · intro x c kl yd w4 cnt2 hkey hlk hv hat hrg2 hlt hg2 hs2 hen
      obtain ⟨rfl, hkl⟩ := keyIs hkey
      have hxa : x ∈ a := left_in s1.out hat
      have x4 : Mod (fun k => k = r1) wr w4 := Mod.of_grown hg2 (fun k e => by injection e with e; exact e.symm)
      have y4 : Ext w w4 := hx.trans x4 (fun _ _ h => h) (fun k hk h => by omega)
      have M4 := ownsMap_mod hM x4 (map_ne_iter hM hrg)
      have o4 := OwnR.mod ho x4 (fun k hk h => by subst h; exact own_ne_iter ho hrg hk)
      have hhas := s2.out.2 x
      have hml := hrg.left_eq
      clear hg2 hs2 hrg hM ho hx x4 hv hat
      obtain ⟨q, hq⟩ : ∃ q, q = decide (x ∈ b) := ⟨_, rfl⟩
      rw [← hq] at hhas
      replace hq := Lib.hid hq
      obtain ⟨w5, hw5⟩ : ∃ w5, w5 = w4.alloc (.cells #[] 99) := ⟨_, rfl⟩
      have x5 : Ext w4 w5 := by rw [hw5]; exact (Mod.refl _ w4).alloc _
      replace hw5 := Lib.hid hw5
      go_upto_region 7 with (at_lookup; refine wpList_lookup_own_unit _ rfl _ _ 101 rfl 9 99 keyS Try.underlying101 (zeroU _) b2 b.length _ rfl M4 _ _ rfl hkey ?_; rw [hhas])
      rw [← hw5.out]
      have y5 := ext_trans y4 x5
      have hrg5 := ranges_mod hrg2 x5 (fun h => h) (fun h => h)
      have M5 := ownsMap_mod M4 x5 (fun h => h)
      have o5 := o4.ext x5
      clear y4 x5 hrg2 M4 o4 hen hkey hhas
      cases q
      case true =>
        have hxb : x ∈ b := by simpa using hq.out.symm
        have hgn := Lib.hid (hg.out.stay hxb)
        go_wp2_with fail
        exact ⟨⟨_, cnt2, os, hrg5, M5, o5, hf, by omega, hgn, y5⟩, by rw [hrg5.left_eq, hml]; exact hlt⟩
      have hxb : ¬ x ∈ b := by simpa using hq.out.symm
      have hgn := Lib.hid (hg.out.more gone_inj hxa hlk hxb)
      go_wp2_with ((with_reducible show wpList _ _ _ (⟨some 36, _, _, _, _, _⟩ :: _) _ _); refine wp_appR tyW rol_len (x := goneR x) o5 rfl (rol_ok _) (gap _ (a.length + b.length) (by omega) (by omega)) rfl _ _ rfl rfl rfl ?_; intro v6 w6 o6 m6 n6)
      have hrg6 := ranges_mod hrg5 m6 (gone_ne o5 hrg5.owns) (own_ne_iter o5 hrg5)
      have M6 := ownsMap_mod M5 m6 (gone_ne o5 M5)
      exact ⟨⟨_, cnt2, _, hrg6, M6, o6, n6.fresh hf y5.size, by simp only [List.length_append, List.length_cons, List.length_nil]; omega, hgn, ext_app0 y5 hf m6⟩, by rw [hrg6.left_eq, hml]; exact hlt⟩
end Go.Proofs.Ytagchhcpmibelaa
