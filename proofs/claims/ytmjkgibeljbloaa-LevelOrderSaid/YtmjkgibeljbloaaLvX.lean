/- level: the files that may have a key. -/
import Derived.Test.YtmjkgibeljbloaaLvV
namespace Go.Proofs.Ytmjkgibeljbloaa
open Go.RowKit
set_option maxRecDepth 100000

def nzF (c : Fl) : Bool := !decide (c.lev = 0)
/-- The files of levels behind 0 that have a key. -/
def ordN (L : List Fl) (key : Tt) : List Fl := (L.filter (inR key key)).filter nzF
/-- P11.2: the files that may have a key, in the order in which they are asked. -/
def ordF (L : List Fl) (key : Tt) : List Fl := (L.filter (inL 0 key key)).reverse ++ ordN L key

theorem ownF_sh {w : World} {v : Value} {L : List Fl} (h : OwnF w v L) : ∃ A c, v = .slice A L.length c := OwnK.shape h
set_option maxHeartbeats 64000000 in
theorem order_any {w : World} {S : Nat → Prop} {v : Value} {n : Int} {L : List Fl} {key : Tt} (h : Fs w S v L) (hl : L.length ≤ 100000) (hu : upL (ordN L key)) (hs : (ordN L key).length ≤ 19) :
    Calls Try.prog 25 #[.agg #[.int .i64 n, v], sv key] w fun e w' => ∃ v', e = .returned v' ∧ OwnF w' v' (ordF L key) ∧ Ext w w' := by
  obtain ⟨A, c, rfl⟩ := h.shape
  have B0 : Blk (w.alloc (.cells #[.int .i64 n, .slice A L.length c] 24)) w.heap.size 24 #[.int .i64 n, .slice A L.length c] := Blk.new w _ _
  have hB : Ext w (w.alloc (.cells #[.int .i64 n, .slice A L.length c] 24)) := (Mod.refl _ w).alloc _
  obtain ⟨w0, hw0⟩ : ∃ w0, w0 = w.alloc (.cells #[.int .i64 n, .slice A L.length c] 24) := ⟨_, rfl⟩
  rw [← hw0] at B0 hB
  replace hw0 := Lib.hid hw0
  have b0 : w0.cell? ⟨w.heap.size, 0, none⟩ = some (.int .i64 n) := B0.cell 0
  have b1 : w0.cell? ⟨w.heap.size, 1, none⟩ = some (.slice A L.length c) := B0.cell 1
  have hOv := Over_any (n := 0) (nx := n) (lo := key) (hi := key) (h.ext hB) (by omega)
  have hov := fun {wx : World} (x : Ext w0 wx) => over_any (lo := key) (hi := key) ((h.ext hB).ext x) (by omega)
  obtain ⟨Z, hZ⟩ : ∃ Z, Z = L.filter (inL 0 key key) := ⟨_, rfl⟩
  obtain ⟨Q, hQ⟩ : ∃ Q, Q = L.filter (inR key key) := ⟨_, rfl⟩
  have hN : ordN L key = Q.filter nzF := by unfold ordN; rw [← hQ]
  have hF : Hid (ordF L key = Z.reverse ++ Q.filter nzF) := Lib.hid (by unfold ordF; rw [← hZ, hN])
  have hzl : Z.length ≤ 100000 := by rw [hZ]; exact Nat.le_trans (List.length_filter_le _ _) hl
  have hql : Q.length ≤ 100000 := by rw [hQ]; exact Nat.le_trans (List.length_filter_le _ _) hl
  rw [← hZ] at hOv
  rw [← hQ] at hov
  rw [hN] at hu hs
  clear hZ hQ hN h
  go_enter Try.func25, Try.ntmps25
  go_upto_region 1 with fail
  rw [← hw0.out]
  clear hw0
  go_wp2_with fail
  refine hOv.mono ?_
  rintro e w1 ⟨v1, rfl, o1, f1, x1⟩
  clear hOv b0 b1
  obtain ⟨A1, c1, rfl⟩ := ownF_sh o1
  go_wp2_with fail
  refine (reverse_any o1 (by omega)).mono ?_
  rintro e w2 ⟨rfl, o2, m2⟩
  have x2 : Ext w0 w2 := x1.trans m2 (fun _ _ h => h) (fun k hk h => by have := f1 k h; omega)
  have b1 : w2.cell? ⟨w.heap.size, 1, none⟩ = some (.slice A L.length c) := ext_cell x2 (B0.cell 1)
  have hrl : Z.reverse.length = Z.length := List.length_reverse
  replace hrl := Lib.hid hrl
  clear o1 x1 m2
  go_wp2_with fail
  refine (hov x2).mono ?_
  rintro e w3 ⟨v3, rfl, o3, f3, x3⟩
  obtain ⟨A3, c3, rfl⟩ := ownF_sh o3
  have ap3 : ∀ k, own (.slice A3 Q.length c3) k → ¬ own (.slice A1 Z.length c1) k := fun k hk h => by have := f3 k hk; have := o2.lt h; omega
  have o23 := OwnR.ext o2 x3
  have y3 := ext_trans x2 x3
  obtain ⟨V, hV⟩ : ∃ V, V = Z.reverse := ⟨_, rfl⟩
  rw [← hV] at o23 hrl hF
  clear hV hov o2 x2 x3 b1 B0 f3
  go_wp2_with fail
  go_loopw [5, 23] (fun s i wr => ∃ (k : Nat), k ≤ Q.length ∧ i = .int .i64 k ∧ OwnF wr s (V ++ (Q.take k).filter nzF) ∧ OwnF wr (.slice A3 Q.length c3) Q ∧ (∀ k, own (.slice A3 Q.length c3) k → ¬ own s k) ∧ Fresh w0.heap.size s ∧ Ext w0 wr) (fun _ i _ => Q.length - (intOf i).toNat)
  case atStart => exact ⟨0, Nat.zero_le _, rfl, by rw [List.take_zero, List.filter_nil, List.append_nil]; exact o23, o3, ap3, f1, y3⟩
  case round =>
    clear o23 o3 ap3 f1 y3
    obtain ⟨k, hk, rfl, o1, o3, ap, fr, hx⟩ := hrel
    obtain ⟨A', c', e', h1, h2, h3, h4⟩ := (OwnR.rc o3).open_ fic_len
    injection e' with e1 _ e3
    subst e1; subst e3
    by_cases hlt : k < Q.length
    case neg =>
      have hbl : decide ((k : Int) < (Q.length : Int)) = false := dfalse (by omega)
      have hE : Q.take k = Q := List.take_of_length_le (by omega)
      rw [hE] at o1
      obtain ⟨As, cs, hsv⟩ := ownF_sh o1
      obtain ⟨T, hT⟩ : ∃ T, T = V ++ Q.filter nzF := ⟨_, rfl⟩
      rw [← hT] at o1 hsv hF
      have hTl : T.length = Z.length + (Q.filter nzF).length := by rw [hT, List.length_append, hrl.out]
      have hdr : T.drop Z.length = Q.filter nzF := by rw [hT, ← hrl.out]; simp
      have hle : Z.length ≤ T.length := by omega
      subst hsv
      obtain ⟨_, _, e9, j1, j2, j3, -⟩ := (OwnR.rc o1).open_ fic_len
      injection e9 with e1 _ e3
      subst e1; subst e3
      have hzi : (0 : Int) ≤ (Z.length : Int) := by omega
      have hzi2 : (Z.length : Int) ≤ (T.length : Int) := by omega
      have hzi3 : (Z.length : Int) ≤ (cs : Int) := by omega
      by_cases hcz : cs = Z.length
      · have hR := (OwnR.rc o1).rest0 hle hcz
        rw [hdr] at hR
        have hst := sortst_any hR hu hs
        clear hE hT hdr hu hs hR hTl
        go_wp2_with fail
        refine hst.mono ?_
        rintro e w5 ⟨rfl, x5⟩
        go_wp2_with fail
        go_ret
        rw [hcz] at o1
        exact ⟨_, rfl, by rw [hF.out]; exact OwnR.ext o1 x5, ext_trans hB (ext_trans hx x5)⟩
      · have hR := (OwnR.rc o1).rest fic_len hle
        rw [hdr] at hR
        have hst := sortst_any hR hu hs
        clear hE hT hdr hu hs hR hTl
        go_wp2_with fail
        refine hst.mono ?_
        rintro e w5 ⟨rfl, x5⟩
        go_wp2_with fail
        go_ret
        exact ⟨_, rfl, by rw [hF.out]; exact OwnR.ext o1 x5, ext_trans hB (ext_trans hx x5)⟩
    have hbl : decide ((k : Int) < (Q.length : Int)) = true := dtrue (by omega)
    obtain ⟨ad, hA, _, c0, c1', c2, c3', c4⟩ := Fs.at_ h4 hlt
    subst hA
    have hst := filt_step nzF Q hlt
    have hfl := filt_len nzF Q k
    have hi0 : (0 : Int) ≤ (k : Int) := by omega
    have hi1 : (k : Int) < (Q.length : Int) := by omega
    obtain ⟨M2, hM2⟩ : ∃ M2, M2 = (Q.take (k + 1)).filter nzF := ⟨_, rfl⟩
    rw [← hM2] at hst
    replace hM2 := Lib.hid hM2
    generalize Q[k] = x at *
    generalize (Q.take k).filter nzF = M at *
    have hVl := hrl.out
    have hn : ((V ++ M).length + 1) * 56 ≤ 140737488355328 := by rw [List.length_append]; omega
    clear hVl hfl
    have hbx : Ext wr (wr.alloc (.cells (fia x) 48)) := (Mod.refl _ wr).alloc _
    obtain ⟨z0, z1, z2, z3, z4⟩ := boxedF wr x
    obtain ⟨w4, hw4⟩ : ∃ w4, w4 = wr.alloc (.cells (fia x) 48) := ⟨_, rfl⟩
    rw [← hw4] at hbx z0 z1 z2 z3 z4
    have x4 := ext_trans hx hbx
    have o14 := OwnR.ext o1 hbx
    have o34 := OwnR.ext o3 hbx
    replace hw4 := Lib.hid hw4
    clear o1 o3 hx hbx h4
    by_cases hl0 : x.lev = 0
    case pos =>
      have q1 : (x.lev != 0) = false := by rw [bne_eq_false_iff_eq]; exact hl0
      have hs2 : Hid (M2 = M) := Lib.hid (by rw [hst]; simp [nzF, hl0])
      clear hst hl0
      go_upto_region 7 with fail
      rw [← hw4.out]
      clear hw4 c0 c1' c2 c3' c4
      go_wp2_with fail
      exact ⟨⟨k + 1, by omega, by go_num, by rw [← hM2.out, hs2.out]; exact o14, o34, ap, fr, x4⟩, by simp [intOf] <;> omega⟩
    have q1 : (x.lev != 0) = true := by rw [bne_iff_ne]; exact hl0
    have hs2 : Hid (M2 = M ++ [x]) := Lib.hid (by rw [hst]; simp [nzF, hl0])
    clear hst hl0
    go_upto_region 7 with fail
    rw [← hw4.out]
    clear hw4 c0 c1' c2 c3' c4
    go_wp2_with ((with_reducible show wpList _ _ _ (⟨some 33, _, _, _, _, _⟩ :: _) _ _); refine wp_appR tyF fic_len (x := x) o14 rfl (fic_ok _) hn rfl (.tmp 30) (.tmp 32) rfl rfl rfl ?_; intro va wa ka1 ka2 ka3)
    exact ⟨⟨k + 1, by omega, by go_num, by rw [← hM2.out, hs2.out, ← List.append_assoc]; exact ka1, OwnR.mod o34 ka2 ap, fun k hk hh => ap k hk (ka3.sub (o34.lt hk) hh), fresh_ext x4 fr ka3, ext_app0 x4 fr ka2⟩, by simp [intOf] <;> omega⟩
end Go.Proofs.Ytmjkgibeljbloaa
