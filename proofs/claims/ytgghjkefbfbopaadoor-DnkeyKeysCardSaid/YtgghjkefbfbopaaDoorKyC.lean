/- dnkey: Back, the program's, for any bytes. -/
import Derived.Test.YtgghjkefbfbopaaDoorKyA
import Derived.Test.YtgghjkefbfbopaaDoorKyB
import Derived.Test.YtgghjkefbfbopaaDoorDnI
namespace Go.Proofs.YtgghjkefbfbopaaDoor
open Go.Shelf Go.RowKit
set_option maxRecDepth 100000

theorem cut_lens {s p : List UInt8} (h : (Lib.cut s p).2.2 = true) : (Lib.cut s p).1.length + p.length + (Lib.cut s p).2.1.length = s.length := by
  rcases cutO_spec s p with ⟨h1, _⟩ | ⟨x, r, _, h1⟩
  · rw [cut_none h1] at h; cases h
  · rw [cut_first h1]
    show x.length + p.length + r.length = _
    rw [h1.1]; simp; omega
theorem cut_len1 (s p : List UInt8) : (Lib.cut s p).1.length ≤ s.length := by
  unfold Lib.cut
  split
  · simp; omega
  · simp
theorem unE_len : ∀ (n : Nat) (s : List UInt8), s.length ≤ n → (unE s).length ≤ s.length
  | _, [], _ => by simp [unE]
  | _, [c], _ => by simp [unE]
  | 0, c :: d :: r, h => by simp at h
  | n + 1, c :: d :: r, h => by
    rw [unE_two]
    simp only [List.length_cons] at h
    split
    · have := unE_len n r (by omega)
      simp only [List.length_cons]; omega
    · have := unE_len n (d :: r) (by simp only [List.length_cons]; omega)
      simp only [List.length_cons] at *; omega
theorem partsR_nil (acc : List Av) : partsR [] acc = some acc := by unfold partsR; simp
theorem partsR_no1 {r : List UInt8} (h : r ≠ []) (acc : List Av) (h1 : (Lib.cut r [0, 1]).2.2 = false) : partsR r acc = none := by
  unfold partsR; rw [if_neg h, dif_pos h1]
theorem partsR_no2 {r : List UInt8} (h : r ≠ []) (acc : List Av) (h1 : (Lib.cut r [0, 1]).2.2 = true) (h2 : (Lib.cut (Lib.cut r [0, 1]).1 [61]).2.2 = false) : partsR r acc = none := by
  unfold partsR; rw [if_neg h, dif_neg (by rw [h1]; simp), if_pos h2]
theorem partsR_no3 {r : List UInt8} (h : r ≠ []) {acc : List Av} (h1 : (Lib.cut r [0, 1]).2.2 = true) (h2 : (Lib.cut (Lib.cut r [0, 1]).1 [61]).2.2 = true) (h3 : acc.length = 12) : partsR r acc = none := by
  unfold partsR; rw [if_neg h, dif_neg (by rw [h1]; simp), if_neg (by rw [h2]; simp), if_pos h3]
theorem partsR_go {r : List UInt8} (h : r ≠ []) {acc : List Av} (h1 : (Lib.cut r [0, 1]).2.2 = true) (h2 : (Lib.cut (Lib.cut r [0, 1]).1 [61]).2.2 = true) (h3 : acc.length ≠ 12) :
    partsR r acc = partsR (Lib.cut r [0, 1]).2.1 (acc ++ [((Lib.cut (Lib.cut r [0, 1]).1 [61]).1, unE (Lib.cut (Lib.cut r [0, 1]).1 [61]).2.1)]) := by
  rw [partsR, if_neg h, dif_neg (by rw [h1]; simp), if_neg (by rw [h2]; simp), if_neg h3]
/-- The way back from a key. -/
def backB (s : List UInt8) : Option (List Av) :=
  match partsR s [] with
  | none => none
  | some M => if isName M.reverse ∧ keyB M.reverse = s then some M.reverse else none
theorem back_none {s : List UInt8} (h : partsR s [] = none) : backB s = none := by unfold backB; rw [h]
theorem back_no {s : List UInt8} {M : List Av} (h : partsR s [] = some M) (h2 : ¬ (isName M.reverse ∧ keyB M.reverse = s)) : backB s = none := by unfold backB; rw [h]; exact if_neg h2
theorem back_yes {s : List UInt8} {M : List Av} (h : partsR s [] = some M) (h1 : isName M.reverse) (h2 : keyB M.reverse = s) : backB s = some M.reverse := by unfold backB; rw [h]; exact if_pos ⟨h1, h2⟩
theorem wN_rev (L : List Av) : wN L.reverse = wN L := by unfold wN; rw [List.map_reverse, List.sum_reverse]
def strN : Value → Nat
  | .string b => b.size
  | _ => 0
section
variable {w : World}
theorem unesc_any (s : List UInt8) (hs : s.length ≤ 1000000) (hm : Mxl w) : Calls Tryd.prog 31 #[sv s] w fun e w' => e = .returned (sv (unE s)) ∧ Ext w w' := by
  have h := rall_any s [0, 255] [0] hs (by simp) (by simp) hm
  rw [rall_un] at h
  go_enter Tryd.func31, Tryd.ntmps31
  go_wp2_with fail
  refine h.mono ?_
  rintro e w1 ⟨rfl, x1⟩
  go_wp2_with fail
  go_ret
  exact ⟨rfl, x1⟩
set_option maxHeartbeats 4000000 in
theorem back_any (s : List UInt8) (hs : s.length ≤ 20000) (hm : Mxl w) :
    Calls Tryd.prog 15 #[sv s] w fun e w' => ∃ v, e = .returned (.tuple #[v, .bool (backB s).isSome]) ∧ OwnA w' v ((backB s).getD []) ∧ Ext w w' := by
  obtain ⟨R, hR⟩ : ∃ R, R = partsR s [] := ⟨_, rfl⟩
  have hR2 := hR
  replace hR := Lib.hid hR
  go_enter Tryd.func15, Tryd.ntmps15
  go_wp2_with fail
  go_loopw [4, 5] (fun n x wr => ∃ (r : List UInt8) (acc : List Av), x = sv r ∧ OwnA wr n acc ∧ Fresh w.heap.size n ∧ Hid (R = partsR r acc) ∧ wN acc + r.length ≤ s.length ∧ acc.length ≤ 12 ∧ Ext w wr) (fun _ x _ => strN x)
  case atStart => exact ⟨s, [], rfl, OwnR.nil _ _ _ _, fresh_nil _ _ _, hR, by simp [wN], by simp, Mod.refl _ _⟩
  case round =>
    obtain ⟨r, acc, rfl, ho, hf, hp, hw, h12, hx⟩ := hrel
    have hrz := sv_size r
    by_cases hr : r = []
    · subst hr
      have hp' := hp.out
      rw [partsR_nil] at hp'
      clear hp
      have hrev := reverse_any ho (by omega)
      have hM := hR2.symm.trans hp'
      clear hR hR2 hp' hrz
      have hwr := wN_rev acc
      have hwl : wN acc.reverse ≤ 20000 := by simp only [List.length_nil] at hw; omega
      have byes := back_yes hM
      have bno := back_no hM
      clear hw hwr hM
      obtain ⟨M, hMe⟩ : ∃ M, M = acc.reverse := ⟨_, rfl⟩
      rw [← hMe] at hrev hwl byes bno
      clear hMe
      replace byes := Lib.hid byes
      replace bno := Lib.hid bno
      go_wp2_with fail
      refine hrev.mono ?_
      rintro e w1 ⟨rfl, ho1, m1⟩
      have x1 := ext_app0 hx hf m1
      have hi := is_any ho1.rc (fits_of (by omega))
      clear hrev ho
      by_cases hname : isName M
      · rw [decide_eq_true hname] at hi
        go_wp2_with fail
        refine hi.mono ?_
        rintro e w2 ⟨rfl, x2⟩
        have hk := key_any (ho1.ext x2).rc (by omega)
        clear hi
        by_cases hq : keyB M = s
        · rw [hq] at hk
          have b1 : (s != s) = false := by simp
          have hb := byes.out hname hq
          clear byes bno hq hname
          replace hb := Lib.hid hb
          go_wp2_with fail
          refine hk.mono ?_
          rintro e w3 ⟨rfl, x3⟩
          go_wp2_with fail
          go_ret2
          rw [hb.out]
          exact ⟨_, rfl, (ho1.ext x2).ext x3, ext_trans x1 (ext_trans x2 x3)⟩
        · have b1 : (keyB M == s) = false := by simpa using hq
          have b2 : (keyB M != s) = true := by simpa using hq
          have hb := bno.out fun h => hq h.2
          clear byes bno hq hname
          replace hb := Lib.hid hb
          go_wp2_with fail
          refine hk.mono ?_
          rintro e w3 ⟨rfl, x3⟩
          go_wp2_with fail
          go_ret2
          rw [hb.out]
          exact ⟨_, rfl, OwnR.nil _ _ _ _, ext_trans x1 (ext_trans x2 x3)⟩
      · rw [decide_eq_false hname] at hi
        have hb := bno.out fun h => hname h.1
        clear byes bno hname
        replace hb := Lib.hid hb
        go_wp2_with fail
        refine hi.mono ?_
        rintro e w2 ⟨rfl, x2⟩
        go_wp2_with fail
        go_ret2
        rw [hb.out]
        exact ⟨_, rfl, OwnR.nil _ _ _ _, ext_trans x1 x2⟩
    · have hne : (r == []) = false := by simpa using hr
      have hc1 := cut_any (w := wr) r [0, 1] (by omega) (hm.ext hx)
      have l1 := cut_len1 r [0, 1]
      have hc2 := fun wx : World => fun m => cut_any (w := wx) (Lib.cut r [0, 1]).1 [61] (by omega) m
      have n1 := partsR_no1 hr acc
      have n2 := partsR_no2 hr acc
      have n3 := partsR_no3 (acc := acc) hr
      have n4 := partsR_go (acc := acc) hr
      have hl1 := cut_lens (s := r) (p := [0, 1])
      have hl2 := cut_lens (s := (Lib.cut r [0, 1]).1) (p := [61])
      generalize (Lib.cut (Lib.cut r [0, 1]).1 [61]) = C2 at *
      generalize (Lib.cut r [0, 1]) = C1 at *
      obtain ⟨x, r2, q1⟩ := C1
      obtain ⟨ty, vl, q2⟩ := C2
      simp only at hc1 hc2 l1 n1 n2 n3 n4 hl1 hl2
      have hR3 : Hid (∀ Q, partsR r acc = Q → R = Q) := Lib.hid fun Q h => hp.out.trans h
      clear hp
      replace n1 := Lib.hid n1
      replace n2 := Lib.hid n2
      replace n3 := Lib.hid n3
      replace n4 := Lib.hid n4
      replace hl1 := Lib.hid hl1
      replace hl2 := Lib.hid hl2
      clear hr hrz l1 hR
      replace hR2 := Lib.hid hR2
      obtain ⟨A0, c0, rfl⟩ := OwnK.shape ho
      go_wp2_with fail
      refine hc1.mono ?_
      rintro e w1 ⟨rfl, d1, rfl⟩
      clear hc1
      have x1 : Ext w (wr.drewN d1) := hx.drewN d1
      have hc2' := hc2 (wr.drewN d1) (hm.ext x1)
      clear hc2
      go_wp2_with fail
      refine hc2'.mono ?_
      rintro e w2 ⟨rfl, d2, rfl⟩
      clear hc2'
      have x2 : Ext w ((wr.drewN d1).drewN d2) := x1.drewN d2
      have ho2 : OwnA ((wr.drewN d1).drewN d2) (.slice A0 acc.length c0) acc := ho
      generalize (wr.drewN d1).drewN d2 = w2 at *
      clear x1 hx ho
      cases q1 with
      | false =>
        have hb := back_none (hR2.out.symm.trans (hR3.out _ (n1.out rfl)))
        clear n1 n2 n3 n4 hl1 hl2 hR2 hR3
        replace hb := Lib.hid hb
        go_wp2_with fail
        go_ret2
        rw [hb.out]
        exact ⟨_, rfl, OwnR.nil _ _ _ _, x2⟩
      | true =>
      cases q2 with
      | false =>
        have hb := back_none (hR2.out.symm.trans (hR3.out _ (n2.out rfl rfl)))
        clear n1 n2 n3 n4 hl1 hl2 hR2 hR3
        replace hb := Lib.hid hb
        go_wp2_with fail
        go_ret2
        rw [hb.out]
        exact ⟨_, rfl, OwnR.nil _ _ _ _, x2⟩
      | true =>
      by_cases h3 : acc.length = 12
      · have b12 : ((acc.length : Int) == 12) = true := by simp; omega
        have hb := back_none (hR2.out.symm.trans (hR3.out _ (n3.out rfl rfl h3)))
        clear n1 n2 n3 n4 hl1 hl2 hR2 hR3 h3
        replace hb := Lib.hid hb
        go_wp2_with fail
        go_ret2
        rw [hb.out]
        exact ⟨_, rfl, OwnR.nil _ _ _ _, x2⟩
      have b12 : ((acc.length : Int) == 12) = false := by simp; omega
      have e1 := hl1.out rfl
      have e2 := hl2.out rfl
      simp only [List.length_cons, List.length_nil] at e1 e2
      have hu := unesc_any (w := w2) vl (by omega) (hm.ext x2)
      have hp2 := hR3.out _ (n4.out rfl rfl h3)
      have hul := unE_len vl.length vl (Nat.le_refl _)
      have hwn : wN (acc ++ [(ty, unE vl)]) + r2.length ≤ s.length := by
        rw [wN_append, wN_cons]
        simp only [wN, List.map_nil, List.sum_nil] at *
        omega
      have hlt : r2.length < r.length := by omega
      have hal : (acc ++ [(ty, unE vl)]).length ≤ 12 := by simp; omega
      clear n1 n2 n3 n4 hl1 hl2 hR2 hR3 h3 e1 e2 hul hw
      generalize unE vl = uv at *
      replace hp2 := Lib.hid hp2
      replace hwn := Lib.hid hwn
      replace hlt := Lib.hid hlt
      replace hal := Lib.hid hal
      have hn1 := Lib.hid (show (acc.length + 1) * 32 ≤ 140737488355328 by omega)
      go_wp2_with fail
      refine hu.mono ?_
      rintro e w3 ⟨rfl, x3⟩
      clear hu
      go_wp2_with ((with_reducible show wpList _ _ _ (⟨some 44, _, _, _, _, _⟩ :: _) _ _); refine wp_appR tyA avc_len (ho2.ext x3) rfl (avc_ok (ty, uv)) hn1.out rfl (.tmp 38) (.tmp 43) rfl rfl rfl ?_; intro v3 w4 g1 g2 g3)
      exact ⟨⟨r2, acc ++ [(ty, uv)], rfl, g1, g3.fresh hf (ext_trans x2 x3).size, hp2, hwn.out, hal.out, ext_app0 (ext_trans x2 x3) hf g2⟩, by have h1 := hlt.out; have h2 := sv_size r2; have h3 := sv_size r; simp [strN]; omega⟩
end
end Go.Proofs.YtgghjkefbfbopaaDoor
