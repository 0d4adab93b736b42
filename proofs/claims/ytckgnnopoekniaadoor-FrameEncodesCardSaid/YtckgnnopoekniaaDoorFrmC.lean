/- frame: the first record. -/
import Derived.Test.YtckgnnopoekniaaDoorFrmB
import Derived.Deep.RegionHeld3
import Derived.Deep.DeepCutAuto
namespace Go.Proofs.YtckgnnopoekniaaDoor
open Go.RowKit
set_option maxRecDepth 100000

theorem add_up (ad : Addr) (k : Nat) : ad.add (k + 1) = ⟨ad.block, ad.off + (k + 1), none⟩ := by simp [Addr.add]
theorem Blk.drew {w : World} {g : Nat} {t : TypeId} {cs : Array Value} (h : Blk w g t cs) : Blk w.drew g t cs := h
theorem Rw.blk {w : World} {S : Nat → Prop} {g : Nat} {t : TypeId} {v : Value} {l : List UInt8} (hb : Blk w g t #[v]) (h : Bs w S v l) : Rw w (fun k => S k ∨ k = g) (.slice (some ⟨g, 0, none⟩) 1 1) [l] := by
  have h1 : Sl w (fun k => k = g) (.slice (some ⟨g, 0, none⟩) 1 1) [v] := by
    refine ⟨some ⟨g, 0, none⟩, 1, rfl, Nat.le_refl _, by simp [maxLen], (fun h => nomatch h), fun k u hu => ?_⟩
    cases k with
    | zero =>
      cases hu
      exact ⟨⟨g, 0, none⟩, rfl, rfl, by rw [add_lit]; exact hb.c0⟩
    | succ k => simp at hu
  refine ⟨[v], rfl, h1.mono (fun _ _ h => .inr h), fun k x l' hx hl => ?_⟩
  cases k with
  | zero =>
    simp at hx hl
    subst hx; subst hl
    exact h.mono (fun _ _ h => .inl h)
  | succ k => simp at hx

set_option maxHeartbeats 1000000 in
theorem look_any {w : World} {S : Nat → Prop} {v : Value} {l : List UInt8} (h : Bs w S v l) (hN : Nib w) (hl : l.length ≤ 140737488355328) :
    Calls Tryd.prog 26 #[v] w fun e w' => ∃ v', e = .returned (.tuple #[v', .int .i64 ((dec l).2.1 : Nat), .int .i64 ((dec l).2.2 : Nat)]) ∧ Bs w' S v' (dec l).1 ∧ Ext w w' := by
  have h0 := h
  obtain ⟨A, c, rfl, h1, h2, h3, h4⟩ := h.open_
  by_cases c1 : l.length < 8
  · have hd : dec l = ([], 0, 2) := by unfold dec; rw [if_pos c1]
    rw [hd]
    clear hd
    go_enter Tryd.func26, Tryd.ntmps26
    go_wp2_with fail
    go_ret3
    exact ⟨_, rfl, Sl.nil _ _, Mod.refl _ _⟩
  obtain ⟨ad, rfl, -, -⟩ := h4.at_ (show 0 < l.length by omega)
  have hc8 : 8 ≤ c := by omega
  have hq : ∀ wx, Ext w wx → Bs wx S (.slice (some ad) l.length c) l := fun wx hx => h0.ext hx
  have hT : ∀ m, 0 < m → m + 4 ≤ l.length → ∀ wx, Ext w wx → Calls Tryd.prog 29 #[.slice (some (ad.add m)) (l.length - m) (c - m)] wx fun e w' => e = .returned (.int .u32 (from4 (l.drop m) : Nat)) ∧ Ext w w' ∧ Ext wx w' := by
    intro m hm0 hm wx hx
    have := Bs.rest (hq wx hx) (m := m) (by omega)
    simp only [Option.map_some] at this
    refine (take_any this (by rw [List.length_drop]; omega)).mono ?_
    rintro e w' ⟨rfl, n, rfl⟩
    exact ⟨rfl, hx.drewN n, (Mod.refl _ _).drewN n⟩
  have hS : ∀ m, m ≤ l.length → ∀ wx g, Ext w wx → Blk wx g 23 #[.slice (some ad) m c] → Calls Tryd.prog 23 #[.slice (some ⟨g, 0, none⟩) 1 1] wx fun e w' => e = .returned (.int .u32 (sumOf (l.take m) : Nat)) ∧ w' = wx := by
    intro m hm wx g hx hb
    have := sum_any (Rw.blk hb (Bs.begin (hq wx hx) (m := m) (by omega))) (hN.mod hx (fun h => h))
    simpa using this
  have hT4 := hT 4 (by omega) (by omega)
  rw [show ad.add 4 = ⟨ad.block, ad.off + 4, none⟩ from add_up ad 3] at hT4
  have hS4 := hS 4 (by omega)
  obtain ⟨a1, ha1⟩ : ∃ a1 : Int, a1 = (from4 (l.drop 4) : Nat) := ⟨_, rfl⟩
  obtain ⟨a2, ha2⟩ : ∃ a2 : Int, a2 = (sumOf (l.take 4) : Nat) := ⟨_, rfl⟩
  rw [← ha1] at hT4
  rw [← ha2] at hS4
  replace ha1 := Lib.hid ha1
  replace ha2 := Lib.hid ha2
  clear hq h4 h h3
  replace hT := Lib.hid hT
  replace hS := Lib.hid hS
  replace hT4 := Lib.hid hT4
  replace hS4 := Lib.hid hS4
  replace h0 := Lib.hid h0
  replace hN := Lib.hid hN
  have c4 : ¬ c = 4 := by omega
  have x1 : (4 : Int) ≤ (l.length : Int) := by omega
  have x2 : (4 : Int) ≤ (c : Int) := by omega
  have x3 : (l.length : Int) ≤ (c : Int) := by omega
  go_enter Tryd.func26, Tryd.ntmps26
  go_upto_region 3 with fail
  go_cut [17] (fun s17 wx => s17 = .bool (a1 != a2) ∧ Ext w wx)
  case first =>
    go_region_held3 (fun _ => True) (exact trivial)
      ((first
        | (go_at_call 29; refine (hT4.out _ ?_).mono ?_; (focus (repeat' (first | assumption | exact Mod.refl _ _ | (refine Mod.drew ?_) | (refine Mod.drewN ?_ _) | (refine Mod.alloc ?_ _)))); rintro e w5 ⟨rfl, hx5, hy5⟩)
        | (go_at_call 23; refine (hS4.out _ _ ?_ ?_).mono ?_; (focus (repeat' (first | assumption | exact Mod.refl _ _ | (refine Mod.drew ?_) | (refine Mod.drewN ?_ _) | (refine Mod.alloc ?_ _)))); (first | exact Blk.new _ _ _ | exact (Blk.new _ _ _).drew | exact (Blk.new _ _ _).drew.mod hy5 (fun h => h) | exact (Blk.new _ _ _).mod hy5 (fun h => h)); rintro e w6 ⟨rfl, hw6⟩; have hx6 : Ext w w6 := (by rw [hw6]; (focus (repeat' (first | assumption | exact Mod.refl _ _ | (refine Mod.drew ?_) | (refine Mod.drewN ?_ _) | (refine Mod.alloc ?_ _))))); clear hw6)))
    all_goals (go_wp2_with fail; go_meet; exact ⟨rfl, by first | exact hx6 | (focus (repeat' (first | assumption | exact Mod.refl _ _ | (refine Mod.drew ?_) | (refine Mod.drewN ?_ _) | (refine Mod.alloc ?_ _))))⟩)
  case rest =>
    obtain ⟨rfl, hx1⟩ := hcut
    by_cases c2 : from4 (l.drop 4) = sumOf (l.take 4)
    rotate_left
    · have hb : (a1 != a2) = true := by rw [ha1.out, ha2.out, bne_iff_ne]; exact fun h => c2 (Int.ofNat.inj h)
      have hd : dec l = ([], 0, 4) := by unfold dec; rw [if_neg c1, if_pos c2]
      replace hd := Lib.hid hd
      clear c2
      go_wp2_with fail
      go_ret3
      rw [hd.out]
      exact ⟨_, rfl, Sl.nil _ _, hx1⟩
    have hb : (a1 != a2) = false := by rw [ha1.out, ha2.out, c2]; simp
    replace c2 := Lib.hid c2
    go_wp2_with fail
    refine (take_any (h0.out.ext hx1) (by omega)).mono ?_
    rintro e w2 ⟨rfl, n2, hw2⟩
    have hx2 : Ext w w2 := by rw [hw2]; exact hx1.drewN n2
    clear hw2
    obtain ⟨n, hn⟩ : ∃ n, n = from4 l := ⟨_, rfl⟩
    have hnl : n < 4294967296 := by rw [hn]; exact from4_lt l
    rw [← hn]
    by_cases c3 : 1048576 < n
    · have hd : dec l = ([], 0, 5) := by unfold dec; rw [if_neg c1, if_neg (fun h => h c2.out), if_pos (by rw [← hn]; exact c3)]
      replace hd := Lib.hid hd
      replace hn := Lib.hid hn
      go_wp2_with fail
      go_ret3
      rw [hd.out]
      exact ⟨_, rfl, Sl.nil _ _, hx2⟩
    by_cases c5 : l.length < 12 + n
    · have hd : dec l = ([], 0, 2) := by unfold dec; rw [if_neg c1, if_neg (fun h => h c2.out), if_neg (by rw [← hn]; exact c3), if_pos (by rw [← hn]; exact c5)]
      replace hd := Lib.hid hd
      replace hn := Lib.hid hn
      go_wp2_with fail
      go_ret3
      rw [hd.out]
      exact ⟨_, rfl, Sl.nil _ _, hx2⟩
    have hn0 := hn
    replace hn := Lib.hid hn
    have c6 : ¬ c = 8 := by omega
    clear hn0
    go_wp2_with fail
    have hn := hn.out
    clear hT4 hS4 c4 x1 x2
    obtain ⟨m, hm⟩ : ∃ m : Nat, (8 : Int) + n = m := ⟨8 + n, by omega⟩
    have hmn : m = 8 + n := by omega
    have c7 : ¬ c = m := by omega
    have hTm := hT.out m (by omega) (by omega)
    have hSm := hS.out m (by omega)
    obtain ⟨b1, hb1⟩ : ∃ b1 : Int, b1 = (from4 (l.drop m) : Nat) := ⟨_, rfl⟩
    obtain ⟨b2, hb2⟩ : ∃ b2 : Int, b2 = (sumOf (l.take m) : Nat) := ⟨_, rfl⟩
    rw [← hb1] at hTm
    rw [← hb2] at hSm
    replace hb1 := Lib.hid hb1
    replace hb2 := Lib.hid hb2
    replace hTm := Lib.hid hTm
    replace hSm := Lib.hid hSm
    have y0 : (0 : Int) ≤ (m : Int) := by omega
    have y1 : (m : Int) ≤ (l.length : Int) := by omega
    have y2 : (m : Int) ≤ (c : Int) := by omega
    have y3 : (8 : Int) ≤ (m : Int) := by omega
    have y4 : m - 8 = n := by omega
    clear hT hS
    replace hn := Lib.hid hn
    rw [hm]
    replace hm := Lib.hid hm
    replace hmn := Lib.hid hmn

    go_cut [39] (fun s39 wx => s39 = .bool (b1 != b2) ∧ Ext w wx)
    case first =>
      go_region_held3 (fun _ => True) (exact trivial)
        ((first
          | (go_at_call 29; refine (hTm.out _ ?_).mono ?_; (focus (repeat' (first | assumption | exact Mod.refl _ _ | (refine Mod.drew ?_) | (refine Mod.drewN ?_ _) | (refine Mod.alloc ?_ _)))); rintro e w5 ⟨rfl, hx5, hy5⟩)
          | (go_at_call 23; refine (hSm.out _ _ ?_ ?_).mono ?_; (focus (repeat' (first | assumption | exact Mod.refl _ _ | (refine Mod.drew ?_) | (refine Mod.drewN ?_ _) | (refine Mod.alloc ?_ _)))); (first | exact Blk.new _ _ _ | exact (Blk.new _ _ _).drew | exact (Blk.new _ _ _).drew.mod hy5 (fun h => h) | exact (Blk.new _ _ _).mod hy5 (fun h => h)); rintro e w6 ⟨rfl, hw6⟩; have hx6 : Ext w w6 := (by rw [hw6]; (focus (repeat' (first | assumption | exact Mod.refl _ _ | (refine Mod.drew ?_) | (refine Mod.drewN ?_ _) | (refine Mod.alloc ?_ _))))); clear hw6)))
      all_goals (go_wp2_with fail; go_meet; exact ⟨rfl, by first | exact hx6 | (focus (repeat' (first | assumption | exact Mod.refl _ _ | (refine Mod.drew ?_) | (refine Mod.drewN ?_ _) | (refine Mod.alloc ?_ _))))⟩)
    case rest =>
      obtain ⟨rfl, hx3⟩ := hcut
      by_cases c8 : from4 (l.drop (8 + n)) = sumOf (l.take (8 + n))
      rotate_left
      · have hb : (b1 != b2) = true := by rw [hb1.out, hb2.out, bne_iff_ne, hmn.out]; exact fun h => c8 (Int.ofNat.inj h)
        have hd : dec l = ([], 0, 4) := by
          rw [hn.out] at c3 c5 c8
          unfold dec; rw [if_neg c1, if_neg (fun h => h c2.out), if_neg c3, if_neg c5, if_pos c8]
        replace hd := Lib.hid hd
        clear c8
        go_wp2_with fail
        go_ret3
        rw [hd.out]
        exact ⟨_, rfl, Sl.nil _ _, hx3⟩
      have hb : (b1 != b2) = false := by rw [hb1.out, hb2.out, hmn.out, c8]; simp
      have hd : dec l = ((l.drop 8).take n, 12 + n, 0) := by
        rw [hn.out] at c3 c5 c8 ⊢
        exact dec_iff (by omega) c2.out (by omega) (by omega) c8
      replace hd := Lib.hid hd
      clear c8
      go_wp2_with fail
      go_ret3
      rw [hd.out]
      have e1 : ((12 + n : Nat) : Int) = (m : Int) + 4 := by have := hmn.out; omega
      have h8 := Bs.rest (h0.out.ext hx3) (m := 8) (by omega)
      simp only [Option.map_some] at h8
      rw [show ad.add 8 = ⟨ad.block, ad.off + 8, none⟩ from add_up ad 7, ← List.length_drop] at h8
      refine ⟨_, ?_, Bs.begin h8 (m := n) (by rw [List.length_drop]; omega), hx3⟩
      rw [e1]
      rfl
end Go.Proofs.YtckgnnopoekniaaDoor
