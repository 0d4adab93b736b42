/- frame: the document's Decode, One. -/
import Derived.Test.YtckgnnopoekniaaDoorFrmD
import Derived.IntWalk
namespace Go.Proofs.YtckgnnopoekniaaDoor
open Go.RowKit
set_option maxRecDepth 100000

set_option maxHeartbeats 1000000 in
theorem rdecode_any {w : World} {S : Nat → Prop} {v : Value} {l : List UInt8} (h : Bs w S v l) (hl : l.length ≤ 140737488355328) :
    Calls Tryd.prog 15 #[v] w fun e w' => ∃ v', e = .returned (.tuple #[v', .int .i64 ((dec l).2.1 : Nat), .int .i64 ((dec l).2.2 : Nat)]) ∧ Own w' 5 v' ((dec l).1.map bv) ∧ Fresh w.heap.size v' ∧ Ext w w' := by
  have h0 := h
  obtain ⟨A, c, rfl, h1, h2, h3, h4⟩ := h.open_
  by_cases c1 : l.length < 8
  · have hd : dec l = ([], 0, 2) := by unfold dec; rw [if_pos c1]
    rw [hd]
    clear hd
    go_enter Tryd.func15, Tryd.ntmps15
    go_wp2_with fail
    go_ret3
    exact ⟨_, rfl, Own.nil _ _, fresh_nil _ _ _, Mod.refl _ _⟩
  obtain ⟨ad, rfl, -, -⟩ := h4.at_ (show 0 < l.length by omega)
  have hc8 : 8 ≤ c := by omega
  have hq : ∀ wx, Ext w wx → Bs wx S (.slice (some ad) l.length c) l := fun wx hx => h0.ext hx
  have hT : ∀ m, 0 < m → m + 4 ≤ l.length → ∀ wx, Ext w wx → ∀ k, Calls Tryd.prog 28 #[.slice (some (ad.add m)) (l.length - m) (c - m)] (wx.drewN k) fun e w' => e = .returned (.int .u32 (from4 (l.drop m) : Nat)) ∧ ∃ n, w' = (wx.drewN k).drewN n := by
    intro m hm0 hm wx hx k
    have := Bs.rest (hq (wx.drewN k) (hx.drewN k)) (m := m) (by omega)
    simp only [Option.map_some] at this
    exact from_any this (by rw [List.length_drop]; omega)
  have hS : ∀ m, m ≤ l.length → ∀ wx, Ext w wx → ∀ k, Calls Tryd.prog 25 #[.slice (some ad) m c] (wx.drewN k) fun e w' => e = .returned (.int .u32 (sumOf (l.take m) : Nat)) ∧ w' = wx.drewN k := by
    intro m hm wx hx k
    exact rsum_any (Bs.begin (hq (wx.drewN k) (hx.drewN k)) (m := m) (by omega))
  have hT4 := hT 4 (by omega) (by omega) w (Mod.refl _ _)
  rw [show ad.add 4 = ⟨ad.block, ad.off + 4, none⟩ from add_up ad 3] at hT4
  have hS4 := hS 4 (by omega) w (Mod.refl _ _)
  obtain ⟨a1, ha1⟩ : ∃ a1 : Int, a1 = (from4 (l.drop 4) : Nat) := ⟨_, rfl⟩
  obtain ⟨a2, ha2⟩ : ∃ a2 : Int, a2 = (sumOf (l.take 4) : Nat) := ⟨_, rfl⟩
  rw [← ha1] at hT4
  rw [← ha2] at hS4
  replace ha1 := Lib.hid ha1
  replace ha2 := Lib.hid ha2
  clear hq h4 h h3
  replace hT := Lib.hid hT
  replace hS := Lib.hid hS
  replace hT4 := Lib.hid hT4
  replace hS4 := Lib.hid hS4
  replace h0 := Lib.hid h0
  have c4 : ¬ c = 4 := by omega
  have x1 : (4 : Int) ≤ (l.length : Int) := by omega
  have x2 : (4 : Int) ≤ (c : Int) := by omega
  have x3 : (l.length : Int) ≤ (c : Int) := by omega
  go_enter Tryd.func15, Tryd.ntmps15
  go_wp2_with fail
  go_quiet (first
    | (go_at_call 28; exact Calls.quiet_of (hT4.out _))
    | (go_at_call 25; exact Calls.quiet_of_same (hS4.out _)))
  have hx1 : Ext w (w.drewN nq) := (Mod.refl _ _).drewN _
  generalize w.drewN nq = wc at *
  by_cases c2 : from4 (l.drop 4) = sumOf (l.take 4)
  rotate_left
  · have hb : (a1 != a2) = true := by rw [ha1.out, ha2.out, bne_iff_ne]; exact fun h => c2 (Int.ofNat.inj h)
    have hd : dec l = ([], 0, 4) := by unfold dec; rw [if_neg c1, if_pos c2]
    replace hd := Lib.hid hd
    clear c2
    go_wp2_with fail
    go_ret3
    rw [hd.out]
    exact ⟨_, rfl, Own.nil _ _, fresh_nil _ _ _, hx1⟩
  have hb : (a1 != a2) = false := by rw [ha1.out, ha2.out, c2]; simp
  replace c2 := Lib.hid c2
  go_wp2_with fail
  refine (from_any (h0.out.ext hx1) (by omega)).mono ?_
  rintro e w2 ⟨rfl, n2, hw2⟩
  have hx2 : Ext w w2 := by rw [hw2]; exact hx1.drewN n2
  clear hw2
  obtain ⟨n, hn⟩ : ∃ n, n = from4 l := ⟨_, rfl⟩
  have hnl : n < 4294967296 := by rw [hn]; exact from4_lt l
  rw [← hn]
  by_cases c3 : 1048576 < n
  · have hd : dec l = ([], 0, 5) := by unfold dec; rw [if_neg c1, if_neg (fun h => h c2.out), if_pos (by rw [← hn]; exact c3)]
    replace hd := Lib.hid hd
    replace hn := Lib.hid hn
    go_wp2_with fail
    go_ret3
    rw [hd.out]
    exact ⟨_, rfl, Own.nil _ _, fresh_nil _ _ _, hx2⟩
  by_cases c5 : l.length < 12 + n
  · have hd : dec l = ([], 0, 2) := by unfold dec; rw [if_neg c1, if_neg (fun h => h c2.out), if_neg (by rw [← hn]; exact c3), if_pos (by rw [← hn]; exact c5)]
    replace hd := Lib.hid hd
    replace hn := Lib.hid hn
    go_wp2_with fail
    go_ret3
    rw [hd.out]
    exact ⟨_, rfl, Own.nil _ _, fresh_nil _ _ _, hx2⟩
  replace hn := Lib.hid hn
  have c6 : ¬ c = 8 := by omega
  clear hT4 hS4 c4 x1 x2
  go_wp2_with fail
  obtain ⟨m, hm⟩ : ∃ m : Nat, (8 : Int) + n = m := ⟨8 + n, by omega⟩
  have hmn : m = 8 + n := by omega
  have c7 : ¬ c = m := by omega
  have hTm := hT.out m (by omega) (by omega) w2 hx2
  have hSm := hS.out m (by omega) w2 hx2
  obtain ⟨b1, hb1⟩ : ∃ b1 : Int, b1 = (from4 (l.drop m) : Nat) := ⟨_, rfl⟩
  obtain ⟨b2, hb2⟩ : ∃ b2 : Int, b2 = (sumOf (l.take m) : Nat) := ⟨_, rfl⟩
  rw [← hb1] at hTm
  rw [← hb2] at hSm
  replace hb1 := Lib.hid hb1
  replace hb2 := Lib.hid hb2
  replace hTm := Lib.hid hTm
  replace hSm := Lib.hid hSm
  have y0 : (0 : Int) ≤ (m : Int) := by omega
  have y1 : (m : Int) ≤ (l.length : Int) := by omega
  have y2 : (m : Int) ≤ (c : Int) := by omega
  have y3 : (8 : Int) ≤ (m : Int) := by omega
  have y4 : m - 8 = n := by omega
  have s1 : IntKind.i64.wrap (8 + (n : Int)) = (m : Int) := by rw [IntWalk.i64_in _ (by omega), hm]
  clear hT hS
  replace hm := Lib.hid hm
  replace hmn := Lib.hid hmn
  go_quiet (first
    | (go_at_call 28; exact Calls.quiet_of (hTm.out _))
    | (go_at_call 25; exact Calls.quiet_of_same (hSm.out _)))
  clear s1
  have hx3 : Ext w (w2.drewN nq) := hx2.drewN _
  generalize w2.drewN nq = w3 at *
  by_cases c8 : from4 (l.drop (8 + n)) = sumOf (l.take (8 + n))
  rotate_left
  · have hb : (b1 != b2) = true := by rw [hb1.out, hb2.out, bne_iff_ne, hmn.out]; exact fun h => c8 (Int.ofNat.inj h)
    have hd : dec l = ([], 0, 4) := by
      rw [hn.out] at c3 c5 c8
      unfold dec; rw [if_neg c1, if_neg (fun h => h c2.out), if_neg c3, if_neg c5, if_pos c8]
    replace hd := Lib.hid hd
    clear c8
    go_wp2_with fail
    go_ret3
    rw [hd.out]
    exact ⟨_, rfl, Own.nil _ _, fresh_nil _ _ _, hx3⟩
  have hb : (b1 != b2) = false := by rw [hb1.out, hb2.out, hmn.out, c8]; simp
  have hd : dec l = ((l.drop 8).take n, 12 + n, 0) := by
    rw [hn.out] at c3 c5 c8 ⊢
    exact dec_iff (by omega) c2.out (by omega) (by omega) c8
  replace hd := Lib.hid hd
  clear c8 y0 y1 y2 y3 y4 c7
  have h8 := Bs.rest (h0.out.ext hx3) (m := 8) (by omega)
  simp only [Option.map_some] at h8
  rw [show ad.add 8 = ⟨ad.block, ad.off + 8, none⟩ from add_up ad 7, ← List.length_drop] at h8
  have h9 := Bs.begin h8 (m := n) (by rw [List.length_drop]; omega)
  have hpl : ((l.drop 8).take n).length = n := by rw [List.length_take, List.length_drop]; omega
  clear h8
  generalize hp : (l.drop 8).take n = p at *
  replace hp := Lib.hid hp
  replace hpl := Lib.hid hpl
  have ha9 : Bs (w3.alloc (.cells #[] 5)) S (.slice (some ⟨ad.block, ad.off + 8, none⟩) (8 + n - 8) (c - 8)) p := by rw [Nat.add_sub_cancel_left]; exact h9.alloc _
  have hn9 : (([] : List Value).length + (p.map bv).length) * 1 ≤ 140737488355328 := by have := hpl.out; simp; omega
  replace hn9 := Lib.hid hn9
  replace ha9 := Lib.hid ha9
  clear h9
  go_wp2_with ((with_reducible show wpList _ _ _ (⟨some 42, _, _, _, _, _⟩ :: _) _ _); (refine wp_app tyB (Own.empty w3 5) ha9.out (bv_one p) rfl (.tmp 37) (.tmp 41) rfl rfl rfl hn9.out ?_); intro v4 w4 hown4 hmod4 hnx4)
  go_ret3
  rw [hd.out]
  have hfr0 : Fresh w3.heap.size (.slice (some ⟨w3.heap.size, 0, none⟩) 0 0) := (fun k hk => by have : w3.heap.size = k := Option.some.inj hk; omega)
  have hx4 : Ext w3 w4 := ext_app (Mod.refl _ w3) hfr0 hmod4
  have hf4 : Fresh w3.heap.size v4 := hnx4.fresh hfr0 (by simp)
  have hs3 := hx3.size
  exact ⟨v4, by rw [Int.natCast_add]; rfl, by simpa using hown4, hf4.mono hs3, ext_trans hx3 hx4⟩

set_option maxHeartbeats 1000000 in
theorem rone_any {w : World} {S : Nat → Prop} {v : Value} {l : List UInt8} (h : Bs w S v l) (hl : l.length ≤ 140737488355328) :
    Calls Tryd.prog 16 #[v] w fun e w' => ∃ v', e = .returned (.tuple #[v', .int .i64 ((one l).2 : Nat)]) ∧ Own w' 5 v' ((one l).1.map bv) ∧ Fresh w.heap.size v' ∧ Ext w w' := by
  have hsz : (dec l).2.1 ≤ l.length := by
    by_cases hd : (dec l).2.2 = 0
    · exact (dec_size hd).2
    · rw [dec_err hd]; simp
  have h0 := h
  obtain ⟨A, c, rfl, h1, h2, h3, h4⟩ := h.open_
  obtain ⟨o, ho⟩ : ∃ o, o = one l := ⟨_, rfl⟩
  rw [← ho]
  unfold one at ho
  go_enter Tryd.func16, Tryd.ntmps16
  replace ho := Lib.hid ho
  go_wp2_with fail
  refine (rdecode_any h0 hl).mono ?_
  rintro e w1 ⟨v1, rfl, g1, g2, g3⟩
  replace ho := ho.out
  generalize dec l = d at *
  obtain ⟨p, n, er⟩ := d
  simp only at g1 hsz ho ⊢
  by_cases hd : er = 0
  · subst hd
    rw [if_neg (by simp)] at ho
    by_cases hlt : n < l.length
    · rw [if_pos hlt] at ho
      have hb : ((n : Int) != (l.length : Int)) = true := by rw [bne_iff_ne]; omega
      replace ho := Lib.hid ho
      go_wp2_with fail
      go_ret2
      rw [ho.out]
      exact ⟨_, rfl, Own.nil _ _, fresh_nil _ _ _, g3⟩
    · rw [if_neg hlt] at ho
      have hb : ((n : Int) != (l.length : Int)) = false := by rw [bne_eq_false_iff_eq]; omega
      replace ho := Lib.hid ho
      go_wp2_with fail
      go_ret2
      rw [ho.out]
      exact ⟨_, rfl, g1, g2, g3⟩
  · rw [if_pos hd] at ho
    replace ho := Lib.hid ho
    have hb : ((er : Int) == 0) = false := by rw [beq_eq_false_iff_ne]; omega
    have hb2 : ((er : Int) != 0) = true := by rw [bne_iff_ne]; omega
    go_wp2_with fail
    go_ret2
    rw [ho.out]
    exact ⟨_, rfl, Own.nil _ _, fresh_nil _ _ _, g3⟩
end Go.Proofs.YtckgnnopoekniaaDoor
