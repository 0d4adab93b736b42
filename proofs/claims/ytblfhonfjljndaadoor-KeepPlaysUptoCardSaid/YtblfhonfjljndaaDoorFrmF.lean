/- frame: Decode, One. -/
import Derived.Test.YtblfhonfjljndaaDoorFrmC
import Derived.IntWalk
namespace Go.Proofs.YtblfhonfjljndaaDoor
open Go.RowKit
set_option maxRecDepth 100000

/-- The bytes that are just oneR record. -/
def oneR (l : List UInt8) : List UInt8 × Nat := if (dec l).2.2 ≠ 0 then ([], (dec l).2.2) else if (dec l).2.1 < l.length then ([], 3) else ((dec l).1, 0)
set_option maxHeartbeats 1000000 in
theorem one_any {w : World} {S : Nat → Prop} {v : Value} {l : List UInt8} (h : Bs w S v l) (hN : Nib w) (hl : l.length ≤ 140737488355328) :
    Calls Tryd.prog 32 #[v] w fun e w' => ∃ v', e = .returned (.tuple #[v', .int .i64 ((oneR l).2 : Nat)]) ∧ Own w' 5 v' ((oneR l).1.map bv) ∧ Fresh w.heap.size v' ∧ Ext w w' := by
  have hsz : ((dec l).1).length ≤ l.length := by
    by_cases hd : (dec l).2.2 = 0
    · rw [(dec_ok hd).2.2.2.2.2]; simp only [List.length_take, List.length_drop]; omega
    · rw [dec_err hd]; simp
  have h0 := h
  obtain ⟨A, c, rfl, h1, h2, h3, h4⟩ := h.open_
  obtain ⟨o, ho⟩ : ∃ o, o = oneR l := ⟨_, rfl⟩
  rw [← ho]
  unfold oneR at ho
  go_enter Tryd.func32, Tryd.ntmps32
  replace ho := Lib.hid ho
  go_wp2_with fail
  refine (look_any h0 hN hl).mono ?_
  rintro e w1 ⟨v1, rfl, g1, g2⟩
  replace ho := ho.out
  generalize dec l = d at *
  obtain ⟨p, n, er⟩ := d
  simp only at g1 hsz ho ⊢
  by_cases hd : er = 0
  · subst hd
    obtain ⟨A1, c1, rfl, y1, y2, y3, y4⟩ := g1.open_
    rw [if_neg (by simp)] at ho
    by_cases hlt : n < l.length
    · rw [if_pos hlt] at ho
      subst ho
      go_wp2_with fail
      go_ret2
      exact ⟨_, rfl, Own.nil _ _, fresh_nil _ _ _, g2⟩
    · rw [if_neg hlt] at ho
      replace ho := Lib.hid ho
      go_wp2_with fail
      refine (join_any (Rw.one 32 g1) (by simp; omega)).mono ?_
      rintro e w2 ⟨v2, rfl, k1, k2, k3⟩
      have hx2 := ext_trans (Mod.alloc g2 _) k3
      have hs := g2.size
      clear k3
      go_wp2_with fail
      go_ret2
      rw [ho.out]
      exact ⟨_, rfl, by simpa using k1, k2.mono (by simp; omega), hx2⟩
  · rw [if_pos hd] at ho
    replace ho := Lib.hid ho
    have hb : ((er : Int) != 0) = true := by rw [bne_iff_ne]; omega
    go_wp2_with fail
    go_ret2
    rw [ho.out]
    exact ⟨_, rfl, Own.nil _ _, fresh_nil _ _ _, g2⟩
end Go.Proofs.YtblfhonfjljndaaDoor
namespace Go.Proofs.YtblfhonfjljndaaDoor
open Go.RowKit
set_option maxRecDepth 100000

set_option maxHeartbeats 1000000 in
theorem rdecode_any {w : World} {S : Nat → Prop} {v : Value} {l : List UInt8} (h : Bs w S v l) (hl : l.length ≤ 140737488355328) :
    Calls Tryd.prog 61 #[v] w fun e w' => ∃ v', e = .returned (.tuple #[v', .int .i64 ((dec l).2.1 : Nat), .int .i64 ((dec l).2.2 : Nat)]) ∧ Own w' 5 v' ((dec l).1.map bv) ∧ Fresh w.heap.size v' ∧ Ext w w' := by
  have h0 := h
  obtain ⟨A, c, rfl, h1, h2, h3, h4⟩ := h.open_
  by_cases c1 : l.length < 8
  · have hd : dec l = ([], 0, 2) := by unfold dec; rw [if_pos c1]
    rw [hd]
    clear hd
    go_enter Tryd.func61, Tryd.ntmps61
    go_wp2_with fail
    go_ret3
    exact ⟨_, rfl, Own.nil _ _, fresh_nil _ _ _, Mod.refl _ _⟩
  obtain ⟨ad, rfl, -, -⟩ := h4.at_ (show 0 < l.length by omega)
  have hc8 : 8 ≤ c := by omega
  have hq : ∀ wx, Ext w wx → Bs wx S (.slice (some ad) l.length c) l := fun wx hx => h0.ext hx
  have hT : ∀ m, 0 < m → m + 4 ≤ l.length → ∀ wx, Ext w wx → ∀ k, Calls Tryd.prog 69 #[.slice (some (ad.add m)) (l.length - m) (c - m)] (wx.drewN k) fun e w' => e = .returned (.int .u32 (from4 (l.drop m) : Nat)) ∧ ∃ n, w' = (wx.drewN k).drewN n := by
    intro m hm0 hm wx hx k
    have := Bs.rest (hq (wx.drewN k) (hx.drewN k)) (m := m) (by omega)
    simp only [Option.map_some] at this
    exact from_any this (by rw [List.length_drop]; omega)
  have hS : ∀ m, m ≤ l.length → ∀ wx, Ext w wx → ∀ k, Calls Tryd.prog 55 #[.slice (some ad) m c] (wx.drewN k) fun e w' => e = .returned (.int .u32 (sumOf (l.take m) : Nat)) ∧ w' = wx.drewN k := by
    intro m hm wx hx k
    exact rsum_any (Bs.begin (hq (wx.drewN k) (hx.drewN k)) (m := m) (by omega))
  have hT4 := hT 4 (by omega) (by omega) w (Mod.refl _ _)
  rw [show ad.add 4 = ⟨ad.block, ad.off + 4, none⟩ from add_up ad 3] at hT4
  have hS4 := hS 4 (by omega) w (Mod.refl _ _)
  obtain ⟨a1, ha1⟩ : ∃ a1 : Int, a1 = (from4 (l.drop 4) : Nat) := ⟨_, rfl⟩
  obtain ⟨a2, ha2⟩ : ∃ a2 : Int, a2 = (sumOf (l.take 4) : Nat) := ⟨_, rfl⟩
  rw [← ha1] at hT4
  rw [← ha2] at hS4
  replace ha1 := Lib.hid ha1
  replace ha2 := Lib.hid ha2
  clear hq h4 h h3
  replace hT := Lib.hid hT
  replace hS := Lib.hid hS
  replace hT4 := Lib.hid hT4
  replace hS4 := Lib.hid hS4
  replace h0 := Lib.hid h0
  have c4 : ¬ c = 4 := by omega
  have x1 : (4 : Int) ≤ (l.length : Int) := by omega
  have x2 : (4 : Int) ≤ (c : Int) := by omega
  have x3 : (l.length : Int) ≤ (c : Int) := by omega
  go_enter Tryd.func61, Tryd.ntmps61
  go_wp2_with fail
  go_quiet (first
    | (go_at_call 69; exact Calls.quiet_of (hT4.out _))
    | (go_at_call 55; exact Calls.quiet_of_same (hS4.out _)))
  have hx1 : Ext w (w.drewN nq) := (Mod.refl _ _).drewN _
  generalize w.drewN nq = wc at *
  by_cases c2 : from4 (l.drop 4) = sumOf (l.take 4)
  rotate_left
  · have hb : (a1 != a2) = true := by rw [ha1.out, ha2.out, bne_iff_ne]; exact fun h => c2 (Int.ofNat.inj h)
    have hd : dec l = ([], 0, 4) := by unfold dec; rw [if_neg c1, if_pos c2]
    replace hd := Lib.hid hd
    clear c2
    go_wp2_with fail
    go_ret3
    rw [hd.out]
    exact ⟨_, rfl, Own.nil _ _, fresh_nil _ _ _, hx1⟩
  have hb : (a1 != a2) = false := by rw [ha1.out, ha2.out, c2]; simp
  replace c2 := Lib.hid c2
  go_wp2_with fail
  refine (from_any (h0.out.ext hx1) (by omega)).mono ?_
  rintro e w2 ⟨rfl, n2, hw2⟩
  have hx2 : Ext w w2 := by rw [hw2]; exact hx1.drewN n2
  clear hw2
  obtain ⟨n, hn⟩ : ∃ n, n = from4 l := ⟨_, rfl⟩
  have hnl : n < 4294967296 := by rw [hn]; exact from4_lt l
  rw [← hn]
  by_cases c3 : 1048576 < n
  · have hd : dec l = ([], 0, 5) := by unfold dec; rw [if_neg c1, if_neg (fun h => h c2.out), if_pos (by rw [← hn]; exact c3)]
    replace hd := Lib.hid hd
    replace hn := Lib.hid hn
    go_wp2_with fail
    go_ret3
    rw [hd.out]
    exact ⟨_, rfl, Own.nil _ _, fresh_nil _ _ _, hx2⟩
  by_cases c5 : l.length < 12 + n
  · have hd : dec l = ([], 0, 2) := by unfold dec; rw [if_neg c1, if_neg (fun h => h c2.out), if_neg (by rw [← hn]; exact c3), if_pos (by rw [← hn]; exact c5)]
    replace hd := Lib.hid hd
    replace hn := Lib.hid hn
    go_wp2_with fail
    go_ret3
    rw [hd.out]
    exact ⟨_, rfl, Own.nil _ _, fresh_nil _ _ _, hx2⟩
  replace hn := Lib.hid hn
  have c6 : ¬ c = 8 := by omega
  clear hT4 hS4 c4 x1 x2
  go_wp2_with fail
  obtain ⟨m, hm⟩ : ∃ m : Nat, (8 : Int) + n = m := ⟨8 + n, by omega⟩
  have hmn : m = 8 + n := by omega
  have c7 : ¬ c = m := by omega
  have hTm := hT.out m (by omega) (by omega) w2 hx2
  have hSm := hS.out m (by omega) w2 hx2
  obtain ⟨b1, hb1⟩ : ∃ b1 : Int, b1 = (from4 (l.drop m) : Nat) := ⟨_, rfl⟩
  obtain ⟨b2, hb2⟩ : ∃ b2 : Int, b2 = (sumOf (l.take m) : Nat) := ⟨_, rfl⟩
  rw [← hb1] at hTm
  rw [← hb2] at hSm
  replace hb1 := Lib.hid hb1
  replace hb2 := Lib.hid hb2
  replace hTm := Lib.hid hTm
  replace hSm := Lib.hid hSm
  have y0 : (0 : Int) ≤ (m : Int) := by omega
  have y1 : (m : Int) ≤ (l.length : Int) := by omega
  have y2 : (m : Int) ≤ (c : Int) := by omega
  have y3 : (8 : Int) ≤ (m : Int) := by omega
  have y4 : m - 8 = n := by omega
  have s1 : IntKind.i64.wrap (8 + (n : Int)) = (m : Int) := by rw [IntWalk.i64_in _ (by omega), hm]
  clear hT hS
  replace hm := Lib.hid hm
  replace hmn := Lib.hid hmn
  go_quiet (first
    | (go_at_call 69; exact Calls.quiet_of (hTm.out _))
    | (go_at_call 55; exact Calls.quiet_of_same (hSm.out _)))
  clear s1
  have hx3 : Ext w (w2.drewN nq) := hx2.drewN _
  generalize w2.drewN nq = w3 at *
  by_cases c8 : from4 (l.drop (8 + n)) = sumOf (l.take (8 + n))
  rotate_left
  · have hb : (b1 != b2) = true := by rw [hb1.out, hb2.out, bne_iff_ne, hmn.out]; exact fun h => c8 (Int.ofNat.inj h)
    have hd : dec l = ([], 0, 4) := by
      rw [hn.out] at c3 c5 c8
      unfold dec; rw [if_neg c1, if_neg (fun h => h c2.out), if_neg c3, if_neg c5, if_pos c8]
    replace hd := Lib.hid hd
    clear c8
    go_wp2_with fail
    go_ret3
    rw [hd.out]
    exact ⟨_, rfl, Own.nil _ _, fresh_nil _ _ _, hx3⟩
  have hb : (b1 != b2) = false := by rw [hb1.out, hb2.out, hmn.out, c8]; simp
  have hd : dec l = ((l.drop 8).take n, 12 + n, 0) := by
    rw [hn.out] at c3 c5 c8 ⊢
    exact dec_iff (by omega) c2.out (by omega) (by omega) c8
  replace hd := Lib.hid hd
  clear c8 y0 y1 y2 y3 y4 c7
  have h8 := Bs.rest (h0.out.ext hx3) (m := 8) (by omega)
  simp only [Option.map_some] at h8
  rw [show ad.add 8 = ⟨ad.block, ad.off + 8, none⟩ from add_up ad 7, ← List.length_drop] at h8
  have h9 := Bs.begin h8 (m := n) (by rw [List.length_drop]; omega)
  have hpl : ((l.drop 8).take n).length = n := by rw [List.length_take, List.length_drop]; omega
  clear h8
  generalize hp : (l.drop 8).take n = p at *
  replace hp := Lib.hid hp
  replace hpl := Lib.hid hpl
  have ha9 : Bs (w3.alloc (.cells #[] 5)) S (.slice (some ⟨ad.block, ad.off + 8, none⟩) (8 + n - 8) (c - 8)) p := by rw [Nat.add_sub_cancel_left]; exact h9.alloc _
  have hn9 : (([] : List Value).length + (p.map bv).length) * 1 ≤ 140737488355328 := by have := hpl.out; simp; omega
  replace hn9 := Lib.hid hn9
  replace ha9 := Lib.hid ha9
  clear h9
  go_wp2_with ((with_reducible show wpList _ _ _ (⟨some 42, _, _, _, _, _⟩ :: _) _ _); (refine wp_app tyB (Own.empty w3 5) ha9.out (bv_one p) rfl (.tmp 37) (.tmp 41) rfl rfl rfl hn9.out ?_); intro v4 w4 hown4 hmod4 hnx4)
  go_ret3
  rw [hd.out]
  have hfr0 : Fresh w3.heap.size (.slice (some ⟨w3.heap.size, 0, none⟩) 0 0) := (fun k hk => by have : w3.heap.size = k := Option.some.inj hk; omega)
  have hx4 : Ext w3 w4 := ext_app (Mod.refl _ w3) hfr0 hmod4
  have hf4 : Fresh w3.heap.size v4 := hnx4.fresh hfr0 (by simp)
  have hs3 := hx3.size
  exact ⟨v4, by rw [Int.natCast_add]; rfl, by simpa using hown4, hf4.mono hs3, ext_trans hx3 hx4⟩

set_option maxHeartbeats 1000000 in
theorem rone_any {w : World} {S : Nat → Prop} {v : Value} {l : List UInt8} (h : Bs w S v l) (hl : l.length ≤ 140737488355328) :
    Calls Tryd.prog 33 #[v] w fun e w' => ∃ v', e = .returned (.tuple #[v', .int .i64 ((oneR l).2 : Nat)]) ∧ Own w' 5 v' ((oneR l).1.map bv) ∧ Fresh w.heap.size v' ∧ Ext w w' := by
  have hsz : (dec l).2.1 ≤ l.length := by
    by_cases hd : (dec l).2.2 = 0
    · exact (dec_size hd).2
    · rw [dec_err hd]; simp
  have h0 := h
  obtain ⟨A, c, rfl, h1, h2, h3, h4⟩ := h.open_
  obtain ⟨o, ho⟩ : ∃ o, o = oneR l := ⟨_, rfl⟩
  rw [← ho]
  unfold oneR at ho
  go_enter Tryd.func33, Tryd.ntmps33
  replace ho := Lib.hid ho
  go_wp2_with fail
  refine (rdecode_any h0 hl).mono ?_
  rintro e w1 ⟨v1, rfl, g1, g2, g3⟩
  replace ho := ho.out
  generalize dec l = d at *
  obtain ⟨p, n, er⟩ := d
  simp only at g1 hsz ho ⊢
  by_cases hd : er = 0
  · subst hd
    rw [if_neg (by simp)] at ho
    by_cases hlt : n < l.length
    · rw [if_pos hlt] at ho
      have hb : ((n : Int) != (l.length : Int)) = true := by rw [bne_iff_ne]; omega
      replace ho := Lib.hid ho
      go_wp2_with fail
      go_ret2
      rw [ho.out]
      exact ⟨_, rfl, Own.nil _ _, fresh_nil _ _ _, g3⟩
    · rw [if_neg hlt] at ho
      have hb : ((n : Int) != (l.length : Int)) = false := by rw [bne_eq_false_iff_eq]; omega
      replace ho := Lib.hid ho
      go_wp2_with fail
      go_ret2
      rw [ho.out]
      exact ⟨_, rfl, g1, g2, g3⟩
  · rw [if_pos hd] at ho
    replace ho := Lib.hid ho
    have hb : ((er : Int) == 0) = false := by rw [beq_eq_false_iff_ne]; omega
    have hb2 : ((er : Int) != 0) = true := by rw [bne_iff_ne]; omega
    go_wp2_with fail
    go_ret2
    rw [ho.out]
    exact ⟨_, rfl, Own.nil _ _, fresh_nil _ _ _, g3⟩
end Go.Proofs.YtblfhonfjljndaaDoor
namespace Go.Proofs.YtblfhonfjljndaaDoor
open Go.RowKit
set_option maxRecDepth 100000

set_option maxHeartbeats 1000000 in
theorem encode_any {w : World} {S : Nat → Prop} {y : Value} {L : List (List UInt8)} (hy : Rw w S y L) (hN : Nib w) (hl : L.flatten.length ≤ 1048576) :
    Calls Tryd.prog 26 #[y] w fun e w' => ∃ v', e = .returned (.tuple #[v', .int .i64 0]) ∧ Own w' 5 v' ((frec L.flatten).map bv) ∧ Fresh w.heap.size v' ∧ Ext w w' := by
  obtain ⟨A, c, vs, rfl, h1, h2, h3, h4, h5, h6⟩ := hy.open_
  go_enter Tryd.func26, Tryd.ntmps26
  go_wp2_with fail
  go_loop [4, 12] (fun n i => ∃ k : Nat, k ≤ L.length ∧ i = .int .i64 k ∧ n = .int .i64 (flen L k : Nat)) (fun _ i => L.length - (intOf i).toNat)
  case atStart => exact ⟨0, Nat.zero_le _, rfl, by simp [flen]⟩
  case round =>
    obtain ⟨k, hk, rfl, rfl⟩ := hrel
    by_cases hlt : k < L.length
    · obtain ⟨ad, x, rfl, hs, hc, hbs⟩ := row_at h4 h5 h6 hlt
      obtain ⟨A2, c2, rfl, k1, k2, k3, k4⟩ := hbs.open_
      have hsn := flen_snoc L k hlt
      have hle := flen_le L k
      have hle1 := flen_le L (k + 1)
      rw [hsn] at hle1
      replace hsn := Lib.hid hsn
      obtain ⟨tot, htot⟩ : ∃ t, t = L.flatten.length := ⟨_, rfl⟩
      rw [← htot] at hl hle hle1
      replace htot := Lib.hid htot
      go_wp2
      exact ⟨⟨k + 1, by omega, by go_num, by rw [hsn.out]; go_num⟩, by simp [intOf]; omega⟩
    · have hfl : flen L k = L.flatten.length := flen_all L k (by omega)
      rw [hfl]
      clear hfl
      obtain ⟨n, hn⟩ : ∃ n, n = L.flatten.length := ⟨_, rfl⟩
      rw [← hn]
      rw [← hn] at hl
      replace hn := Lib.hid hn
      go_wp2_with ((with_reducible show wpList _ _ _ (⟨some 26, _, _, _, _, _⟩ :: _) _ _); refine wp_make0 tyB (8 + n + 4) rfl (.const (.int .i64 0)) (.tmp 25) rfl rfl rfl (by omega) ?_; intro w1 hown1 hext1 hlt1)
      have hf1 : Fresh w.heap.size (.slice (some ⟨w.heap.size, 0, none⟩) 0 (8 + n + 4)) := fun k hk => by have : w.heap.size = k := Option.some.inj hk; omega
      refine (lay_any hown1 n (by omega) (by simp)).mono ?_
      rintro e w2 ⟨v2, rfl, k1, k2, k3⟩
      have hx2 : Ext w w2 := ext_app0 hext1 hf1 k3
      have hf2 : Fresh w.heap.size v2 := k2.fresh hf1 hext1.size
      rw [List.nil_append] at k1
      clear k2 k3 hext1 hown1 hlt1 hf1
      obtain ⟨A2, c2, rfl⟩ := k1.shape
      go_wp2_with fail
      refine (sum_any (Rw.one 32 k1.sl) (hN.mod (Mod.alloc hx2 _) (fun h => h))).mono ?_
      rintro e w3 ⟨rfl, rfl⟩
      go_wp2_with fail
      refine (lay_any (k1.alloc _) _ (sumOf_lt _) (by simp [four])).mono ?_
      rintro e w4 ⟨v4, rfl, m1, m2, m3⟩
      rw [← List.map_append] at m1
      have hx4 : Ext w w4 := ext_app hx2 hf2 m3
      have hf4 : Fresh w.heap.size v4 := m2.fresh hf2 (by simp; have := hx2.size; omega)
      clear m2 m3 k1 hf2 hx2
      replace m1 : Own w4 5 v4 ((fhead n).map bv) := m1
      obtain ⟨A4, c4, rfl⟩ := m1.shape
      go_wp2_with fail
      go_loopw [7, 38] (fun v i wr => ∃ k : Nat, k ≤ L.length ∧ i = .int .i64 k ∧ Own wr 5 v ((fhead n ++ (L.take k).flatten).map bv) ∧ Fresh w.heap.size v ∧ Ext w wr) (fun _ i _ => L.length - (intOf i).toNat)
      case atStart => exact ⟨0, Nat.zero_le _, rfl, by simpa using m1, hf4, hx4⟩
      case round =>
        clear hlt m1 hf4 hx4
        obtain ⟨k, hk, rfl, hown, hf, hm⟩ := hrel
        by_cases hlt : k < L.length
        · obtain ⟨ad, x, rfl, hs, hc, hbs⟩ := row_at h4 (h5.mod hm (fun _ _ _ h => h)) (fun k x l hx hl => (h6 k x l hx hl).ext hm) hlt
          have hsn := Lib.hid (flat_snoc L k hlt)
          have hle1 := flat_take L (k + 1)
          rw [hsn.out, List.length_append, ← hn.out] at hle1
          have hln : (((fhead n ++ (L.take k).flatten).map bv).length + (L[k].map bv).length) * 1 ≤ 140737488355328 := by
            rw [List.length_map, List.length_append, fhead_len, List.length_map]; omega
          replace hle1 := Lib.hid hle1
          replace hln := Lib.hid hln
          go_wp2_with ((with_reducible show wpList _ _ _ (⟨some 44, _, _, _, _, _⟩ :: _) _ _); refine wp_app tyB hown hbs (bv_one _) rfl (.tmp 42) (.tmp 43) rfl rfl rfl hln.out ?_; intro v2 w2 hown2 hmod2 hnx2)
          exact ⟨⟨k + 1, by omega, by go_num, by rw [hsn.out, ← List.append_assoc, List.map_append]; exact hown2, hnx2.fresh hf hm.size, ext_app0 hm hf hmod2⟩, by simp [intOf]; omega⟩
        · have hfb : fhead n ++ (L.take k).flatten = fbody L.flatten := by rw [List.take_of_length_le (by omega), hn.out]; rfl
          rw [hfb] at hown
          clear hfb
          have hbl : (fbody L.flatten).length ≤ 2000000 := by rw [fbody_len, ← hn.out]; omega
          have hfr : frec L.flatten = fbody L.flatten ++ four (sumOf (fbody L.flatten)) := rfl
          replace hfr := Lib.hid hfr
          generalize fbody L.flatten = bd at *
          obtain ⟨A5, c5, rfl⟩ := hown.shape
          rw [List.length_map] at hown hf ⊢
          go_wp2_with fail
          refine (sum_any (Rw.one 32 hown.sl) (hN.mod (Mod.alloc hm _) (fun h => h))).mono ?_
          rintro e w3 ⟨rfl, rfl⟩
          go_wp2_with fail
          refine (lay_any (hown.alloc _) _ (sumOf_lt _) (by rw [List.length_map]; omega)).mono ?_
          rintro e w6 ⟨v6, rfl, p1, p2, p3⟩
          go_wp2_with fail
          go_ret2
          rw [hfr.out]
          exact ⟨v6, rfl, by rw [List.map_append]; simpa using p1, p2.fresh hf (by simp; have := hm.size; omega), ext_app hm hf p3⟩
end Go.Proofs.YtblfhonfjljndaaDoor
