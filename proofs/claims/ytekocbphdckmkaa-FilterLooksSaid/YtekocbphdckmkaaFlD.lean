/- eval: how much a filter is (the law's heavy). -/
import Derived.Test.YtekocbphdckmkaaFlB
namespace Go.Proofs.Ytekocbphdckmkaa
open Go.RowKit
set_option maxRecDepth 100000

/-- What is left of left behind W. -/
def Hv (left : Int) (W : Nat) (r : Int) : Prop := ((W : Int) ≤ left ∧ r = left - W) ∨ (left < W ∧ r < 0 ∧ -1000000000000000 ≤ r)
theorem wF_succ (n : Nat) (F : Fi) : wF (n + 1) F = 5 + F.typ.length + F.val.length + wV F.subs + (F.kids.map (wF n)).sum := rfl
set_option maxHeartbeats 16000000 in
theorem heavyF_any (n : Nat) : ∀ {w : World} {F : Fi} {vs vk : Value} {left : Int}, FilN n w F vs vk → 0 ≤ left → left ≤ 1000000 →
    Calls Try.prog 12 #[.agg #[.int .i64 F.kind, sv F.typ, sv F.val, vs, vk], .int .i64 left] w fun e w' => ∃ r : Int, e = .returned (.int .i64 r) ∧ Hv left (wF n F) r ∧ Ext w w' := by
  induction n with
  | zero => intro w F vs vk left h; exact h.elim
  | succ n ih =>
    intro w F vs vk left h hl0 hl1
    obtain ⟨hB, ⟨As, cs, es⟩, hS, A, c, ek, -⟩ := h.open_
    have hty := hB.ty
    have hvl := hB.vl
    have hsl := hB.sl
    have hss := hB.ss
    have hkl := hB.kl
    obtain ⟨W, hW⟩ : ∃ W, W = wF (n + 1) F := ⟨_, rfl⟩
    rw [← hW]
    rw [wF_succ] at hW
    obtain ⟨T, hT⟩ : ∃ T, T = F.typ := ⟨_, rfl⟩
    obtain ⟨V, hV⟩ : ∃ T, T = F.val := ⟨_, rfl⟩
    obtain ⟨B, hBs⟩ : ∃ T, T = F.subs := ⟨_, rfl⟩
    obtain ⟨K, hKs⟩ : ∃ T, T = F.kids := ⟨_, rfl⟩
    obtain ⟨kd, hkd⟩ : ∃ T, T = F.kind := ⟨_, rfl⟩
    have hop := fun {wx : World} (x : Ext w wx) => (h.ext x).open_
    rw [← hT] at hty hW ⊢
    rw [← hV] at hvl hW ⊢
    rw [← hBs] at hsl hss hW es hS
    rw [← hKs] at hkl hW ek
    rw [← hBs, ← hKs] at hop
    rw [← hkd]
    clear hT hV hBs hKs hkd hB h
    obtain ⟨m, hm⟩ : ∃ m, m = B.length := ⟨_, rfl⟩
    obtain ⟨q, hq⟩ : ∃ m, m = K.length := ⟨_, rfl⟩
    rw [← hm] at es
    rw [← hq] at ek
    subst es ek
    obtain ⟨w1, hw1⟩ : ∃ x, x = w.alloc (.cells #[.int .i64 kd, sv T, sv V, .slice As m cs, .slice A q c] 25) := ⟨_, rfl⟩
    obtain ⟨p, hp⟩ : ∃ p, p = w.heap.size := ⟨_, rfl⟩
    have x1 : Ext w w1 := by rw [hw1]; exact (Mod.refl _ w).alloc _
    have BP : Blk w1 p 25 #[.int .i64 kd, sv T, sv V, .slice As m cs, .slice A q c] := by rw [hw1, hp]; exact Blk.new w _ _
    have hcc : ∀ {wx : World}, Ext w1 wx → wx.cell? ⟨p, 1, none⟩ = some (sv T) ∧ wx.cell? ⟨p, 2, none⟩ = some (sv V) ∧ wx.cell? ⟨p, 3, none⟩ = some (.slice As m cs) ∧ wx.cell? ⟨p, 4, none⟩ = some (.slice A q c) := fun x => ⟨(BP.mod x (fun h => h)).cell 1, (BP.mod x (fun h => h)).cell 2, (BP.mod x (fun h => h)).cell 3, (BP.mod x (fun h => h)).cell 4⟩
    obtain ⟨p1, p2, p3, p4⟩ := hcc (Mod.refl _ w1)
    have hm8 : m ≤ 140737488351232 := by omega
    have hq8 : q ≤ 140737488351232 := by omega
    replace hm := Lib.hid hm
    replace hq := Lib.hid hq
    replace hw1 := Lib.hid hw1
    replace hp := Lib.hid hp
    replace hW := Lib.hid hW
    clear BP
    go_enter Try.func12, Try.ntmps12
    go_upto_region 1 with fail
    rw [← hw1.out, ← hp.out]
    clear hw1 hp
    have hzT := sv_size T
    have hzV := sv_size V
    go_wp2_with fail
    go_loopw [1, 5] (fun v i wr => ∃ (k : Nat) (l : Int), k ≤ m ∧ i = .int .i64 k ∧ v = .int .i64 l ∧ -1000000000000000 ≤ l ∧ l ≤ 1000000 ∧ Hid ((l + (5 + T.length + V.length + wV (B.take k) : Nat) = left) ∨ (l < 0 ∧ left < W)) ∧ Ext w1 wr) (fun _ i _ => m - (intOf i).toNat)
    case atStart => exact ⟨0, left - 5 - T.length - V.length, Nat.zero_le _, rfl, rfl, by omega, by omega, Lib.hid (.inl (by simp [wV]; omega)), Mod.refl _ _⟩
    case round =>
      clear p1 p2 p3 p4
      obtain ⟨k, l, hk, rfl, rfl, hl2, hl3, hL, hx⟩ := hrel
      obtain ⟨p1, p2, p3, p4⟩ := hcc hx
      by_cases hgo : k < m ∧ 0 ≤ l
      case pos =>
        obtain ⟨hlt, hl4⟩ := hgo
        have hbl : decide ((k : Int) < (m : Int)) = true := dtrue (by omega)
        have hbn : decide (k < m) = true := dtrue (by omega)
        have hb0 : decide ((0 : Int) ≤ l) = true := dtrue (by omega)
        have hi0 : (0 : Int) ≤ (k : Int) := by omega
        have hi1 : (k : Int) < (m : Int) := by omega
        have hkb : k < B.length := by have := hm.out; omega
        obtain ⟨A9, c9, e9, _, _, _, h5⟩ := (Sl.ext hS (ext_trans x1 hx)).open_
        rw [← hm.out] at e9
        injection e9 with e1 e2 e3
        clear e2
        subst e1
        subst e3
        obtain ⟨ag, e2, _, h6⟩ := h5.at_ hkb
        subst e2
        have hxl := hsl _ (List.getElem_mem hkb)
        have hwv := sumF_next vW B hkb
        rw [← wV_sum, ← wV_sum] at hwv
        generalize B[k] = x at *
        have hvw : vW x = 1 + x.length := rfl
        rw [hvw] at hwv
        have hL2 : Hid ((l - 1 - x.length + (5 + T.length + V.length + wV (B.take (k + 1)) : Nat) = left) ∨ (l - 1 - x.length < 0 ∧ left < W)) := Lib.hid (by
          rcases hL.out with h | h
          · left; omega
          · omega)
        have hzx := sv_size x
        clear h5 hL hwv hkb hvw
        go_wp2_with fail
        exact ⟨⟨k + 1, l - 1 - x.length, by omega, by go_num, rfl, by omega, by omega, hL2, hx⟩, by simp [intOf] <;> omega⟩
      have hD : Hid ((0 ≤ l ∧ l + (5 + T.length + V.length + wV B + 0 : Nat) = left) ∨ (l < 0 ∧ left < W)) := Lib.hid (by
        have hWx := hW.out
        have hwt := sumF_take vW B k
        rw [← wV_sum, ← wV_sum] at hwt
        rcases hL.out with h | h
        · by_cases hl4 : 0 ≤ l
          · left
            have hkm : B.take k = B := List.take_of_length_le (by have := hm.out; omega)
            rw [hkm] at h
            omega
          · right; omega
        · right; omega)
      have hor : (decide ((k : Int) < (m : Int)) = false ∧ decide (k < m) = false) ∨ (decide ((k : Int) < (m : Int)) = true ∧ decide (k < m) = true ∧ decide ((0 : Int) ≤ l) = false) := by
        by_cases hlt : k < m
        · exact .inr ⟨dtrue (by omega), dtrue (by omega), dfalse (by omega)⟩
        · exact .inl ⟨dfalse (by omega), dfalse (by omega)⟩
      clear hL hgo
      rcases hor with ⟨hbl, hbn⟩ | ⟨hbl, hbn, hb0⟩
      all_goals
        go_wp2_with fail
        go_loopw [1, 6] (fun v i wr => ∃ (k : Nat) (l : Int), k ≤ q ∧ i = .int .i64 k ∧ v = .int .i64 l ∧ -1000000000000000 ≤ l ∧ l ≤ 1000000 ∧ Hid ((0 ≤ l ∧ l + (5 + T.length + V.length + wV B + ((K.take k).map (wF n)).sum : Nat) = left) ∨ (l < 0 ∧ left < W)) ∧ Ext w1 wr) (fun _ i _ => q - (intOf i).toNat)
        case atStart => exact ⟨0, l, Nat.zero_le _, rfl, rfl, by omega, by omega, Lib.hid (by simpa using hD.out), hx⟩
        case round =>
          clear p1 p2 p3 p4 hD hbl hbn hl2 hl3 hx hk
          obtain ⟨k, l, hk, rfl, rfl, hl2, hl3, hL, hx⟩ := hrel
          obtain ⟨p1, p2, p3, p4⟩ := hcc hx
          by_cases hgo : k < q ∧ 0 ≤ l
          case pos =>
            obtain ⟨hlt, hl4⟩ := hgo
            have hbl : decide ((k : Int) < (q : Int)) = true := dtrue (by omega)
            have hbn : decide (k < q) = true := dtrue (by omega)
            have hb0 : decide ((0 : Int) ≤ l) = true := dtrue (by omega)
            have hi0 : (0 : Int) ≤ (k : Int) := by omega
            have hi1 : (k : Int) < (q : Int) := by omega
            have hkb : k < K.length := by have := hq.out; omega
            obtain ⟨-, -, -, A9, c9, e9, h5⟩ := hop (ext_trans x1 hx)
            rw [← hq.out] at e9
            injection e9 with e1 e2 e3
            clear e2
            subst e1
            subst e3
            obtain ⟨ag, ys, yk, e2, c0, c1, c2, c3, c4, h7⟩ := h5 k hkb
            subst e2
            have hc := ih h7 hl4 hl3
            have hsn := sum_next (wF n) K hkb
            have hst := sum_take (wF n) K (k + 1)
            generalize K[k] = x at *
            clear h5 hkb
            go_wp2_with fail
            refine hc.mono ?_
            rintro e w9 ⟨r, rfl, hr, x9⟩
            have hL2 : Hid ((0 ≤ r ∧ r + (5 + T.length + V.length + wV B + ((K.take (k + 1)).map (wF n)).sum : Nat) = left) ∨ (r < 0 ∧ left < W)) := Lib.hid (by
              have hWx := hW.out
              rcases hL.out with h | h
              · rcases hr with h2 | h2
                · left; omega
                · right; omega
              · omega)
            have hx2 := ext_trans hx x9
            have hrb : -1000000000000000 ≤ r ∧ r ≤ 1000000 := by rcases hr with h2 | h2 <;> omega
            clear hL hsn hst hr hc x9 hx h7
            go_wp2_with fail
            exact ⟨⟨k + 1, r, by omega, by go_num, rfl, hrb.1, hrb.2, hL2, hx2⟩, by simp [intOf] <;> omega⟩
          have hD : Hid (Hv left W l) := Lib.hid (by
            have hWx := hW.out
            rcases hL.out with h | h
            · have hkm : K.take k = K := List.take_of_length_le (by have := hq.out; omega)
              rw [hkm] at h
              exact .inl (by omega)
            · exact .inr (by omega))
          have hor : (decide ((k : Int) < (q : Int)) = false ∧ decide (k < q) = false) ∨ (decide ((k : Int) < (q : Int)) = true ∧ decide (k < q) = true ∧ decide ((0 : Int) ≤ l) = false) := by
            by_cases hlt : k < q
            · exact .inr ⟨dtrue (by omega), dtrue (by omega), dfalse (by omega)⟩
            · exact .inl ⟨dfalse (by omega), dfalse (by omega)⟩
          clear hL hgo
          rcases hor with ⟨hbl, hbn⟩ | ⟨hbl, hbn, hb0⟩
          all_goals
            go_wp2_with fail
            go_ret
            exact ⟨_, rfl, hD.out, ext_trans x1 hx⟩
end Go.Proofs.Ytekocbphdckmkaa
