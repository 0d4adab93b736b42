/- ber: layLength, own, Tag. -/
import Derived.Test.YtodklnbimpdbjaaBerA
namespace Go.Proofs.Ytodklnbimpdbjaa
open Go.RowKit
set_option maxRecDepth 100000

theorem byte_of {n : Nat} (h : n < 256) : Value.int .u8 (n : Int) = bv (UInt8.ofNat n) := by
  show _ = Value.int .u8 ((UInt8.ofNat n).toNat : Int)
  rw [u8_ofNat' _ h]
theorem Next.sooner {B B' : Nat} {v v' : Value} (h : Next B v v') (hB : B' ≤ B) : Next B' v v' := (Next.refl B' v).trans h hB
theorem one_ok (u : Value) (h : u.oneCell' = true) : ∀ x ∈ [u], x.oneCell' = true := by
  intro x hx
  rw [List.mem_singleton] at hx
  rw [hx]; exact h
theorem room1 {l : List UInt8} {u : Value} (hl : l.length ≤ 100000000) : ((l.map bv).length + ([u] : List Value).length) * 1 ≤ 140737488355328 := by simp; omega
theorem mod_app {a c : World} {o : Obj} {v : Value} (h : Mod (own v) (a.alloc o) c) : Mod (own v) a c := (Mod.alloc (Mod.refl _ a) o).then_ h (fun _ _ h => h)

set_option maxHeartbeats 1000000 in
theorem laylen_any {w : World} {n : Nat} {v : Value} {l : List UInt8} (h : Own w 5 v (l.map bv)) (hn : n < 16777216) (hl : l.length ≤ 1000000) :
    Calls Try.prog 27 #[v, .int .i64 n] w fun e w' => ∃ v', e = .returned v' ∧ Own w' 5 v' ((l ++ lay n).map bv) ∧ Next w.heap.size v v' ∧ Mod (own v) w w' := by
  by_cases h128 : n < 128
  · have hlay : lay n = [UInt8.ofNat n] := by unfold lay; rw [if_pos h128]
    rw [hlay]
    have hbv := byte_of (n := n) (by omega)
    have hn1 := Lib.hid (room1 (u := .int .u8 n) (show l.length ≤ 100000000 by omega))
    replace hbv := Lib.hid hbv
    have hsl := Sl.one w 5 (.int .u8 n)
    have hown := h.alloc (.cells #[.int .u8 n] 5)
    have ho := one_ok (.int .u8 n) rfl
    obtain ⟨A, c, rfl⟩ := h.shape
    go_enter Try.func27, Try.ntmps27
    go_wp2_with ((with_reducible show wpList _ _ _ (⟨some 13, _, _, _, _, _⟩ :: _) _ _); refine wp_app tyB hown hsl ho rfl (.tmp 9) (.tmp 12) rfl rfl rfl hn1.out ?_; intro v2 w2 k1 k2 k3)
    go_ret
    exact ⟨v2, rfl, by rw [List.map_append]; rw [hbv.out] at k1; exact k1, k3.sooner (by simp), mod_app k2⟩
  · have hlay : lay n = UInt8.ofNat (128 + lw n) :: bes n (lw n) := by unfold lay; rw [if_neg h128]
    replace hlay := Lib.hid hlay
    obtain ⟨A, c, rfl⟩ := h.shape
    rw [List.length_map] at h ⊢
    have hl0 := Lib.hid hl
    go_enter Try.func27, Try.ntmps27
    go_wp2_with fail
    go_loop [5] (fun i => ∃ k : Nat, k ≤ 3 ∧ 1 ≤ k ∧ i = .int .i64 k ∧ Hid (k = 1 ∨ 2 ^ (8 * (k - 1)) ≤ n)) (fun i => 3 - (intOf i).toNat)
    case atStart => exact ⟨1, by omega, by omega, rfl, Lib.hid (.inl rfl)⟩
    case round =>
      obtain ⟨k, hk, hk1, rfl, hlow⟩ := hrel
      by_cases hlt : n < 2 ^ (8 * k)
      · have hw : lw n = k := lw_of hk1 hlt hlow.out hk
        have hd : ((n : Int) / 2 ^ (8 * k)) = 0 := by
          have : ((n / 2 ^ (8 * k) : Nat) : Int) = (n : Int) / 2 ^ (8 * k) := by simp
          rw [← this, Nat.div_eq_of_lt hlt]; rfl
        have hd2 : decide ((0 : Int) < (n : Int) / 2 ^ (8 * k)) = false := by rw [hd]; rfl
        rw [hw] at hlay
        have hbv := byte_of (n := 128 + k) (by omega)
        rw [Int.natCast_add] at hbv
        replace hbv := Lib.hid hbv
        have hn1 := Lib.hid (room1 (u := .int .u8 (128 + (k : Int))) (show l.length ≤ 100000000 by have := hl0.out; omega))
        have hsl := Sl.one w 5 (.int .u8 (128 + (k : Int)))
        have hown := h.alloc (.cells #[.int .u8 (128 + (k : Int))] 5)
        have ho := one_ok (.int .u8 (128 + (k : Int))) rfl
        clear hlt hw hlow
        go_wp2_with ((with_reducible show wpList _ _ _ (⟨some 26, _, _, _, _, _⟩ :: _) _ _); refine wp_app tyB hown hsl ho rfl (.tmp 21) (.tmp 25) rfl rfl rfl hn1.out ?_; intro v2 w2 k1 k2 k3)
        have m0 : Own w2 5 v2 ((l ++ [UInt8.ofNat (128 + k)]).map bv) := by
          rw [List.map_append, List.map_cons, List.map_nil, ← hbv.out]; exact k1
        have m1 : Next w.heap.size (.slice A l.length c) v2 := k3.sooner (by simp)
        have m2 : Mod (own (.slice A l.length c)) w w2 := mod_app k2
        clear k1 k2 k3 hn1 hsl hown ho hbv hd hd2
        go_loopw [0, 6] (fun v i wr => ∃ (j : Nat) (pre : List UInt8), j ≤ k ∧ i = .int .i64 ((j : Int) - 1) ∧ Own wr 5 v ((l ++ pre).map bv) ∧ Hid (pre.length + j = k + 1) ∧ Hid (pre ++ bes n j = lay n) ∧ Next w.heap.size (.slice A l.length c) v ∧ Mod (own (.slice A l.length c)) w wr) (fun _ i _ => ((intOf i) + 1).toNat)
        case atStart => exact ⟨k, _, Nat.le_refl _, rfl, m0, Lib.hid (by simp; omega), Lib.hid (by rw [hlay.out]; rfl), m1, m2⟩
        case round =>
          clear m0 m1 m2
          obtain ⟨j, pre, hj, rfl, p0, pl, pe, p1, p2⟩ := hrel
          rcases j with _ | j
          · rw [show (((0 : Nat) : Int) - 1) = -1 from rfl]
            go_wp2_with fail
            go_ret
            have he := pe.out
            rw [bes, List.append_nil] at he
            exact ⟨_, rfl, by rw [← he]; exact p0, p1, p2⟩
          · rw [show (((j + 1 : Nat) : Int) - 1) = (j : Int) by omega]
            have hbt : bv (bt n j) = .int .u8 ((n : Int) / 2 ^ (8 * j) % 256) := by
              show Value.int .u8 ((bt n j).toNat : Int) = _
              rw [bt_val]
            have hn1 := Lib.hid (room1 (u := bv (bt n j)) (show (l ++ pre).length ≤ 100000000 by have := hl0.out; have := pl.out; rw [List.length_append]; omega))
            have hsl := Sl.one wr 5 (bv (bt n j))
            have hown := p0.alloc (.cells #[bv (bt n j)] 5)
            have ho := one_ok (bv (bt n j)) rfl
            rw [hbt] at hn1 hsl hown ho
            replace hbt := Lib.hid hbt
            obtain ⟨A2, c2, rfl⟩ := p0.shape
            rw [List.length_map] at hown p0 p1 ⊢
            go_wp2_with ((with_reducible show wpList _ _ _ (⟨some 40, _, _, _, _, _⟩ :: _) _ _); refine wp_app tyB hown hsl ho rfl (.tmp 33) (.tmp 39) rfl rfl rfl hn1.out ?_; intro v3 w3 k1 k2 k3)
            refine ⟨⟨j, pre ++ [bt n j], by omega, by go_num, ?_, Lib.hid (by have := pl.out; simp <;> omega), Lib.hid (by have := pe.out; rw [bes] at this; simpa using this), p1.trans k3 (by have := p2.size; simp <;> omega), ?_⟩, by simp [intOf] <;> omega⟩
            · rw [← hbt.out] at k1
              simpa using k1
            · exact p2.then_ (mod_app k2) (fun x hx hh => p1.sub hx hh)
      · have hlt' : 2 ^ (8 * k) ≤ n := by omega
        have hk2 : k < 3 := by
          rcases Nat.lt_or_ge k 3 with h | h
          · exact h
          · obtain rfl : k = 3 := by omega
            have : 16777216 ≤ n := hlt'
            omega
        have hd : 1 ≤ n / 2 ^ (8 * k) := (Nat.le_div_iff_mul_le (Nat.two_pow_pos _)).2 (by omega)
        have hd1 : ((n / 2 ^ (8 * k) : Nat) : Int) = (n : Int) / 2 ^ (8 * k) := by simp
        have hd2 : decide ((0 : Int) < (n : Int) / 2 ^ (8 * k)) = true := by rw [← hd1]; simp; omega
        replace hlt' := Lib.hid hlt'
        clear hd hd1 hlt hlow
        go_wp2_with fail
        exact ⟨⟨k + 1, by omega, by omega, by go_num, Lib.hid (.inr hlt'.out)⟩, by simp [intOf] <;> omega⟩
end Go.Proofs.Ytodklnbimpdbjaa
