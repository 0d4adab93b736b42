/- ber: Int. -/
import Derived.Test.YtodklnbimpdbjaaBerE
import Derived.Test.YtodklnbimpdbjaaStrA
namespace Go.Proofs.Ytodklnbimpdbjaa
open Go.RowKit
set_option maxRecDepth 100000

/-- n fits in k bytes. -/
def Fits (n : Int) (k : Nat) : Prop := n / 2 ^ (8 * k - 1) = n / 9223372036854775808
/-- k is how many bytes n takes. -/
def IsW (n : Int) (k : Nat) : Prop := 1 ≤ k ∧ k ≤ 8 ∧ Fits n k ∧ (k = 1 ∨ ¬ Fits n (k - 1))
theorem fits8 (n : Int) : Fits n 8 := rfl

set_option maxHeartbeats 1000000 in
theorem int_any {w : World} (n : Int) (h0 : -9223372036854775808 ≤ n) (h1 : n ≤ 9223372036854775807) :
    Calls Try.prog 28 #[.int .i64 n] w fun e w' => ∃ k v', e = .returned v' ∧ IsW n k ∧ Own w' 5 v' ((bes n k).map bv) ∧ Fresh w.heap.size v' ∧ Ext w w' := by
  go_enter Try.func28, Try.ntmps28
  go_wp2_with fail
  go_loop [3] (fun i => ∃ k : Nat, k ≤ 8 ∧ 1 ≤ k ∧ i = .int .i64 k ∧ Hid (k = 1 ∨ ¬ Fits n (k - 1))) (fun i => 8 - (intOf i).toNat)
  case atStart => exact ⟨1, by omega, by omega, rfl, Lib.hid (.inl rfl)⟩
  case round =>
    obtain ⟨k, hk, hk1, rfl, hlow⟩ := hrel
    by_cases h8 : k < 8
    · by_cases hf : Fits n k
      · have hw : Hid (IsW n k) := Lib.hid ⟨hk1, hk, hf, hlow.out⟩
        have hb : (n / 2 ^ (8 * k - 1) != n / 9223372036854775808) = false := by rw [show n / 2 ^ (8 * k - 1) = n / 9223372036854775808 from hf]; simp
        clear hlow hf
        go_wp2_with ((with_reducible show wpList _ _ _ (⟨some 21, _, _, _, _, _⟩ :: _) _ _); refine wp_make0 tyB k rfl (.const (.int .i64 0)) (.tmp 20) rfl rfl rfl (by omega) ?_; intro w1 hown1 hext1 hlt1)
        have hf1 : Fresh w.heap.size (.slice (some ⟨w.heap.size, 0, none⟩) 0 k) := fun x hk => by have : w.heap.size = x := Option.some.inj hk; omega
        clear hlt1
        go_loopw [4, 5] (fun v i wr => ∃ (j : Nat) (pre : List UInt8), j ≤ k ∧ i = .int .i64 ((j : Int) - 1) ∧ Own wr 5 v (pre.map bv) ∧ Hid (pre.length + j = k) ∧ Hid (pre ++ bes n j = bes n k) ∧ Fresh w.heap.size v ∧ Ext w wr) (fun _ i _ => ((intOf i) + 1).toNat)
        case atStart => exact ⟨k, [], Nat.le_refl _, rfl, hown1, Lib.hid (by simp), Lib.hid rfl, hf1, hext1⟩
        case round =>
          clear hown1 hf1 hext1
          obtain ⟨j, pre, hj, rfl, p0, pl, pe, p1, p2⟩ := hrel
          rcases j with _ | j
          · rw [show (((0 : Nat) : Int) - 1) = -1 from rfl]
            go_wp2_with fail
            go_ret
            have he := pe.out
            rw [bes, List.append_nil] at he
            exact ⟨k, _, rfl, hw.out, by rw [← he]; exact p0, p1, p2⟩
          · rw [show (((j + 1 : Nat) : Int) - 1) = (j : Int) by omega]
            have hbt : bv (bt n j) = .int .u8 (n / 2 ^ (8 * j) % 256) := by
              show Value.int .u8 ((bt n j).toNat : Int) = _
              rw [bt_val]
            have hn1 := Lib.hid (room1 (u := bv (bt n j)) (show pre.length ≤ 100000000 by have := pl.out; omega))
            have hsl := Sl.one wr 5 (bv (bt n j))
            have hown := p0.alloc (.cells #[bv (bt n j)] 5)
            have ho := one_ok (bv (bt n j)) rfl
            rw [hbt] at hn1 hsl hown ho
            replace hbt := Lib.hid hbt
            obtain ⟨A2, c2, rfl⟩ := p0.shape
            rw [List.length_map] at hown p0 p1 ⊢
            go_wp2_with ((with_reducible show wpList _ _ _ (⟨some 35, _, _, _, _, _⟩ :: _) _ _); refine wp_app tyB hown hsl ho rfl (.tmp 28) (.tmp 34) rfl rfl rfl hn1.out ?_; intro v3 w3 k1 k2 k3)
            refine ⟨⟨j, pre ++ [bt n j], by omega, by go_num, ?_, Lib.hid (by have := pl.out; simp <;> omega), Lib.hid (by have := pe.out; rw [bes] at this; simpa using this), (k3.sooner (by simp)).fresh p1 p2.size, ?_⟩, by simp [intOf] <;> omega⟩
            · rw [← hbt.out] at k1
              simpa using k1
            · exact ext_app p2 p1 k2
      · have hb : (n / 2 ^ (8 * k - 1) != n / 9223372036854775808) = true := by rw [bne_iff_ne]; exact hf
        replace hf := Lib.hid hf
        go_wp2_with fail
        exact ⟨⟨k + 1, by omega, by omega, by go_num, Lib.hid (.inr hf.out)⟩, by simp [intOf] <;> omega⟩
    · obtain rfl : k = 8 := by omega
      have hw : Hid (IsW n 8) := Lib.hid ⟨hk1, hk, fits8 n, hlow.out⟩
      clear hlow
      go_wp2_with ((with_reducible show wpList _ _ _ (⟨some 21, _, _, _, _, _⟩ :: _) _ _); refine wp_make0 tyB 8 rfl (.const (.int .i64 0)) (.tmp 20) rfl rfl rfl (by omega) ?_; intro w1 hown1 hext1 hlt1)
      have hf1 : Fresh w.heap.size (.slice (some ⟨w.heap.size, 0, none⟩) 0 8) := fun x hk => by have : w.heap.size = x := Option.some.inj hk; omega
      clear hlt1
      go_loopw [4, 5] (fun v i wr => ∃ (j : Nat) (pre : List UInt8), j ≤ 8 ∧ i = .int .i64 ((j : Int) - 1) ∧ Own wr 5 v (pre.map bv) ∧ Hid (pre.length + j = 8) ∧ Hid (pre ++ bes n j = bes n 8) ∧ Fresh w.heap.size v ∧ Ext w wr) (fun _ i _ => ((intOf i) + 1).toNat)
      case atStart => exact ⟨8, [], Nat.le_refl _, rfl, hown1, Lib.hid (by simp), Lib.hid rfl, hf1, hext1⟩
      case round =>
        clear hown1 hf1 hext1
        obtain ⟨j, pre, hj, rfl, p0, pl, pe, p1, p2⟩ := hrel
        rcases j with _ | j
        · rw [show (((0 : Nat) : Int) - 1) = -1 from rfl]
          go_wp2_with fail
          go_ret
          have he := pe.out
          rw [bes, List.append_nil] at he
          exact ⟨8, _, rfl, hw.out, by rw [← he]; exact p0, p1, p2⟩
        · rw [show (((j + 1 : Nat) : Int) - 1) = (j : Int) by omega]
          have hbt : bv (bt n j) = .int .u8 (n / 2 ^ (8 * j) % 256) := by
            show Value.int .u8 ((bt n j).toNat : Int) = _
            rw [bt_val]
          have hn1 := Lib.hid (room1 (u := bv (bt n j)) (show pre.length ≤ 100000000 by have := pl.out; omega))
          have hsl := Sl.one wr 5 (bv (bt n j))
          have hown := p0.alloc (.cells #[bv (bt n j)] 5)
          have ho := one_ok (bv (bt n j)) rfl
          rw [hbt] at hn1 hsl hown ho
          replace hbt := Lib.hid hbt
          obtain ⟨A2, c2, rfl⟩ := p0.shape
          rw [List.length_map] at hown p0 p1 ⊢
          go_wp2_with ((with_reducible show wpList _ _ _ (⟨some 35, _, _, _, _, _⟩ :: _) _ _); refine wp_app tyB hown hsl ho rfl (.tmp 28) (.tmp 34) rfl rfl rfl hn1.out ?_; intro v3 w3 k1 k2 k3)
          refine ⟨⟨j, pre ++ [bt n j], by omega, by go_num, ?_, Lib.hid (by have := pl.out; simp <;> omega), Lib.hid (by have := pe.out; rw [bes] at this; simpa using this), (k3.sooner (by simp)).fresh p1 p2.size, ?_⟩, by simp [intOf] <;> omega⟩
          · rw [← hbt.out] at k1
            simpa using k1
          · exact ext_app p2 p1 k2
end Go.Proofs.Ytodklnbimpdbjaa
