/- ledger: names that meet. -/
import Derived.Test.YtnmfkfjeihjkeaaDoorKlX
import Derived.Test.YtnmfkfjeihjkeaaDoorKlQ
namespace Go.Proofs.YtnmfkfjeihjkeaaDoor
open Go.RowKit Go.Maps Go.WideMaps
set_option maxRecDepth 100000

def sfx (i : Nat) : List UInt8 := ([[45, 105, 109, 103], [45, 108, 111, 103], [45, 105, 109, 103, 126]] : Tx).getD i []
theorem sfx_len {i : Nat} (h : i < 3) : (sfx i).length ≤ 5 := by
  have : i = 0 ∨ i = 1 ∨ i = 2 := by omega
  rcases this with rfl | rfl | rfl <;> simp [sfx]
theorem imgN_sfx (p : List UInt8) : imgN p = p ++ sfx 0 := rfl
theorem logN_sfx (p : List UInt8) : logN p = p ++ sfx 1 := rfl
theorem aside_sfx (p : List UInt8) : imgN p ++ [126] = p ++ sfx 2 := by simp [imgN, sfx]
/-- No file of one is a file of the other. -/
def Apart (a b : List UInt8) : Prop := ∀ i, i < 3 → ∀ k, k < 3 → a ++ sfx i ≠ b ++ sfx k
set_option maxHeartbeats 8000000 in
theorem meets_any {w : World} {a b : List UInt8} (ha : a.length ≤ 20) (hb : b.length ≤ 20) :
    Calls Tryd.prog 42 #[sv a, sv b] w fun e w' => ∃ r, e = .returned (.bool r) ∧ (r = false → Apart a b) ∧ Ext w w' := by
  obtain ⟨w1, hw1⟩ : ∃ w1, w1 = w.alloc (.cells #[sv [45, 105, 109, 103], sv [45, 108, 111, 103], sv [45, 105, 109, 103, 126]] 9) := ⟨_, rfl⟩
  have x1 : Ext w w1 := by rw [hw1]; exact (Mod.refl _ _).alloc _
  have hb1 : Blk w1 w.heap.size 9 #[sv [45, 105, 109, 103], sv [45, 108, 111, 103], sv [45, 105, 109, 103, 126]] := by rw [hw1]; exact Blk.new _ _ _
  have hcell : ∀ i, i < 3 → ∀ {wx : World}, Ext w1 wx → wx.cell? ⟨w.heap.size, i, none⟩ = some (sv (sfx i)) := fun i hi {wx} x => by
    have hb2 := hb1.mod x (fun h => h)
    have : i = 0 ∨ i = 1 ∨ i = 2 := by omega
    rcases this with rfl | rfl | rfl
    · exact hb2.cell 0
    · exact hb2.cell 1
    · exact hb2.cell 2
  clear hb1
  go_enter Tryd.func42, Tryd.ntmps42
  go_wp2_with fail
  rw [← hw1]
  clear hw1
  go_loopw [6] (fun v wr => ∃ i : Nat, i ≤ 3 ∧ v = .int .i64 i ∧ Ext w1 wr ∧ Hid (∀ j, j < i → ∀ k, k < 3 → a ++ sfx j ≠ b ++ sfx k)) (fun v _ => 3 - (intOf v).toNat)
  case atStart => exact ⟨0, by omega, rfl, Mod.refl _ _, Lib.hid (fun j hj => by omega)⟩
  case round =>
    obtain ⟨i, hi, rfl, xr, hall⟩ := hrel
    by_cases hlt : i < 3
    · have hbl : decide ((i : Int) < 3) = true := dtrue (by omega)
      go_wp2_with fail
      go_loopw [7] (fun v ws => ∃ k : Nat, k ≤ 3 ∧ v = .int .i64 k ∧ Ext w1 ws ∧ Hid (∀ j, j < k → a ++ sfx i ≠ b ++ sfx j)) (fun v _ => 3 - (intOf v).toNat)
      case atStart => exact ⟨0, by omega, rfl, xr, Lib.hid (fun j hj => by omega)⟩
      case round =>
        obtain ⟨k, hk, rfl, xs, hallk⟩ := hrel
        by_cases hltk : k < 3
        · have hblk : decide ((k : Int) < 3) = true := dtrue (by omega)
          have hci := hcell i hlt xs
          have hck := hcell k hltk xs
          have hli := sfx_len hlt
          have hlk := sfx_len hltk
          have hcat1 : ((⟨a.toArray⟩ : ByteArray) ++ ⟨(sfx i).toArray⟩) = ⟨(a ++ sfx i).toArray⟩ := cat_data a (sfx i)
          have hcat2 : ((⟨b.toArray⟩ : ByteArray) ++ ⟨(sfx k).toArray⟩) = ⟨(b ++ sfx k).toArray⟩ := cat_data b (sfx k)
          have hno1 : ¬ 9223372036854775807 < a.length + (sfx i).length := by omega
          have hno2 : ¬ 9223372036854775807 < b.length + (sfx k).length := by omega
          have hi0 : (0 : Int) ≤ (i : Int) := by omega
          have hi1 : (i : Int) < 3 := by omega
          have hk0 : (0 : Int) ≤ (k : Int) := by omega
          have hk1 : (k : Int) < 3 := by omega
          by_cases hE : a ++ sfx i = b ++ sfx k
          · have hbe : (a ++ sfx i == b ++ sfx k) = true := by rw [hE]; exact beq_self_eq_true _
            clear hE hall hallk hcell
            go_wp2_with fail
            go_quiet (fail)
            go_wp2_with fail
            go_ret
            exact ⟨true, rfl, (fun h => by cases h), (ext_trans x1 xs).drewN _⟩
          · have hbe : (a ++ sfx i == b ++ sfx k) = false := by rw [beq_eq_false_iff_ne]; exact hE
            have hnx : Hid (∀ j, j < k + 1 → a ++ sfx i ≠ b ++ sfx j) := Lib.hid (fun j hj => by
              by_cases hjk : j = k
              · rw [hjk]; exact hE
              · exact hallk.out j (by omega))
            clear hE hallk
            go_wp2_with fail
            go_quiet (fail)
            go_wp2_with fail
            exact ⟨⟨k + 1, by omega, by go_num, xs.drewN _, hnx⟩, by simp [intOf] <;> omega⟩
        · have hblk : decide ((k : Int) < 3) = false := dfalse (by omega)
          have hnx : Hid (∀ j, j < i + 1 → ∀ k, k < 3 → a ++ sfx j ≠ b ++ sfx k) := Lib.hid (fun j hj k' hk' => by
            by_cases hji : j = i
            · rw [hji]; exact hallk.out k' (by omega)
            · exact hall.out j (by omega) k' hk')
          clear hall hallk
          go_wp2_with fail
          exact ⟨⟨i + 1, by omega, by go_num, xs, hnx⟩, by simp [intOf] <;> omega⟩
    · have hbl : decide ((i : Int) < 3) = false := dfalse (by omega)
      go_wp2_with fail
      go_ret
      exact ⟨false, rfl, fun _ i' hi' k' hk' => hall.out i' (by omega) k' hk', ext_trans x1 xr⟩
end Go.Proofs.YtnmfkfjeihjkeaaDoor
