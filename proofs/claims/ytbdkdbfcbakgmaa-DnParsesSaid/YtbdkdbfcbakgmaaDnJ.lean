/- dnkey: what the law looks at; what it knows. -/
import Derived.Test.YtbdkdbfcbakgmaaDnI
namespace Go.Proofs.Ytbdkdbfcbakgmaa
open Go.RowKit
set_option maxRecDepth 100000

set_option maxHeartbeats 2000000 in
theorem heavy19_any {w : World} {S : Nat → Prop} {v : Value} {L : List Av} (h : As w S v L) (hf : Fits L) :
    Calls Try.prog 46 #[v] w fun e w' => ∃ q : Bool, e = .returned (.bool q) ∧ (q = false → wN L ≤ 1500) ∧ Ext w w' := by
  have hl := hf.2
  obtain ⟨A, c, rfl, h1, h2, h3, h4⟩ := h.open_ avc_len
  go_enter Try.func46, Try.ntmps46
  go_wp2_with fail
  go_loopw [3, 4] (fun n i wr => ∃ k : Nat, k ≤ L.length ∧ i = .int .i64 k ∧ n = .int .i64 (wN (L.take k) : Nat) ∧ Hid (wN (L.take k) ≤ 1500) ∧ Ext w wr) (fun _ i _ => L.length - (intOf i).toNat)
  case atStart => exact ⟨0, by omega, rfl, rfl, Lib.hid (by simp [wN]), Mod.refl _ _⟩
  case round =>
    obtain ⟨k, hk, rfl, rfl, hw0, hxr⟩ := hrel
    by_cases hlt : k < L.length
    · have hbl : decide ((k : Int) < (L.length : Int)) = true := dtrue (by omega)
      obtain ⟨ad, hA, hS, c0, c1⟩ := As.at_ (h4.ext hxr) hlt
      subst hA
      obtain ⟨k1, k2⟩ := hf.at_ hlt
      have hsn := wN_snoc L hlt
      have hw := hw0.out
      have hsmall := wN_take L (k + 1)
      have hi0 : (0 : Int) ≤ (k : Int) := by omega
      have hi1 : (k : Int) < (L.length : Int) := by omega
      generalize L[k] = x at *
      generalize wN (L.take k) = n at *
      have hz1 := sv_size x.1
      have hz2 := sv_size x.2
      have hdw : ∀ m, Ext w (wr.drewN m) := fun m => hxr.drewN m
      by_cases hgt : 1500 < n + 1 + x.1.length + x.2.length
      · have hbg : decide ((1500 : Int) < (n : Int) + 1 + (x.1.length : Int) + (x.2.length : Int)) = true := dtrue (by omega)
        go_wp2_with fail
        go_quiet (fail)
        go_wp2_with fail
        go_ret
        exact ⟨true, rfl, by simp, hdw _⟩
      · have hbg : decide ((1500 : Int) < (n : Int) + 1 + (x.1.length : Int) + (x.2.length : Int)) = false := dfalse (by omega)
        replace hsn := Lib.hid hsn
        go_wp2_with fail
        go_quiet (fail)
        go_wp2_with fail
        exact ⟨⟨k + 1, by omega, by go_num, by rw [hsn.out]; congr 1; omega, Lib.hid (by rw [hsn.out]; omega), hdw _⟩, by simp [intOf] <;> omega⟩
    · have hbl : decide ((k : Int) < (L.length : Int)) = false := dfalse (by omega)
      rw [List.take_of_length_le (by omega)] at hw0
      go_wp2_with fail
      go_ret
      exact ⟨false, rfl, fun _ => hw0.out, hxr⟩

theorem key_known : keyB [([99, 110], [65]), ([111], [120])] = [111, 61, 120, 0, 1, 99, 110, 61, 97, 0, 1] := by decide
set_option maxHeartbeats 2000000 in
theorem known19_any {w : World} : Calls Try.prog 47 #[] w fun e w' => e = .returned (.bool true) ∧ Ext w w' := by
  have hL : As (w.alloc (.cells #[sv [99, 110], sv [65], sv [111], sv [120]] 37)) (fun b => b = w.heap.size) (.slice (some ⟨w.heap.size, 0, none⟩) 2 2) [([99, 110], [65]), ([111], [120])] :=
    ⟨_, _, rfl, Nat.le_refl _, by simp [maxLen], by simp, rfl, fun j u hu => ⟨_, rfl, rfl, by
      rw [add_lit, cell_of_row _ w.heap.size j _ 37 (0, 0) (heap_alloc_new w _)]
      simpa using hu⟩⟩
  have hk := key_any hL (by decide)
  rw [key_known] at hk
  go_enter Try.func47, Try.ntmps47
  go_wp2_with fail
  refine hk.mono ?_
  rintro e w1 ⟨rfl, hx⟩
  go_wp2_with fail
  go_ret
  exact ⟨rfl, ext_trans ((Mod.refl _ w).alloc _) hx⟩
end Go.Proofs.Ytbdkdbfcbakgmaa
