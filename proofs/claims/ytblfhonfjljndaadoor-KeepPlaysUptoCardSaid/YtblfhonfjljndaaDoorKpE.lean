/- keep: KeepOfNothing. -/
import Derived.Test.YtblfhonfjljndaaDoorKpD
namespace Go.Proofs.YtblfhonfjljndaaDoor
open Go.RowKit Go.Maps Go.WideMaps
set_option maxRecDepth 100000

theorem run_makeN {P : Program} {t e : TypeId} {z : Value} {bytes : Nat} (hT : SliceTy P t e z bytes) (w : World) (n : Nat) (kl kc : IntKind) (hn : bytes * n ≤ 281474976710656) :
    ∃ w', (Instr.makeSlice t (.int kl (n : Int)) (.int kc (n : Int))).run P w = .ok (.slice (some ⟨w.heap.size, 0, none⟩) n n) w' ∧ Own w' e (.slice (some ⟨w.heap.size, 0, none⟩) n n) (List.replicate n z) ∧ Ext w w' := by
  obtain ⟨i, hi, hz0, hz1, hz2⟩ := info_parts hT.hi
  have hb : 1 * n ≤ bytes * n := Nat.mul_le_mul_right _ hT.hb
  obtain ⟨w', hrun, h2, h3⟩ := run_make_full (P := P) w 0 t e i z 1 hT.ht hi hz0 hz1 kl kc n (by rw [hz2]; exact hn) (by simp only [maxLen]; omega) (Nat.zero_le _)
  rw [hT.hz, Nat.mul_one, toList_madeCells_one] at h2
  have h2' : Own w' e (.slice (some ⟨w.heap.size, 0, none⟩) n n) (List.replicate n z) := by unfold Own; rw [List.length_replicate]; exact h2
  exact ⟨w', hrun, h2', Mod.of_grown h3 fun k hk => by cases hk⟩
set_option maxHeartbeats 2000000 in
theorem nil_load {w : World} {x : Value} :
    Calls Tryd.prog 10 #[.pointer none, x] w fun e w' => e = .returned (.tuple #[.slice none 0 0, ev 1]) ∧ Ext w w' := by
  go_enter Tryd.func10, Tryd.ntmps10
  go_wp2_with fail
  go_ret2
  exact ⟨rfl, Mod.refl _ _⟩
set_option maxHeartbeats 2000000 in
theorem nil_save {w : World} {x y : Value} :
    Calls Tryd.prog 8 #[.pointer none, x, y] w fun e w' => e = .returned (ev 1) ∧ Ext w w' := by
  go_enter Tryd.func8, Tryd.ntmps8
  go_wp2_with fail
  go_ret
  exact ⟨rfl, Mod.refl _ _⟩
set_option maxHeartbeats 2000000 in
theorem nil_clear {w : World} {x y : Value} :
    Calls Tryd.prog 13 #[.pointer none, x, y] w fun e w' => e = .returned (ev 1) ∧ Ext w w' := by
  go_enter Tryd.func13, Tryd.ntmps13
  go_wp2_with fail
  go_ret
  exact ⟨rfl, Mod.refl _ _⟩
theorem new_save {x p : List UInt8} (hx : x.length ≤ 100) (hp : p.length ≤ 5000) : ∃ d, saveD (newD 1048576) x p = (d, if x.length < 1 ∨ 60 < x.length then 1 else 0) := by
  by_cases h : x.length < 1 ∨ 60 < x.length
  · rw [if_pos h]
    exact ⟨_, by unfold saveD; rw [if_pos h]⟩
  · rw [if_neg h]
    have := save_ok (r := 1048576) (l := 0) (L := []) (fu := false) (x := x) (p := p) List.Pairwise.nil (by omega) (by omega) rfl (by simp [sumB]; omega) (by simp) (by simp)
    exact ⟨_, this⟩
theorem Bs.old {w : World} {v : Value} {l : List UInt8} (h : Bs w (fun _ => True) v l) : Bs w (fun k => k < w.heap.size) v l := Sl.mono h fun k hk _ => hk
end Go.Proofs.YtblfhonfjljndaaDoor
