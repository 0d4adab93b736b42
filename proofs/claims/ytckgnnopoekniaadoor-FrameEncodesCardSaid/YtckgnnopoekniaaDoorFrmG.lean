/- frame: the record that is known. -/
import Derived.Test.YtckgnnopoekniaaDoorFrmF
import Derived.Lib.SlBytesConst
namespace Go.Proofs.YtckgnnopoekniaaDoor
open Go.RowKit
set_option maxRecDepth 100000

theorem known_row2 (w : World) : Rw ((w.alloc (.cells #[.int .u8 120] 5 (1, 2))).alloc (.cells #[.slice (some ⟨w.heap.size, 0, none⟩) 1 1] 23)) (fun k => w.heap.size ≤ k) (.slice (some ⟨w.heap.size + 1, 0, none⟩) 1 1) [[120]] := by
  have hb : Bs (w.alloc (.cells #[.int .u8 120] 5 (1, 2))) (fun k => k = w.heap.size) (.slice (some ⟨w.heap.size, 0, none⟩) 1 1) [120] := Bs.text w 5 [120] (1, 2) (by simp [maxLen])
  have := Rw.one 23 hb
  rw [show (w.alloc (.cells #[.int .u8 120] 5 (1, 2))).heap.size = w.heap.size + 1 by simp] at this
  exact this.mono (fun k _ h => by rcases h with h | h <;> omega)

set_option maxHeartbeats 1000000 in
theorem known2_any {w : World} (hN : Nib w) : Calls Tryd.prog 13 #[] w fun e w' => e = .returned (.bool true) ∧ Ext w w' := by
  have kc := fun (w : World) (C : Array Value) (n c : Nat) => Lib.run_convert_bytes_const (P := Tryd.prog) w 23 5 C n c Tryd.underlying23 Tryd.underlying5
  go_enter Tryd.func13, Tryd.ntmps13
  go_wp2_with fail
  have hr1 := known_row2 w
  have hx0 : Ext w ((w.alloc (.cells #[.int .u8 120] 5 (1, 2))).alloc (.cells #[.slice (some ⟨w.heap.size, 0, none⟩) 1 1] 23)) := ((Mod.refl _ w).alloc _).alloc _
  refine (encode_any hr1 (hN.mod hx0 (fun h => h)) (by simp)).mono ?_
  rintro e w1 ⟨v1, rfl, g1, g2, g3⟩
  have hx1 := ext_trans hx0 g3
  have hf1 : Fresh w.heap.size v1 := g2.mono (by simp; omega)
  rw [show ([[120]] : List (List UInt8)).flatten = [120] from rfl] at g1
  clear hr1 hx0 g2 g3
  have hd := dec_frec [120] [1] (by simp)
  have hlen : (frec [120]).length = 13 := frec_len [120]
  generalize frec [120] = fr at *
  replace hd := Lib.hid hd
  have hn1 : ((fr.map bv).length + ([Value.int .u8 1] : List Value).length) * 1 ≤ 140737488355328 := by rw [List.length_map, hlen]; simp
  replace hn1 := Lib.hid hn1
  replace hlen := Lib.hid hlen
  have ho : ∀ u ∈ [Value.int .u8 1], u.oneCell' = true := by simp [Value.oneCell']
  have hsl := Sl.one w1 5 (.int .u8 1)
  go_wp2_with ((with_reducible show wpList _ _ _ (⟨some 16, _, _, _, _, _⟩ :: _) _ _); refine wp_app tyB (g1.alloc _) hsl ho rfl (.tmp 14) (.tmp 15) rfl rfl rfl hn1.out ?_; intro v2 w2 k1 k2 k3)
  have hx2 : Ext w w2 := ext_app hx1 hf1 k2
  have k1' : Own w2 5 v2 ((fr ++ [1]).map bv) := by rw [List.map_append]; exact k1
  refine (decode_any k1'.sl (hN.mod hx2 (fun h => h)) (by rw [List.length_append, hlen.out]; simp)).mono ?_
  rintro e w3 ⟨v3, rfl, m1, m2, m3⟩
  rw [hd.out] at m1 ⊢
  have hx3 := ext_trans hx2 m3
  clear k1 k1' k2 k3 m2 m3 hx1 hx2 g1 hf1 hsl
  simp only at m1 ⊢
  go_wp2_with fail
  have hb : Bs (w3.alloc (.cells #[.int .u8 120] 5 (1, 2))) (fun k => k = w3.heap.size) (.slice (some ⟨w3.heap.size, 0, none⟩) 1 1) [120] := Bs.text w3 5 [120] (1, 2) (by simp [maxLen])
  refine (same_any (m1.alloc _).sl hb).mono ?_
  rintro e w4 ⟨rfl, n4, hw4⟩
  have hx4 : Ext w w4 := by rw [hw4]; exact (Mod.alloc hx3 _).drewN n4
  rw [decide_eq_true (rfl : ([120] : List UInt8) = [120])]
  clear hw4 hb m1 hx3
  go_wp2_with fail
  go_ret
  exact ⟨rfl, hx4⟩
end Go.Proofs.YtckgnnopoekniaaDoor
