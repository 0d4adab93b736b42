/- octet: the examples that each statement looks at. -/
import Derived.Test.YtifejclloapbkaaDoorOctG
namespace Go.Proofs.YtifejclloapbkaaDoor
open Go.RowKit
set_option maxRecDepth 100000

theorem known_out : ([] : List UInt8) ++ encs [1, 300] ++ encr [[97]] = [1, 172, 2, 1, 97] := by
  have e1 : enc7 1 = [1] := enc7_lo (by omega)
  have e2 : enc7 300 = [172, 2] := by rw [enc7_hi (by omega), enc7_lo (by omega)]; rfl
  have c1 : clamp 1 = 1 := by decide
  have c2 : clamp 300 = 300 := by decide
  simp [encs, encr, e1, e2, c1, c2]
theorem known_sum : sumOf [49, 50, 51, 52, 53, 54, 55, 56, 57] = 3421780262 := by decide +kernel

/-- The block that a Writer's variable begins as, and numbers handed to it. -/
theorem known_start (w : World) : Wr ((w.alloc (.cells #[.slice none 0 0] 25)).alloc (.cells #[.int .i64 1, .int .i64 300] 3)) w.heap.size (.slice none 0 0) [] ∧
    Is ((w.alloc (.cells #[.slice none 0 0] 25)).alloc (.cells #[.int .i64 1, .int .i64 300] 3)) (fun k => k = w.heap.size + 1) (.slice (some ⟨w.heap.size + 1, 0, none⟩) 2 2) [1, 300] := by
  refine ⟨⟨(Blk.new _ _ _).alloc _, Own.nil _ _⟩, ?_⟩
  have := Sl.lit (w.alloc (.cells #[.slice none 0 0] 25)) 3 [iv 1, iv 300] (by simp [maxLen])
  rw [show (w.alloc (.cells #[.slice none 0 0] 25)).heap.size = w.heap.size + 1 by simp] at this
  exact this
/-- The row that holds one text. -/
theorem known_row (w : World) : Rw ((w.alloc (.cells #[.int .u8 97] 5 (1, 2))).alloc (.cells #[.slice (some ⟨w.heap.size, 0, none⟩) 1 1] 23)) (fun k => w.heap.size ≤ k) (.slice (some ⟨w.heap.size + 1, 0, none⟩) 1 1) [[97]] := by
  have hb : Bs (w.alloc (.cells #[.int .u8 97] 5 (1, 2))) (fun k => k = w.heap.size) (.slice (some ⟨w.heap.size, 0, none⟩) 1 1) [97] := Bs.text w 5 [97] (1, 2) (by simp [maxLen])
  have := Rw.one 23 hb
  rw [show (w.alloc (.cells #[.int .u8 97] 5 (1, 2))).heap.size = w.heap.size + 1 by simp] at this
  exact this.mono (fun k _ h => by rcases h with h | h <;> omega)
/-- The rows that hold two texts. -/
theorem known_rows (w : World) : Rw (((w.alloc (.cells #[.int .u8 49, .int .u8 50, .int .u8 51, .int .u8 52] 5 (4, 5))).alloc (.cells #[.int .u8 53, .int .u8 54, .int .u8 55, .int .u8 56, .int .u8 57] 5 (5, 6))).alloc
    (.cells #[.slice (some ⟨w.heap.size, 0, none⟩) 4 4, .slice (some ⟨w.heap.size + 1, 0, none⟩) 5 5] 23)) (fun k => w.heap.size ≤ k) (.slice (some ⟨w.heap.size + 2, 0, none⟩) 2 2) [[49, 50, 51, 52], [53, 54, 55, 56, 57]] := by
  have hb : Bs (w.alloc (.cells #[.int .u8 49, .int .u8 50, .int .u8 51, .int .u8 52] 5 (4, 5))) (fun k => k = w.heap.size) (.slice (some ⟨w.heap.size, 0, none⟩) 4 4) [49, 50, 51, 52] := Bs.text w 5 [49, 50, 51, 52] (4, 5) (by simp [maxLen])
  generalize hw : w.alloc (.cells #[.int .u8 49, .int .u8 50, .int .u8 51, .int .u8 52] 5 (4, 5)) = w1 at *
  have h1 : w1.heap.size = w.heap.size + 1 := by rw [← hw]; simp
  have hc : Bs (w1.alloc (.cells #[.int .u8 53, .int .u8 54, .int .u8 55, .int .u8 56, .int .u8 57] 5 (5, 6))) (fun k => k = w1.heap.size) (.slice (some ⟨w1.heap.size, 0, none⟩) 5 5) [53, 54, 55, 56, 57] := Bs.text w1 5 [53, 54, 55, 56, 57] (5, 6) (by simp [maxLen])
  have := Rw.two 23 (hb.alloc _) hc
  rw [show (w1.alloc (.cells #[.int .u8 53, .int .u8 54, .int .u8 55, .int .u8 56, .int .u8 57] 5 (5, 6))).heap.size = w.heap.size + 2 by simp [h1], h1] at this
  exact this.mono (fun k _ h => by rcases h with h | h | h <;> omega)

set_option maxHeartbeats 1000000 in
theorem known_any {w : World} (hN : Nib w) : Calls Tryd.prog 20 #[] w fun e w' => e = .returned (.bool true) ∧ Ext w w' := by
  have hG : 0 < w.heap.size := lt_of_cell (hN 0 (by omega))
  have kc := fun (w : World) (C : Array Value) (n c : Nat) => Lib.run_convert_bytes_const (P := Tryd.prog) w 23 5 C n c Tryd.underlying23 Tryd.underlying5
  go_enter Tryd.func20, Tryd.ntmps20
  go_wp2_with fail
  obtain ⟨hwr, his⟩ := known_start w
  refine (wnums_any hwr his (fun k hk hs hf => ?_) (by simp)).mono ?_
  · rcases hf with hf | hf
    · omega
    · cases hf
  rintro e w1 ⟨rfl, v1, g1, g2, g3⟩
  have hx1 : Ext w w1 := (((Mod.refl _ w).alloc _).alloc _).trans g2 (fun _ _ h => h) (fun k hk h => by
    rcases h with h | h
    · omega
    · cases h)
  have hf1 : Fresh (w.heap.size + 1) v1 := g3.fresh (fresh_nil _ _ _) (by simp)
  clear g2 g3 his hwr
  go_wp2_with fail
  have hr1 := known_row w1
  have hsz := hx1.size
  have hm2 : Mod (fun _ => False) w1 ((w1.alloc (.cells #[.int .u8 97] 5 (1, 2))).alloc (.cells #[.slice (some ⟨w1.heap.size, 0, none⟩) 1 1] 23)) := ((Mod.refl _ w1).alloc _).alloc _
  have hg2 := g1.mod hm2 (fun h => h) (fun _ _ h => h)
  have hlt1 := g1.blk.lt
  refine (wbytes_any hg2 hr1 (fun k hk hs hf => ?_) (by rw [← List.length_append, known_out]; simp)).mono ?_
  · rcases hf with hf | hf
    · omega
    · have := g1.row.lt hf; omega
  rintro e w2 ⟨rfl, v2, k1, k2, k3⟩
  have hx2 : Ext w w2 := (ext_trans hx1 hm2).trans k2 (fun _ _ h => h) (fun k hk h => by
    rcases h with h | h
    · omega
    · have := hf1 k h; omega)
  rw [known_out] at k1
  clear k2 k3 hg2 hm2 hr1 g1 hf1 hlt1 hx1
  go_wp2_with fail
  refine (wout_any k1 (by simp)).mono ?_
  rintro e w3 ⟨v3, rfl, m1, m2, m3, m4⟩
  have hx3 := ext_trans hx2 m3
  clear k1 m3 m4 hx2
  go_wp2_with fail
  have hb5 : Bs (w3.alloc (.cells #[.int .u8 1, .int .u8 172, .int .u8 2, .int .u8 1, .int .u8 97] 5)) (fun k => k = w3.heap.size) (.slice (some ⟨w3.heap.size, 0, none⟩) 5 5) [1, 172, 2, 1, 97] := Bs.lit w3 5 [1, 172, 2, 1, 97] (by simp [maxLen])
  refine (same_any (m1.alloc _).sl hb5).mono ?_
  rintro e w4 ⟨rfl, k4, hw4⟩
  have hx4 : Ext w w4 := by rw [hw4]; exact (Mod.alloc hx3 _).drewN k4
  clear hw4 hb5 m1 m2 hx3
  rw [decide_eq_true (show ([1, 172, 2, 1, 97] : List UInt8) = [1, 172, 2, 1, 97] from rfl)]
  have kc2 : ∀ (o : Obj) (C : Array Value) (n c : Nat), (convert 23 23 (.slice (some ⟨w4.heap.size + 1, 0, none⟩) n c)).run Tryd.prog ((w4.alloc o).alloc (.cells C 5)) = .ok (.slice (some ⟨w4.heap.size + 1, 0, none⟩) n c) ((w4.alloc o).alloc (.cells C 5 (C.size, C.size + 1))) := fun o C n c => by
    have := kc (w4.alloc o) C n c
    rwa [show (w4.alloc o).heap.size = w4.heap.size + 1 by simp] at this
  go_wp2_with fail
  have hr2 := known_rows w4
  have hm5 : Ext w4 (((w4.alloc (.cells #[.int .u8 49, .int .u8 50, .int .u8 51, .int .u8 52] 5 (4, 5))).alloc (.cells #[.int .u8 53, .int .u8 54, .int .u8 55, .int .u8 56, .int .u8 57] 5 (5, 6))).alloc (.cells #[.slice (some ⟨w4.heap.size, 0, none⟩) 4 4, .slice (some ⟨w4.heap.size + 1, 0, none⟩) 5 5] 23)) := (((Mod.refl _ w4).alloc _).alloc _).alloc _
  have hx5 := ext_trans hx4 hm5
  refine (sum_any hr2 (hN.mod hx5 (fun h => h))).mono ?_
  rintro e w6 ⟨rfl, hw6⟩
  have hx6 : Ext w w6 := by rw [hw6]; exact hx5
  clear hw6 hx5 hm5 hr2 hx4
  rw [show sumOf ([[49, 50, 51, 52], [53, 54, 55, 56, 57]] : List (List UInt8)).flatten = 3421780262 from known_sum]
  go_wp2_with fail
  go_ret
  exact ⟨rfl, hx6⟩
end Go.Proofs.YtifejclloapbkaaDoor
