/- eval: not of the kid; what the laws know. -/
import Derived.Test.YtjkpgmenipdkbaaDoorEvF
namespace Go.Proofs.YtjkpgmenipdkbaaDoor
open Go.RowKit
set_option maxRecDepth 100000
section
variable {w : World} {g : Nat}
set_option maxHeartbeats 4000000 in
theorem eval_not (hg : Blk w g 32 kidF) : Calls Tryd.prog 16 #[.agg (notF g), .agg noE] w fun e w' => e = .returned (.int .i64 2) ∧ Ext w w' := by
  have hk := fun wx : World => eval_kid (w := wx)
  unfold notF noE at *
  unfold kidF at hk
  obtain ⟨w2, hw2⟩ : ∃ w2, w2 = (w.alloc (.cells #[.int .i64 2, .string ⟨#[]⟩, .string ⟨#[]⟩, .slice none 0 0, .slice (some ⟨g, 0, none⟩) 1 1] 32)).alloc (.cells #[.slice none 0 0, .slice none 0 0] 37) := ⟨_, rfl⟩
  have bA : Blk w2 w.heap.size 32 #[.int .i64 2, .string ⟨#[]⟩, .string ⟨#[]⟩, .slice none 0 0, .slice (some ⟨g, 0, none⟩) 1 1] := by rw [hw2]; exact (Blk.new w _ _).alloc _
  have bB : Blk w2 (w.heap.size + 1) 37 #[.slice none 0 0, .slice none 0 0] := by
    rw [hw2]
    have h := Blk.new (w.alloc (.cells #[.int .i64 2, .string ⟨#[]⟩, .string ⟨#[]⟩, .slice none 0 0, .slice (some ⟨g, 0, none⟩) 1 1] 32)) 37 #[.slice none 0 0, .slice none 0 0]
    have e : (w.alloc (.cells #[.int .i64 2, .string ⟨#[]⟩, .string ⟨#[]⟩, .slice none 0 0, .slice (some ⟨g, 0, none⟩) 1 1] 32)).heap.size = w.heap.size + 1 := by simp
    rw [e] at h; exact h
  have x2 : Ext w w2 := by rw [hw2]; exact ((Mod.refl _ w).alloc _).alloc _
  have hg2 := hg.mod x2 fun h => h
  go_enter Tryd.func16, Tryd.ntmps16
  go_wp2_with fail
  rw [← hw2]
  clear hw2 hg
  go_loopw [5, 11] (fun v i wr => (v = .slice none 0 0 ∧ i = .int .i64 0 ∧ wr = w2) ∨ (i = .int .i64 1 ∧ Own wr 3 v [.int .i64 2] ∧ Ext w2 wr)) (fun _ i _ => 2 - (intOf i).toNat)
  case atStart => exact .inl ⟨rfl, rfl, rfl⟩
  case round =>
    rcases hrel with ⟨rfl, rfl, hwr⟩ | ⟨rfl, ho, hx⟩
    · rw [hwr]
      clear hwr
      have g0 : w2.cell? ⟨g, 0, none⟩ = some (.int .i64 3) := hg2.cell 0
      have g1 : w2.cell? ⟨g, 1, none⟩ = some (.string ⟨#[110, 111, 116, 104, 105, 110, 103]⟩) := hg2.cell 1
      have g2 : w2.cell? ⟨g, 2, none⟩ = some (.string ⟨#[120]⟩) := hg2.cell 2
      have g3 : w2.cell? ⟨g, 3, none⟩ = some (.slice none 0 0) := hg2.cell 3
      have g4 : w2.cell? ⟨g, 4, none⟩ = some (.slice none 0 0) := hg2.cell 4
      have c0 : w2.cell? ⟨w.heap.size + 1, 0, none⟩ = some (.slice none 0 0) := bB.cell 0
      have c1 : w2.cell? ⟨w.heap.size + 1, 1, none⟩ = some (.slice none 0 0) := bB.cell 1
      have hl := bB.lt
      go_wp2_with fail
      refine (hk _).mono ?_
      rintro e w3 ⟨rfl, x3⟩
      clear hk
      have y3 := ext_trans ((Mod.refl (fun _ => False) w2).alloc _) x3
      go_wp2_with ((with_reducible show wpList _ _ _ (⟨some 20, _, _, _, _, _⟩ :: _) _ _); refine wp_app tyI (Own.nil _ _) (Sl.one w3 3 (.int .i64 2)) (fun u hu => by rw [List.mem_singleton.1 hu]; rfl) rfl (.tmp 15) (.tmp 19) rfl rfl rfl (by simp) ?_; intro v1 w4 o4 m4 n4)
      exact ⟨.inr ⟨rfl, o4, ext_trans y3 (mod_app (v := .slice none 0 0) m4 |>.ext fun k hk h => by cases h)⟩, by simp [intOf]⟩
    · have c0 := (bA.mod hx fun h => h).cell 0
      have c4 : wr.cell? ⟨w.heap.size, 4, none⟩ = some (.slice (some ⟨g, 0, none⟩) 1 1) := (bA.mod hx fun h => h).cell 4
      rcases ho.form with ⟨_, h⟩ | ⟨h, cp, rfl, _, _, _⟩
      · cases h
      have hs := ho.cellAt (j := 0) (by simp)
      have hn := fun wx : World => not_any (w := wx) 2
      go_wp2_with fail
      refine (hn _).mono ?_
      rintro e w5 ⟨rfl, rfl⟩
      go_wp2_with fail
      go_ret
      exact ⟨rfl, ext_trans x2 hx⟩
set_option maxHeartbeats 4000000 in
theorem Eval_not (hg : Blk w g 32 kidF) : Calls Tryd.prog 14 #[.agg (notF g), .agg noE] w fun e w' => e = .returned (.int .i64 2) ∧ Ext w w' := by
  have h1 := fun (wx : World) p => Is_not (w := wx) (g := g) p
  have h2 := fun (wx : World) p => eval_not (w := wx) (g := g) p
  unfold notF noE at *
  go_enter Tryd.func14, Tryd.ntmps14
  go_wp2_with fail
  refine (h1 _ ((hg.alloc _).alloc _)).mono ?_
  rintro e w1 ⟨rfl, x1⟩
  have hg1 := ((hg.alloc (.cells #[.int .i64 2, .string ⟨#[]⟩, .string ⟨#[]⟩, .slice none 0 0, .slice (some ⟨g, 0, none⟩) 1 1] 32)).alloc (.cells #[.slice none 0 0, .slice none 0 0] 37)).mod x1 fun h => h
  have y1 := ext_trans (((Mod.refl (fun _ => False) w).alloc _).alloc _) x1
  have bA := ((Blk.new w 32 #[.int .i64 2, .string ⟨#[]⟩, .string ⟨#[]⟩, .slice none 0 0, .slice (some ⟨g, 0, none⟩) 1 1]).alloc (.cells #[.slice none 0 0, .slice none 0 0] 37)).mod x1 fun h => h
  have bB := Blk.mod (Blk.new (w.alloc (.cells #[.int .i64 2, .string ⟨#[]⟩, .string ⟨#[]⟩, .slice none 0 0, .slice (some ⟨g, 0, none⟩) 1 1] 32)) 37 #[.slice none 0 0, .slice none 0 0]) x1 fun h => h
  have e : (w.alloc (.cells #[.int .i64 2, .string ⟨#[]⟩, .string ⟨#[]⟩, .slice none 0 0, .slice (some ⟨g, 0, none⟩) 1 1] 32)).heap.size = w.heap.size + 1 := by simp
  rw [e] at bB
  clear e
  have c0 : w1.cell? ⟨w.heap.size, 0, none⟩ = some (.int .i64 2) := bA.cell 0
  have c1 : w1.cell? ⟨w.heap.size, 1, none⟩ = some (.string ⟨#[]⟩) := bA.cell 1
  have c2 : w1.cell? ⟨w.heap.size, 2, none⟩ = some (.string ⟨#[]⟩) := bA.cell 2
  have c3 : w1.cell? ⟨w.heap.size, 3, none⟩ = some (.slice none 0 0) := bA.cell 3
  have c4 : w1.cell? ⟨w.heap.size, 4, none⟩ = some (.slice (some ⟨g, 0, none⟩) 1 1) := bA.cell 4
  have d0 : w1.cell? ⟨w.heap.size + 1, 0, none⟩ = some (.slice none 0 0) := bB.cell 0
  have d1 : w1.cell? ⟨w.heap.size + 1, 1, none⟩ = some (.slice none 0 0) := bB.cell 1
  go_wp2_with fail
  refine (h2 _ hg1).mono ?_
  rintro e w2 ⟨rfl, x2⟩
  go_wp2_with fail
  go_ret
  exact ⟨rfl, ext_trans y1 x2⟩
set_option maxHeartbeats 4000000 in
theorem known17_any : Calls Tryd.prog 12 #[] w fun e w' => e = .returned (.bool true) ∧ Ext w w' := by
  have h1 := fun (wx : World) p => Eval_not (w := wx) (g := w.heap.size) p
  unfold notF noE at *
  go_enter Tryd.func12, Tryd.ntmps12
  go_wp2_with fail
  refine (h1 _ ((Blk.new w _ _).alloc _)).mono ?_
  rintro e w2 ⟨rfl, x2⟩
  go_wp2_with fail
  go_ret
  exact ⟨rfl, ext_trans (((Mod.refl (fun _ => False) w).alloc _).alloc _) x2⟩
end
end Go.Proofs.YtjkpgmenipdkbaaDoor
