/- filter: one filter that may be: not of one that asks for a value. -/
import Derived.Test.YteihjdefdeckaaaGreatDoorDnE
import Derived.Test.YteihjdefdeckaaaGreatDoorEvA
import Derived.Test.YteihjdefdeckaaaGreatDoorEvD
import Derived.Test.YteihjdefdeckaaaGreatDoorRegA
import Derived.Deep.Cut
namespace Go.Proofs.YteihjdefdeckaaaGreatDoor
open Go.RowKit
set_option maxRecDepth 100000
def nthg : List UInt8 := [110, 111, 116, 104, 105, 110, 103]
/-- The kid: Equal "nothing" "x". -/
def kidF : Array Value := #[.int .i64 3, .string ⟨#[110, 111, 116, 104, 105, 110, 103]⟩, .string ⟨#[120]⟩, .slice none 0 0, .slice none 0 0]
/-- Not of the kid, which lies at g. -/
def notF (g : Nat) : Array Value := #[.int .i64 2, .string ⟨#[]⟩, .string ⟨#[]⟩, .slice none 0 0, .slice (some ⟨g, 0, none⟩) 1 1]
theorem typ_nthg (w : World) : Calls Tryz.prog 53 #[.string ⟨#[110, 111, 116, 104, 105, 110, 103]⟩] w fun e w' => e = .returned (.bool true) ∧ w' = w := by
  have h := type_any (w := w) nthg (by decide)
  rw [show decide (isTyp nthg) = true by decide] at h
  exact h
section
variable {w : World} {c g : Nat}
set_option maxHeartbeats 4000000 in
theorem is_kid (hB : Blk w c 3 #[.int .i64 63]) :
    Calls Tryz.prog 28 #[.agg kidF, .int .i64 2, .pointer (some ⟨c, 0, none⟩)] w fun e w' => e = .returned (.bool true) ∧ Mod (fun k => k = c) w w' := by
  have h1 : w.cell? ⟨c, 0, none⟩ = some (.int .i64 63) := hB.cell 0
  have h2 : w.frozen? ⟨c, 0, none⟩ = false := hB.frozen 0
  have hc := hB.lt
  unfold kidF
  have ht := fun wx : World => typ_nthg wx
  go_enter Tryz.func28, Tryz.ntmps28
  go_wp2_with fail
  refine (ht _).mono ?_
  rintro e w1 ⟨rfl, rfl⟩
  clear ht
  go_wp2_with fail
  go_ret
  exact ⟨rfl, ((Mod.refl (fun k => k = c) w).setCell (fun _ => rfl) _).alloc _⟩
set_option maxHeartbeats 4000000 in
theorem kids_one (hB : Blk w c 3 #[.int .i64 63]) (hg : Blk w g 25 kidF) (_hn : g ≠ c) :
    Calls Tryz.prog 52 #[.agg (notF g), .int .i64 1, .pointer (some ⟨c, 0, none⟩)] w fun e w' => e = .returned (.bool true) ∧ Mod (fun k => k = c) w w' := by
  have h1 : w.cell? ⟨c, 0, none⟩ = some (.int .i64 63) := hB.cell 0
  have h2 : w.frozen? ⟨c, 0, none⟩ = false := hB.frozen 0
  have hc := hB.lt
  unfold notF
  have g0 : w.cell? ⟨g, 0, none⟩ = some (.int .i64 3) := hg.cell 0
  have g1 : w.cell? ⟨g, 1, none⟩ = some (.string ⟨#[110, 111, 116, 104, 105, 110, 103]⟩) := hg.cell 1
  have g2 : w.cell? ⟨g, 2, none⟩ = some (.string ⟨#[120]⟩) := hg.cell 2
  have g3 : w.cell? ⟨g, 3, none⟩ = some (.slice none 0 0) := hg.cell 3
  have g4 : w.cell? ⟨g, 4, none⟩ = some (.slice none 0 0) := hg.cell 4
  have hgl := hg.lt
  go_enter Tryz.func52, Tryz.ntmps52
  go_wp2_with fail
  go_loopw [27] (fun i wr => (i = .int .i64 0 ∧ wr = w.alloc (.cells #[.int .i64 2, .string ⟨#[]⟩, .string ⟨#[]⟩, .slice none 0 0, .slice (some ⟨g, 0, none⟩) 1 1] 25)) ∨ (i = .int .i64 1 ∧ Mod (fun k => k = c) w wr)) (fun i _ => 2 - (intOf i).toNat)
  case atStart => exact .inl ⟨rfl, rfl⟩
  case round =>
    rcases hrel with ⟨rfl, rfl⟩ | ⟨rfl, hm⟩
    · go_wp2_with fail
      refine (is_kid ((hB.alloc _).alloc _)).mono ?_
      rintro e w2 ⟨rfl, hm2⟩
      go_wp2_with fail
      exact ⟨.inr ⟨rfl, (((Mod.refl _ w).alloc _).alloc _).then_ hm2 fun _ _ h => h⟩, by simp [intOf]⟩
    · go_wp2_with fail
      go_ret
      exact ⟨rfl, hm⟩
set_option maxHeartbeats 4000000 in
theorem is_not (hB : Blk w c 3 #[.int .i64 64]) (hg : Blk w g 25 kidF) (hn : g ≠ c) :
    Calls Tryz.prog 28 #[.agg (notF g), .int .i64 1, .pointer (some ⟨c, 0, none⟩)] w fun e w' => e = .returned (.bool true) ∧ Mod (fun k => k = c) w w' := by
  have h1 : w.cell? ⟨c, 0, none⟩ = some (.int .i64 64) := hB.cell 0
  have h2 : w.frozen? ⟨c, 0, none⟩ = false := hB.frozen 0
  have hc := hB.lt
  unfold notF
  have hk := fun (wx : World) p1 p2 => kids_one (w := wx) (c := c) (g := g) p1 p2 hn
  unfold notF at hk
  go_enter Tryz.func28, Tryz.ntmps28
  go_wp2_with fail
  refine (hk _ ((hB.set_ 0 (.int .i64 63)).alloc _) ((hg.far (p := ⟨c, 0, none⟩) hn _).alloc _)).mono ?_
  rintro e w1 ⟨rfl, m1⟩
  go_wp2_with fail
  go_ret
  exact ⟨rfl, (((Mod.refl (fun k => k = c) w).setCell (fun _ => rfl) _).alloc _).then_ m1 fun _ _ h => h⟩
set_option maxHeartbeats 4000000 in
theorem Is_not (hg : Blk w g 25 kidF) :
    Calls Tryz.prog 16 #[.agg (notF g)] w fun e w' => e = .returned (.bool true) ∧ Ext w w' := by
  have hk := fun (wx : World) c p1 p2 hn => is_not (w := wx) (c := c) (g := g) p1 p2 hn
  have hgl := hg.lt
  have hnew : ∀ o : Obj, Blk ((w.alloc o).alloc (.cells #[.int .i64 64] 3)) (w.heap.size + 1) 3 #[.int .i64 64] := fun o => by
    have h := Blk.new (w.alloc o) 3 #[.int .i64 64]
    have e : (w.alloc o).heap.size = w.heap.size + 1 := by simp
    rw [e] at h; exact h
  unfold notF at *
  go_enter Tryz.func16, Tryz.ntmps16
  go_wp2_with fail
  refine (hk _ _ (hnew _) ((hg.alloc _).alloc _) (by omega)).mono ?_
  rintro e w1 ⟨rfl, m1⟩
  go_wp2_with fail
  go_ret
  exact ⟨rfl, Mod.trans (((Mod.refl (fun _ => False) w).alloc _).alloc _) m1 (fun _ _ h => h) fun k hk h => by omega⟩
end
end Go.Proofs.YteihjdefdeckaaaGreatDoor
namespace Go.Proofs.YteihjdefdeckaaaGreatDoor
open Go.RowKit
set_option maxRecDepth 100000
def noE : Array Value := #[.slice none 0 0, .slice none 0 0]
section
variable {w : World} {g : Nat}
theorem fold_nthg (w : World) : Calls Tryz.prog 37 #[.string ⟨#[110, 111, 116, 104, 105, 110, 103]⟩] w fun e w' => e = .returned (.string ⟨#[110, 111, 116, 104, 105, 110, 103]⟩) ∧ Ext w w' := by
  have h := fold_any (w := w) nthg (by decide)
  rw [show foldB nthg = nthg by decide] at h
  exact h
theorem stype_nthg (w : World) : Calls Tryz.prog 19 #[.string ⟨#[110, 111, 116, 104, 105, 110, 103]⟩] w fun e w' => e = .returned (.tuple #[.string ⟨#[]⟩, .int .i64 0, .bool false, .bool false]) ∧ Ext w w' :=
  stype_no (s := nthg) (by decide) (by rw [show foldB nthg = nthg by decide]; rfl)
set_option maxHeartbeats 2000000 in
theorem values_no : Calls Tryz.prog 32 #[.agg noE, .string ⟨#[110, 111, 116, 104, 105, 110, 103]⟩] w fun e w' => e = .returned (.slice none 0 0) ∧ Ext w w' := by
  have hf := fun wx : World => fold_nthg wx
  unfold noE
  go_enter Tryz.func32, Tryz.ntmps32
  go_wp2_with fail
  refine (hf _).mono ?_
  rintro e w1 ⟨rfl, x1⟩
  clear hf
  have b1 : Blk w1 w.heap.size 29 #[.slice none 0 0, .slice none 0 0] := (Blk.new w _ _).mod x1 fun h => h
  have c0 := b1.cell 0
  have c1 : w1.cell? ⟨w.heap.size, 1, none⟩ = some (.slice none 0 0) := b1.cell 1
  have y1 := ext_trans ((Mod.refl (fun _ => False) w).alloc _) x1
  go_wp2_with fail
  go_loop [5, 13] (fun v i => v = .slice none 0 0 ∧ i = .int .i64 0) (fun _ _ => 0)
  case atStart => exact ⟨rfl, rfl⟩
  case round =>
    obtain ⟨rfl, rfl⟩ := hrel
    go_wp2_with fail
    go_ret
    exact ⟨rfl, y1⟩
set_option maxHeartbeats 2000000 in
theorem item_kid : Calls Tryz.prog 13 #[.agg kidF, .slice none 0 0] w fun e w' => e = .returned (.int .i64 2) ∧ Ext w w' := by
  have hf := fun wx : World => stype_nthg wx
  unfold kidF
  go_enter Tryz.func13, Tryz.ntmps13
  go_wp2_with fail
  refine (hf _).mono ?_
  rintro e w1 ⟨rfl, x1⟩
  clear hf
  go_wp2_with fail
  go_ret
  exact ⟨rfl, ext_trans ((Mod.refl (fun _ => False) w).alloc _) x1⟩
set_option maxHeartbeats 4000000 in
theorem eval_kid : Calls Tryz.prog 17 #[.agg kidF, .agg noE] w fun e w' => e = .returned (.int .i64 2) ∧ Ext w w' := by
  have hv := fun wx : World => values_no (w := wx)
  have hi := fun wx : World => item_kid (w := wx)
  unfold kidF noE at *
  obtain ⟨w2, hw2⟩ : ∃ w2, w2 = (w.alloc (.cells #[.int .i64 3, .string ⟨#[110, 111, 116, 104, 105, 110, 103]⟩, .string ⟨#[120]⟩, .slice none 0 0, .slice none 0 0] 25)).alloc (.cells #[.slice none 0 0, .slice none 0 0] 29) := ⟨_, rfl⟩
  have bA : Blk w2 w.heap.size 25 #[.int .i64 3, .string ⟨#[110, 111, 116, 104, 105, 110, 103]⟩, .string ⟨#[120]⟩, .slice none 0 0, .slice none 0 0] := by rw [hw2]; exact (Blk.new w _ _).alloc _
  have bB : Blk w2 (w.heap.size + 1) 29 #[.slice none 0 0, .slice none 0 0] := by
    rw [hw2]
    have h := Blk.new (w.alloc (.cells #[.int .i64 3, .string ⟨#[110, 111, 116, 104, 105, 110, 103]⟩, .string ⟨#[120]⟩, .slice none 0 0, .slice none 0 0] 25)) 29 #[.slice none 0 0, .slice none 0 0]
    have e : (w.alloc (.cells #[.int .i64 3, .string ⟨#[110, 111, 116, 104, 105, 110, 103]⟩, .string ⟨#[120]⟩, .slice none 0 0, .slice none 0 0] 25)).heap.size = w.heap.size + 1 := by simp
    rw [e] at h; exact h
  have x2 : Ext w w2 := by rw [hw2]; exact ((Mod.refl _ w).alloc _).alloc _
  have hS : ∀ {wx : World}, Ext w2 wx → wx.cell? ⟨w.heap.size, 0, none⟩ = some (.int .i64 3) ∧ wx.cell? ⟨w.heap.size, 1, none⟩ = some (.string ⟨#[110, 111, 116, 104, 105, 110, 103]⟩) ∧ wx.cell? ⟨w.heap.size, 2, none⟩ = some (.string ⟨#[120]⟩) ∧ wx.cell? ⟨w.heap.size, 3, none⟩ = some (.slice none 0 0) ∧ wx.cell? ⟨w.heap.size, 4, none⟩ = some (.slice none 0 0) ∧ wx.cell? ⟨w.heap.size + 1, 0, none⟩ = some (.slice none 0 0) ∧ wx.cell? ⟨w.heap.size + 1, 1, none⟩ = some (.slice none 0 0) := fun {wx} m => by
    have a := bA.mod m fun h => h
    have b := bB.mod m fun h => h
    exact ⟨a.cell 0, a.cell 1, a.cell 2, a.cell 3, a.cell 4, b.cell 0, b.cell 1⟩
  go_enter Tryz.func17, Tryz.ntmps17
  go_wp2_with fail
  rw [← hw2]
  clear hw2
  go_loopw [5, 11] (fun v i wr => v = .slice none 0 0 ∧ i = .int .i64 0 ∧ wr = w2) (fun _ _ _ => 0)
  case atStart => exact ⟨rfl, rfl, rfl⟩
  case round =>
    obtain ⟨rfl, rfl, hwr⟩ := hrel
    rw [hwr]
    clear hwr
    obtain ⟨c0, c1, c2, c3, c4, d0, d1⟩ := hS (Mod.refl _ w2)
    go_upto_region 14 with fail
    have p0 : Ext w2 w2.drew := (Mod.refl _ w2).drew
    have q0 := hS p0
    clear c0 c1 c2 c3 c4 d0 d1
    go_region_held3 (fun wx => wx.cell? ⟨w.heap.size, 0, none⟩ = some (.int .i64 3) ∧ wx.cell? ⟨w.heap.size, 1, none⟩ = some (.string ⟨#[110, 111, 116, 104, 105, 110, 103]⟩) ∧ wx.cell? ⟨w.heap.size, 2, none⟩ = some (.string ⟨#[120]⟩) ∧ wx.cell? ⟨w.heap.size, 3, none⟩ = some (.slice none 0 0) ∧ wx.cell? ⟨w.heap.size, 4, none⟩ = some (.slice none 0 0) ∧ wx.cell? ⟨w.heap.size + 1, 0, none⟩ = some (.slice none 0 0) ∧ wx.cell? ⟨w.heap.size + 1, 1, none⟩ = some (.slice none 0 0)) (first | exact q0 | exact q3 | exact q4)
      (first
        | (go_at_call 32; refine (hv _).mono ?_; rintro e w3 ⟨rfl, y3⟩; have p3 := ext_trans p0 y3; have q3 := hS p3)
        | (go_at_call 13; refine (hi _).mono ?_; rintro e w4 ⟨rfl, y4⟩; have p4 := ext_trans p3 y4; have q4 := hS p4))
    go_wp2_with fail
    go_ret
    exact ⟨rfl, ext_trans x2 p4⟩
end
end Go.Proofs.YteihjdefdeckaaaGreatDoor
namespace Go.Proofs.YteihjdefdeckaaaGreatDoor
open Go.RowKit
set_option maxRecDepth 100000
section
variable {w : World} {g : Nat}
set_option maxHeartbeats 4000000 in
theorem eval_not (hg : Blk w g 25 kidF) : Calls Tryz.prog 17 #[.agg (notF g), .agg noE] w fun e w' => e = .returned (.int .i64 2) ∧ Ext w w' := by
  have hk := fun wx : World => eval_kid (w := wx)
  unfold notF noE at *
  unfold kidF at hk
  obtain ⟨w2, hw2⟩ : ∃ w2, w2 = (w.alloc (.cells #[.int .i64 2, .string ⟨#[]⟩, .string ⟨#[]⟩, .slice none 0 0, .slice (some ⟨g, 0, none⟩) 1 1] 25)).alloc (.cells #[.slice none 0 0, .slice none 0 0] 29) := ⟨_, rfl⟩
  have bA : Blk w2 w.heap.size 25 #[.int .i64 2, .string ⟨#[]⟩, .string ⟨#[]⟩, .slice none 0 0, .slice (some ⟨g, 0, none⟩) 1 1] := by rw [hw2]; exact (Blk.new w _ _).alloc _
  have bB : Blk w2 (w.heap.size + 1) 29 #[.slice none 0 0, .slice none 0 0] := by
    rw [hw2]
    have h := Blk.new (w.alloc (.cells #[.int .i64 2, .string ⟨#[]⟩, .string ⟨#[]⟩, .slice none 0 0, .slice (some ⟨g, 0, none⟩) 1 1] 25)) 29 #[.slice none 0 0, .slice none 0 0]
    have e : (w.alloc (.cells #[.int .i64 2, .string ⟨#[]⟩, .string ⟨#[]⟩, .slice none 0 0, .slice (some ⟨g, 0, none⟩) 1 1] 25)).heap.size = w.heap.size + 1 := by simp
    rw [e] at h; exact h
  have x2 : Ext w w2 := by rw [hw2]; exact ((Mod.refl _ w).alloc _).alloc _
  have hg2 := hg.mod x2 fun h => h
  go_enter Tryz.func17, Tryz.ntmps17
  go_wp2_with fail
  rw [← hw2]
  clear hw2 hg
  go_loopw [5, 11] (fun v i wr => (v = .slice none 0 0 ∧ i = .int .i64 0 ∧ wr = w2) ∨ (i = .int .i64 1 ∧ Own wr 3 v [.int .i64 2] ∧ Ext w2 wr)) (fun _ i _ => 2 - (intOf i).toNat)
  case atStart => exact .inl ⟨rfl, rfl, rfl⟩
  case round =>
    rcases hrel with ⟨rfl, rfl, hwr⟩ | ⟨rfl, ho, hx⟩
    · rw [hwr]
      clear hwr
      have g0 : w2.cell? ⟨g, 0, none⟩ = some (.int .i64 3) := hg2.cell 0
      have g1 : w2.cell? ⟨g, 1, none⟩ = some (.string ⟨#[110, 111, 116, 104, 105, 110, 103]⟩) := hg2.cell 1
      have g2 : w2.cell? ⟨g, 2, none⟩ = some (.string ⟨#[120]⟩) := hg2.cell 2
      have g3 : w2.cell? ⟨g, 3, none⟩ = some (.slice none 0 0) := hg2.cell 3
      have g4 : w2.cell? ⟨g, 4, none⟩ = some (.slice none 0 0) := hg2.cell 4
      have c0 : w2.cell? ⟨w.heap.size + 1, 0, none⟩ = some (.slice none 0 0) := bB.cell 0
      have c1 : w2.cell? ⟨w.heap.size + 1, 1, none⟩ = some (.slice none 0 0) := bB.cell 1
      have hl := bB.lt
      go_wp2_with fail
      refine (hk _).mono ?_
      rintro e w3 ⟨rfl, x3⟩
      clear hk
      have y3 := ext_trans ((Mod.refl (fun _ => False) w2).alloc _) x3
      go_wp2_with ((with_reducible show wpList _ _ _ (⟨some 20, _, _, _, _, _⟩ :: _) _ _); refine wp_app tyI (Own.nil _ _) (Sl.one w3 3 (.int .i64 2)) (fun u hu => by rw [List.mem_singleton.1 hu]; rfl) rfl (.tmp 15) (.tmp 19) rfl rfl rfl (by simp) ?_; intro v1 w4 o4 m4 n4)
      exact ⟨.inr ⟨rfl, o4, ext_trans y3 (mod_app (v := .slice none 0 0) m4 |>.ext fun k hk h => by cases h)⟩, by simp [intOf]⟩
    · have c0 := (bA.mod hx fun h => h).cell 0
      have c4 : wr.cell? ⟨w.heap.size, 4, none⟩ = some (.slice (some ⟨g, 0, none⟩) 1 1) := (bA.mod hx fun h => h).cell 4
      rcases ho.form with ⟨_, h⟩ | ⟨h, cp, rfl, _, _, _⟩
      · cases h
      have hs := ho.cellAt (j := 0) (by simp)
      have hn := fun wx : World => not_any (w := wx) 2
      go_wp2_with fail
      refine (hn _).mono ?_
      rintro e w5 ⟨rfl, rfl⟩
      go_wp2_with fail
      go_ret
      exact ⟨rfl, ext_trans x2 hx⟩
set_option maxHeartbeats 4000000 in
theorem Eval_not (hg : Blk w g 25 kidF) : Calls Tryz.prog 10 #[.agg (notF g), .agg noE] w fun e w' => e = .returned (.int .i64 2) ∧ Ext w w' := by
  have h1 := fun (wx : World) p => Is_not (w := wx) (g := g) p
  have h2 := fun (wx : World) p => eval_not (w := wx) (g := g) p
  unfold notF noE at *
  go_enter Tryz.func10, Tryz.ntmps10
  go_wp2_with fail
  refine (h1 _ ((hg.alloc _).alloc _)).mono ?_
  rintro e w1 ⟨rfl, x1⟩
  have hg1 := ((hg.alloc (.cells #[.int .i64 2, .string ⟨#[]⟩, .string ⟨#[]⟩, .slice none 0 0, .slice (some ⟨g, 0, none⟩) 1 1] 25)).alloc (.cells #[.slice none 0 0, .slice none 0 0] 29)).mod x1 fun h => h
  have y1 := ext_trans (((Mod.refl (fun _ => False) w).alloc _).alloc _) x1
  have bA := ((Blk.new w 25 #[.int .i64 2, .string ⟨#[]⟩, .string ⟨#[]⟩, .slice none 0 0, .slice (some ⟨g, 0, none⟩) 1 1]).alloc (.cells #[.slice none 0 0, .slice none 0 0] 29)).mod x1 fun h => h
  have bB := Blk.mod (Blk.new (w.alloc (.cells #[.int .i64 2, .string ⟨#[]⟩, .string ⟨#[]⟩, .slice none 0 0, .slice (some ⟨g, 0, none⟩) 1 1] 25)) 29 #[.slice none 0 0, .slice none 0 0]) x1 fun h => h
  have e : (w.alloc (.cells #[.int .i64 2, .string ⟨#[]⟩, .string ⟨#[]⟩, .slice none 0 0, .slice (some ⟨g, 0, none⟩) 1 1] 25)).heap.size = w.heap.size + 1 := by simp
  rw [e] at bB
  clear e
  have c0 : w1.cell? ⟨w.heap.size, 0, none⟩ = some (.int .i64 2) := bA.cell 0
  have c1 : w1.cell? ⟨w.heap.size, 1, none⟩ = some (.string ⟨#[]⟩) := bA.cell 1
  have c2 : w1.cell? ⟨w.heap.size, 2, none⟩ = some (.string ⟨#[]⟩) := bA.cell 2
  have c3 : w1.cell? ⟨w.heap.size, 3, none⟩ = some (.slice none 0 0) := bA.cell 3
  have c4 : w1.cell? ⟨w.heap.size, 4, none⟩ = some (.slice (some ⟨g, 0, none⟩) 1 1) := bA.cell 4
  have d0 : w1.cell? ⟨w.heap.size + 1, 0, none⟩ = some (.slice none 0 0) := bB.cell 0
  have d1 : w1.cell? ⟨w.heap.size + 1, 1, none⟩ = some (.slice none 0 0) := bB.cell 1
  go_wp2_with fail
  refine (h2 _ hg1).mono ?_
  rintro e w2 ⟨rfl, x2⟩
  go_wp2_with fail
  go_ret
  exact ⟨rfl, ext_trans y1 x2⟩
set_option maxHeartbeats 4000000 in
theorem known17_any : Calls Tryz.prog 12 #[] w fun e w' => e = .returned (.bool true) ∧ Ext w w' := by
  have h1 := fun (wx : World) p => Eval_not (w := wx) (g := w.heap.size) p
  unfold notF noE at *
  go_enter Tryz.func12, Tryz.ntmps12
  go_wp2_with fail
  refine (h1 _ ((Blk.new w _ _).alloc _)).mono ?_
  rintro e w2 ⟨rfl, x2⟩
  go_wp2_with fail
  go_ret
  exact ⟨rfl, ext_trans (((Mod.refl (fun _ => False) w).alloc _).alloc _) x2⟩
end
end Go.Proofs.YteihjdefdeckaaaGreatDoor
