/- eval: what not of the kid says of an entry without attributes: undefined; what the laws know. -/
import Derived.Test.YtjkpgmenipdkbaaDoorEvA
import Derived.Test.YtjkpgmenipdkbaaDoorEvD
import Derived.Test.YtjkpgmenipdkbaaDoorEvE
import Derived.Test.YtjkpgmenipdkbaaDoorRegA
import Derived.Deep.Cut
namespace Go.Proofs.YtjkpgmenipdkbaaDoor
open Go.RowKit
set_option maxRecDepth 100000
def noE : Array Value := #[.slice none 0 0, .slice none 0 0]
section
variable {w : World} {g : Nat}
theorem fold_nthg (w : World) : Calls Tryd.prog 27 #[.string ⟨#[110, 111, 116, 104, 105, 110, 103]⟩] w fun e w' => e = .returned (.string ⟨#[110, 111, 116, 104, 105, 110, 103]⟩) ∧ Ext w w' := by
  have h := fold_any (w := w) nthg (by decide)
  rw [show foldB nthg = nthg by decide] at h
  exact h
theorem stype_nthg (w : World) : Calls Tryd.prog 23 #[.string ⟨#[110, 111, 116, 104, 105, 110, 103]⟩] w fun e w' => e = .returned (.tuple #[.string ⟨#[]⟩, .int .i64 0, .bool false, .bool false]) ∧ Ext w w' :=
  stype_no (s := nthg) (by decide) (by rw [show foldB nthg = nthg by decide]; rfl)
set_option maxHeartbeats 2000000 in
theorem values_no : Calls Tryd.prog 19 #[.agg noE, .string ⟨#[110, 111, 116, 104, 105, 110, 103]⟩] w fun e w' => e = .returned (.slice none 0 0) ∧ Ext w w' := by
  have hf := fun wx : World => fold_nthg wx
  unfold noE
  go_enter Tryd.func19, Tryd.ntmps19
  go_wp2_with fail
  refine (hf _).mono ?_
  rintro e w1 ⟨rfl, x1⟩
  clear hf
  have b1 : Blk w1 w.heap.size 37 #[.slice none 0 0, .slice none 0 0] := (Blk.new w _ _).mod x1 fun h => h
  have c0 := b1.cell 0
  have c1 : w1.cell? ⟨w.heap.size, 1, none⟩ = some (.slice none 0 0) := b1.cell 1
  have y1 := ext_trans ((Mod.refl (fun _ => False) w).alloc _) x1
  go_wp2_with fail
  go_loop [5, 13] (fun v i => v = .slice none 0 0 ∧ i = .int .i64 0) (fun _ _ => 0)
  case atStart => exact ⟨rfl, rfl⟩
  case round =>
    obtain ⟨rfl, rfl⟩ := hrel
    go_wp2_with fail
    go_ret
    exact ⟨rfl, y1⟩
set_option maxHeartbeats 2000000 in
theorem item_kid : Calls Tryd.prog 18 #[.agg kidF, .slice none 0 0] w fun e w' => e = .returned (.int .i64 2) ∧ Ext w w' := by
  have hf := fun wx : World => stype_nthg wx
  unfold kidF
  go_enter Tryd.func18, Tryd.ntmps18
  go_wp2_with fail
  refine (hf _).mono ?_
  rintro e w1 ⟨rfl, x1⟩
  clear hf
  go_wp2_with fail
  go_ret
  exact ⟨rfl, ext_trans ((Mod.refl (fun _ => False) w).alloc _) x1⟩
set_option maxHeartbeats 4000000 in
theorem eval_kid : Calls Tryd.prog 16 #[.agg kidF, .agg noE] w fun e w' => e = .returned (.int .i64 2) ∧ Ext w w' := by
  have hv := fun wx : World => values_no (w := wx)
  have hi := fun wx : World => item_kid (w := wx)
  unfold kidF noE at *
  obtain ⟨w2, hw2⟩ : ∃ w2, w2 = (w.alloc (.cells #[.int .i64 3, .string ⟨#[110, 111, 116, 104, 105, 110, 103]⟩, .string ⟨#[120]⟩, .slice none 0 0, .slice none 0 0] 32)).alloc (.cells #[.slice none 0 0, .slice none 0 0] 37) := ⟨_, rfl⟩
  have bA : Blk w2 w.heap.size 32 #[.int .i64 3, .string ⟨#[110, 111, 116, 104, 105, 110, 103]⟩, .string ⟨#[120]⟩, .slice none 0 0, .slice none 0 0] := by rw [hw2]; exact (Blk.new w _ _).alloc _
  have bB : Blk w2 (w.heap.size + 1) 37 #[.slice none 0 0, .slice none 0 0] := by
    rw [hw2]
    have h := Blk.new (w.alloc (.cells #[.int .i64 3, .string ⟨#[110, 111, 116, 104, 105, 110, 103]⟩, .string ⟨#[120]⟩, .slice none 0 0, .slice none 0 0] 32)) 37 #[.slice none 0 0, .slice none 0 0]
    have e : (w.alloc (.cells #[.int .i64 3, .string ⟨#[110, 111, 116, 104, 105, 110, 103]⟩, .string ⟨#[120]⟩, .slice none 0 0, .slice none 0 0] 32)).heap.size = w.heap.size + 1 := by simp
    rw [e] at h; exact h
  have x2 : Ext w w2 := by rw [hw2]; exact ((Mod.refl _ w).alloc _).alloc _
  have hS : ∀ {wx : World}, Ext w2 wx → wx.cell? ⟨w.heap.size, 0, none⟩ = some (.int .i64 3) ∧ wx.cell? ⟨w.heap.size, 1, none⟩ = some (.string ⟨#[110, 111, 116, 104, 105, 110, 103]⟩) ∧ wx.cell? ⟨w.heap.size, 2, none⟩ = some (.string ⟨#[120]⟩) ∧ wx.cell? ⟨w.heap.size, 3, none⟩ = some (.slice none 0 0) ∧ wx.cell? ⟨w.heap.size, 4, none⟩ = some (.slice none 0 0) ∧ wx.cell? ⟨w.heap.size + 1, 0, none⟩ = some (.slice none 0 0) ∧ wx.cell? ⟨w.heap.size + 1, 1, none⟩ = some (.slice none 0 0) := fun {wx} m => by
    have a := bA.mod m fun h => h
    have b := bB.mod m fun h => h
    exact ⟨a.cell 0, a.cell 1, a.cell 2, a.cell 3, a.cell 4, b.cell 0, b.cell 1⟩
  go_enter Tryd.func16, Tryd.ntmps16
  go_wp2_with fail
  rw [← hw2]
  clear hw2
  go_loopw [5, 11] (fun v i wr => v = .slice none 0 0 ∧ i = .int .i64 0 ∧ wr = w2) (fun _ _ _ => 0)
  case atStart => exact ⟨rfl, rfl, rfl⟩
  case round =>
    obtain ⟨rfl, rfl, hwr⟩ := hrel
    rw [hwr]
    clear hwr
    obtain ⟨c0, c1, c2, c3, c4, d0, d1⟩ := hS (Mod.refl _ w2)
    go_upto_region 14 with fail
    have p0 : Ext w2 w2.drew := (Mod.refl _ w2).drew
    have q0 := hS p0
    clear c0 c1 c2 c3 c4 d0 d1
    go_region_held3 (fun wx => wx.cell? ⟨w.heap.size, 0, none⟩ = some (.int .i64 3) ∧ wx.cell? ⟨w.heap.size, 1, none⟩ = some (.string ⟨#[110, 111, 116, 104, 105, 110, 103]⟩) ∧ wx.cell? ⟨w.heap.size, 2, none⟩ = some (.string ⟨#[120]⟩) ∧ wx.cell? ⟨w.heap.size, 3, none⟩ = some (.slice none 0 0) ∧ wx.cell? ⟨w.heap.size, 4, none⟩ = some (.slice none 0 0) ∧ wx.cell? ⟨w.heap.size + 1, 0, none⟩ = some (.slice none 0 0) ∧ wx.cell? ⟨w.heap.size + 1, 1, none⟩ = some (.slice none 0 0)) (first | exact q0 | exact q3 | exact q4)
      (first
        | (go_at_call 19; refine (hv _).mono ?_; rintro e w3 ⟨rfl, y3⟩; have p3 := ext_trans p0 y3; have q3 := hS p3)
        | (go_at_call 18; refine (hi _).mono ?_; rintro e w4 ⟨rfl, y4⟩; have p4 := ext_trans p3 y4; have q4 := hS p4))
    go_wp2_with fail
    go_ret
    exact ⟨rfl, ext_trans x2 p4⟩
end
end Go.Proofs.YtjkpgmenipdkbaaDoor
