/- filter: one filter that may be: not of one that asks for a value. -/
import Derived.Test.YtjkpgmenipdkbaaDoorDnE
namespace Go.Proofs.YtjkpgmenipdkbaaDoor
open Go.RowKit
set_option maxRecDepth 100000
def nthg : List UInt8 := [110, 111, 116, 104, 105, 110, 103]
/-- The kid: Equal "nothing" "x". -/
def kidF : Array Value := #[.int .i64 3, .string ⟨#[110, 111, 116, 104, 105, 110, 103]⟩, .string ⟨#[120]⟩, .slice none 0 0, .slice none 0 0]
/-- Not of the kid, which lies at g. -/
def notF (g : Nat) : Array Value := #[.int .i64 2, .string ⟨#[]⟩, .string ⟨#[]⟩, .slice none 0 0, .slice (some ⟨g, 0, none⟩) 1 1]
theorem typ_nthg (w : World) : Calls Tryd.prog 21 #[.string ⟨#[110, 111, 116, 104, 105, 110, 103]⟩] w fun e w' => e = .returned (.bool true) ∧ w' = w := by
  have h := type_any (w := w) nthg (by decide)
  rw [show decide (isTyp nthg) = true by decide] at h
  exact h
section
variable {w : World} {c g : Nat}
set_option maxHeartbeats 4000000 in
theorem is_kid (hB : Blk w c 3 #[.int .i64 63]) :
    Calls Tryd.prog 17 #[.agg kidF, .int .i64 2, .pointer (some ⟨c, 0, none⟩)] w fun e w' => e = .returned (.bool true) ∧ Mod (fun k => k = c) w w' := by
  have h1 : w.cell? ⟨c, 0, none⟩ = some (.int .i64 63) := hB.cell 0
  have h2 : w.frozen? ⟨c, 0, none⟩ = false := hB.frozen 0
  have hc := hB.lt
  unfold kidF
  have ht := fun wx : World => typ_nthg wx
  go_enter Tryd.func17, Tryd.ntmps17
  go_wp2_with fail
  refine (ht _).mono ?_
  rintro e w1 ⟨rfl, rfl⟩
  clear ht
  go_wp2_with fail
  go_ret
  exact ⟨rfl, ((Mod.refl (fun k => k = c) w).setCell (fun _ => rfl) _).alloc _⟩
set_option maxHeartbeats 4000000 in
theorem kids_one (hB : Blk w c 3 #[.int .i64 63]) (hg : Blk w g 32 kidF) (hn : g ≠ c) :
    Calls Tryd.prog 20 #[.agg (notF g), .int .i64 1, .pointer (some ⟨c, 0, none⟩)] w fun e w' => e = .returned (.bool true) ∧ Mod (fun k => k = c) w w' := by
  have h1 : w.cell? ⟨c, 0, none⟩ = some (.int .i64 63) := hB.cell 0
  have h2 : w.frozen? ⟨c, 0, none⟩ = false := hB.frozen 0
  have hc := hB.lt
  unfold notF
  have g0 : w.cell? ⟨g, 0, none⟩ = some (.int .i64 3) := hg.cell 0
  have g1 : w.cell? ⟨g, 1, none⟩ = some (.string ⟨#[110, 111, 116, 104, 105, 110, 103]⟩) := hg.cell 1
  have g2 : w.cell? ⟨g, 2, none⟩ = some (.string ⟨#[120]⟩) := hg.cell 2
  have g3 : w.cell? ⟨g, 3, none⟩ = some (.slice none 0 0) := hg.cell 3
  have g4 : w.cell? ⟨g, 4, none⟩ = some (.slice none 0 0) := hg.cell 4
  have hgl := hg.lt
  go_enter Tryd.func20, Tryd.ntmps20
  go_wp2_with fail
  go_loopw [27] (fun i wr => (i = .int .i64 0 ∧ wr = w.alloc (.cells #[.int .i64 2, .string ⟨#[]⟩, .string ⟨#[]⟩, .slice none 0 0, .slice (some ⟨g, 0, none⟩) 1 1] 32)) ∨ (i = .int .i64 1 ∧ Mod (fun k => k = c) w wr)) (fun i _ => 2 - (intOf i).toNat)
  case atStart => exact .inl ⟨rfl, rfl⟩
  case round =>
    rcases hrel with ⟨rfl, rfl⟩ | ⟨rfl, hm⟩
    · go_wp2_with fail
      refine (is_kid ((hB.alloc _).alloc _)).mono ?_
      rintro e w2 ⟨rfl, hm2⟩
      go_wp2_with fail
      exact ⟨.inr ⟨rfl, (((Mod.refl _ w).alloc _).alloc _).then_ hm2 fun _ _ h => h⟩, by simp [intOf]⟩
    · go_wp2_with fail
      go_ret
      exact ⟨rfl, hm⟩
set_option maxHeartbeats 4000000 in
theorem is_not (hB : Blk w c 3 #[.int .i64 64]) (hg : Blk w g 32 kidF) (hn : g ≠ c) :
    Calls Tryd.prog 17 #[.agg (notF g), .int .i64 1, .pointer (some ⟨c, 0, none⟩)] w fun e w' => e = .returned (.bool true) ∧ Mod (fun k => k = c) w w' := by
  have h1 : w.cell? ⟨c, 0, none⟩ = some (.int .i64 64) := hB.cell 0
  have h2 : w.frozen? ⟨c, 0, none⟩ = false := hB.frozen 0
  have hc := hB.lt
  unfold notF
  have hk := fun (wx : World) p1 p2 => kids_one (w := wx) (c := c) (g := g) p1 p2 hn
  unfold notF at hk
  go_enter Tryd.func17, Tryd.ntmps17
  go_wp2_with fail
  refine (hk _ ((hB.set_ 0 (.int .i64 63)).alloc _) ((hg.far (p := ⟨c, 0, none⟩) hn _).alloc _)).mono ?_
  rintro e w1 ⟨rfl, m1⟩
  go_wp2_with fail
  go_ret
  exact ⟨rfl, (((Mod.refl (fun k => k = c) w).setCell (fun _ => rfl) _).alloc _).then_ m1 fun _ _ h => h⟩
set_option maxHeartbeats 4000000 in
theorem Is_not (hg : Blk w g 32 kidF) :
    Calls Tryd.prog 15 #[.agg (notF g)] w fun e w' => e = .returned (.bool true) ∧ Ext w w' := by
  have hk := fun (wx : World) c p1 p2 hn => is_not (w := wx) (c := c) (g := g) p1 p2 hn
  have hgl := hg.lt
  have hnew : ∀ o : Obj, Blk ((w.alloc o).alloc (.cells #[.int .i64 64] 3)) (w.heap.size + 1) 3 #[.int .i64 64] := fun o => by
    have h := Blk.new (w.alloc o) 3 #[.int .i64 64]
    have e : (w.alloc o).heap.size = w.heap.size + 1 := by simp
    rw [e] at h; exact h
  unfold notF at *
  go_enter Tryd.func15, Tryd.ntmps15
  go_wp2_with fail
  refine (hk _ _ (hnew _) ((hg.alloc _).alloc _) (by omega)).mono ?_
  rintro e w1 ⟨rfl, m1⟩
  go_wp2_with fail
  go_ret
  exact ⟨rfl, Mod.trans (((Mod.refl (fun _ => False) w).alloc _).alloc _) m1 (fun _ _ h => h) fun k hk h => by omega⟩
end
end Go.Proofs.YtjkpgmenipdkbaaDoor
