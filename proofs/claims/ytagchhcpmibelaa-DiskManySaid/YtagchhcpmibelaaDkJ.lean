/- disk: a Disk made. -/
import Derived.Test.YtagchhcpmibelaaDkI
namespace Go.Proofs.Ytagchhcpmibelaa
open Go.RowKit Go.Maps Go.WideMaps
set_option maxRecDepth 100000

section
variable {S T F : Nat → Prop} {w w' : World} {bd bm : Nat} {D : DataW Unit} {G : Lay} {d : Ds} {v : Value}
def newD (room : Int) : Ds := ⟨room.toNat, [], false, 0⟩
set_option maxHeartbeats 4000000 in
theorem new_any {w : World} (room : Int) (h0 : 0 ≤ room) (h1 : room ≤ 1073741824) :
    Calls Try.prog 14 #[.int .i64 room] w fun e w' => ∃ bd, e = .returned (.tuple #[pv bd, ev 0]) ∧ Dk (fun k => w.heap.size ≤ k) w' (pv bd) (newD room) ∧ w.heap.size ≤ bd ∧ Ext w w' := by
  have hmm : ∀ wx : World, (Instr.makeMap 68 none).run Try.prog wx = .ok (.map (some wx.heap.size)) (wx.alloc (.map #[] 0)) := fun wx => by simp [Instr.makeMap, run_underlying Try.underlying68, Result.andThen]
  have hfin : ∃ bd, bd = w.heap.size + 1 ∧ Dk (fun k => w.heap.size ≤ k) ((w.alloc (.map #[] 0)).alloc (.cells #[.int .i64 room, .int .i64 0, .map (some w.heap.size), .bool false, .int .i64 0] 70)) (pv bd) (newD room) ∧ w.heap.size ≤ bd ∧ Ext w ((w.alloc (.map #[] 0)).alloc (.cells #[.int .i64 room, .int .i64 0, .map (some w.heap.size), .bool false, .int .i64 0] 70)) := by
    obtain ⟨m, rfl⟩ := Int.eq_ofNat_of_zero_le h0
    have M0 : (w.alloc (.map #[] 0)).ownsMap Try.prog 9 ptrElem w.heap.size 0 (.map []) := World.ownsMap_made _ _ _ _
    have x1 : Ext w (w.alloc (.map #[] 0)) := (Mod.refl _ w).alloc _
    have hz : (w.alloc (.map #[] 0)).heap.size = w.heap.size + 1 := by simp
    have b1 := Blk.new (w.alloc (.map #[] 0)) 70 #[.int .i64 (m : Int), .int .i64 0, .map (some w.heap.size), .bool false, .int .i64 0]
    rw [hz] at b1
    refine ⟨_, rfl, ⟨_, w.heap.size, .map [], fun _ => (0, .slice none 0 0), rfl, ⟨by omega, Nat.le_refl _, b1, M0.alloc _, FilesOf.none _, List.Pairwise.nil, (fun f hf => by cases hf), (fun f hf => by cases hf), (fun f hf => by cases hf), (fun f hf => by cases hf), (fun f hf => by cases hf), Nat.zero_le _, by show (m : Int).toNat ≤ 1073741824; omega, Nat.zero_le _, Nat.zero_le _⟩⟩, by omega, x1.alloc _⟩
  obtain ⟨bd, hbd, hD, hle, hx⟩ := hfin
  replace hbd := Lib.hid hbd
  have hb1 : decide (room < 0) = false := dfalse (by omega)
  have hb2 : decide (1073741824 < room) = false := dfalse (by omega)
  go_enter Try.func14, Try.ntmps14
  go_wp2_with fail
  go_ret2
  exact ⟨bd, by rw [hbd.out]; rfl, hD, hle, hx⟩
end
end Go.Proofs.Ytagchhcpmibelaa
