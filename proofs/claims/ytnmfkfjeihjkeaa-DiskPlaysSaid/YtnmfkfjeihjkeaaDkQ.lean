/- disk: what a law keeps of a Disk; the known case. -/
import Derived.Test.YtnmfkfjeihjkeaaDkP
import Derived.Test.YtnmfkfjeihjkeaaOctR
import Derived.Lib.SlBytesConst
namespace Go.Proofs.Ytnmfkfjeihjkeaa
open Go.RowKit Go.Maps Go.WideMaps
set_option maxRecDepth 100000

/-- The Disk's blocks are B's and later ones, and they are there. -/
def In (B : Nat) (w : World) (S : Nat → Prop) : Prop := ∀ k, S k → B ≤ k ∧ k < w.heap.size
theorem law_of {P : Program} {f : FuncId} {args : Array Value} {S : Nat → Prop} {w : World} {B : Nat} {v : Value} {d : Ds} {E : Ending → Prop} (hin : In B w S) (hB : B ≤ w.heap.size) (h : Calls P f args w fun e w' => E e ∧ Dk (Grow S w) w' v d ∧ Mod S w w') :
    Calls P f args w fun e w' => E e ∧ ∃ S', Dk S' w' v d ∧ In B w' S' ∧ (∀ k, S' k → S k ∨ w.heap.size ≤ k) ∧ Mod S w w' := by
  refine h.mono fun e w' ⟨h1, h2, h3⟩ => ⟨h1, _, h2.cut, fun k hk => ⟨?_, hk.2⟩, fun k hk => hk.1, h3⟩
  rcases hk.1 with hk | hk
  · exact (hin k hk).1
  · omega
theorem In.ext {B : Nat} {w w' : World} {S : Nat → Prop} (h : In B w S) (hx : w.heap.size ≤ w'.heap.size) : In B w' S := fun k hk => ⟨(h k hk).1, Nat.lt_of_lt_of_le (h k hk).2 hx⟩
theorem lit_row (w : World) (l : List UInt8) (fr : Nat × Nat) (hl : l.length ≤ 1000) : Rw ((w.alloc (.cells (l.map bv).toArray 5 fr)).alloc (.cells #[.slice (some ⟨w.heap.size, 0, none⟩) l.length l.length] 32)) (fun k => w.heap.size ≤ k) (.slice (some ⟨w.heap.size + 1, 0, none⟩) 1 1) [l] := by
  have := Rw.one 32 (Bs.text w 5 l fr (by simp only [maxLen]; omega))
  rw [show (w.alloc (.cells (l.map bv).toArray 5 fr)).heap.size = w.heap.size + 1 by simp] at this
  exact this.mono (fun k _ h => by rcases h with h | h <;> omega)
theorem new_law {w : World} (room : Int) (h0 : 0 ≤ room) (h1 : room ≤ 1073741824) :
    Calls Try.prog 6 #[.int .i64 room] w fun e w' => ∃ bd, e = .returned (.tuple #[pv bd, ev 0]) ∧ ∃ S, Dk S w' (pv bd) (newD room) ∧ In w.heap.size w' S ∧ Ext w w' :=
  (new_any room h0 h1).mono fun e w' ⟨bd, h1, h2, _, h4⟩ => ⟨bd, h1, _, h2.cut, fun _ hk => hk, h4⟩
theorem not_in {B : Nat} {w w' : World} {S : Nat → Prop} (h : In B w S) (hx : w.heap.size ≤ w'.heap.size) (k : Nat) (hk : w'.heap.size ≤ k) : ¬ S k := fun hs => by have := (h k hs).2; omega
theorem Mod.in_ext {S : Nat → Prop} {w0 w w' : World} (hx : Ext w0 w) (hm : Mod S w w') (hin : In w0.heap.size w S) : Ext w0 w' := hx.trans hm (fun _ _ h => h) fun k hk h => by have := (hin k h).1; omega
set_option maxHeartbeats 8000000 in
theorem known3_any {w : World} : Calls Try.prog 5 #[] w fun e w' => e = .returned (.bool true) ∧ Ext w w' := by
  have kc := fun (w : World) (C : Array Value) (n c : Nat) => Lib.run_convert_bytes_const (P := Try.prog) w 32 5 C n c Try.underlying32 Try.underlying5
  go_enter Try.func5, Try.ntmps5
  go_wp2_with fail
  refine (new_law 100 (by omega) (by omega)).mono ?_
  rintro e w1 ⟨bd, rfl, S1, hd1, hin1, x1⟩
  have xa : Ext w1 ((w1.alloc (.cells ([49, 50, 51, 52, 53].map bv).toArray 5 (5, 6))).alloc (.cells #[.slice (some ⟨w1.heap.size, 0, none⟩) 5 5] 32)) := ((Mod.refl _ _).alloc _).alloc _
  have hc1 := law_of (hin1.ext xa.size) (Nat.le_trans x1.size xa.size) (append_any (hd1.ext xa) [97] (lit_row w1 [49, 50, 51, 52, 53] (5, 6) (by decide)) (not_in hin1 (Nat.le_refl _)) (by decide))
  rw [show appendD (newD 100) [97] [[49, 50, 51, 52, 53]] = (⟨100, [⟨[97], [49, 50, 51, 52, 53], 0⟩], false, 0⟩, 0) from rfl] at hc1
  replace x1 := ext_trans x1 xa
  replace hin1 := hin1.ext xa.size
  clear hd1 xa
  go_wp2_with fail
  refine hc1.mono ?_
  rintro e w2 ⟨rfl, S2, hd2, hin2, _, m2⟩
  have x2 := Mod.in_ext x1 m2 hin1
  clear hc1 m2 hin1 x1
  have xa : Ext w2 (w2.alloc (.cells #[sv [97]] 9)) := (Mod.refl _ _).alloc _
  have hc1 := law_of (hin2.ext xa.size) (Nat.le_trans x2.size xa.size) (Sync_any (hd2.ext xa) (one_name w2 [97]) (fun k hk => not_in hin2 (Nat.le_refl _) k (by omega)))
  rw [show eachD syncD ⟨100, [⟨[97], [49, 50, 51, 52, 53], 0⟩], false, 0⟩ [[97]] = (⟨100, [⟨[97], [49, 50, 51, 52, 53], 5⟩], false, 0⟩, 0) from rfl] at hc1
  replace x2 := ext_trans x2 xa
  replace hin2 := hin2.ext xa.size
  clear hd2 xa
  go_wp2_with fail
  refine hc1.mono ?_
  rintro e w3 ⟨rfl, S3, hd3, hin3, _, m3⟩
  have x3 := Mod.in_ext x2 m3 hin2
  clear hc1 m3 hin2 x2
  have xa : Ext w3 ((w3.alloc (.cells ([54, 55, 56].map bv).toArray 5 (3, 4))).alloc (.cells #[.slice (some ⟨w3.heap.size, 0, none⟩) 3 3] 32)) := ((Mod.refl _ _).alloc _).alloc _
  have hc1 := law_of (hin3.ext xa.size) (Nat.le_trans x3.size xa.size) (append_any (hd3.ext xa) [97] (lit_row w3 [54, 55, 56] (3, 4) (by decide)) (not_in hin3 (Nat.le_refl _)) (by decide))
  rw [show appendD ⟨100, [⟨[97], [49, 50, 51, 52, 53], 5⟩], false, 0⟩ [97] [[54, 55, 56]] = (⟨100, [⟨[97], [49, 50, 51, 52, 53, 54, 55, 56], 5⟩], false, 0⟩, 0) from rfl] at hc1
  replace x3 := ext_trans x3 xa
  replace hin3 := hin3.ext xa.size
  clear hd3 xa
  go_wp2_with fail
  refine hc1.mono ?_
  rintro e w4 ⟨rfl, S4, hd4, hin4, _, m4⟩
  have x4 := Mod.in_ext x3 m4 hin3
  clear hc1 m4 hin3 x3
  have hc1 := law_of hin4 x4.size (crash_any hd4 1 (by omega))
  rw [show crashD 1 ⟨100, [⟨[97], [49, 50, 51, 52, 53, 54, 55, 56], 5⟩], false, 0⟩ = ⟨100, [⟨[97], [49, 50, 51, 52, 53, 54], 6⟩], false, 0⟩ from rfl] at hc1
  clear hd4
  go_wp2_with fail
  refine hc1.mono ?_
  rintro e w5 ⟨rfl, S5, hd5, hin5, _, m5⟩
  have x5 := Mod.in_ext x4 m5 hin4
  clear hc1 m5 hin4 x4
  have hc1 := read_any hd5 [97] (by decide)
  rw [show readD ⟨100, [⟨[97], [49, 50, 51, 52, 53, 54], 6⟩], false, 0⟩ [97] = some [49, 50, 51, 52, 53, 54] from rfl] at hc1
  go_wp2_with fail
  refine hc1.mono ?_
  rintro e w6 ⟨u, rfl, o6, f6, x6⟩
  replace x6 := ext_trans x5 x6
  clear hc1 hd5 hin5 x5
  have xa : Ext w6 (w6.alloc (.cells ([49, 50, 51, 52, 53, 54].map bv).toArray 5 (6, 7))) := (Mod.refl _ _).alloc _
  have hc1 := same_any (o6.mod xa (fun _ _ h => h)).sl (Bs.text w6 5 [49, 50, 51, 52, 53, 54] (6, 7) (by simp [maxLen]))
  rw [show (some ([49, 50, 51, 52, 53, 54] : List UInt8)).getD [] = [49, 50, 51, 52, 53, 54] from rfl, dtrue rfl] at hc1
  clear f6
  go_wp2_with fail
  refine hc1.mono ?_
  rintro e w7 ⟨rfl, k7, rfl⟩
  clear hc1
  go_wp2_with fail
  go_ret
  exact ⟨rfl, (ext_trans x6 xa).drewN k7⟩
end Go.Proofs.Ytnmfkfjeihjkeaa
