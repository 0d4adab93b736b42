/- octet: of nothing: the statement's own walk. -/
import Derived.Test.YtifejclloapbkaaDoorOctH
namespace Go.Proofs.YtifejclloapbkaaDoor
open Go.RowKit
set_option maxRecDepth 100000

theorem rdnums_nil {w : World} {S : Nat → Prop} {y : Value} (hy : Sl w S y [.pointer none]) :
    Calls Tryd.prog 35 #[.pointer none, y] w fun e w' => e = .returned (.tuple #[]) ∧ w' = w := by
  obtain ⟨A, c, rfl, h1, h2, h3, h4⟩ := hy
  obtain ⟨ad, rfl, hs, hc⟩ := h4 0 _ rfl
  have hc0 : w.cell? ad = some (.pointer none) := hc
  clear hc
  simp only [List.length_cons, List.length_nil, Nat.zero_add]
  go_enter Tryd.func35, Tryd.ntmps35
  go_wp2
  go_loop [9] (fun i => ∃ k : Nat, k ≤ 1 ∧ i = .int .i64 k) (fun i => 1 - (intOf i).toNat)
  case atStart => exact ⟨0, by omega, rfl⟩
  case round =>
    obtain ⟨k, hk, rfl⟩ := hrel
    by_cases hlt : k < 1
    · obtain rfl : k = 0 := by omega
      go_wp2_with (go_at_call 17; refine num_nil.mono ?_; rintro e w1 ⟨rfl, rfl⟩)
      exact ⟨⟨1, by omega, rfl⟩, by simp [intOf]⟩
    · obtain rfl : k = 1 := by omega
      go_wp2
      go_end0
      exact ⟨rfl, rfl⟩

set_option maxHeartbeats 1000000 in
theorem law_of_nothing {w : World} {S : Nat → Prop} {y : Value} {l : List UInt8} (n : Int) (hy : Bs w S y l) (hN : Nib w) :
    Calls Tryd.prog 7 #[.int .i64 n, y] w fun e w' => e = .returned (.bool true) ∧ Ext w w' := by
  obtain ⟨A, c, rfl, h1, h2, h3, h4⟩ := hy.open_
  by_cases hbig : 4000 < l.length
  · go_enter Tryd.func7, Tryd.ntmps7
    go_wp2
    go_ret
    exact ⟨rfl, Mod.refl _ _⟩
  · go_enter Tryd.func7, Tryd.ntmps7
    go_wp2_with fail
    refine wnums_nil.mono ?_; rintro e w1 ⟨rfl, hw1⟩
    have hx1 : Ext w w1 := by rw [hw1]; exact (Mod.refl _ w).alloc _
    clear hw1
    go_wp2_with fail
    refine wbytes_nil.mono ?_; rintro e w2 ⟨rfl, hw2⟩
    have hx2 : Ext w w2 := by rw [hw2]; exact Mod.alloc hx1 _
    clear hw2 hx1
    go_wp2_with fail
    refine wraw_nil.mono ?_; rintro e w3 ⟨rfl, rfl⟩
    go_wp2_with fail
    refine bad_nil.mono ?_; rintro e w3 ⟨rfl, rfl⟩
    go_wp2_with fail
    refine (rdnums_nil (Sl.one _ _ _)).mono ?_; rintro e w4 ⟨rfl, hw4⟩
    have hx4 : Ext w w4 := by rw [hw4]; exact Mod.alloc hx2 _
    clear hw4 hx2
    go_wp2_with fail
    refine wout_nil.mono ?_; rintro e w5 ⟨rfl, rfl⟩
    go_wp2_with fail
    refine num_nil.mono ?_; rintro e w5 ⟨rfl, rfl⟩
    go_wp2_with fail
    refine bytes_nil.mono ?_; rintro e w5 ⟨rfl, rfl⟩
    go_wp2_with fail
    refine raw_nil.mono ?_; rintro e w5 ⟨rfl, rfl⟩
    go_wp2_with fail
    refine left_nil.mono ?_; rintro e w5 ⟨rfl, rfl⟩
    go_wp2_with fail
    refine good_nil.mono ?_; rintro e w5 ⟨rfl, rfl⟩
    go_wp2_with fail
    refine whole_nil.mono ?_; rintro e w5 ⟨rfl, rfl⟩
    go_wp2_with fail
    refine (known_any (hN.mod hx4 (fun h => h))).mono ?_; rintro e w6 ⟨rfl, hx6⟩
    go_wp2_with fail
    go_ret
    exact ⟨rfl, ext_trans hx4 hx6⟩
end Go.Proofs.YtifejclloapbkaaDoor
