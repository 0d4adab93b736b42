/- entry: the law EntryDecodes. -/
import Derived.Test.YtlaaicdofompkaaEntK
namespace Go.Proofs.Ytlaaicdofompkaa
open Go.RowKit
set_option maxRecDepth 100000

theorem decE_w (s : List UInt8) : wE (decE s) ≤ s.length + 1 := by
  unfold decE
  split
  · have := readE_w s; omega
  · exact Nat.zero_le _

set_option maxHeartbeats 4000000 in
theorem ldecodes_any {w : World} {s : List UInt8} (hz : s.length ≤ 140737488351232) : Calls Try.prog 4 #[sv s] w fun e w' => e = .returned (.bool true) ∧ Ext w w' := by
  have hzs := sv_size' s
  by_cases hs : 3000 < s.length
  · have hb : decide ((3000 : Int) < (s.length : Int)) = true := dtrue (by omega)
    have hbn : decide (3000 < s.length) = true := dtrue (by omega)
    go_enter Try.func4, Try.ntmps4
    go_wp2_with fail
    go_ret
    exact ⟨rfl, Mod.refl _ _⟩
  have hb : decide ((3000 : Int) < (s.length : Int)) = false := dfalse (by omega)
  have hbn : decide (3000 < s.length) = false := dfalse (by omega)
  have hc1 := edec_any (w := w) (s := s) (by omega)
  have hc2 := fun wx => redec_any (w := wx) (s := s) (by omega)
  have hw : wE (decE s) ≤ 3001 := by have := decE_w s; omega
  have hsm := sameE_refl (decE s)
  generalize decN s = N at *
  generalize decE s = e at *
  have hq : ((N : Int) == (N : Int)) = true := beq_self_eq_true _
  have hkn := fun wx => known20_any (w := wx)
  go_enter Try.func4, Try.ntmps4
  go_wp2_with fail
  refine hc1.mono ?_
  rintro e' w1 ⟨vd, va, rfl, hd, ha, x1⟩
  obtain ⟨A1, c1, rfl, -⟩ := ha.open_
  obtain ⟨A0, c0, rfl⟩ := Rc.shape hd
  obtain ⟨n1, hn1⟩ : ∃ n, n = e.ats.length := ⟨_, rfl⟩
  obtain ⟨n0, hn0⟩ : ∃ n, n = e.dn.length := ⟨_, rfl⟩
  rw [← hn1] at ha
  rw [← hn0] at hd
  rw [← hn1, ← hn0]
  obtain ⟨w2, hw2⟩ : ∃ x, x = w1.alloc (.cells #[.slice A0 n0 c0, .slice A1 n1 c1] 25) := ⟨_, rfl⟩
  obtain ⟨g2, hg2⟩ : ∃ g, g = w1.heap.size := ⟨_, rfl⟩
  have x2 : Ext w1 w2 := by rw [hw2]; exact (Mod.refl _ w1).alloc _
  have B2 : Blk w2 g2 25 #[.slice A0 n0 c0, .slice A1 n1 c1] := by rw [hw2, hg2]; exact Blk.new w1 _ _
  replace hn0 := Lib.hid hn0
  replace hn1 := Lib.hid hn1
  replace hw2 := Lib.hid hw2
  replace hg2 := Lib.hid hg2
  replace hw := Lib.hid hw
  clear hc1 hs
  go_upto_region 4 with fail
  rw [← hw2.out, ← hg2.out]
  have hc2' := hc2 w2
  clear hc2
  go_wp2_with fail
  refine hc2'.mono ?_
  rintro e' w3 ⟨vd', va', rfl, hd', ha', x3⟩
  obtain ⟨A3, c3, rfl, -⟩ := ha'.open_
  obtain ⟨A4, c4, rfl⟩ := Rc.shape hd'
  rw [← hn1.out] at ha'
  rw [← hn0.out] at hd'
  rw [← hn1.out, ← hn0.out]
  obtain ⟨w4, hw4⟩ : ∃ x, x = w3.alloc (.cells #[.slice A4 n0 c4, .slice A3 n1 c3] 25) := ⟨_, rfl⟩
  obtain ⟨g4, hg4⟩ : ∃ g, g = w3.heap.size := ⟨_, rfl⟩
  have x4 : Ext w3 w4 := by rw [hw4]; exact (Mod.refl _ w3).alloc _
  have B4 : Blk w4 g4 25 #[.slice A4 n0 c4, .slice A3 n1 c3] := by rw [hw4, hg4]; exact Blk.new w3 _ _
  have B24 := B2.mod (ext_trans x3 x4) (fun h => h)
  have b20 : w4.cell? ⟨g2, 0, none⟩ = some (.slice A0 n0 c0) := B24.cell 0
  have b21 : w4.cell? ⟨g2, 1, none⟩ = some (.slice A1 n1 c1) := B24.cell 1
  have b40 : w4.cell? ⟨g4, 0, none⟩ = some (.slice A4 n0 c4) := B4.cell 0
  have b41 : w4.cell? ⟨g4, 1, none⟩ = some (.slice A3 n1 c3) := B4.cell 1
  have hcs := rsame20_any (a := e) (b := e) (hd.ext (ext_trans x2 (ext_trans x3 x4))) (ha.ext (ext_trans x2 (ext_trans x3 x4))) (hd'.ext x4) (ha'.ext x4) (by have := hw.out; omega) (by have := hw.out; omega)
  rw [hsm] at hcs
  replace hw4 := Lib.hid hw4
  replace hg4 := Lib.hid hg4
  have yy := ext_trans (ext_trans x1 x2) (ext_trans x3 x4)
  clear hc2' hd ha hd' ha' x1 x2 x3 x4
  go_upto_region 5 with fail
  rw [← hw4.out, ← hg4.out]
  clear hw4 hg4 hw2 hg2
  go_wp2_with fail
  refine hcs.mono ?_
  rintro e' w5 ⟨rfl, x5⟩
  have hkk := hkn w5
  clear hcs hkn
  go_wp2_with fail
  refine hkk.mono ?_
  rintro e' w6 ⟨rfl, x6⟩
  go_wp2_with fail
  go_ret
  exact ⟨rfl, ext_trans yy (ext_trans x5 x6)⟩
end Go.Proofs.Ytlaaicdofompkaa
