/- sess: who is bound is who was bound last. -/
import Derived.Test.YtoockogceobfgaaSsEm
import Derived.Test.YtoockogceobfgaaMgV
namespace Go.Proofs.Ytoockogceobfgaa
open Go.RowKit
set_option maxRecDepth 100000

theorem neqA26 (w : World) (a b : Av) : (binOp .neq 46 (.agg #[sv a.1, sv a.2]) (.agg #[sv b.1, sv b.2])).run Try.prog w = .ok (.bool (!decide (a = b))) w := by
  rw [run_neq_struct, eqInA25]; rfl
theorem guardA26 (w : World) (op : BinOp) (x y : Operand) (xs ys : Array Value) : (eqGuard op 46 x y (.agg xs) (.agg ys)).run Try.prog w = .ok () w :=
  run_eqGuard_agg w op _ x y xs ys (by kernel_rfl)
set_option maxHeartbeats 16000000 in
theorem lbound_any {w : World} {S S2 : Nat → Prop} {vw v : Value} {L : List Av} {l : List UInt8} (hL : As w S vw L) (hf : L.length * 32 ≤ 140737488351232) (h : Bs w S2 v l) : Calls Try.prog 4 #[vw, v] w fun e w' => e = .returned (.bool true) ∧ Ext w w' := by
  obtain ⟨A, c, rfl, -, -, -, -⟩ := id h.open_
  obtain ⟨D, d, rfl, -⟩ := id (hL.open_ avc_len)
  obtain ⟨m, hm⟩ : ∃ n, n = l.length := ⟨_, rfl⟩
  rw [← hm]
  clear hm h
  obtain ⟨n, hn⟩ : ∃ n, n = L.length := ⟨_, rfl⟩
  have hLn : Hid (n = L.length) := Lib.hid hn
  by_cases hb : 12 < n
  · have b1 : decide ((n : Int) > 12) = true := dtrue (by omega)
    have b2 : decide ((12 : Int) < (n : Int)) = true := dtrue (by omega)
    have b3 : decide (12 < n) = true := dtrue hb
    rw [← hn]
    clear hn hL hf
    go_enter Try.func4, Try.ntmps4
    go_wp2_with fail
    go_ret
    exact ⟨rfl, Mod.refl _ _⟩
  have b1 : decide ((n : Int) > 12) = false := dfalse (by omega)
  have b2 : decide ((12 : Int) < (n : Int)) = false := dfalse (by omega)
  have b3 : decide (12 < n) = false := dfalse hb
  by_cases hc : 500 < m
  · have b4 : decide ((m : Int) > 500) = true := dtrue (by omega)
    have b5 : decide ((500 : Int) < (m : Int)) = true := dtrue (by omega)
    have b6 : decide (500 < m) = true := dtrue hc
    rw [← hn]
    clear hn hL hf
    go_enter Try.func4, Try.ntmps4
    go_wp2_with fail
    go_ret
    exact ⟨rfl, Mod.refl _ _⟩
  have b4 : decide ((m : Int) > 500) = false := dfalse (by omega)
  have b5 : decide ((500 : Int) < (m : Int)) = false := dfalse (by omega)
  have b6 : decide (500 < m) = false := dfalse hc
  have hLx := fun {wx : World} (x : Ext w wx) => hL.ext x
  rw [← hn] at hf
  have hLx2 := fun {wx : World} (x : Ext w wx) => (hL.ext x).open_ avc_len
  have hcell : ∀ {wx : World}, Ext w wx → ∀ i (hi : i < L.length), ∃ ad, D = some ad ∧ wx.cell? (ad.add (i * 2)) = some (sv L[i].1) ∧ wx.cell? ⟨(ad.add (i * 2)).block, (ad.add (i * 2)).off + 1, none⟩ = some (sv L[i].2) := fun x i hi => by
    obtain ⟨D', d', e', -, -, -, h6⟩ := hLx2 x
    injection e' with e1 e2 e3
    subst e1
    obtain ⟨ad, k1, -, k2, k3⟩ := As.at_ h6 hi
    exact ⟨ad, k1, k2, k3⟩
  rw [← hn]
  have hLx : ∀ {wx : World}, Ext w wx → As wx S (.slice D n d) L := fun x => by rw [hn]; exact hLx x
  clear hLx2 hL hn hb hc
  go_enter Try.func4, Try.ntmps4
  go_wp2_with fail
  refine snew_any.mono ?_
  rintro e w1 ⟨rfl, hw1⟩
  obtain ⟨p, hp⟩ : ∃ p, p = w.heap.size := ⟨_, rfl⟩
  have B1 : Blk w1 p 86 #[.bool true, .slice none 0 0, .slice none 0 0] := by rw [hw1, hp]; exact Blk.new w _ _
  have x1 : Ext w w1 := by rw [hw1]; exact (Mod.refl _ w).alloc _
  rw [← hp]
  clear hw1
  have hpw : w.heap.size ≤ p := Nat.le_of_eq hp.symm
  clear hp b1 b2 b3 b4 b5 b6
  go_wp2_with fail
  refine (swho_any (S := fun _ => True) (L := []) B1 (Rc.nil _ _ _ _) (by simp)).mono ?_
  rintro e w2 ⟨v2, rfl, o2, -, x2⟩
  obtain ⟨A2, c2, e2⟩ := o2.shape
  replace e2 : v2 = .slice A2 0 c2 := e2
  subst e2
  have B2 := B1.mod x2 (fun h => h)
  have z2 := ext_trans x1 x2
  clear o2 B1 x1 x2
  go_wp2_with fail
  refine (sopen_any B2).mono ?_
  rintro e w3 ⟨rfl, rfl⟩
  go_wp2_with fail
  have hfn : L.length * 32 ≤ 140737488351232 := by rw [← hLn.out]; exact hf
  refine (sbind_any B2 (hLx z2) hfn).mono ?_
  rintro e w4 ⟨v4, rfl, B4, o4, fr4, m4⟩
  have z4 : Ext w w4 := z2.trans m4 (fun _ _ h => h) (fun b hb h => by have : b = p := h; omega)
  have hz2 := z2.size
  go_wp2_with fail
  refine (swho_any B4 o4.rc hfn).mono ?_
  rintro e w5 ⟨v5, rfl, o5, fr5, x5⟩
  have B5 := B4.mod x5 (fun h => h)
  have z5 := ext_trans z4 x5
  obtain ⟨A5, c5, e5⟩ := o5.shape
  rw [← hLn.out] at e5
  subst e5
  have hcv := fun {wx : World} (x : Ext w5 wx) => (o5.rc.ext x).open_ avc_len
  have hcn : ∀ {wx : World}, Ext w5 wx → ∀ i (hi : i < L.length), ∃ ad, A5 = some ad ∧ wx.cell? (ad.add (i * 2)) = some (sv L[i].1) ∧ wx.cell? ⟨(ad.add (i * 2)).block, (ad.add (i * 2)).off + 1, none⟩ = some (sv L[i].2) := fun x i hi => by
    obtain ⟨D', d', e', -, -, -, h6⟩ := hcv x
    injection e' with e1 e2 e3
    subst e1
    obtain ⟨ad, k1, -, k2, k3⟩ := As.at_ h6 hi
    exact ⟨ad, k1, k2, k3⟩
  have hne : ((n : Int) != (n : Int)) = false := by simp
  clear hcv o5 o4 fr4 fr5 m4 B4 B2 hLx z2 z4 x5
  go_wp2_with fail
  go_loopw [7] (fun s7 wr => ∃ k : Nat, s7 = .int .i64 k ∧ k ≤ n ∧ Ext w5 wr) (fun s7 _ => n - (intOf s7).toNat)
  case atStart => exact ⟨0, rfl, Nat.zero_le _, Mod.refl _ _⟩
  case round =>
    obtain ⟨k, rfl, hk, hx⟩ := hrel
    by_cases hlt : k < n
    · have hb : decide ((k : Int) < (n : Int)) = true := dtrue (by omega)
      have hb' : decide (k < n) = true := dtrue hlt
      have hkL : k < L.length := by rw [← hLn.out]; exact hlt
      obtain ⟨ad, rfl, q0, q1⟩ := hcn hx k hkL
      obtain ⟨ae, rfl, r0, r1⟩ := hcell (ext_trans z5 hx) k hkL
      generalize L[k] = a at q0 q1 r0 r1
      have hk0 : (0 : Int) ≤ (k : Int) := by omega
      have hk1 : (k : Int) < (n : Int) := by omega
      have he : ∀ wx : World, (binOp .neq 46 (.agg #[sv a.1, sv a.2]) (.agg #[sv a.1, sv a.2])).run Try.prog wx = .ok (.bool false) wx := fun wx => by rw [neqA26]; simp
      have hgu := fun (wx : World) => guardA26 wx .neq
      clear hcn hcell
      go_wp2_with fail
      go_quiet (fail)
      go_wp2_with fail
      exact ⟨⟨k + 1, by go_num, by omega, hx.drewN _⟩, by simp [intOf] <;> omega⟩
    · have hb : decide ((k : Int) < (n : Int)) = false := dfalse (by omega)
      have hb' : decide (k < n) = false := dfalse hlt
      have B6 := B5.mod hx (fun h => h)
      have z6 := ext_trans z5 hx
      clear hcn hcell
      go_wp2_with fail
      refine (sclose_any B6).mono ?_
      rintro e w7 ⟨rfl, B7, m7⟩
      have z7 : Ext w w7 := z6.trans m7 (fun _ _ h => h) (fun b hb h => by have : b = p := h; omega)
      go_wp2_with fail
      refine (take_shut B7).mono ?_
      rintro e w8 ⟨rfl, rfl⟩
      go_wp2_with fail
      refine (sopen_any B7).mono ?_
      rintro e w9 ⟨rfl, rfl⟩
      go_wp2_with fail
      refine (swait_any B7).mono ?_
      rintro e w10 ⟨rfl, rfl⟩
      go_wp2_with fail
      refine known26_any.mono ?_
      rintro e w11 ⟨rfl, x11⟩
      go_wp2_with fail
      go_ret
      exact ⟨rfl, ext_trans z7 x11⟩
end Go.Proofs.Ytoockogceobfgaa
