/- schema: heavy. -/
import Derived.Test.YtdfjldlfimbimaaScN
namespace Go.Proofs.Ytdfjldlfimbimaa
open Go.RowKit
set_option maxRecDepth 100000

set_option maxHeartbeats 32000000 in
theorem heavy14_any {w : World} {vd va : Value} {E : Ent} (hd : As w AllE vd E.dn) (ha : Ats w va E.ats) (hw : wE E ≤ 2000000) :
    Calls Try.prog 11 #[.agg #[vd, va]] w fun e w' => ∃ q : Bool, e = .returned (.bool q) ∧ (q = false → wE E ≤ 3000) ∧ Ext w w' := by
  have hwd : wD E.dn + wA E.ats ≤ 2000000 := hw
  have hgl := wA_ge E.ats
  have hfm : ∀ x ∈ E.ats, x.typ.length ≤ 2000000 ∧ x.vals.length ≤ 2000000 ∧ ∀ u ∈ x.vals, u.length ≤ 2000000 := fun x hx => by
    have h1 := wA_mem hx
    have h2 := wV_ge x.vals
    exact ⟨by omega, by omega, fun u hu => by have := wV_mem hu; omega⟩
  have hax := fun {wx : World} (x : Ext w wx) => (ha.ext x).open_
  obtain ⟨A, c, hva, -⟩ := ha.open_
  obtain ⟨A0, c0, hvd⟩ := Rc.shape hd
  obtain ⟨m, hm⟩ : ∃ n, n = E.ats.length := ⟨_, rfl⟩
  obtain ⟨m0, hm0⟩ : ∃ n, n = E.dn.length := ⟨_, rfl⟩
  rw [← hm] at hva hgl
  rw [← hm0] at hvd
  subst hva
  subst hvd
  have hM : m ≤ 2000000 := by omega
  obtain ⟨w1, hw1⟩ : ∃ x, x = w.alloc (.cells #[.slice A0 m0 c0, .slice A m c] 31) := ⟨_, rfl⟩
  obtain ⟨p, hp⟩ : ∃ p, p = w.heap.size := ⟨_, rfl⟩
  have x1 : Ext w w1 := by rw [hw1]; exact (Mod.refl _ w).alloc _
  have BP : Blk w1 p 31 #[.slice A0 m0 c0, .slice A m c] := by rw [hw1, hp]; exact Blk.new w _ _
  have hpc : ∀ {wx : World}, Ext w1 wx → wx.cell? ⟨p, 1, none⟩ = some (.slice A m c) := fun x => (BP.mod x (fun h => h)).cell 1
  have hpd : ∀ {wx : World}, Ext w1 wx → wx.cell? ⟨p, 0, none⟩ = some (.slice A0 m0 c0) := fun x => (BP.mod x (fun h => h)).cell 0
  replace hm := Lib.hid hm
  replace hm0 := Lib.hid hm0
  replace hw1 := Lib.hid hw1
  replace hp := Lib.hid hp
  clear BP hw
  have hgd := wD_ge E.dn
  have hM0 : m0 ≤ 2000000 := by have := hm0.out; omega
  have hdq := fun {wx : World} (x : Ext w wx) => (hd.ext x).open_ avc_len
  have hcell : ∀ {wx : World}, Ext w1 wx → wx.cell? ⟨p, 0, none⟩ = some (.slice A0 m0 c0) ∧ wx.cell? ⟨p, 1, none⟩ = some (.slice A m c) := fun x => ⟨hpd x, hpc x⟩
  obtain ⟨b0, b1⟩ := hcell (Mod.refl _ w1)
  have hE : wE E = wD E.dn + wA E.ats := rfl
  obtain ⟨WD, hWD⟩ : ∃ n, n = wD E.dn := ⟨_, rfl⟩
  obtain ⟨WA, hWA⟩ : ∃ n, n = wA E.ats := ⟨_, rfl⟩
  obtain ⟨WE, hWE⟩ : ∃ n, n = wE E := ⟨_, rfl⟩
  have hdt := fun k => wD_take E.dn k
  have htt := fun k => wA_take E.ats k
  rw [← hWD] at hwd hE hdt hgd
  rw [← hWA] at hwd hE htt hgl
  rw [← hWE] at hE ⊢
  replace hWD := Lib.hid hWD
  replace hWA := Lib.hid hWA
  replace hWE := Lib.hid hWE
  replace hE := Lib.hid hE
  go_enter Try.func11, Try.ntmps11
  go_upto_region 1 with fail
  rw [← hw1.out, ← hp.out]
  clear hw1 hp
  go_wp2_with fail
  go_loopw [3, 4] (fun n i wr => ∃ k : Nat, k ≤ m0 ∧ i = .int .i64 k ∧ n = .int .i64 (wD (E.dn.take k) : Nat) ∧ Ext w1 wr) (fun _ i _ => m0 - (intOf i).toNat)
  case atStart => exact ⟨0, Nat.zero_le _, rfl, rfl, Mod.refl _ _⟩
  case round =>
    clear b0 b1
    obtain ⟨k, hk, rfl, rfl, hx⟩ := hrel
    obtain ⟨b0, b1⟩ := hcell hx
    by_cases hlt : k < m0
    case pos =>
      have hbl : decide ((k : Int) < (m0 : Int)) = true := dtrueI (by omega)
      have hbn : decide (k < m0) = true := dtrueI (by omega)
      have l1 : k < E.dn.length := by have := hm0.out; omega
      obtain ⟨A9, c9, he9, -, -, -, hd4⟩ := hdq (ext_trans x1 hx)
      injection he9 with he1 he2 he3
      clear he2
      subst he1
      subst he3
      obtain ⟨ad, hA, -, d0, d1⟩ := As.at_ hd4 l1
      subst hA
      have hsn := wD_snoc E.dn l1
      have hb := hdt (k + 1)
      rw [hsn] at hb
      generalize E.dn[k] = x at *
      generalize wD (E.dn.take k) = n at *
      have hz1 := sv_size x.1
      have hz2 := sv_size x.2
      have hi0 : (0 : Int) ≤ (k : Int) := by omega
      have hi1 : (k : Int) < (m0 : Int) := by omega
      have hdw : ∀ q, Ext w1 (wr.drewN q) := fun q => hx.drewN q
      replace hsn := Lib.hid hsn
      clear hd4
      go_wp2_with fail
      go_quiet (fail)
      go_wp2_with fail
      exact ⟨⟨k + 1, by omega, by go_num, by rw [hsn.out]; congr 1; omega, hdw _⟩, by simp [intOf] <;> omega⟩
    have hbl : decide ((k : Int) < (m0 : Int)) = false := dfalseI (by omega)
    have hbn : decide (k < m0) = false := dfalseI (by omega)
    have hT : E.dn.take k = E.dn := List.take_of_length_le (by have := hm0.out; omega)
    rw [hT, ← hWD.out]
    clear hT
    go_wp2_with fail
    go_loopw [3, 5] (fun n i wr => ∃ k : Nat, k ≤ m ∧ i = .int .i64 k ∧ n = .int .i64 ((WD + wA (E.ats.take k) : Nat) : Int) ∧ Ext w1 wr) (fun _ i _ => m - (intOf i).toNat)
    case atStart => exact ⟨0, Nat.zero_le _, rfl, rfl, hx⟩
    case round =>
      clear b0 b1 hx
      obtain ⟨k, hk, rfl, rfl, hx⟩ := hrel
      obtain ⟨b0, b1⟩ := hcell hx
      by_cases hlt : k < m
      case neg =>
        have hbl : decide ((k : Int) < (m : Int)) = false := dfalseI (by omega)
        have hbn : decide (k < m) = false := dfalseI (by omega)
        have hT : E.ats.take k = E.ats := List.take_of_length_le (by have := hm.out; omega)
        rw [hT, ← hWA.out, ← hE.out]
        clear hT
        go_wp2_with fail
        go_ret
        exact ⟨_, rfl, fun q => by have := of_decide_eq_false q; omega, ext_trans x1 hx⟩
      have hbl : decide ((k : Int) < (m : Int)) = true := dtrueI (by omega)
      have hbn : decide (k < m) = true := dtrueI (by omega)
      have l1 : k < E.ats.length := by have := hm.out; omega
      obtain ⟨A', c', hv, hat⟩ := hax (Mod.refl _ w)
      obtain ⟨ad, y, hA, a0w, a1w, hy⟩ := hat k l1
      injection hv with hv1 hvl hv3
      clear hvl
      subst hv1
      subst hv3
      subst hA
      have hsn := wA_snoc E.ats l1
      have hb := htt (k + 1)
      rw [hsn] at hb
      have hfx := hfm _ (List.getElem_mem l1)
      generalize E.ats[k] = x at *
      generalize wA (E.ats.take k) = n at *
      have hi0 : (0 : Int) ≤ (k : Int) := by omega
      have hi1 : (k : Int) < (m : Int) := by omega
      obtain ⟨Ay, cy, hvy, -, -, -, -⟩ := hy.open_
      obtain ⟨nx, hnx⟩ : ∃ n, n = x.vals.length := ⟨_, rfl⟩
      rw [← hnx] at hvy
      subst hvy
      have hnx2 : nx ≤ 2000000 := by have := hfx.2.1; omega
      replace hnx := Lib.hid hnx
      have hya : ∀ {wx : World}, Ext w1 wx → wx.cell? (ad.add (k * 2)) = some (sv x.typ) ∧ wx.cell? ⟨(ad.add (k * 2)).block, (ad.add (k * 2)).off + 1, none⟩ = some (.slice Ay nx cy) ∧ Ts wx AllE (.slice Ay nx cy) x.vals := fun q => ⟨ext_cell (ext_trans x1 q) a0w, ext_cell (ext_trans x1 q) a1w, hy.ext (ext_trans x1 q)⟩
      obtain ⟨a0, a1, -⟩ := hya hx
      have hz1 := sv_size x.typ
      have hvt := fun k => wV_take x.vals k
      replace hsn := Lib.hid hsn
      clear hat l1 a0w a1w
      go_wp2_with fail
      go_loopw [3, 6] (fun q i wr => ∃ j : Nat, j ≤ nx ∧ i = .int .i64 j ∧ q = .int .i64 ((WD + n + 1 + x.typ.length + wV (x.vals.take j) : Nat) : Int) ∧ Ext w1 wr) (fun _ i _ => nx - (intOf i).toNat)
      case atStart => exact ⟨0, Nat.zero_le _, rfl, by simp [wV] <;> omega, hx⟩
      case round =>
        clear b0 b1 a0 a1 hx
        obtain ⟨j, hj, rfl, rfl, hx⟩ := hrel
        obtain ⟨b0, b1⟩ := hcell hx
        obtain ⟨a0, a1, hys⟩ := hya hx
        by_cases hjl : j < nx
        case pos =>
          have hbj : decide ((j : Int) < (nx : Int)) = true := dtrueI (by omega)
          have hbj' : decide (j < nx) = true := dtrueI (by omega)
          have l2 : j < x.vals.length := by have := hnx.out; omega
          obtain ⟨Az, cz, hvz, -, -, -, hcz⟩ := Sl.open_ hys
          injection hvz with e1 e2 e3
          clear e2
          subst e1
          subst e3
          obtain ⟨ad2, hA2, -, cV⟩ := Cells.at_ hcz l2
          subst hA2
          have hsv := wV_snoc x.vals l2
          have hb2 := hvt (j + 1)
          rw [hsv] at hb2
          generalize x.vals[j] = u at *
          generalize wV (x.vals.take j) = r at *
          generalize wV x.vals = R at *
          have hz3 := sv_size u
          have hj0 : (0 : Int) ≤ (j : Int) := by omega
          have hj1 : (j : Int) < (nx : Int) := by omega
          replace hsv := Lib.hid hsv
          clear hcz
          go_wp2_with fail
          exact ⟨⟨j + 1, by omega, by go_num, by rw [hsv.out]; congr 1; omega, hx⟩, by simp [intOf] <;> omega⟩
        have hbj : decide ((j : Int) < (nx : Int)) = false := dfalseI (by omega)
        have hbj' : decide (j < nx) = false := dfalseI (by omega)
        have hT : x.vals.take j = x.vals := List.take_of_length_le (by have := hnx.out; omega)
        rw [hT]
        clear hT hvt
        generalize wV x.vals = R at *
        by_cases hgt : 3000 < WD + n + 1 + x.typ.length + R
        case pos =>
          have hbg : decide ((3000 : Int) < ((WD + n + 1 + x.typ.length + R : Nat) : Int)) = true := dtrueI (by omega)
          have hbg2 : decide ((3000 : Int) < (WD : Int) + (n : Int) + 1 + (x.typ.length : Int) + (R : Int)) = true := dtrueI (by omega)
          have hbg3 : decide (3000 < WD + n + 1 + x.typ.length + R) = true := dtrueI hgt
          go_wp2_with fail
          go_ret
          exact ⟨true, rfl, fun q => (by cases q), ext_trans x1 hx⟩
        have hbg : decide ((3000 : Int) < ((WD + n + 1 + x.typ.length + R : Nat) : Int)) = false := dfalseI (by omega)
        have hbg2 : decide ((3000 : Int) < (WD : Int) + (n : Int) + 1 + (x.typ.length : Int) + (R : Int)) = false := dfalseI (by omega)
        have hbg3 : decide (3000 < WD + n + 1 + x.typ.length + R) = false := dfalseI hgt
        go_wp2_with fail
        exact ⟨⟨k + 1, by omega, by go_num, by rw [hsn.out]; congr 1; omega, hx⟩, by simp [intOf] <;> omega⟩
end Go.Proofs.Ytdfjldlfimbimaa
