/- entry: great, of any entries. -/
import Derived.Test.YtlaaicdofompkaaEntM
namespace Go.Proofs.Ytlaaicdofompkaa
open Go.RowKit
set_option maxRecDepth 100000

theorem w64_lo (x : Int) : -9223372036854775808 ≤ wrap64 x ∧ wrap64 x ≤ 9223372036854775807 := by unfold wrap64; omega
theorem w64_id {x : Int} (h : -9223372036854775808 ≤ x) (h' : x ≤ 9223372036854775807) : wrap64 x = x := by unfold wrap64; omega
section
variable {α : Type} (f : α → Nat)
def sumF (L : List α) : Nat := (L.map f).sum
theorem sumF_next (L : List α) {k : Nat} (h : k < L.length) : sumF f (L.take (k + 1)) = sumF f (L.take k) + f L[k] := by
  unfold sumF
  rw [List.take_succ_eq_append_getElem h, List.map_append, List.sum_append]
  simp
theorem sumF_take : ∀ (L : List α) (k : Nat), sumF f (L.take k) ≤ sumF f L
  | [], k => by simp
  | a :: L, 0 => Nat.zero_le _
  | a :: L, k + 1 => by
    have := sumF_take L k
    show f a + sumF f (L.take k) ≤ f a + sumF f L
    omega
theorem sumF_all (L : List α) {k : Nat} (h : L.length ≤ k) : sumF f (L.take k) = sumF f L := by rw [List.take_of_length_le h]
theorem sumF_z (L : List α) : sumF f (L.take 0) = 0 := rfl
end
abbrev aW (a : Av) : Nat := 1 + a.1.length + a.2.length
abbrev vW (v : List UInt8) : Nat := 1 + v.length
abbrev atW (a : Att) : Nat := 1 + a.typ.length + wV a.vals
theorem wD_sum (l : List Av) : wD l = sumF aW l := rfl
theorem wV_sum (l : List (List UInt8)) : wV l = sumF vW l := rfl
theorem wA_sum (l : List Att) : wA l = sumF atW l := rfl
abbrev EnV : Type := Value × Value
abbrev enc2 (x : EnV) : List Value := [x.1, x.2]
theorem enc2_len (x : EnV) : (enc2 x).length = 2 := rfl
/-- A slice that reads as these entries. -/
def Ents (w : World) (v : Value) (L : List Ent) : Prop := ∃ C : List EnV, Rc enc2 2 w All v C ∧ C.length = L.length ∧ ∀ (k : Nat) (x : EnV) (e : Ent), C[k]? = some x → L[k]? = some e → As w All x.1 e.dn ∧ Ats w x.2 e.ats
theorem Ents.ext {w w' : World} {v : Value} {L : List Ent} (h : Ents w v L) (x : Ext w w') : Ents w' v L := by
  obtain ⟨C, h1, h2, h3⟩ := h
  exact ⟨C, h1.ext x, h2, fun k y e hy he => ⟨(h3 k y e hy he).1.ext x, (h3 k y e hy he).2.ext x⟩⟩
theorem Ents.open_ {w : World} {v : Value} {L : List Ent} (h : Ents w v L) : ∃ A c, v = .slice A L.length c ∧ ∀ (i : Nat) (hi : i < L.length), ∃ ad y z, A = some ad ∧ w.cell? (ad.add (i * 2)) = some y ∧ w.cell? ⟨(ad.add (i * 2)).block, (ad.add (i * 2)).off + 1, none⟩ = some z ∧ As w All y L[i].dn ∧ Ats w z L[i].ats := by
  obtain ⟨C, h1, h2, h3⟩ := h
  obtain ⟨A, c, rfl, _, _, _, h4⟩ := h1.open_ enc2_len
  refine ⟨A, c, by rw [h2], fun i hi => ?_⟩
  obtain ⟨ad, e1, _, c0⟩ := h4 i 0 _ (by omega) (by omega) rfl
  obtain ⟨ad', e1', _, c1⟩ := h4 i 1 _ (by omega) (by omega) rfl
  rw [e1] at e1'
  injection e1' with e1'
  subst e1'
  obtain ⟨k1, k2⟩ := h3 i C[i] L[i] (by simp [h2, hi]) (by simp [hi])
  rw [Nat.add_zero] at c0
  rw [add_next _ _ _ (by omega)] at c1
  exact ⟨ad, C[i].1, C[i].2, e1, c0, c1, k1, k2⟩
/-- What great answers: where the sum lies within an int, whether it is above 4000. -/
def GreatR (T : Nat) (e : Ending) : Prop := ∃ r, e = .returned (.bool r) ∧ (T ≤ 4611686018427387904 → r = decide (4000 < T))
theorem GreatR.of {T : Nat} {r : Bool} (h : T ≤ 4611686018427387904 → r = decide (4000 < T)) : GreatR T (.returned (.bool r)) := ⟨r, rfl, h⟩

set_option maxHeartbeats 8000000 in
theorem great20_any {w : World} {v : Value} {L : List Ent} (h : Ents w v L) (hL : L.length ≤ 1000) (hF : ∀ e ∈ L, EFits e) :
    Calls Try.prog 6 #[v] w fun e w' => GreatR (sumF wE L) e ∧ Ext w w' := by
  have hst := fun (k : Nat) => sumF_take wE L k
  have hhx := fun {wx : World} (x : Ext w wx) => (h.ext x).open_
  obtain ⟨A, c, rfl, -⟩ := h.open_
  obtain ⟨n, hn⟩ : ∃ n, n = L.length := ⟨_, rfl⟩
  obtain ⟨T, hT⟩ : ∃ T, T = sumF wE L := ⟨_, rfl⟩
  rw [← hn, ← hT]
  have hN : n ≤ 1000 := by omega
  replace hn := Lib.hid hn
  replace hT := Lib.hid hT
  clear h
  go_enter Try.func6, Try.ntmps6
  go_wp2_with fail
  go_loopw [3, 4] (fun vn vj wr => ∃ (j : Nat) (s : Int), j ≤ n ∧ vj = .int .i64 j ∧ vn = .int .i64 s ∧ -9223372036854775808 ≤ s ∧ s ≤ 9223372036854775807 ∧ Hid (T ≤ 4611686018427387904 → s = (sumF wE (L.take j) : Nat)) ∧ Ext w wr) (fun _ vj _ => n - (intOf vj).toNat)
  case atStart => exact ⟨0, 0, Nat.zero_le _, rfl, rfl, by omega, by omega, Lib.hid (fun _ => rfl), Mod.refl _ _⟩
  case round =>
    obtain ⟨j, s, hj, rfl, rfl, s1, s2, hs, hx⟩ := hrel
    by_cases hlt : j < n
    case neg =>
      have hbl : decide ((j : Int) < (n : Int)) = false := dfalse (by omega)
      have hbn : decide (j < n) = false := dfalse (by omega)
      have hR : T ≤ 4611686018427387904 → decide ((4000 : Int) < s) = decide (4000 < T) := fun hle => by
        have h1 := hs.out hle
        rw [sumF_all wE L (by have := hn.out; omega), ← hT.out] at h1
        rw [decide_eq_decide]; omega
      replace hR := Lib.hid hR
      generalize hq : decide ((4000 : Int) < s) = q at *
      go_wp2_with fail
      go_ret
      exact ⟨.of hR.out, hx⟩
    have hbl : decide ((j : Int) < (n : Int)) = true := dtrue (by omega)
    have hbn : decide (j < n) = true := dtrue (by omega)
    have l1 : j < L.length := by have := hn.out; omega
    obtain ⟨A', c', hv, hat⟩ := hhx hx
    obtain ⟨ad, y, z, hA, c0, c1, hyd, hza⟩ := hat j l1
    injection hv with hv1 _ hv3
    subst hv1
    subst hv3
    subst hA
    have hnx := sumF_next wE L l1
    have hle1 := hst (j + 1)
    rw [← hT.out] at hle1
    have hfe := hF _ (List.getElem_mem l1)
    have hwe : wE L[j] = wD L[j].dn + wA L[j].ats := rfl
    rw [hnx, hwe] at hle1
    rw [hwe] at hnx
    generalize L[j] = e at *
    clear hat l1 hwe
    have hd1 := hfe.dn
    have hd2 := hfe.len
    have hd3 := hfe.els
    obtain ⟨P, hP⟩ : ∃ P, P = sumF wE (L.take j) := ⟨_, rfl⟩
    rw [← hP] at hnx hle1 hs
    replace hP := Lib.hid hP
    replace hnx := Lib.hid hnx
    obtain ⟨A0, c0', rfl, -, -, -, hy4⟩ := hyd.open_ avc_len
    have hzx := fun {wx : World} (x : Ext wr wx) => (hza.ext x).open_
    obtain ⟨A1, c1', rfl, -⟩ := hza.open_
    obtain ⟨n0, hn0⟩ : ∃ n, n = e.dn.length := ⟨_, rfl⟩
    obtain ⟨n1, hn1⟩ : ∃ n, n = e.ats.length := ⟨_, rfl⟩
    rw [← hn0] at c0
    rw [← hn1] at c1
    have hN0 : n0 ≤ 9223372036854775806 := by have := hd1.2; omega
    have hN1 : n1 ≤ 9223372036854775806 := by omega
    have hi0 : (0 : Int) ≤ (j : Int) := by omega
    have hi1 : (j : Int) < (n : Int) := by omega
    obtain ⟨w5, hw5⟩ : ∃ x, x = wr.alloc (.cells #[.slice A0 n0 c0', .slice A1 n1 c1'] 25) := ⟨_, rfl⟩
    obtain ⟨g, hg⟩ : ∃ g, g = wr.heap.size := ⟨_, rfl⟩
    have x5 : Ext wr w5 := by rw [hw5]; exact (Mod.refl _ wr).alloc _
    have B5 : Blk w5 g 25 #[.slice A0 n0 c0', .slice A1 n1 c1'] := by rw [hw5, hg]; exact Blk.new wr _ _
    replace hw5 := Lib.hid hw5
    replace hg := Lib.hid hg
    replace hn0 := Lib.hid hn0
    replace hn1 := Lib.hid hn1
    clear hyd hza hfe hhx
    go_upto_region 6 with fail
    rw [← hw5.out, ← hg.out]
    clear hw5 hg c0 c1
    go_wp2_with fail
    go_loopw [3, 6] (fun vn vi wx => ∃ (i : Nat) (t : Int), i ≤ n0 ∧ vi = .int .i64 i ∧ vn = .int .i64 t ∧ -9223372036854775808 ≤ t ∧ t ≤ 9223372036854775807 ∧ Hid (T ≤ 4611686018427387904 → t = (P + sumF aW (e.dn.take i) : Nat)) ∧ Ext w5 wx) (fun _ vi _ => n0 - (intOf vi).toNat)
    case atStart => exact ⟨0, s, Nat.zero_le _, rfl, rfl, s1, s2, hs, Mod.refl _ _⟩
    case round =>
      obtain ⟨i, t, hi, rfl, rfl, t1, t2, ht, hx2⟩ := hrel
      have b0 : wr.cell? ⟨g, 0, none⟩ = some (.slice A0 n0 c0') := (B5.mod hx2 (fun h => h)).cell 0
      have ii0 : (0 : Int) ≤ (i : Int) := by omega
      by_cases hlt2 : i < n0
      case pos =>
        have hbl2 : decide ((i : Int) < (n0 : Int)) = true := dtrue (by omega)
        have hbn2 : decide (i < n0) = true := dtrue (by omega)
        have ii1 : (i : Int) < (n0 : Int) := by omega
        have l2 : i < e.dn.length := by have := hn0.out; omega
        obtain ⟨ad0, hA0, -, d0, d1⟩ := As.at_ (hy4.ext (ext_trans x5 hx2)) l2
        subst hA0
        have hnx2 := sumF_next aW e.dn l2
        have hle2 := sumF_take aW e.dn (i + 1)
        have hfx := hd1.1 _ (List.getElem_mem l2)
        generalize e.dn[i] = x at *
        have z1 := sv_size' x.1
        have z2 := sv_size' x.2
        have hnew : Hid (T ≤ 4611686018427387904 → wrap64 (wrap64 (wrap64 (t + 1) + (x.1.length : Int)) + (x.2.length : Int)) = ((P + sumF aW (e.dn.take (i + 1)) : Nat) : Int)) := Lib.hid fun hle => by
          have h1 := ht.out hle
          rw [← wD_sum e.dn] at hle2
          have h2 : aW x = 1 + x.1.length + x.2.length := rfl
          rw [hnx2] at hle2 ⊢
          rw [h2] at hle2 ⊢
          rw [w64_id (x := t + 1) (by omega) (by omega), w64_id (x := t + 1 + (x.1.length : Int)) (by omega) (by omega), w64_id (by omega) (by omega)]
          omega
        have hdw : ∀ m, Ext w5 (wr.drewN m) := fun m => hx2.drewN m
        clear ht hnx2 hle2 hs l2 hy4
        go_wp2_with fail
        go_quiet (fail)
        go_wp2_with fail
        exact ⟨⟨i + 1, _, by omega, by go_num, rfl, (w64_lo _).1, (w64_lo _).2, hnew, hdw _⟩, by simp [intOf] <;> omega⟩
      have hbl2 : decide ((i : Int) < (n0 : Int)) = false := dfalse (by omega)
      have hbn2 : decide (i < n0) = false := dfalse (by omega)
      have ht' : Hid (T ≤ 4611686018427387904 → t = ((P + wD e.dn + sumF atW (e.ats.take 0) : Nat) : Int)) := Lib.hid fun hle => by
        have h1 := ht.out hle
        rw [sumF_all aW e.dn (by have := hn0.out; omega)] at h1
        rw [sumF_z, wD_sum]; exact h1
      have hx3 := hx2
      clear ht hs hy4
      go_wp2_with fail
      clear b0
      go_loopw [3, 7] (fun vn vi wx => ∃ (i : Nat) (t : Int), i ≤ n1 ∧ vi = .int .i64 i ∧ vn = .int .i64 t ∧ -9223372036854775808 ≤ t ∧ t ≤ 9223372036854775807 ∧ Hid (T ≤ 4611686018427387904 → t = (P + wD e.dn + sumF atW (e.ats.take i) : Nat)) ∧ Ext w5 wx) (fun _ vi _ => n1 - (intOf vi).toNat)
      case atStart => exact ⟨0, t, Nat.zero_le _, rfl, rfl, t1, t2, ht', hx3⟩
      case round =>
        clear hx2 hx3 t1 t2 ht'
        obtain ⟨i, t, hi, rfl, rfl, t1, t2, ht, hx2⟩ := hrel
        have b1 : wr.cell? ⟨g, 1, none⟩ = some (.slice A1 n1 c1') := (B5.mod hx2 (fun h => h)).cell 1
        have ii0 : (0 : Int) ≤ (i : Int) := by omega
        by_cases hlt3 : i < n1
        case neg =>
          have hbl3 : decide ((i : Int) < (n1 : Int)) = false := dfalse (by omega)
          have hbn3 : decide (i < n1) = false := dfalse (by omega)
          have hnew : Hid (T ≤ 4611686018427387904 → t = ((sumF wE (L.take (j + 1)) : Nat) : Int)) := Lib.hid fun hle => by
            have h1 := ht.out hle
            rw [sumF_all atW e.ats (by have := hn1.out; omega)] at h1
            rw [hnx.out, h1, wA_sum]; omega
          clear ht
          go_wp2_with fail
          exact ⟨⟨j + 1, t, by omega, by go_num, rfl, t1, t2, hnew, ext_trans hx (ext_trans x5 hx2)⟩, by simp [intOf] <;> omega⟩
        have hbl3 : decide ((i : Int) < (n1 : Int)) = true := dtrue (by omega)
        have hbn3 : decide (i < n1) = true := dtrue (by omega)
        have ii1 : (i : Int) < (n1 : Int) := by omega
        have l3 : i < e.ats.length := by have := hn1.out; omega
        obtain ⟨A2, c2, hv, hat⟩ := hzx (ext_trans x5 hx2)
        obtain ⟨ad1, yv, hA1, a0, a1, hys⟩ := hat i l3
        injection hv with hv1 _ hv3
        subst hv1
        subst hv3
        subst hA1
        have hnx3 := sumF_next atW e.ats l3
        have hle3 := sumF_take atW e.ats (i + 1)
        have hfx := hd3 _ (List.getElem_mem l3)
        generalize e.ats[i] = x at *
        have hat3 : atW x = 1 + x.typ.length + wV x.vals := rfl
        rw [hat3] at hnx3
        rw [← wA_sum e.ats] at hle3
        have z1 := sv_size' x.typ
        obtain ⟨Av, cv, rfl, -, -, -, -⟩ := hys.open_
        obtain ⟨n2, hn2⟩ : ∃ n, n = x.vals.length := ⟨_, rfl⟩
        have hN2 : n2 ≤ 9223372036854775806 := by have := hfx.2.1; omega
        have hfv := hfx.2.2
        have hft := hfx.1
        rw [← hn2] at a1
        replace hn2 := Lib.hid hn2
        have hnew0 : Hid (T ≤ 4611686018427387904 → wrap64 (wrap64 (t + 1) + (x.typ.length : Int)) = ((P + wD e.dn + sumF atW (e.ats.take i) + (1 + x.typ.length) + sumF vW (x.vals.take 0) : Nat) : Int)) := Lib.hid fun hle => by
          have h1 := ht.out hle
          rw [sumF_z]
          rw [w64_id (x := t + 1) (by omega) (by omega), w64_id (by omega) (by omega)]
          omega
        clear hat l3 ht hfx hat3
        go_wp2_with fail
        go_loopw [3, 8] (fun vn vk wx => ∃ (k : Nat) (u : Int), k ≤ n2 ∧ vk = .int .i64 k ∧ vn = .int .i64 u ∧ -9223372036854775808 ≤ u ∧ u ≤ 9223372036854775807 ∧ Hid (T ≤ 4611686018427387904 → u = (P + wD e.dn + sumF atW (e.ats.take i) + (1 + x.typ.length) + sumF vW (x.vals.take k) : Nat)) ∧ Ext wr wx) (fun _ vk _ => n2 - (intOf vk).toNat)
        case atStart => exact ⟨0, _, Nat.zero_le _, rfl, rfl, (w64_lo _).1, (w64_lo _).2, hnew0, Mod.refl _ _⟩
        case round =>
          obtain ⟨k, u, hk, rfl, rfl, u1, u2, hu, hx4⟩ := hrel
          have hx5 := ext_trans hx2 hx4
          have b1' := ext_cell hx4 b1
          have a0' := ext_cell hx4 a0
          have a1' := ext_cell hx4 a1
          have kk0 : (0 : Int) ≤ (k : Int) := by omega
          by_cases hlt4 : k < n2
          case neg =>
            have hbl4 : decide ((k : Int) < (n2 : Int)) = false := dfalse (by omega)
            have hbn4 : decide (k < n2) = false := dfalse (by omega)
            have hnew : T ≤ 4611686018427387904 → u = ((P + wD e.dn + sumF atW (e.ats.take (i + 1)) : Nat) : Int) := fun hle => by
              have h1 := hu.out hle
              rw [sumF_all vW x.vals (by have := hn2.out; omega)] at h1
              rw [hnx3, h1, wV_sum]; omega
            have htop : T ≤ 4611686018427387904 → (4000 : Int) < u → 4000 < T := fun hle h4 => by
              have h1 := hnew hle
              omega
            replace hnew := Lib.hid hnew
            replace htop := Lib.hid htop
            clear hu hnew0 b1 a0 a1
            by_cases h4 : (4000 : Int) < u
            · have hb4 : decide ((4000 : Int) < u) = true := dtrue h4
              go_wp2_with fail
              go_ret
              exact ⟨.of (fun hle => (decide_eq_true (htop.out hle h4)).symm), ext_trans hx (ext_trans x5 hx5)⟩
            · have hb4 : decide ((4000 : Int) < u) = false := dfalse h4
              go_wp2_with fail
              exact ⟨⟨i + 1, u, by omega, by go_num, rfl, u1, u2, hnew, hx5⟩, by simp [intOf] <;> omega⟩
          have hbl4 : decide ((k : Int) < (n2 : Int)) = true := dtrue (by omega)
          have hbn4 : decide (k < n2) = true := dtrue (by omega)
          have kk1 : (k : Int) < (n2 : Int) := by omega
          have l4 : k < x.vals.length := by have := hn2.out; omega
          obtain ⟨A3, c3, e1, _, _, _, h5⟩ := (Sl.ext hys hx4).open_
          injection e1 with e1 _ e3
          subst e1
          subst e3
          obtain ⟨ad2, e2, _, h6⟩ := h5.at_ l4
          subst e2
          have hnx4 := sumF_next vW x.vals l4
          have hle4 := sumF_take vW x.vals (k + 1)
          have hfz := hfv _ (List.getElem_mem l4)
          generalize x.vals[k] = q at *
          have z4 := sv_size' q
          have hnew4 : Hid (T ≤ 4611686018427387904 → wrap64 (wrap64 (u + 1) + (q.length : Int)) = ((P + wD e.dn + sumF atW (e.ats.take i) + (1 + x.typ.length) + sumF vW (x.vals.take (k + 1)) : Nat) : Int)) := Lib.hid fun hle => by
            have h1 := hu.out hle
            rw [← wV_sum x.vals] at hle4
            have h2 : vW q = 1 + q.length := rfl
            rw [hnx4, h2] at hle4 ⊢
            rw [w64_id (x := u + 1) (by omega) (by omega), w64_id (by omega) (by omega)]
            omega
          clear hu hnx4 hle4 h5 l4 hnew0 b1 a0 a1
          go_wp2_with fail
          exact ⟨⟨k + 1, _, by omega, by go_num, rfl, (w64_lo _).1, (w64_lo _).2, hnew4, hx4⟩, by simp [intOf] <;> omega⟩
end Go.Proofs.Ytlaaicdofompkaa
