/- batch: Cells. -/
import Derived.Test.YtlfooppmdgddkaaBatD
namespace Go.Proofs.Ytlfooppmdgddkaa
open Go.RowKit Go.Maps
set_option maxRecDepth 100000

set_option maxHeartbeats 32000000 in
theorem bcells_any (hS : SortC) {w : World} {S : Nat → Prop} {v : Value} {L : List Ro} {s : Int} (h : Rs w S v L) (hf : MFits L) (hl : L.length ≤ 100000) :
    Calls Try.prog 55 #[v, .int .i64 s] w fun e w' => ∃ v', e = .returned v' ∧ OwnC w' v' (cellsB s L) ∧ Fresh w.heap.size v' ∧ Ext w w' := by
  obtain ⟨A, c, rfl, h1, h2, h3, h4⟩ := h.open_ rol_len
  clear h
  have hmm := fun wx => run_makeMapN Try.underlying114 wx .i64 L.length
  have hcell := fun (wx : World) (r : Ro) => bcell_any (w := wx) r s
  have hsort := fun (wx : World) (g c : Nat) (M : List Ce) (hy : OwnC wx (.slice (some ⟨g, 0, none⟩) M.length c) M) (hM : M.length ≤ 100000) => hS hy hM
  have M0 : MapI (w.alloc (.map #[] 0)) w.heap.size 0 (.map []) := World.ownsMap_made _ _ _ _
  have x0 : Ext w (w.alloc (.map #[] 0)) := (Mod.refl _ w).alloc _
  go_enter Try.func55, Try.ntmps55
  go_wp2_with fail
  go_loopw [16] (fun i wr => ∃ (k : Nat) (D : DataW Unit), k ≤ L.length ∧ i = .int .i64 k ∧ MapI wr w.heap.size k D ∧ Hid (IxOk L k D) ∧ Ext w wr) (fun i _ => L.length - (intOf i).toNat)
  case atStart => exact ⟨0, _, Nat.zero_le _, rfl, M0, Lib.hid (ixOk_none L), x0⟩
  case round =>
    clear M0 x0 hmm
    obtain ⟨k, D, hk, rfl, hM, hix, hx⟩ := hrel
    by_cases hlt : k < L.length
    case pos =>
      have hbl : decide ((k : Int) < (L.length : Int)) = true := dtrue (by omega)
      obtain ⟨ad, hA, hS, c0, c1, c2⟩ := Rs.at_ (h4.ext hx) hlt
      subst hA
      obtain ⟨k1, k2⟩ := hf.at_ hlt
      have hkey := keyOf_sv L[k].key k1
      have hpi := plainI k (by omega)
      have hst := Lib.hid (IxOk.put hix.out hlt)
      have hi0 : (0 : Int) ≤ (k : Int) := by omega
      have hi1 : (k : Int) < (L.length : Int) := by omega
      generalize L[k] = x at *
      obtain ⟨d0, d1, d2⟩ := boxedW wr x
      have xb : Ext wr (wr.alloc (.cells (rar x) 82)) := (Mod.refl _ wr).alloc _
      obtain ⟨w3, hw3⟩ : ∃ w3, w3 = wr.alloc (.cells (rar x) 82) := ⟨_, rfl⟩
      rw [← hw3] at d0 d1 d2 xb
      have x3 := ext_trans hx xb
      have M3 := ownsMap_mod hM xb (fun h => h)
      replace hw3 := Lib.hid hw3
      clear hM hx xb hsort hcell
      go_upto_region 5 with fail
      rw [← hw3.out]
      go_wp2_with (first
        | (at_mapUpdate; refine wpList_mapUpdate_own _ rfl _ _ _ 114 rfl 9 3 keyS Try.underlying114 _ w.heap.size k _ rfl M3 (by unfold maxLen; omega) _ _ _ rfl rfl hkey _ [] hpi ?_; intro w5 M5 g5))
      have x5 : Ext w w5 := x3.trans (Mod.of_grown (F := fun b => b = w.heap.size) g5 (fun b hb => by injection hb with hb; exact hb.symm)) (fun _ _ h => h) (fun b hb h => by omega)
      exact ⟨⟨k + 1, _, by omega, by go_num, M5, hst, x5⟩, by simp [intOf] <;> omega⟩
    have hbl : decide ((k : Int) < (L.length : Int)) = false := dfalse (by omega)
    obtain rfl : k = L.length := by omega
    have hsz : Maps.size D ≤ L.length := hM.size_le
    clear hbl hlt hk
    have hln := fun ty => hM.len Try.underlying114 ty
    generalize Maps.size D = n0 at *
    go_wp2_with ((with_reducible show wpList _ _ _ (⟨some 28, _, _, _, _, _⟩ :: _) _ _); refine wp_makeR0 tyC cel n0 rfl _ _ rfl rfl rfl (by omega) ?_; intro w1 o1 x1 z1; have M1 := ownsMap_mod hM x1 (fun h => h); have y1 := ext_trans hx x1)
    have hzx := hx.size
    have hb1 : w.heap.size ≤ wr.heap.size := hzx
    clear hM x1 z1 hln
    go_loopw [8, 31] (fun t i wx => ∃ (k g cp : Nat), k ≤ L.length ∧ i = .int .i64 k ∧ t = .slice (some ⟨g, 0, none⟩) (selR L k).length cp ∧ OwnC wx (.slice (some ⟨g, 0, none⟩) (selR L k).length cp) ((selR L k).map fun r => cellR r s) ∧ w.heap.size ≤ g ∧ MapI wx w.heap.size L.length D ∧ Ext w wx) (fun _ i _ => L.length - (intOf i).toNat)
    case atStart => exact ⟨0, wr.heap.size, n0, Nat.zero_le _, rfl, rfl, o1, hb1, M1, y1⟩
    case round =>
      clear o1 M1 y1
      obtain ⟨k, g, cp, hk, rfl, rfl, o1, hg, M1, y1⟩ := hrel
      have hlen := sel_len L k
      by_cases hlt : k < L.length
      case neg =>
        have hbl : decide ((k : Int) < (L.length : Int)) = false := dfalse (by omega)
        obtain rfl : k = L.length := by omega
        have hsl : ((selR L L.length).map fun r => cellR r s).length = (selR L L.length).length := by simp
        have hs1 := hsort wr g cp ((selR L L.length).map fun r => cellR r s) (by rw [hsl]; exact o1) (by rw [hsl]; omega)
        rw [hsl] at hs1
        clear hsort
        go_wp2_with fail
        refine hs1.mono ?_
        rintro e w5 ⟨rfl, L', p1, p2, o5, m5⟩
        have hres := Lib.hid (sel_sorts p1 p2)
        clear p1 p2 hs1
        go_wp2_with fail
        go_ret
        refine ⟨_, rfl, by rw [← hres.out]; exact o5, fun b hb => ?_, y1.trans m5 (fun _ _ h => h) (fun b hb h => by omega)⟩
        have : g = b := by simpa [Value.ownBlock] using hb
        omega
      have hbl : decide ((k : Int) < (L.length : Int)) = true := dtrue (by omega)
      obtain ⟨ad, hA, hS, c0, c1, c2⟩ := Rs.at_ (h4.ext y1) hlt
      subst hA
      obtain ⟨k1, k2⟩ := hf.at_ hlt
      have hkey := keyOf_sv L[k].key k1
      have hat := hix.out.2 k hlt hlt
      have hix2 := lastIx_is hlt
      have hst : selR L (k + 1) = if hasK (L.drop (k + 1)) L[k].key = true then selR L k else selR L k ++ [L[k]] := by
        conv => lhs; unfold selR
        rw [dif_pos hlt]
      have hi0 : (0 : Int) ≤ (k : Int) := by omega
      have hi1 : (k : Int) < (L.length : Int) := by omega
      obtain ⟨q, hq⟩ : ∃ q, q = hasK (L.drop (k + 1)) L[k].key := ⟨_, rfl⟩
      obtain ⟨m, hm⟩ : ∃ m, m = lastIx L L[k].key L.length := ⟨_, rfl⟩
      rw [← hm] at hat hix2
      rw [← hq] at hst hix2
      replace hq := Lib.hid hq
      replace hm := Lib.hid hm
      generalize L[k] = x at *
      obtain ⟨M2, hM2⟩ : ∃ M2, M2 = selR L (k + 1) := ⟨_, rfl⟩
      rw [← hM2] at hst
      replace hM2 := Lib.hid hM2
      generalize selR L k = M at *
      obtain ⟨d0, d1, d2⟩ := boxedW wr x
      have xb : Ext wr (wr.alloc (.cells (rar x) 82)) := (Mod.refl _ wr).alloc _
      obtain ⟨w3, hw3⟩ : ∃ w3, w3 = wr.alloc (.cells (rar x) 82) := ⟨_, rfl⟩
      rw [← hw3] at d0 d1 d2 xb
      have x3 := ext_trans y1 xb
      have M3 := ownsMap_mod M1 xb (fun h => h)
      have o3 := o1.ext xb
      replace hw3 := Lib.hid hw3
      have hc2 := fun wx => hcell wx x
      clear hsort hcell M1 o1 y1 xb
      cases q
      case true =>
        have hne : ¬ m = k := fun h => by have := hix2.1 h; cases this
        rw [if_pos rfl] at hst
        replace hst := Lib.hid hst
        have hbm : ((m : Int) == (k : Int)) = false := by rw [beq_eq_false_iff_ne]; omega
        clear hix2 hne hc2
        go_upto_region 11 with fail
        rw [← hw3.out]
        go_wp2_with ((with_reducible show wpList _ _ _ (⟨some 39, _, _, _, _, _⟩ :: _) _ _); refine wpList_lookup_own_int _ rfl _ _ 114 rfl 9 3 .i64 keyS Try.underlying114 Try.underlying3 (zeroI _) w.heap.size L.length _ rfl M3 _ _ rfl hkey ?_; intro cc hat2 hwc; obtain rfl : cc = (m : Int) := by (have h9 := hat2.symm.trans hat; injection h9 with h9; injection h9))
        exact ⟨⟨k + 1, g, cp, by omega, by go_num, by rw [← hM2.out, hst.out], by rw [← hM2.out, hst.out]; exact o3, hg, M3, x3⟩, by simp [intOf] <;> omega⟩
      have hmk : m = k := hix2.2 rfl
      subst hmk
      rw [if_neg (by decide)] at hst
      replace hst := Lib.hid hst
      have hbm : ((m : Int) == (m : Int)) = true := beq_self_eq_true _
      clear hix2
      go_upto_region 11 with fail
      rw [← hw3.out]
      go_wp2_with ((with_reducible show wpList _ _ _ (⟨some 39, _, _, _, _, _⟩ :: _) _ _); refine wpList_lookup_own_int _ rfl _ _ 114 rfl 9 3 .i64 keyS Try.underlying114 Try.underlying3 (zeroI _) w.heap.size L.length _ rfl M3 _ _ rfl hkey ?_; intro cc hat2 hwc; obtain rfl : cc = (m : Int) := by (have h9 := hat2.symm.trans hat; injection h9 with h9; injection h9))
      refine (hc2 _).mono ?_
      rintro e w4 ⟨rfl, x4⟩
      have o4 := o3.ext x4
      have M4 := ownsMap_mod M3 x4 (fun h => h)
      have y4 := ext_trans x3 x4
      have hno := own_ne_map o4 M4
      have fg : Fresh w.heap.size (.slice (some ⟨g, 0, none⟩) M.length cp) := fun b hb => by
        have : g = b := by simpa [Value.ownBlock] using hb
        omega
      have hml : (M.map fun r => cellR r s).length = M.length := List.length_map ..
      replace hml := Lib.hid hml
      clear o3 M3 x3 x4 hc2
      go_wp2_with ((with_reducible show wpList _ _ _ (⟨some 47, _, _, _, _, _⟩ :: _) _ _); refine wp_appR tyC cel_len (x := cellR x s) o4 rfl (cel_ok _) (by rw [hml.out]; omega) rfl _ _ rfl rfl rfl ?_; intro v5 w5 o5 m5 n5)
      have f5 := n5.fresh fg y4.size
      have y5 : Ext w w5 := y4.trans m5 (fun _ _ h => h) (fun b hb h => by have := fg b h; omega)
      have M5 := ownsMap_mod M4 m5 hno
      have he : (M.map fun r => cellR r s) ++ [cellR x s] = (M ++ [x]).map fun r => cellR r s := by simp
      rw [he] at o5
      rcases OwnK.form o5 with ⟨_, h0⟩ | ⟨g5, c5, hv5, _, _, _⟩
      · simp at h0
      · have hl5 : ((M ++ [x]).map fun r => cellR r s).length = M2.length := by rw [hst.out]; simp
        rw [hl5] at hv5
        subst hv5
        exact ⟨⟨m + 1, g5, c5, by omega, by go_num, by rw [← hM2.out], by rw [← hM2.out]; rw [hst.out] at o5 ⊢; exact o5, f5 g5 rfl, M5, y5⟩, by simp [intOf] <;> omega⟩
end Go.Proofs.Ytlfooppmdgddkaa
