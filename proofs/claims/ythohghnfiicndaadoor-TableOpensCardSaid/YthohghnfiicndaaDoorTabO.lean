/- table: Get. -/
import Derived.Test.YthohghnfiicndaaDoorTabN
import Derived.Deep.CutBlock
namespace Go.Proofs.YthohghnfiicndaaDoor
open Go.RowKit Go.Maps Go.WideMaps
set_option maxRecDepth 100000

theorem lessC_like {a a' b : Ce} (h1 : a.key = a'.key) (h2 : a.seq = a'.seq) : lessC a b = lessC a' b := by
  unfold lessC
  rw [h1, h2]
theorem TP.at_ {w : World} {g bm : Nat} {A : Addr} {c : Nat} {vf : Value} {G : List Ce → Value} {L : List Ce} {PS : List (List Ce)} (h : TP w g bm A c vf G L PS) {i : Nat} (hi : i < PS.length) :
    w.cell? (A.add (i * 2)) = some (sv (endE PS[i]).key) ∧ w.cell? ⟨(A.add (i * 2)).block, (A.add (i * 2)).off + 1, none⟩ = some (.int .i64 (endE PS[i]).seq) := by
  obtain ⟨ad, hA, _, e0, e1⟩ := En.at_ h.ends (i := i) (by rw [List.length_map]; omega)
  cases hA
  rw [List.getElem_map] at e0 e1
  exact ⟨e0, e1⟩

set_option maxHeartbeats 8000000 in
theorem gclo1_any {w : World} {g bm : Nat} {A : Addr} {c : Nat} {vf : Value} {G : List Ce → Value} {L : List Ce} {PS : List (List Ce)} (H : ∀ wx, Ext w wx → TP wx g bm A c vf G L PS) {bt bw : Nat} {want : Ce} (hbt : Blk w bt 31 #[.pointer (some ⟨g, 0, none⟩)]) (hbw : Blk w bw 37 (car want)) {i : Nat} (hi : i < PS.length) (hP : PS.length ≤ 1000000) :
    Calls Tryd.prog 52 #[.int .i64 (i : Nat), .pointer (some ⟨bt, 0, none⟩), .pointer (some ⟨bw, 0, none⟩)] w fun e w' => e = .returned (.bool (!lessC (lastC (PS.getD i [])) want)) ∧ Ext w w' := by
  have hg : PS.getD i [] = PS[i] := getD_at _ _ hi
  have hll := lessC_like (a := ⟨(endE PS[i]).key, [], false, (endE PS[i]).seq⟩) (a' := lastC PS[i]) (b := want) rfl rfl
  rw [hg, ← hll]
  have hcx : ∀ {wx : World}, Ext w wx → wx.cell? ⟨bt, 0, none⟩ = some (.pointer (some ⟨g, 0, none⟩)) ∧ wx.cell? ⟨g, 0, none⟩ = some (.slice (some A) PS.length c) ∧ wx.cell? (A.add (i * 2)) = some (sv (endE PS[i]).key) ∧ wx.cell? ⟨(A.add (i * 2)).block, (A.add (i * 2)).off + 1, none⟩ = some (.int .i64 (endE PS[i]).seq) ∧
      wx.cell? ⟨bw, 0, none⟩ = some (sv want.key) ∧ wx.cell? ⟨bw, 1, none⟩ = some (sv want.val) ∧ wx.cell? ⟨bw, 2, none⟩ = some (.bool want.del) ∧ wx.cell? ⟨bw, 3, none⟩ = some (.int .i64 want.seq) := fun hx => by
    have H1 := H _ hx
    have b1 := hbt.mod hx (fun h => h)
    have b2 := hbw.mod hx (fun h => h)
    exact ⟨b1.cell 0, H1.blk.cell 0, (H1.at_ hi).1, (H1.at_ hi).2, b2.cell 0, b2.cell 1, b2.cell 2, b2.cell 3⟩
  have hi0 : (0 : Int) ≤ (i : Int) := by omega
  have hi1 : (i : Int) < (PS.length : Int) := by omega
  have q0 := hcx ((Mod.refl (fun _ => False) w).drew)
  have hless := fun wx => less_any (w := wx) ⟨(endE PS[i]).key, [], false, (endE PS[i]).seq⟩ want
  clear hg hll H hbt hbw
  generalize endE PS[i] = en at *
  obtain ⟨ek, es⟩ := en
  simp only at q0 hcx hless ⊢
  go_enter Tryd.func52, Tryd.ntmps52
  go_wp2_with fail
  go_region_held3 (fun wx => wx.cell? ⟨bt, 0, none⟩ = some (.pointer (some ⟨g, 0, none⟩)) ∧ wx.cell? ⟨g, 0, none⟩ = some (.slice (some A) PS.length c) ∧ wx.cell? (A.add (i * 2)) = some (sv ek) ∧ wx.cell? ⟨(A.add (i * 2)).block, (A.add (i * 2)).off + 1, none⟩ = some (.int .i64 es) ∧
      wx.cell? ⟨bw, 0, none⟩ = some (sv want.key) ∧ wx.cell? ⟨bw, 1, none⟩ = some (sv want.val) ∧ wx.cell? ⟨bw, 2, none⟩ = some (.bool want.del) ∧ wx.cell? ⟨bw, 3, none⟩ = some (.int .i64 want.seq)) (first | exact q0 | exact q1) (first
    | (go_at_call 53; (with_reducible refine (hless _).mono ?_); rintro e wa ⟨rfl, xa⟩; have x1 : Ext w wa := ((Mod.refl (fun _ => False) w).drew).trans xa (fun _ _ h => h) (fun _ _ h => h); have q1 := hcx x1))
  all_goals go_wp2_with fail
  all_goals go_ret
  all_goals exact ⟨rfl, x1⟩

set_option maxHeartbeats 8000000 in
theorem gclo2_any {w : World} {S : Nat → Prop} {xv : Value} {p : List Ce} (h : ∀ wx, Ext w wx → Cs wx S xv p) {bc bw : Nat} {want : Ce} (hbc : Blk w bc 22 #[xv]) (hbw : Blk w bw 37 (car want)) {i : Nat} (hi : i < p.length) (hP : p.length ≤ 1000000) :
    Calls Tryd.prog 54 #[.int .i64 (i : Nat), .pointer (some ⟨bc, 0, none⟩), .pointer (some ⟨bw, 0, none⟩)] w fun e w' => e = .returned (.bool (!lessC (p.getD i default) want)) ∧ Ext w w' := by
  have hg : p.getD i default = p[i] := getD_at _ _ hi
  rw [hg]
  obtain ⟨A, c, rfl, -, -, -, -⟩ := (h w (Mod.refl _ _)).open_ cel_len
  obtain ⟨ad, rfl⟩ : ∃ ad, A = some ad := by
    obtain ⟨A', c', hv, _, _, _, h4⟩ := (h w (Mod.refl _ _)).open_ cel_len
    injection hv with e1 _ _
    subst e1
    obtain ⟨ad, hA, _⟩ := Cs.at_ h4 hi
    exact ⟨ad, hA⟩
  have hcx : ∀ {wx : World}, Ext w wx → wx.cell? ⟨bc, 0, none⟩ = some (.slice (some ad) p.length c) ∧ wx.cell? (ad.add (i * 4)) = some (sv p[i].key) ∧ wx.cell? ⟨(ad.add (i * 4)).block, (ad.add (i * 4)).off + 1, none⟩ = some (sv p[i].val) ∧ wx.cell? ⟨(ad.add (i * 4)).block, (ad.add (i * 4)).off + 2, none⟩ = some (.bool p[i].del) ∧ wx.cell? ⟨(ad.add (i * 4)).block, (ad.add (i * 4)).off + 3, none⟩ = some (.int .i64 p[i].seq) ∧
      wx.cell? ⟨bw, 0, none⟩ = some (sv want.key) ∧ wx.cell? ⟨bw, 1, none⟩ = some (sv want.val) ∧ wx.cell? ⟨bw, 2, none⟩ = some (.bool want.del) ∧ wx.cell? ⟨bw, 3, none⟩ = some (.int .i64 want.seq) := fun hx => by
    have b1 := hbc.mod hx (fun h => h)
    have b2 := hbw.mod hx (fun h => h)
    obtain ⟨A', c', hv, _, _, _, h4⟩ := (h _ hx).open_ cel_len
    injection hv with e1 _ _
    subst e1
    obtain ⟨ad', hA, _, d0, d1, d2, d3⟩ := Cs.at_ h4 hi
    cases hA
    exact ⟨b1.cell 0, d0, d1, d2, d3, b2.cell 0, b2.cell 1, b2.cell 2, b2.cell 3⟩
  have hi0 : (0 : Int) ≤ (i : Int) := by omega
  have hi1 : (i : Int) < (p.length : Int) := by omega
  have q0 := hcx ((Mod.refl (fun _ => False) w).drew)
  have hless := fun wx => less_any (w := wx) p[i] want
  clear hg h hbc hbw
  generalize p[i] = x at *
  go_enter Tryd.func54, Tryd.ntmps54
  go_wp2_with fail
  go_region_held3 (fun wx => wx.cell? ⟨bc, 0, none⟩ = some (.slice (some ad) p.length c) ∧ wx.cell? (ad.add (i * 4)) = some (sv x.key) ∧ wx.cell? ⟨(ad.add (i * 4)).block, (ad.add (i * 4)).off + 1, none⟩ = some (sv x.val) ∧ wx.cell? ⟨(ad.add (i * 4)).block, (ad.add (i * 4)).off + 2, none⟩ = some (.bool x.del) ∧ wx.cell? ⟨(ad.add (i * 4)).block, (ad.add (i * 4)).off + 3, none⟩ = some (.int .i64 x.seq) ∧
      wx.cell? ⟨bw, 0, none⟩ = some (sv want.key) ∧ wx.cell? ⟨bw, 1, none⟩ = some (sv want.val) ∧ wx.cell? ⟨bw, 2, none⟩ = some (.bool want.del) ∧ wx.cell? ⟨bw, 3, none⟩ = some (.int .i64 want.seq)) (first | exact q0 | exact q1) (first
    | (go_at_call 53; (with_reducible refine (hless _).mono ?_); rintro e wa ⟨rfl, xa⟩; have x1 : Ext w wa := ((Mod.refl (fun _ => False) w).drew).trans xa (fun _ _ h => h) (fun _ _ h => h); have q1 := hcx x1))
  all_goals go_wp2_with fail
  all_goals go_ret
  all_goals exact ⟨rfl, x1⟩
end Go.Proofs.YthohghnfiicndaaDoor
