/- dn: fold, value. -/
import Derived.Test.YtacmbomnjedbeaaDnC
import Derived.Test.YtacmbomnjedbeaaRecB
import Derived.Deep.RegionHeld3
namespace Go.Proofs.Ytacmbomnjedbeaa
open Go.RowKit
set_option maxRecDepth 100000

/-- A value, folded. -/
def normV (s : List UInt8) : List UInt8 := if foldB s = [] ∧ s ≠ [] then [32] else foldB s
/-- A part, folded. -/
def normA (a : List UInt8 × List UInt8) : List UInt8 × List UInt8 := (foldB a.1, normV a.2)
theorem sv_empty (l : List UInt8) : (⟨l.toArray⟩ : ByteArray).toList.isEmpty = l.isEmpty := by simp

set_option maxHeartbeats 2000000 in
theorem value_any {w : World} (s : List UInt8) (hl : s.length ≤ 140737488351232) :
    Calls Try.prog 52 #[sv s] w fun e w' => e = .returned (sv (normV s)) ∧ Ext w w' := by
  go_enter Try.func52, Try.ntmps52
  go_wp2_with fail
  refine (rfold_any s hl).mono ?_
  rintro e w1 ⟨rfl, hx⟩
  go_wp2_with fail
  · rename_i h1 h2
    go_ret
    exact ⟨by rw [normV, if_pos ⟨h1, by intro h; subst h; cases h2⟩]; rfl, hx⟩
  · rename_i h1 h2
    go_ret
    exact ⟨by rw [normV, if_neg (by rintro ⟨_, h⟩; cases s <;> simp_all), h1]; rfl, hx⟩
  · rename_i h1
    go_ret
    exact ⟨by rw [normV, if_neg (fun h => h1 h.1)]; rfl, hx⟩
set_option maxHeartbeats 2000000 in
theorem dfold_any {w : World} (a : List UInt8 × List UInt8) (h1 : a.1.length ≤ 140737488351232) (h2 : a.2.length ≤ 140737488351232) :
    Calls Try.prog 55 #[.agg #[sv a.1, sv a.2]] w fun e w' => e = .returned (.agg #[sv (normA a).1, sv (normA a).2]) ∧ Ext w w' := by
  go_enter Try.func55, Try.ntmps55
  go_wp2_with fail
  refine (fold_any a.2 h2).mono ?_
  rintro e w1 ⟨rfl, hx⟩
  have B0 : Blk ((w.alloc (.cells #[sv a.1, sv a.2] 46)).alloc (.cells #[.string ⟨#[]⟩, .string ⟨#[]⟩] 46)) w.heap.size 46 #[sv a.1, sv a.2] := (Blk.new w _ _).alloc _
  have R0 : Blk ((w.alloc (.cells #[sv a.1, sv a.2] 46)).alloc (.cells #[.string ⟨#[]⟩, .string ⟨#[]⟩] 46)) (w.heap.size + 1) 46 #[.string ⟨#[]⟩, .string ⟨#[]⟩] := by
    have := Blk.new (w.alloc (.cells #[sv a.1, sv a.2] 46)) 46 #[.string ⟨#[]⟩, .string ⟨#[]⟩]
    simpa using this
  have B1 := B0.mod hx (fun h => h)
  have R1 := R0.mod hx (fun h => h)
  have e0 : w1.cell? ⟨w.heap.size, 0, none⟩ = some (sv a.1) := B1.cell 0
  have e1 : w1.cell? ⟨w.heap.size, 1, none⟩ = some (sv a.2) := B1.cell 1
  have hx1 : Ext w w1 := ext_trans (((Mod.refl _ w).alloc _).alloc _) hx
  clear hx B0 R0 B1
  go_wp2_with fail
  all_goals refine (fold_any a.1 h1).mono ?_
  all_goals rintro e w2 ⟨rfl, hx2⟩
  all_goals have R2 := R1.mod hx2 (fun h => h)
  all_goals have d0 : w2.cell? ⟨w.heap.size + 1, 0, none⟩ = some _ := R2.cell 0
  all_goals have d1 : w2.cell? ⟨w.heap.size + 1, 1, none⟩ = some _ := R2.cell 1
  all_goals have f0 := R2.frozen 0
  all_goals have f1 := R2.frozen 1
  all_goals replace hx1 := ext_trans hx1 hx2
  all_goals clear R1 hx2 e0 e1
  all_goals go_wp2_with fail
  all_goals have R3 := fun u v => (R2.set_ 0 u).set_ 1 v
  all_goals have hx3 := fun u v => (hx1.setCell (p := ⟨w.heap.size + 1, 0, none⟩) (fun h => by have : w.heap.size + 1 < w.heap.size := h; omega) u).setCell (p := ⟨w.heap.size + 1, 1, none⟩) (fun h => by have : w.heap.size + 1 < w.heap.size := h; omega) v
  all_goals refine bodyPost_ret (results_cell_row Try.results55 _ _ _ _ _ _ _ rfl (R3 _ _) Try.underlying46 rfl (by kernel_rfl)) rfl ⟨?_, hx3 _ _⟩
  · rename_i h1 h2
    rw [show normA a = (foldB a.1, [32]) by rw [normA, normV, if_pos ⟨h1, by intro h; rw [h] at h2; cases h2⟩]]
    rfl
  · rename_i h1 h2
    rw [show normA a = (foldB a.1, []) by rw [normA, normV, if_neg (by rintro ⟨_, h⟩; cases hh : a.2 <;> simp_all), h1]]
    rfl
  · rename_i h1
    rw [show normA a = (foldB a.1, foldB a.2) by rw [normA, normV, if_neg (fun h => h1 h.1)]]
    rfl
end Go.Proofs.Ytacmbomnjedbeaa
namespace Go.Proofs.Ytacmbomnjedbeaa
open Go.RowKit
set_option maxRecDepth 100000

theorem tyA : SliceTyK Try.prog 22 46 (.agg #[.string ⟨#[]⟩, .string ⟨#[]⟩]) 2 32 := ⟨Try.underlying22, by kernel_rfl, rfl, by decide, by decide⟩
abbrev Av : Type := List UInt8 × List UInt8
abbrev OwnA (w : World) (v : Value) (L : List Av) : Prop := OwnR avc 2 w 46 v L
/-- No text is longer than memory. -/
def Fits (L : List Av) : Prop := (∀ a ∈ L, a.1.length ≤ 140737488351232 ∧ a.2.length ≤ 140737488351232) ∧ L.length * 32 ≤ 140737488351232
theorem Fits.at_ {L : List Av} (h : Fits L) {k : Nat} (hk : k < L.length) : L[k].1.length ≤ 140737488351232 ∧ L[k].2.length ≤ 140737488351232 := h.1 _ (List.getElem_mem _)
/-- A name, folded. -/
def norm (L : List Av) : List Av := L.map normA
theorem norm_snoc (L : List Av) {k : Nat} (h : k < L.length) : norm (L.take (k + 1)) = norm (L.take k) ++ [normA L[k]] := by
  unfold norm
  rw [List.take_succ_eq_append_getElem h, List.map_append]; rfl

set_option maxHeartbeats 2000000 in
theorem norm_any {w : World} {S : Nat → Prop} {v : Value} {L : List Av} (h : As w S v L) (hf : Fits L) :
    Calls Try.prog 38 #[v] w fun e w' => ∃ v', e = .returned v' ∧ OwnA w' v' (norm L) ∧ Fresh w.heap.size v' ∧ Ext w w' := by
  have hl := hf.2
  obtain ⟨A, c, rfl, h1, h2, h3, h4⟩ := h.open_ avc_len
  go_enter Try.func38, Try.ntmps38
  go_wp2_with ((with_reducible show wpList _ _ _ (⟨some 8, _, _, _, _, _⟩ :: _) _ _); refine wp_makeR0 tyA avc L.length rfl (.const _) (.tmp 7) rfl rfl rfl (by omega) ?_; intro w1 hown1 hext1 hlt1)
  go_loopw [3, 11] (fun vo i wr => ∃ k : Nat, k ≤ L.length ∧ i = .int .i64 k ∧ OwnA wr vo (norm (L.take k)) ∧ Fresh w.heap.size vo ∧ Ext w wr) (fun _ i _ => L.length - (intOf i).toNat)
  case atStart => exact ⟨0, Nat.zero_le _, rfl, hown1, fun k hk => by have : w.heap.size = k := Option.some.inj hk; omega, hext1⟩
  case round =>
    obtain ⟨k, hk, rfl, p1, p2, p3⟩ := hrel
    by_cases hlt : k < L.length
    · have hbl : decide ((k : Int) < (L.length : Int)) = true := dtrue (by omega)
      obtain ⟨ad, hA, hS, c0, c1⟩ := As.at_ (h4.ext p3) hlt
      subst hA
      obtain ⟨k1, k2⟩ := hf.at_ hlt
      have hsn := norm_snoc L hlt
      have hln : (norm (L.take k)).length = k := by unfold norm; simp; omega
      generalize L[k] = x at *
      generalize norm (L.take k) = M at *
      replace hsn := Lib.hid hsn
      have hn1 := Lib.hid (show (M.length + 1) * 32 ≤ 140737488355328 by omega)
      clear hln
      go_wp2_with fail
      refine (dfold_any x k1 k2).mono ?_
      rintro e w2 ⟨rfl, q1⟩
      have hx2 : Ext wr w2 := ext_trans ((Mod.refl _ wr).alloc _) q1
      have p1' : OwnA w2 u3 M := p1.ext hx2
      obtain ⟨A3, c3, rfl⟩ := p1.shape
      go_wp2_with ((with_reducible show wpList _ _ _ (⟨some 19, _, _, _, _, _⟩ :: _) _ _); refine wp_appR tyA avc_len p1' rfl (avc_ok (normA x)) hn1.out rfl (.tmp 15) (.tmp 18) rfl rfl rfl ?_; intro v3 w3 g1 g2 g3)
      exact ⟨⟨k + 1, by omega, by go_num, by rw [hsn.out]; exact g1, g3.fresh p2 (ext_trans p3 hx2).size, ext_app0 (ext_trans p3 hx2) p2 g2⟩, by simp [intOf] <;> omega⟩
    · have hbl : decide ((k : Int) < (L.length : Int)) = false := dfalse (by omega)
      rw [List.take_of_length_le (by omega)] at p1
      go_wp2_with fail
      go_ret
      exact ⟨_, rfl, p1, p2, p3⟩

set_option maxHeartbeats 2000000 in
theorem rnorm_any {w : World} {v : Value} {L : List Av} (h : As w (fun b => b < w.heap.size) v L) (hf : Fits L) :
    Calls Try.prog 31 #[v] w fun e w' => ∃ v', e = .returned v' ∧ OwnA w' v' (norm L) ∧ Fresh w.heap.size v' ∧ Ext w w' := by
  have hl := hf.2
  obtain ⟨A, c, rfl, h1, h2, h3, h4⟩ := h.open_ avc_len
  go_enter Try.func31, Try.ntmps31
  go_wp2_with fail
  go_loopw [3, 4] (fun vo i wr => ∃ k : Nat, k ≤ L.length ∧ i = .int .i64 k ∧ OwnA wr vo (norm (L.take k)) ∧ Fresh w.heap.size vo ∧ Ext w wr) (fun _ i _ => L.length - (intOf i).toNat)
  case atStart => exact ⟨0, Nat.zero_le _, rfl, OwnR.nil _ _ _ _, fresh_nil _ _ _, Mod.refl _ _⟩
  case round =>
    obtain ⟨k, hk, rfl, p1, p2, p3⟩ := hrel
    by_cases hlt : k < L.length
    · have hbl : decide ((k : Int) < (L.length : Int)) = true := dtrue (by omega)
      obtain ⟨ad, hA, hS, c0, c1⟩ := As.at_ (h4.ext p3) hlt
      subst hA
      obtain ⟨k1, k2⟩ := hf.at_ hlt
      have hsn := norm_snoc L hlt
      have hln : (norm (L.take k)).length = k := by unfold norm; simp; omega
      generalize L[k] = x at *
      generalize norm (L.take k) = M at *
      replace hsn := Lib.hid hsn
      have hn1 := Lib.hid (show (M.length + 1) * 32 ≤ 140737488355328 by omega)
      clear hln
      have hS' : (ad.add (k * 2)).block < w.heap.size := by rw [block_of_add]; exact hS
      have hx : ∀ wx, Mod (fun b => w.heap.size ≤ b) wr wx → wx.cell? (ad.add (k * 2)) = some (sv x.1) ∧ wx.cell? ⟨(ad.add (k * 2)).block, (ad.add (k * 2)).off + 1, none⟩ = some (sv x.2) :=
        fun wx hm => ⟨(hm.cell (lt_of_cell c0) (by omega)).trans c0, (hm.cell (lt_of_cell c1) (by show ¬ w.heap.size ≤ (ad.add (k * 2)).block; omega)).trans c1⟩
      clear c0 c1 hS'
      obtain ⟨A3, c3, rfl⟩ := p1.shape
      have hi0 : (0 : Int) ≤ (k : Int) := by omega
      have hi1 : (k : Int) < (L.length : Int) := by omega
      go_wp2_with fail
      have q0 : Mod (fun b => w.heap.size ≤ b) wr wr.drew := (Mod.refl _ wr).drew
      have p0 : OwnA wr.drew (.slice A3 M.length c3) M := p1
      go_region_held3 (fun w' => w'.cell? (ad.add (k * 2)) = some (sv x.1) ∧ w'.cell? ⟨(ad.add (k * 2)).block, (ad.add (k * 2)).off + 1, none⟩ = some (sv x.2)) (first | exact hx _ q0 | exact hx _ q1 | exact hx _ q2 | exact hx _ (q2.alloc _) | exact hx _ q3) (first | (go_at_call 27; refine (rfold_any x.1 k1).mono ?_; rintro e w2 ⟨rfl, r1⟩; have q1 := q0.then_ r1 (fun _ _ h => h.elim); have p11 := p0.ext r1) | (go_at_call 52; refine (value_any x.2 k2).mono ?_; rintro e w3 ⟨rfl, r2⟩; have q2 := q1.then_ r2 (fun _ _ h => h.elim); have p12 := p11.ext r2) | (refine step_appR (x := normA x) tyA avc_len p12 rfl (avc_ok (normA x)) hn1.out rfl rfl (.tmp 11) (.tmp 25) rfl rfl rfl ?_; intro v4 w4 g1 g2 g3; have q3 := q2.then_ g2 (fun b _ h => p2 b h)))
      have e3 : Ext wr w3 := ext_trans (ext_trans ((Mod.refl _ wr).drew) r1) r2
      go_wp2_with fail
      exact ⟨⟨k + 1, by omega, by go_num, by rw [hsn.out]; exact g1, g3.fresh p2 (ext_trans p3 e3).size, ext_app0 (ext_trans p3 e3) p2 g2⟩, by simp [intOf] <;> omega⟩
    · have hbl : decide ((k : Int) < (L.length : Int)) = false := dfalse (by omega)
      rw [List.take_of_length_le (by omega)] at p1
      go_wp2_with fail
      go_ret
      exact ⟨_, rfl, p1, p2, p3⟩
end Go.Proofs.Ytacmbomnjedbeaa
