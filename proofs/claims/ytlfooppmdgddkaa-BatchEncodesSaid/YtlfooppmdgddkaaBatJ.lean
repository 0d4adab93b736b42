/- batch: Encode, on both sides. -/
import Derived.Test.YtlfooppmdgddkaaBatK
import Derived.Test.YtlfooppmdgddkaaCelC
namespace Go.Proofs.Ytlfooppmdgddkaa
open Go.RowKit
set_option maxRecDepth 100000

/-- A row as bytes. -/
def encRo (r : Ro) : List UInt8 := enc7 r.key.length ++ r.key ++ (if r.del then enc7 1 else enc7 0 ++ (enc7 r.val.length ++ r.val))
/-- The first k rows as bytes, behind their number. -/
def encRs (L : List Ro) (k : Nat) : List UInt8 := enc7 L.length ++ (L.take k).flatMap encRo
theorem encRs_snoc (L : List Ro) {k : Nat} (h : k < L.length) : encRs L (k + 1) = encRs L k ++ encRo L[k] := by
  unfold encRs
  rw [List.take_succ_eq_append_getElem h, List.flatMap_append, List.append_assoc]
  simp
/-- P10.1: rows as bytes. -/
def encB10 (L : List Ro) : List UInt8 := encRs L L.length
def encR10 (L : List Ro) : List UInt8 := if chkR L = 0 then encB10 L else []
theorem enc7_ten' {n : Nat} (h : n ≤ 4611686018427387904) : (enc7 n).length ≤ 10 := enc7_ten h
theorem encRo_len (r : Ro) (h1 : r.key.length ≤ 100000) (h2 : r.val.length ≤ 100000) : (encRo r).length ≤ 40 + r.key.length + r.val.length := by
  have e1 := enc7_ten (n := r.key.length) (by omega)
  have e2 := enc7_ten (n := r.val.length) (by omega)
  have e3 := enc7_ten (n := 0) (by omega)
  have e4 := enc7_ten (n := 1) (by omega)
  unfold encRo
  split
  · simp only [List.length_append]; omega
  · simp only [List.length_append]; omega
theorem encRs_len {L : List Ro} (hall : ∀ r ∈ L, isR r) : ∀ (k : Nat), k ≤ L.length → L.length ≤ 1000000 → (encRs L k).length ≤ 10 + 21000 * k
  | 0, _, h => by
    have := enc7_ten (n := L.length) (by omega)
    simp [encRs]; omega
  | k + 1, hk, h => by
    have ih := encRs_len hall k (by omega) h
    have hr := hall L[k] (List.getElem_mem _)
    have h1 : L[k].key.length ≤ 4096 := hr.2.1
    have h2 : L[k].val.length ≤ 16384 := hr.2.2.1
    have := encRo_len L[k] (by omega) (by omega)
    rw [encRs_snoc L (by omega), List.length_append]
    omega
theorem encs_one (n : Int) : encs [n] = enc7 (clamp n) := by simp [encs]
theorem encr_one' (l : List UInt8) : encr [l] = enc7 l.length ++ l := by simp [encr]

/-- A Writer that grows behind a world, beside a row in a box. -/
structure Lb (w0 : World) (g : Nat) (x : Ro) (bx : Nat) (wx : World) (v : Value) (l : List UInt8) : Prop where
  wr : Wr wx g v l
  fr : Fresh g v
  ex : Ext w0 wx
  hg : w0.heap.size ≤ g
  box : Blk wx bx 82 (rar x)
  ne : bx ≠ g
  no : v.ownBlock ≠ some bx
section
variable {w0 wx wy : World} {g bx : Nat} {x : Ro} {v v' : Value} {l l' : List UInt8}
theorem Lb.ext (h : Lb w0 g x bx wx v l) (hx : Ext wx wy) : Lb w0 g x bx wy v l := ⟨h.wr.mod hx (fun h => h) (fun _ _ h => h), h.fr, ext_trans h.ex hx, h.hg, h.box.mod hx (fun h => h), h.ne, h.no⟩
theorem Lb.off (h : Lb w0 g x bx wx v l) {k : Nat} (hk : wx.heap.size ≤ k) : ¬ wrF g v k := by
  rintro (e | e)
  · have := h.wr.blk.lt; omega
  · have := h.wr.row.lt e; omega
theorem Lb.call (h : Lb w0 g x bx wx v l) (hw : Wr wy g v' l') (hm : Mod (wrF g v) wx wy) (hn : Next wx.heap.size v v') : Lb w0 g x bx wy v' l' :=
  ⟨hw, hn.fresh h.fr (Nat.le_of_lt h.wr.blk.lt), h.ex.trans hm (fun _ _ h => h) (fun k hk hF => by
    have := h.hg
    rcases hF with e | e
    · omega
    · have := h.fr k e; omega), h.hg, h.box.mod hm (fun hF => by
    rcases hF with e | e
    · exact h.ne e
    · exact h.no e), h.ne, hn.ne h.box.lt h.no⟩
theorem Lb.cells (h : Lb w0 g x bx wx v l) : wx.cell? ⟨bx, 0, none⟩ = some (sv x.key) ∧ wx.cell? ⟨bx, 1, none⟩ = some (sv x.val) ∧ wx.cell? ⟨bx, 2, none⟩ = some (.bool x.del) := ⟨Blk.cell h.box 0, Blk.cell h.box 1, Blk.cell h.box 2⟩
end

set_option maxHeartbeats 32000000 in
theorem bencode_any {w : World} {S : Nat → Prop} {v : Value} {L : List Ro} (h : Rs w S v L) (hw : wR L ≤ 1000000000) :
    Calls Try.prog 51 #[v] w fun e w' => ∃ v', e = .returned (.tuple #[v', .int .i64 (chkR L)]) ∧ Own w' 5 v' ((encR10 L).map bv) ∧ Fresh w.heap.size v' ∧ Ext w w' := by
  have hchk := check_any h hw
  obtain ⟨A, c, rfl, h1, h2, h3, h4⟩ := h.open_ rol_len
  clear h
  obtain ⟨R, hR⟩ : ∃ R, R = chkR L := ⟨_, rfl⟩
  obtain ⟨EE, hEE⟩ : ∃ E, E = encR10 L := ⟨_, rfl⟩
  rw [← hR] at hchk
  rw [← hR, ← hEE]
  unfold encR10 at hEE
  rw [← hR] at hEE
  replace hR := Lib.hid hR
  replace hEE := Lib.hid hEE
  go_enter Try.func51, Try.ntmps51
  go_wp2_with fail
  refine hchk.mono ?_
  rintro e w1 ⟨rfl, x1⟩
  clear hchk
  by_cases h0 : R = 0
  case neg =>
    have hb1 : ((R : Int) != 0) = true := by rw [bne_iff_ne]; omega
    have hE : Hid (EE = []) := Lib.hid (by rw [hEE.out]; exact if_neg h0)
    clear h0
    go_wp2_with fail
    go_ret2
    exact ⟨_, rfl, by rw [hE.out]; exact Own.nil _ _, fresh_nil _ _ _, x1⟩
  have hb1 : ((R : Int) != 0) = false := by rw [h0]; rfl
  obtain ⟨_, hall0, hl5, _⟩ := chk_zero (show chkR L = 0 by rw [← hR.out]; exact h0)
  have hE := Lib.hid (hEE.out.trans (if_pos h0))
  have hall := Lib.hid hall0
  have hr0 := Lib.hid h0
  clear hall0 hEE h0
  obtain ⟨w2, hw2⟩ : ∃ w2, w2 = w1.alloc (.cells #[.slice none 0 0] 84) := ⟨_, rfl⟩
  have W0 : Wr w2 w1.heap.size (.slice none 0 0) [] := by rw [hw2]; exact ⟨Blk.new w1 _ _, Own.nil _ _⟩
  have x2 : Ext w1 w2 := by rw [hw2]; exact (Mod.refl _ w1).alloc _
  replace hw2 := Lib.hid hw2
  have hs2 : Hid (w2.heap.size = w1.heap.size + 1) := Lib.hid (by rw [hw2.out]; simp)
  have hy : Is (w2.alloc (.cells #[.int .i64 (L.length : Int)] 3)) (fun k => k = w2.heap.size) (.slice (some ⟨w2.heap.size, 0, none⟩) 1 1) [(L.length : Int)] := Sl.one w2 3 (.int .i64 (L.length : Int))
  have W1 := W0.mod ((Mod.refl (fun _ => False) w2).alloc (.cells #[.int .i64 (L.length : Int)] 3)) (fun h => h) (fun _ _ h => h)
  have hnm := wnums_any W1 hy (fun k _ hk2 => by rw [hk2]; rintro (hh | hh); · have := hs2.out; omega
                                                 · simp [Value.ownBlock] at hh) (by simp)
  have x3 : Ext w1 (w2.alloc (.cells #[.int .i64 (L.length : Int)] 3)) := x2.alloc _
  go_upto_region 5 with fail
  rw [← hw2.out]
  go_wp2_with fail
  refine hnm.mono ?_
  rintro e w4 ⟨rfl, v4, W4, m4, n4⟩
  have hel0 := enc7_ten (n := L.length) (by omega)
  have hst : ([] : List UInt8) ++ encs [(L.length : Int)] = encRs L 0 := by
    rw [encs_one, clamp_nat _ (by omega)]
    simp [encRs]
  rw [hst] at W4
  obtain ⟨g, hg⟩ : ∃ g, g = w1.heap.size := ⟨_, rfl⟩
  rw [← hg] at W4 m4 ⊢
  have x4 : Ext w1 w4 := x3.trans m4 (fun _ _ h => h) (fun k hk hF => by
    rcases hF with e | e
    · omega
    · simp [Value.ownBlock] at e)
  have f4 : Fresh g v4 := n4.fresh (fresh_nil g _ _) (by have := x3.size; omega)
  have hbase : w1.heap.size ≤ g := by omega
  clear hnm hy W0 W1 x2 x3 m4 n4 hst hw2 hs2
  have hz1 := Lib.hid x1.size
  replace hg := Lib.hid hg
  go_wp2_with fail
  go_loopw [19] (fun i wx => ∃ (k : Nat) (vw : Value), k ≤ L.length ∧ i = .int .i64 k ∧ Wr wx g vw (encRs L k) ∧ Fresh g vw ∧ Ext w1 wx) (fun i _ => L.length - (intOf i).toNat)
  case atStart => exact ⟨0, _, Nat.zero_le _, rfl, W4, f4, x4⟩
  case round =>
    clear W4 f4 x4
    obtain ⟨k, vw, hk, rfl, W4, f4, x4⟩ := hrel
    have hen := encRs_len hall.out k hk (by omega)
    by_cases hlt : k < L.length
    case neg =>
      have hbl : decide ((k : Int) < (L.length : Int)) = false := dfalse (by omega)
      obtain rfl : k = L.length := by omega
      go_wp2_with fail
      refine (wout_any W4 (by omega)).mono ?_
      rintro e w7 ⟨v7, rfl, o7, b7, x7, _⟩
      go_wp2_with fail
      go_ret2
      refine ⟨v7, by rw [hr0.out]; rfl, by rw [hE.out]; exact o7, fun i hi => ?_, ext_trans x1 (ext_trans x4 x7)⟩
      rw [b7] at hi
      have := Option.some.inj hi
      have := x4.size
      have := hz1.out
      omega
    have hbl : decide ((k : Int) < (L.length : Int)) = true := dtrue (by omega)
    obtain ⟨ad, hA, hS, c0, c1, c2⟩ := Rs.at_ (h4.ext (ext_trans x1 x4)) hlt
    subst hA
    have hsn := encRs_snoc L hlt
    have hic := hall.out L[k] (List.getElem_mem hlt)
    have hkl : L[k].key.length ≤ 4096 := hic.2.1
    have hvl : L[k].val.length ≤ 16384 := hic.2.2.1
    have hi0 : (0 : Int) ≤ (k : Int) := by omega
    have hi1 : (k : Int) < (L.length : Int) := by omega
    have hl0 : (encRs L k).length ≤ 20000000 := by omega
    obtain ⟨l2, hl2⟩ : ∃ l2, l2 = encRs L (k + 1) := ⟨_, rfl⟩
    rw [← hl2] at hsn
    replace hl2 := Lib.hid hl2
    generalize encRs L k = l0 at *
    generalize L[k] = x at *
    unfold encRo at hsn
    replace hsn := Lib.hid hsn
    clear hen hic
    obtain ⟨w3, hw3⟩ : ∃ w3, w3 = wr.alloc (.cells (rar x) 82) := ⟨_, rfl⟩
    have L3 : Lb w1 g x wr.heap.size w3 vw l0 := by
      have hx : Ext wr w3 := by rw [hw3]; exact (Mod.refl _ wr).alloc _
      refine ⟨W4.mod hx (fun h => h) (fun _ _ h => h), f4, ext_trans x4 hx, hbase, by rw [hw3]; exact Blk.new wr _ _, ?_, fun h => ?_⟩
      · have := W4.blk.lt; omega
      · have := W4.row.lt h; omega
    obtain ⟨c0, c1, c2⟩ := L3.cells
    replace hw3 := Lib.hid hw3
    obtain ⟨bx, hbx⟩ : ∃ bx, bx = wr.heap.size := ⟨_, rfl⟩
    rw [← hbx] at L3 c0 c1 c2
    replace hbx := Lib.hid hbx
    clear W4 f4
    go_upto_region 9 with fail
    rw [← hw3.out, ← hbx.out]
    have hel2 := enc7_ten (n := x.key.length) (by omega)
    have hel3 := enc7_ten (n := x.val.length) (by omega)
    have hel4 := enc7_ten (n := 0) (by omega)
    have hel5 := enc7_ten (n := 1) (by omega)
    go_wp2_with ((with_reducible show wpList _ _ _ (⟨some 25, _, _, _, _, _⟩ :: _) _ _); refine wp_tob Try.underlying9 Try.underlying30 Try.underlying5 (l := x.key) (by omega) rfl (.tmp 24) rfl rfl ?_; intro cp w5 k1 k2 k3; replace k3 := Lib.hid k3)
    have L5 := L3.ext k2
    have L5' := L5.ext ((Mod.refl (fun _ => False) w5).alloc (.cells #[.slice (some ⟨w3.heap.size, 0, none⟩) x.key.length cp] 30))
    have hR1 := Rw.one 30 k1
    refine (wbytes_any L5'.wr hR1 (fun k hk hS hF => ?_) (by simp [encr]; omega)).mono ?_
    · rcases hS with hS | hS
      · exact L3.off (by omega) hF
      · exact L5.off (by have := k3.out; omega) hF
    rintro e w6 ⟨rfl, v6, h6, m6, n6⟩
    have L6 := L5'.call h6 m6 n6
    rw [encr_one_] at L6
    clear L3 L5 L5' h6 m6 n6 hR1 k1 k2 k3 c0 c1 c2
    obtain ⟨c0, c1, c2⟩ := L6.cells
    cases hdel : x.del
    case true =>
      rw [hdel] at c2 hsn
      have hs2 := Lib.hid (show l2 = l0 ++ (enc7 x.key.length ++ x.key) ++ enc7 1 by rw [hsn.out]; simp)
      clear hsn hdel
      go_wp2_with fail
      have L7 := L6.ext ((Mod.refl (fun _ => False) w6).alloc (.cells #[.int .i64 1] 3))
      have hy : Is (w6.alloc (.cells #[.int .i64 1] 3)) (fun k => k = w6.heap.size) (.slice (some ⟨w6.heap.size, 0, none⟩) 1 1) [(1 : Int)] := Sl.one w6 3 (.int .i64 1)
      refine (wnums_any L7.wr hy (fun k _ hk2 => by rw [hk2]; exact fun hh => L6.off (Nat.le_refl _) hh) (by simp; omega)).mono ?_
      rintro e w8 ⟨rfl, v8, h8, m8, n8⟩
      have L8 := L7.call h8 m8 n8
      rw [encs_one, clamp_one, ← hs2.out] at L8
      clear L6 L7 h8 m8 n8 hy c0 c1 c2
      go_wp2_with fail
      exact ⟨⟨k + 1, v8, by omega, by go_num, by rw [← hl2.out]; exact L8.wr, L8.fr, L8.ex⟩, by simp [intOf] <;> omega⟩
    rw [hdel] at c2 hsn
    have hs2 := Lib.hid (show l2 = l0 ++ (enc7 x.key.length ++ x.key) ++ enc7 0 ++ (enc7 x.val.length ++ x.val) by rw [hsn.out]; simp)
    clear hsn hdel
    go_wp2_with fail
    have L7 := L6.ext ((Mod.refl (fun _ => False) w6).alloc (.cells #[.int .i64 0] 3))
    have hy : Is (w6.alloc (.cells #[.int .i64 0] 3)) (fun k => k = w6.heap.size) (.slice (some ⟨w6.heap.size, 0, none⟩) 1 1) [(0 : Int)] := Sl.one w6 3 (.int .i64 0)
    refine (wnums_any L7.wr hy (fun k _ hk2 => by rw [hk2]; exact fun hh => L6.off (Nat.le_refl _) hh) (by simp; omega)).mono ?_
    rintro e w8 ⟨rfl, v8, h8, m8, n8⟩
    have L8 := L7.call h8 m8 n8
    rw [encs_one, clamp_zero] at L8
    clear L6 L7 h8 m8 n8 hy c0 c1 c2
    obtain ⟨c0, c1, c2⟩ := L8.cells
    go_wp2_with ((with_reducible show wpList _ _ _ (⟨some 36, _, _, _, _, _⟩ :: _) _ _); refine wp_tob Try.underlying9 Try.underlying30 Try.underlying5 (l := x.val) (by omega) rfl (.tmp 35) rfl rfl ?_; intro cp2 w9 k1 k2 k3; replace k3 := Lib.hid k3)
    have L9 := L8.ext k2
    have L9' := L9.ext ((Mod.refl (fun _ => False) w9).alloc (.cells #[.slice (some ⟨w8.heap.size, 0, none⟩) x.val.length cp2] 30))
    have hR1 := Rw.one 30 k1
    refine (wbytes_any L9'.wr hR1 (fun k hk hS hF => ?_) (by simp [encr]; omega)).mono ?_
    · rcases hS with hS | hS
      · exact L8.off (by omega) hF
      · exact L9.off (by have := k3.out; omega) hF
    rintro e w10 ⟨rfl, v10, h10, m10, n10⟩
    have LA := L9'.call h10 m10 n10
    rw [encr_one_, ← hs2.out] at LA
    clear L8 L9 L9' h10 m10 n10 hR1 k1 k2 k3 c0 c1 c2
    go_wp2_with fail
    exact ⟨⟨k + 1, v10, by omega, by go_num, by rw [← hl2.out]; exact LA.wr, LA.fr, LA.ex⟩, by simp [intOf] <;> omega⟩
end Go.Proofs.Ytlfooppmdgddkaa
namespace Go.Proofs.Ytlfooppmdgddkaa
open Go.RowKit
set_option maxRecDepth 100000

/-- Bytes of one's own that grow behind a world. -/
structure Gb (w0 w : World) (v : Value) (l : List UInt8) : Prop where
  row : Own w 5 v (l.map bv)
  fr : Fresh w0.heap.size v
  ex : Ext w0 w
theorem Gb.ext {w0 w w' : World} {v : Value} {l : List UInt8} (h : Gb w0 w v l) (hx : Ext w w') : Gb w0 w' v l := ⟨h.row.mod hx (fun _ _ h => h), h.fr, ext_trans h.ex hx⟩
theorem wp_gb {P : Program} {ops : Array Oper} {rest : List Oper} {o : Oper} {a : Act} {Q : Exit → Act → World → Prop} {t : TypeId} {z : Value} {S : Nat → Prop} {w0 w : World} {v y : Value} {l l1 : List UInt8}
    (hT : SliceTy P t 5 z 1) (hg : Gb w0 w v l) (hr : Sl w S y (l1.map bv)) (hgd : o.guard = none) (s x : Operand) (ho : o.op = .call { callee := .builtin .append, args := #[s, x], argTypes := #[t, t] }) (hs : a.eval s = v) (hx : a.eval x = y)
    (hn : l.length + l1.length ≤ 1000000000000) (h : ∀ v' w', Gb w0 w' v' (l ++ l1) → wpList P ops Q rest (a.put o.dst v') w') : wpList P ops Q (o :: rest) a w := by
  refine wp_app hT hg.row hr (bv_one _) hgd s x ho hs hx (by simp only [List.length_map]; omega) fun v' w' k1 k2 k3 => ?_
  refine h v' w' ⟨by rw [List.map_append]; exact k1, k3.fresh hg.fr hg.ex.size, hg.ex.trans k2 (fun _ _ h => h) (fun i hi hF => by have := hg.fr i hF; omega)⟩

set_option maxHeartbeats 32000000 in
theorem rbencode_any {w : World} {S : Nat → Prop} {v : Value} {L : List Ro} (h : Rs w S v L) (hw : wR L ≤ 1000000000) :
    Calls Try.prog 52 #[v] w fun e w' => ∃ v', e = .returned (.tuple #[v', .int .i64 (chkR L)]) ∧ Own w' 5 v' ((encR10 L).map bv) ∧ Fresh w.heap.size v' ∧ Ext w w' := by
  have hchk := rcheck_any h hw
  obtain ⟨A, c, rfl, h1, h2, h3, h4⟩ := h.open_ rol_len
  clear h
  obtain ⟨R, hR⟩ : ∃ R, R = chkR L := ⟨_, rfl⟩
  obtain ⟨EE, hEE⟩ : ∃ E, E = encR10 L := ⟨_, rfl⟩
  rw [← hR] at hchk
  rw [← hR, ← hEE]
  unfold encR10 at hEE
  rw [← hR] at hEE
  replace hR := Lib.hid hR
  replace hEE := Lib.hid hEE
  go_enter Try.func52, Try.ntmps52
  go_wp2_with fail
  refine hchk.mono ?_
  rintro e w1 ⟨rfl, x1⟩
  clear hchk
  by_cases h0 : R = 0
  case neg =>
    have hb1 : ((R : Int) != 0) = true := by rw [bne_iff_ne]; omega
    have hE : Hid (EE = []) := Lib.hid (by rw [hEE.out]; exact if_neg h0)
    clear h0
    go_wp2_with fail
    go_ret2
    exact ⟨_, rfl, by rw [hE.out]; exact Own.nil _ _, fresh_nil _ _ _, x1⟩
  have hb1 : ((R : Int) != 0) = false := by rw [h0]; rfl
  obtain ⟨_, hall0, hl5, _⟩ := chk_zero (show chkR L = 0 by rw [← hR.out]; exact h0)
  have hE := Lib.hid (hEE.out.trans (if_pos h0))
  have hall := Lib.hid hall0
  have hr0 := Lib.hid h0
  clear hall0 hEE h0
  have hst : enc7 (clamp (L.length : Int)) = encRs L 0 := by
    rw [clamp_nat _ (by omega)]
    simp [encRs]
  have hnm := rnum_any (w := w1) (L.length : Int)
  rw [hst] at hnm
  go_wp2_with fail
  refine hnm.mono ?_
  rintro e w2 ⟨v2, rfl, o2, f2, x2⟩
  have G0 : Gb w1 w2 v2 (encRs L 0) := ⟨o2, f2, x2⟩
  have hz1 := Lib.hid x1.size
  replace h4 := h4.ext x1
  clear hnm hst o2 f2 x2
  go_wp2_with fail
  go_loopw [5, 6] (fun b i wx => ∃ (k : Nat) (vb : Value), k ≤ L.length ∧ i = .int .i64 k ∧ b = vb ∧ Gb w1 wx vb (encRs L k)) (fun _ i _ => L.length - (intOf i).toNat)
  case atStart => exact ⟨0, _, Nat.zero_le _, rfl, rfl, G0⟩
  case round =>
    clear G0
    obtain ⟨k, vb, hk, rfl, rfl, G0⟩ := hrel
    have hen := encRs_len hall.out k hk (by omega)
    by_cases hlt : k < L.length
    case neg =>
      have hbl : decide ((k : Int) < (L.length : Int)) = false := dfalse (by omega)
      obtain rfl : k = L.length := by omega
      go_wp2_with fail
      go_ret2
      exact ⟨_, by rw [hr0.out]; rfl, by rw [hE.out]; exact G0.row, fun i hi => by have := G0.fr i hi; have := hz1.out; omega, ext_trans x1 G0.ex⟩
    have hbl : decide ((k : Int) < (L.length : Int)) = true := dtrue (by omega)
    obtain ⟨ad, hA, hS, c0, c1, c2⟩ := Rs.at_ (h4.ext G0.ex) hlt
    subst hA
    have hcy := fun {wx : World} (hx : Ext w1 wx) => Rs.at_ (h4.ext hx) hlt
    have hsn := encRs_snoc L hlt
    have hic := hall.out L[k] (List.getElem_mem hlt)
    have hkl : L[k].key.length ≤ 4096 := hic.2.1
    have hvl : L[k].val.length ≤ 16384 := hic.2.2.1
    have hi0 : (0 : Int) ≤ (k : Int) := by omega
    have hi1 : (k : Int) < (L.length : Int) := by omega
    have hl0 : (encRs L k).length ≤ 20000000 := by omega
    obtain ⟨l2, hl2⟩ : ∃ l2, l2 = encRs L (k + 1) := ⟨_, rfl⟩
    rw [← hl2] at hsn
    replace hl2 := Lib.hid hl2
    generalize encRs L k = l0 at *
    generalize L[k] = x at *
    have hcx : ∀ {wx : World}, Ext w1 wx → wx.cell? (ad.add (k * 3)) = some (sv x.key) ∧ wx.cell? ⟨(ad.add (k * 3)).block, (ad.add (k * 3)).off + 1, none⟩ = some (sv x.val) ∧ wx.cell? ⟨(ad.add (k * 3)).block, (ad.add (k * 3)).off + 2, none⟩ = some (.bool x.del) := fun hx => by
      obtain ⟨ad', hA, _, d⟩ := hcy hx
      cases hA
      exact d
    clear hcy hen hic
    unfold encRo at hsn
    replace hsn := Lib.hid hsn
    have hel2 := enc7_ten (n := x.key.length) (by omega)
    have hel3 := enc7_ten (n := x.val.length) (by omega)
    have hel4 := enc7_ten (n := 0) (by omega)
    have hel5 := enc7_ten (n := 1) (by omega)
    go_wp2_with ((with_reducible show wpList _ _ _ (⟨some 27, _, _, _, _, _⟩ :: _) _ _); refine wp_tob Try.underlying9 Try.underlying30 Try.underlying5 (l := x.key) (by omega) rfl (.tmp 26) rfl rfl ?_; intro cp w3 k1 k2 k3; clear k3; have G3 := G0.ext k2)
    refine (rbytes_any k1 (by omega)).mono ?_
    rintro e w4 ⟨v4, rfl, o4, -, x4⟩
    have G4 := G3.ext x4
    clear G0 G3 x4 k1 k2 c0 c1 c2
    cases hdel : x.del
    case true =>
      have hE2 : Hid (l2 = l0 ++ (enc7 x.key.length ++ x.key) ++ enc7 1) := Lib.hid (by rw [hsn.out, hdel]; simp)
      rw [hdel] at hcx
      clear hsn hdel
      go_wp2_with ((with_reducible show wpList _ _ _ (⟨some 29, _, _, _, _, _⟩ :: _) _ _); refine wp_gb tyB G4 o4.sl rfl (.tmp 21) (.tmp 28) rfl rfl rfl (by (try simp only [List.length_append]); omega) ?_; intro v5 w5 G5; obtain ⟨c0, c1, c2⟩ := hcx G5.ex)
      refine (rnum_any 1).mono ?_
      rintro e w6 ⟨v6, rfl, o6, -, x6⟩
      rw [clamp_one] at o6
      have G6 := G5.ext x6
      clear G4 o4 G5 x6 c0 c1 c2
      go_wp2_with ((with_reducible show wpList _ _ _ (⟨some 37, _, _, _, _, _⟩ :: _) _ _); refine wp_gb tyB G6 o6.sl rfl (.tmp 35) (.tmp 36) rfl rfl rfl (by (try simp only [List.length_append]); omega) ?_; intro v7 w7 G7)
      rw [← hE2.out, hl2.out] at G7
      exact ⟨⟨k + 1, v7, by omega, by go_num, rfl, G7⟩, by simp [intOf] <;> omega⟩
    have hE2 : Hid (l2 = l0 ++ (enc7 x.key.length ++ x.key) ++ enc7 0 ++ (enc7 x.val.length ++ x.val)) := Lib.hid (by rw [hsn.out, hdel]; simp)
    rw [hdel] at hcx
    clear hsn hdel
    go_wp2_with ((with_reducible show wpList _ _ _ (⟨some 29, _, _, _, _, _⟩ :: _) _ _); refine wp_gb tyB G4 o4.sl rfl (.tmp 21) (.tmp 28) rfl rfl rfl (by (try simp only [List.length_append]); omega) ?_; intro v5 w5 G5; obtain ⟨c0, c1, c2⟩ := hcx G5.ex)
    refine (rnum_any 0).mono ?_
    rintro e w6 ⟨v6, rfl, o6, -, x6⟩
    rw [clamp_zero] at o6
    have G6 := G5.ext x6
    clear G4 o4 G5 x6 c0 c1 c2
    go_wp2_with (first
      | ((with_reducible show wpList _ _ _ (⟨some 40, _, _, _, _, _⟩ :: _) _ _); refine wp_gb tyB G6 o6.sl rfl (.tmp 38) (.tmp 39) rfl rfl rfl (by (try simp only [List.length_append]); omega) ?_; intro v7 w7 G7; obtain ⟨c0, c1, c2⟩ := hcx G7.ex)
      | ((with_reducible show wpList _ _ _ (⟨some 47, _, _, _, _, _⟩ :: _) _ _); refine wp_tob Try.underlying9 Try.underlying30 Try.underlying5 (l := x.val) (by omega) rfl (.tmp 46) rfl rfl ?_; intro cp2 w8 k1 k2 k3; clear k3; have G8 := G7.ext k2))
    refine (rbytes_any k1 (by omega)).mono ?_
    rintro e w9 ⟨v9, rfl, o9, -, x9⟩
    have G9 := G8.ext x9
    clear G6 o6 G7 G8 x9 k1 k2 c0 c1 c2
    go_wp2_with ((with_reducible show wpList _ _ _ (⟨some 49, _, _, _, _, _⟩ :: _) _ _); refine wp_gb tyB G9 o9.sl rfl (.tmp 41) (.tmp 48) rfl rfl rfl (by (try simp only [List.length_append]); omega) ?_; intro v10 w10 G10)
    rw [← hE2.out, hl2.out] at G10
    exact ⟨⟨k + 1, v10, by omega, by go_num, rfl, G10⟩, by simp [intOf] <;> omega⟩
end Go.Proofs.Ytlfooppmdgddkaa
