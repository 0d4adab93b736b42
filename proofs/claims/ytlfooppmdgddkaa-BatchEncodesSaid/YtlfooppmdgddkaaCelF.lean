/- block: take. -/
import Derived.Test.YtlfooppmdgddkaaCelE
import Derived.Deep.DeepCutAuto
namespace Go.Proofs.Ytlfooppmdgddkaa
open Go.RowKit
set_option maxRecDepth 100000

/-- The next cell, the key ahead being known, and what is left. -/
def takeC (ahead : List UInt8) (st : Option (List UInt8)) : Ce × Option (List UInt8) :=
  if ahead.length < (takeN st).1 then (⟨[], [], false, 0⟩, none)
  else if (takeN (takeN (takeB (takeN st).2).2).2).1 = 1 then (⟨ahead.take (takeN st).1 ++ (takeB (takeN st).2).1, [], true, ((takeN (takeB (takeN st).2).2).1 : Nat)⟩, (takeN (takeN (takeB (takeN st).2).2).2).2)
  else if 1 < (takeN (takeN (takeB (takeN st).2).2).2).1 then (⟨ahead.take (takeN st).1 ++ (takeB (takeN st).2).1, [], false, ((takeN (takeB (takeN st).2).2).1 : Nat)⟩, none)
  else (⟨ahead.take (takeN st).1 ++ (takeB (takeN st).2).1, (takeB (takeN (takeN (takeB (takeN st).2).2).2).2).1, false, ((takeN (takeB (takeN st).2).2).1 : Nat)⟩, (takeB (takeN (takeN (takeB (takeN st).2).2).2).2).2)
theorem ext_head (l : List UInt8) (n : Nat) : Value.string ((⟨l.toArray⟩ : ByteArray).extract 0 n) = sv (l.take n) := by
  congr 1
  apply ByteArray.ext
  simp [ByteArray.data_extract]
theorem cat_data (a b : List UInt8) : ((⟨a.toArray⟩ : ByteArray) ++ ⟨b.toArray⟩) = ⟨(a ++ b).toArray⟩ := by
  apply ByteArray.ext
  rw [ByteArray.data_append]
  simp
theorem ext_mod {F : Nat → Prop} {a b : World} (h : Ext a b) : Mod F a b := h.mono (fun _ _ h => h.elim)
theorem set4_mod (w : World) (g : Nat) (a b c d : Value) : Mod (fun k => k = g) w ((((w.setCell ⟨g, 0, none⟩ a).setCell ⟨g, 1, none⟩ b).setCell ⟨g, 2, none⟩ c).setCell ⟨g, 3, none⟩ d) :=
  ((((Mod.refl (fun k => k = g) w).setCell (p := ⟨g, 0, none⟩) (fun _ => rfl) a).setCell (p := ⟨g, 1, none⟩) (fun _ => rfl) b).setCell (p := ⟨g, 2, none⟩) (fun _ => rfl) c).setCell (p := ⟨g, 3, none⟩) (fun _ => rfl) d
theorem takeB_none : takeB none = ([], none) := by decide

set_option maxHeartbeats 16000000 in
theorem take_any {w : World} {b : Nat} {S : Nat → Prop} {v : Value} {st : Option (List UInt8)} {ahead : List UInt8} (hrd : Rd w b S v st) (hS : ∀ k, S k → k < w.heap.size) (hl : (st.getD []).length ≤ 1000000) (ha : ahead.length ≤ 1000000) :
    Calls Try.prog 68 #[.pointer (some ⟨b, 0, none⟩), sv ahead] w fun e w' => ∃ v', e = .returned (.agg (car (takeC ahead st).1)) ∧ Rd w' b S v' (takeC ahead st).2 ∧ Mod (fun k => k = b) w w' := by
  have hza := sv_size ahead
  have hbw : b < w.heap.size := hrd.blk.lt
  obtain ⟨C, hC⟩ : ∃ C, C = takeC ahead st := ⟨_, rfl⟩
  rw [← hC]
  unfold takeC at hC
  have hl1 := takeN_len st
  obtain ⟨n, s1, hn⟩ : ∃ n s1, takeN st = (n, s1) := ⟨_, _, rfl⟩
  rw [hn] at hC hl1
  dsimp only at hC hl1
  replace hC := Lib.hid hC
  have hnum := fun (wx : World) (v : Value) (h : Rd wx b S v st) => num_any h
  rw [hn] at hnum
  dsimp only at hnum
  clear hn
  have B0 : Blk (w.alloc (.cells #[sv [], sv [], .bool false, .int .i64 0] 23)) w.heap.size 23 #[sv [], sv [], .bool false, .int .i64 0] := Blk.new w _ _
  have x0 : Ext w (w.alloc (.cells #[sv [], sv [], .bool false, .int .i64 0] 23)) := (Mod.refl _ w).alloc _
  have r0 := hrd.mod x0 (fun h => h) (fun _ _ _ h => h)
  go_enter Try.func68, Try.ntmps68
  go_wp2_with fail
  refine (hnum _ _ r0).mono ?_
  rintro e w1 ⟨v1, rfl, r1, m1, -⟩
  have B1 := B0.mod m1 (fun h => by omega)
  have M1 : Mod (fun k => k = b) w w1 := (ext_mod x0).then_ m1 (fun _ _ h => h)
  clear r0 B0 x0 m1 hnum
  by_cases hgt : ahead.length < n
  · have hb : decide ((ahead.length : Int) < (n : Int)) = true := dtrue (by omega)
    have hC2 := Lib.hid (hC.out.trans (if_pos hgt))
    go_wp2_with fail
    refine (bad_any r1).mono ?_
    rintro e w2 ⟨rfl, r2, m2, -⟩
    have B2 := B1.mod m2 (fun h => by omega)
    have M2 := M1.then_ m2 (fun _ _ h => h)
    have f0 := Blk.frozen B2 0
    have f1 := Blk.frozen B2 1
    have f2 := Blk.frozen B2 2
    have f3 := Blk.frozen B2 3
    have d0 : _ = some _ := Blk.cell B2 0
    have d1 : _ = some _ := Blk.cell B2 1
    have d2 : _ = some _ := Blk.cell B2 2
    have d3 : _ = some _ := Blk.cell B2 3
    go_wp2_with fail
    have R5 := fun p q r s => (((B2.set_ 0 p).set_ 1 q).set_ 2 r).set_ 3 s
    have m9 := fun p q r s => (set4_mod w2 w.heap.size p q r s)
    refine bodyPost_ret (results_cell_row Try.results68 _ _ _ _ _ _ _ rfl (R5 _ _ _ _) Try.underlying23 rfl (by kernel_rfl)) rfl ?_
    exact ⟨_, by rw [hC2.out]; rfl, by rw [hC2.out]; exact r2.mod (m9 _ _ _ _) (fun h => by omega) (fun k _ hk h => by have := hS k hk; omega), M2.then_ (m9 _ _ _ _) (fun k hk h => by omega)⟩
  have hb : decide ((ahead.length : Int) < (n : Int)) = false := dfalse (by omega)
  have hC2 := hC.out
  rw [if_neg hgt] at hC2
  have hn1 : (n : Int) ≤ (ahead.length : Int) := by omega
  clear hC hgt
  have hl2 := takeB_len s1
  obtain ⟨kb, s2, hkb⟩ : ∃ kb s2, takeB s1 = (kb, s2) := ⟨_, _, rfl⟩
  have hbytes := fun (wx : World) (v : Value) (h : Rd wx b S v s1) => bytes_any h (by omega)
  rw [hkb] at hC2 hl2 hbytes
  dsimp only at hC2 hl2 hbytes
  clear hkb
  replace hC := Lib.hid hC2
  clear hC2
  have hxt := ext_head ahead n
  have htl : (ahead.take n).length ≤ 1000000 := by rw [List.length_take]; omega
  have hn0 : (0 : Int) ≤ (n : Int) := by omega
  generalize ahead.take n = hd at *
  have hzh := sv_size hd
  have hzk := sv_size kb
  have hcc : ¬ 9223372036854775807 < hd.length + kb.length := by omega
  have hcat := cat_data hd kb
  go_upto_region 5 with fail
  go_cut [6] (fun s6 wx => ∃ (g : Nat) (vv : Value), s6 = .pointer (some ⟨g, 0, none⟩) ∧ Rd wx b S vv s2 ∧ Blk wx g 23 #[sv (hd ++ kb), sv [], .bool false, .int .i64 0] ∧ Blk wx w.heap.size 23 #[sv [], sv [], .bool false, .int .i64 0] ∧ Mod (fun k => k = b) w wx ∧ w.heap.size < g ∧ g ≠ b)
  case first =>
    refine wp_region_held_drew (S := fun _ => True) (by kernel_rfl) trivial (fun hH => ?_)
    clear hH
    have hT : (fun _ : World => True) w1.drew := trivial
    (refine wpAnyH_take (i := 0) (v := ?tv1) rfl (by kernel_rfl) (by kernel_rfl) (by kernel_rfl) (fun _ _ _ h => h) (Or.inl ⟨by rfl, ?hy1⟩) (by assumption) ?rs1; case hy1 => (intro wx hSw; (try dsimp only at hSw); go_simp; try with_reducible rfl); try simp only [Act.put, List.setIfInBounds_toArray, List.set_cons_zero, List.set_cons_succ])
    (refine wpAnyH_take (i := 1) (v := ?tv2) rfl (by kernel_rfl) (by kernel_rfl) (by kernel_rfl) (fun _ _ _ h => h) (Or.inl ⟨by rfl, ?hy2⟩) (by assumption) ?rs2; case hy2 => (intro wx hSw; (try dsimp only at hSw); go_simp; try with_reducible rfl); try simp only [Act.put, List.setIfInBounds_toArray, List.set_cons_zero, List.set_cons_succ])
    (refine wpAnyH_take (i := 2) (v := ?tv3) rfl (by kernel_rfl) (by kernel_rfl) (by kernel_rfl) (fun _ _ _ h => h) (Or.inl ⟨by rfl, ?hy3⟩) (by assumption) ?rs3; case hy3 => (intro wx hSw; (try dsimp only at hSw); go_simp; try with_reducible rfl); try simp only [Act.put, List.setIfInBounds_toArray, List.set_cons_zero, List.set_cons_succ])
    (refine wpAnyH_take (i := 3) (v := ?tv4) rfl (by kernel_rfl) (by kernel_rfl) (by kernel_rfl) (fun _ _ _ h => h) (Or.inl ⟨by rfl, ?hy4⟩) (by assumption) ?rs4; case hy4 => (intro wx hSw; (try dsimp only at hSw); go_simp; try with_reducible rfl); try simp only [Act.put, List.setIfInBounds_toArray, List.set_cons_zero, List.set_cons_succ])
    (refine wpAnyH_ready (rs := [4, 8]) (by kernel_rfl) (by simp) ?_; refine AllReadyH.cons rfl (fun K hK => ?_) (AllReadyH.cons rfl (fun K hK => ?_) AllReadyH.nil))
    all_goals go_simp
    rotate_left
    -- the room first
    have x1 : Ext w1 (w1.alloc (.cells #[sv [], sv [], .bool false, .int .i64 0] 23)).drew := ((Mod.refl _ w1).alloc _).drew
    obtain ⟨g, hg⟩ : ∃ g, g = w1.heap.size := ⟨_, rfl⟩
    have G1 : Blk (w1.alloc (.cells #[sv [], sv [], .bool false, .int .i64 0] 23)).drew g 23 #[sv [], sv [], .bool false, .int .i64 0] := by rw [hg]; exact Blk.new w1 _ _
    have r1a := r1.mod x1 (fun h => h) (fun _ _ _ h => h)
    have B1a := B1.mod x1 (fun h => h)
    have M1a := M1.then_ x1 (fun _ _ h => h.elim)
    have hb2 : b < g := by rw [hg]; exact r1.blk.lt
    have hg2 : w.heap.size < g := by rw [hg]; exact B1.lt
    refine hK.out _ _ trivial (fun hH => ?_)
    clear hK K hH
    try simp only [Act.put, List.setIfInBounds_toArray, List.set_cons_zero, List.set_cons_succ]
    rw [← hg]
    clear hg
    generalize (w1.alloc (.cells #[sv [], sv [], .bool false, .int .i64 0] 23)).drew = w1a at *
    have hlt1 := Lib.hid (Blk.lt G1)
    (refine wpAnyH_ready (rs := [4]) (by kernel_rfl) (by simp) ?_; refine AllReadyH.cons rfl (fun K hK => ?_) AllReadyH.nil; go_simp)
    refine (hbytes _ _ r1a).mono ?_
    rintro e w3 ⟨v2, y, rfl, r3, o3, f2, m2⟩
    have B3 := B1a.mod m2 (fun h => by omega)
    have G3 := G1.mod m2 (fun h => by omega)
    have M3 := M1a.then_ m2 (fun _ _ h => h)
    have hoy : ¬ own y g := fun hh => by have := f2 g hh; have := hlt1.out; omega
    have ka := run_conv (P := Try.prog) Try.underlying30 Try.underlying5 Try.underlying9 o3.sl
    clear r1 B1 M1 m2 hbytes r1a B1a M1a G1 x1 f2 hlt1
    go_wp2_with fail
    refine hK.out _ _ trivial (fun hH => ?_)
    clear hK K hH
    try simp only [Act.put, List.setIfInBounds_toArray, List.set_cons_zero, List.set_cons_succ]
    refine wpAnyH_mono (S' := fun wz => (convert 30 9 y).run Try.prog wz = .ok (sv kb) wz) (fun _ _ => trivial) _ _ _ _ ?_
    (refine wpAnyH_take (i := 5) (v := ?tv5) rfl (by kernel_rfl) (by kernel_rfl) (by kernel_rfl) (fun _ _ _ h => h) (Or.inl ⟨by rfl, ?hy5⟩) (by assumption) ?rs5; case hy5 => (intro wx hSw; (try dsimp only at hSw); go_simp; try with_reducible rfl); try simp only [Act.put, List.setIfInBounds_toArray, List.set_cons_zero, List.set_cons_succ])
    (refine wpAnyH_take (i := 6) (v := ?tv6) rfl (by kernel_rfl) (by kernel_rfl) (by kernel_rfl) (fun _ _ _ h => h) (Or.inl ⟨by rfl, ?hy6⟩) (by assumption) ?rs6; case hy6 => (intro wx hSw; (try dsimp only at hSw); go_simp; try with_reducible rfl); try simp only [Act.put, List.setIfInBounds_toArray, List.set_cons_zero, List.set_cons_succ])
    (refine wpAnyH_take (i := 7) (v := ?tv7) rfl (by kernel_rfl) (by kernel_rfl) (by kernel_rfl) (fun _ _ _ h => h) (Or.inl ⟨by rfl, ?hy7⟩) (by assumption) ?rs7; case hy7 => (intro wx hSw; (try dsimp only at hSw); go_simp; try with_reducible rfl); try simp only [Act.put, List.setIfInBounds_toArray, List.set_cons_zero, List.set_cons_succ])
    have d0 : _ = some _ := Blk.cell G3 0
    have d1 : _ = some _ := Blk.cell G3 1
    have d2 : _ = some _ := Blk.cell G3 2
    have d3 : _ = some _ := Blk.cell G3 3
    have f0 := Blk.frozen G3 0
    have f1 := Blk.frozen G3 1
    have f2' := Blk.frozen G3 2
    have f3 := Blk.frozen G3 3
    (refine wpAnyH_ready (rs := [9]) (by kernel_rfl) (by simp) ?_; refine AllReadyH.cons rfl (fun K hK => ?_) AllReadyH.nil; go_simp)
    have G4 := ((((G3.set_ 0 (sv (hd ++ kb))).set_ 1 (sv [])).set_ 2 (.bool false)).set_ 3 (.int .i64 0))
    have S4 := set4_mod w3 g (sv (hd ++ kb)) (sv []) (.bool false) (.int .i64 0)
    have o4 := o3.mod S4 (fun k hk h => hoy (h ▸ hk))
    have ka4 := run_conv (P := Try.prog) Try.underlying30 Try.underlying5 Try.underlying9 o4.sl
    (try rw [hcat])
    obtain ⟨w4, hw4⟩ : ∃ w4, w4 = (((w3.setCell ⟨g, 0, none⟩ (sv (hd ++ kb))).setCell ⟨g, 1, none⟩ (sv [])).setCell ⟨g, 2, none⟩ (.bool false)).setCell ⟨g, 3, none⟩ (.int .i64 0) := ⟨_, rfl⟩
    rw [← hw4] at G4 S4 ka4
    have r4 := r3.mod S4 (fun h => by omega) (fun k hk hk2 h => by have := hS k hk2; omega)
    have B4 := B3.mod S4 (fun h => by omega)
    have M4 := M3.then_ S4 (fun k hk h => by omega)
    refine hK.out _ _ (by first | exact ka4 | (rw [← hw4]; exact ka4)) (fun hH => ?_)
    clear hK K hH
    try simp only [Act.put, List.setIfInBounds_toArray, List.set_cons_zero, List.set_cons_succ]
    rw [← hw4]
    refine wpAnyH_done (by kernel_rfl) ?_ _
    go_wp2_with fail
    go_meet
    exact ⟨g, _, rfl, r4, G4, B4, M4, hg2, by omega⟩
    -- the bytes first
    have r1d := r1.mod ((Mod.refl (fun _ => False) w1).drew) (fun h => h) (fun _ _ _ h => h)
    refine (hbytes _ _ r1d).mono ?_
    rintro e w2 ⟨v2, y, rfl, r2, o2, f2, m2⟩
    have B2 := (B1.mod ((Mod.refl (fun _ => False) w1).drew) (fun h => h)).mod m2 (fun h => by omega)
    have M2 := (M1.drew).then_ m2 (fun _ _ h => h)
    have ka := run_conv (P := Try.prog) Try.underlying30 Try.underlying5 Try.underlying9 o2.sl
    clear r1 r1d B1 M1 m2 hbytes
    go_wp2_with fail
    refine hK.out _ _ trivial (fun hH => ?_)
    clear hK K hH
    try simp only [Act.put, List.setIfInBounds_toArray, List.set_cons_zero, List.set_cons_succ]
    refine wpAnyH_mono (S' := fun wz => (convert 30 9 y).run Try.prog wz = .ok (sv kb) wz) (fun _ _ => trivial) _ _ _ _ ?_
    (refine wpAnyH_take (i := 5) (v := ?tv8) rfl (by kernel_rfl) (by kernel_rfl) (by kernel_rfl) (fun _ _ _ h => h) (Or.inl ⟨by rfl, ?hy8⟩) (by assumption) ?rs8; case hy8 => (intro wx hSw; (try dsimp only at hSw); go_simp; try with_reducible rfl); try simp only [Act.put, List.setIfInBounds_toArray, List.set_cons_zero, List.set_cons_succ])
    (refine wpAnyH_take (i := 6) (v := ?tv9) rfl (by kernel_rfl) (by kernel_rfl) (by kernel_rfl) (fun _ _ _ h => h) (Or.inl ⟨by rfl, ?hy9⟩) (by assumption) ?rs9; case hy9 => (intro wx hSw; (try dsimp only at hSw); go_simp; try with_reducible rfl); try simp only [Act.put, List.setIfInBounds_toArray, List.set_cons_zero, List.set_cons_succ])
    (refine wpAnyH_take (i := 7) (v := ?tv10) rfl (by kernel_rfl) (by kernel_rfl) (by kernel_rfl) (fun _ _ _ h => h) (Or.inl ⟨by rfl, ?hy10⟩) (by assumption) ?rs10; case hy10 => (intro wx hSw; (try dsimp only at hSw); go_simp; try with_reducible rfl); try simp only [Act.put, List.setIfInBounds_toArray, List.set_cons_zero, List.set_cons_succ])
    (refine wpAnyH_ready (rs := [8]) (by kernel_rfl) (by simp) ?_; refine AllReadyH.cons rfl (fun K hK => ?_) AllReadyH.nil; go_simp)
    have A3 : Ext w2 (w2.alloc (.cells #[sv [], sv [], .bool false, .int .i64 0] 23)) := (Mod.refl _ w2).alloc _
    have G3 : Blk (w2.alloc (.cells #[sv [], sv [], .bool false, .int .i64 0] 23)) w2.heap.size 23 #[sv [], sv [], .bool false, .int .i64 0] := Blk.new w2 _ _
    have ka3 := run_conv (P := Try.prog) Try.underlying30 Try.underlying5 Try.underlying9 (o2.alloc (.cells #[sv [], sv [], .bool false, .int .i64 0] 23)).sl
    refine hK.out _ _ ka3 (fun hH => ?_)
    clear hK K hH
    try simp only [Act.put, List.setIfInBounds_toArray, List.set_cons_zero, List.set_cons_succ]
    obtain ⟨w3, hw3⟩ : ∃ w3, w3 = w2.alloc (.cells #[sv [], sv [], .bool false, .int .i64 0] 23) := ⟨_, rfl⟩
    have o3 : Own w3 5 y (kb.map bv) := by rw [hw3]; exact o2.alloc _
    have hoy : ¬ own y w2.heap.size := fun hh => absurd (o2.lt hh) (Nat.lt_irrefl _)
    rw [← hw3] at A3 G3 ka3 ⊢
    clear hw3
    have r3 := r2.mod A3 (fun h => h) (fun _ _ _ h => h)
    have B3 := B2.mod A3 (fun h => h)
    have M3 := M2.then_ A3 (fun _ _ h => h.elim)
    have hb2 : b < w2.heap.size := r2.blk.lt
    have hg2 : w.heap.size < w2.heap.size := B2.lt
    clear r2 B2 M2 A3 ka o2 f2
    generalize w2.heap.size = g at *
    have d0 : _ = some _ := Blk.cell G3 0
    have d1 : _ = some _ := Blk.cell G3 1
    have d2 : _ = some _ := Blk.cell G3 2
    have d3 : _ = some _ := Blk.cell G3 3
    have f0 := Blk.frozen G3 0
    have f1 := Blk.frozen G3 1
    have f2' := Blk.frozen G3 2
    have f3 := Blk.frozen G3 3
    (refine wpAnyH_ready (rs := [9]) (by kernel_rfl) (by simp) ?_; refine AllReadyH.cons rfl (fun K hK => ?_) AllReadyH.nil; go_simp)
    have G4 := ((((G3.set_ 0 (sv (hd ++ kb))).set_ 1 (sv [])).set_ 2 (.bool false)).set_ 3 (.int .i64 0))
    have S4 := set4_mod w3 g (sv (hd ++ kb)) (sv []) (.bool false) (.int .i64 0)
    have o4 := o3.mod S4 (fun k hk h => hoy (h ▸ hk))
    have ka4 := run_conv (P := Try.prog) Try.underlying30 Try.underlying5 Try.underlying9 o4.sl
    (try rw [hcat])
    obtain ⟨w4, hw4⟩ : ∃ w4, w4 = (((w3.setCell ⟨g, 0, none⟩ (sv (hd ++ kb))).setCell ⟨g, 1, none⟩ (sv [])).setCell ⟨g, 2, none⟩ (.bool false)).setCell ⟨g, 3, none⟩ (.int .i64 0) := ⟨_, rfl⟩
    rw [← hw4] at G4 S4 ka4
    have r4 := r3.mod S4 (fun h => by omega) (fun k hk hk2 h => by have := hS k hk2; omega)
    have B4 := B3.mod S4 (fun h => by omega)
    have M4 := M3.then_ S4 (fun k hk h => by omega)
    refine hK.out _ _ (by first | exact ka4 | (rw [← hw4]; exact ka4)) (fun hH => ?_)
    clear hK K hH
    try simp only [Act.put, List.setIfInBounds_toArray, List.set_cons_zero, List.set_cons_succ]
    rw [← hw4]
    refine wpAnyH_done (by kernel_rfl) ?_ _
    go_wp2_with fail
    go_meet
    exact ⟨g, _, rfl, r4, G4, B4, M4, hg2, by omega⟩
  case rest =>
  obtain ⟨g, v4, rfl, r4, G4, B4, M4, hg2, hgb⟩ := hcut
  clear r1 B1 M1 hbytes
  have hl3 := takeN_len s2
  obtain ⟨qn, s3, hq⟩ : ∃ qn s3, takeN s2 = (qn, s3) := ⟨_, _, rfl⟩
  have hl4 := takeN_len s3
  obtain ⟨dl, s4, hdl⟩ : ∃ dl s4, takeN s3 = (dl, s4) := ⟨_, _, rfl⟩
  have hC3 := hC.out
  have hnums := fun (wx : World) (p : Nat) (T : Nat → Prop) (yy vv : Value) (h : Rd wx b S vv s2) (G : Blk wx g 23 #[sv (hd ++ kb), sv [], .bool false, .int .i64 0]) (D : Blk wx p 3 #[.int .i64 0]) (hy : Sl wx T yy [.pointer (some ⟨g, 3, none⟩), .pointer (some ⟨p, 0, none⟩)]) (h1 : ∀ k, k < wx.heap.size → T k → ¬ (k = b ∨ k = g ∨ k = p)) (h2 : g ≠ b) (h3 : p ≠ b) (h4 : g ≠ p) (h5 : w.heap.size < p) => rdnums_two h G D hy h1 (fun k hk => by have := hS k hk; omega) h2 h3 h4
  rw [hq] at hC3 hl3
  simp only [hq, hdl] at hnums
  dsimp only at hC3 hl3 hnums
  rw [hdl] at hC3 hl4
  dsimp only at hC3 hl4
  clear hq hdl hC
  replace hC := Lib.hid hC3
  clear hC3
  have hg4 : g < wc.heap.size := Blk.lt G4
  go_wp2_with fail
  obtain ⟨p, hp⟩ : ∃ p, p = wc.heap.size := ⟨_, rfl⟩
  obtain ⟨w5, hw5⟩ : ∃ w5, w5 = (wc.alloc (.cells #[.int .i64 0] 3)).alloc (.cells #[.pointer (some ⟨g, 3, none⟩), .pointer (some ⟨p, 0, none⟩)] 109) := ⟨_, rfl⟩
  have x5 : Ext wc w5 := by rw [hw5]; exact ((Mod.refl _ wc).alloc _).alloc _
  have D5 : Blk w5 p 3 #[.int .i64 0] := by rw [hw5, hp]; exact (Blk.new wc _ _).alloc _
  have y5 : Sl w5 (fun k => k = p + 1) (.slice (some ⟨p + 1, 0, none⟩) 2 2) [.pointer (some ⟨g, 3, none⟩), .pointer (some ⟨p, 0, none⟩)] := by
    have := Sl.lit (wc.alloc (.cells #[.int .i64 0] 3)) 109 [.pointer (some ⟨g, 3, none⟩), .pointer (some ⟨p, 0, none⟩)] (by simp [maxLen])
    rw [show (wc.alloc (.cells #[.int .i64 0] 3)).heap.size = p + 1 by rw [hp]; simp] at this
    rw [hw5]; exact this
  have r5 := r4.mod x5 (fun h => h) (fun _ _ _ h => h)
  have B5 := B4.mod x5 (fun h => h)
  have G5 := G4.mod x5 (fun h => h)
  have M5 := M4.then_ x5 (fun _ _ h => h.elim)
  have hgp : g < p := by rw [hp]; exact hg4
  rw [← hp, ← hw5]
  clear hw5 hp r4 B4 G4 M4 x5 hg4
  refine (hnums _ _ _ _ _ r5 G5 D5 y5 (fun k _ hk => by omega) (by omega) (by omega) (by omega) (by omega)).mono ?_
  rintro e w6 ⟨rfl, v6, r6, G6, D6, m6⟩
  have B6 := B5.mod m6 (fun h => by omega)
  have M6 := M5.then_ m6 (fun k hk h => by rcases h with h | h | h; exact h; omega; omega)
  clear hnums r5 B5 G5 M5 m6 D5 y5
  have d7 := D6.c0
  have d2 : _ = some _ := Blk.cell G6 2
  have f2 := Blk.frozen G6 2
  have hstore : ∀ u, Mod (fun k => k = g) w6 (w6.setCell ⟨g, 2, none⟩ (.bool u)) := fun u => (Mod.refl (fun k => k = g) w6).setCell (p := ⟨g, 2, none⟩) (fun _ => rfl) _
  have hw7 : ∀ u, ∃ w7, w7 = w6.setCell ⟨g, 2, none⟩ (.bool u) ∧ Blk w7 g 23 #[sv (hd ++ kb), sv [], .bool u, .int .i64 qn] ∧ Blk w7 p 3 #[.int .i64 dl] ∧ Blk w7 w.heap.size 23 #[sv [], sv [], .bool false, .int .i64 0] ∧ Rd w7 b S v6 s4 ∧ Mod (fun k => k = b) w w7 := fun u =>
    ⟨_, rfl, G6.set_ 2 _, D6.mod (hstore u) (fun h => by omega), B6.mod (hstore u) (fun h => by omega), r6.mod (hstore u) (fun h => by omega) (fun k _ hk h => by have := hS k hk; omega), M6.then_ (hstore u) (fun k hk h => by omega)⟩
  by_cases h1 : dl = 1
  · have hb1 : ((dl : Int) == 1) = true := by rw [h1]; rfl
    have hb2 : decide ((1 : Int) < (dl : Int)) = false := dfalse (by omega)
    have hC2 := Lib.hid (hC.out.trans (if_pos h1))
    obtain ⟨w7, hw7, G7, D7, B7, r7, M7⟩ := hw7 true
    clear hC h1
    have hd7 : _ = some _ := D7.c0
    go_upto_region 9 with fail
    rw [← hw7]
    clear hw7 G6 D6 B6 r6 M6 d2 f2 d7 hstore
    have d0 : _ = some _ := Blk.cell G7 0
    have d1 : _ = some _ := Blk.cell G7 1
    have d2 : _ = some _ := Blk.cell G7 2
    have d3 : _ = some _ := Blk.cell G7 3
    have f0 := Blk.frozen B7 0
    have f1 := Blk.frozen B7 1
    have f2 := Blk.frozen B7 2
    have f3 := Blk.frozen B7 3
    have e0 : _ = some _ := Blk.cell B7 0
    have e1 : _ = some _ := Blk.cell B7 1
    have e2 : _ = some _ := Blk.cell B7 2
    have e3 : _ = some _ := Blk.cell B7 3
    go_wp2_with fail
    have R5 := fun p q r s => (((B7.set_ 0 p).set_ 1 q).set_ 2 r).set_ 3 s
    have m9 := fun p q r s => (set4_mod w7 w.heap.size p q r s)
    refine bodyPost_ret (results_cell_row Try.results68 _ _ _ _ _ _ _ rfl (R5 _ _ _ _) Try.underlying23 rfl (by kernel_rfl)) rfl ?_
    exact ⟨_, by rw [hC2.out]; rfl, by rw [hC2.out]; exact r7.mod (m9 _ _ _ _) (fun h => by omega) (fun k _ hk h => by have := hS k hk; omega), M7.then_ (m9 _ _ _ _) (fun k hk h => by omega)⟩
  have hb1 : ((dl : Int) == 1) = false := by rw [beq_eq_false_iff_ne]; omega
  obtain ⟨w7, hw7, G7, D7, B7, r7, M7⟩ := hw7 false
  have hC3 := hC.out
  rw [if_neg h1] at hC3
  clear hC
  by_cases h2 : 1 < dl
  · have hb2 : decide ((1 : Int) < (dl : Int)) = true := dtrue (by omega)
    rw [if_pos h2] at hC3
    have hC2 := Lib.hid hC3
    clear hC3
    have hd7 : _ = some _ := D7.c0
    go_upto_region 9 with fail
    rw [← hw7]
    clear hw7 G6 D6 B6 r6 M6 d2 f2 d7 hstore
    go_wp2_with fail
    refine (bad_any r7).mono ?_
    rintro e w8 ⟨rfl, r8, m8, -⟩
    have B8 := B7.mod m8 (fun h => by omega)
    have G8 := G7.mod m8 (fun h => by omega)
    have M8 := M7.then_ m8 (fun _ _ h => h)
    clear r7 B7 G7 M7 m8 D7 hd7
    have dd : _ = some _ := Blk.cell G8 2
    have hby := fun (wx : World) (v : Value) (h : Rd wx b S v none) => bytes_any h (by simp)
    rw [takeB_none] at hby
    dsimp only at hby
    obtain ⟨vb, hvb⟩ : ∃ vb : List UInt8, vb = [] := ⟨_, rfl⟩
    rw [← hvb] at hby hC2
    clear hvb
    go_wp2_with fail
    clear dd
    refine (hby _ _ r8).mono ?_
    rintro e w9 ⟨v9, y, rfl, r9, o9, f9, m9⟩
    have B9 := B8.mod m9 (fun h => by omega)
    have G9 := G8.mod m9 (fun h => by omega)
    have M9 := M8.then_ m9 (fun _ _ h => h)
    have kc := run_conv (P := Try.prog) Try.underlying30 Try.underlying5 Try.underlying9 o9.sl
    have dg : _ = some _ := Blk.cell G9 1
    have fg := Blk.frozen G9 1
    clear r8 B8 G8 M8 m9 hby
    have G10 := G9.set_ 1 (sv vb)
    have S10 : Mod (fun k => k = g) w9 (w9.setCell ⟨g, 1, none⟩ (sv vb)) := (Mod.refl (fun k => k = g) w9).setCell (p := ⟨g, 1, none⟩) (fun _ => rfl) _
    have B10 := B9.mod S10 (fun h => by omega)
    have r10 := r9.mod S10 (fun h => by omega) (fun k _ hk h => by have := hS k hk; omega)
    have M10 := M9.then_ S10 (fun k hk h => by omega)
    obtain ⟨w10, hw10⟩ : ∃ w10, w10 = w9.setCell ⟨g, 1, none⟩ (sv vb) := ⟨_, rfl⟩
    rw [← hw10] at G10 S10 B10 r10 M10
    go_upto_region 13 with fail
    rw [← hw10]
    clear hw10 S10 G9 B9 r9 M9 dg fg kc o9 f9
    have d0 : _ = some _ := Blk.cell G10 0
    have d1 : _ = some _ := Blk.cell G10 1
    have d2 : _ = some _ := Blk.cell G10 2
    have d3 : _ = some _ := Blk.cell G10 3
    have f0 := Blk.frozen B10 0
    have f1 := Blk.frozen B10 1
    have f2 := Blk.frozen B10 2
    have f3 := Blk.frozen B10 3
    have e0 : _ = some _ := Blk.cell B10 0
    have e1 : _ = some _ := Blk.cell B10 1
    have e2 : _ = some _ := Blk.cell B10 2
    have e3 : _ = some _ := Blk.cell B10 3
    go_wp2_with fail
    have R5 := fun p q r s => (((B10.set_ 0 p).set_ 1 q).set_ 2 r).set_ 3 s
    have m9 := fun p q r s => (set4_mod w10 w.heap.size p q r s)
    refine bodyPost_ret (results_cell_row Try.results68 _ _ _ _ _ _ _ rfl (R5 _ _ _ _) Try.underlying23 rfl (by kernel_rfl)) rfl ?_
    exact ⟨_, by rw [hC2.out]; rfl, by rw [hC2.out]; exact r10.mod (m9 _ _ _ _) (fun h => by omega) (fun k _ hk h => by have := hS k hk; omega), M10.then_ (m9 _ _ _ _) (fun k hk h => by omega)⟩
  have hb2 : decide ((1 : Int) < (dl : Int)) = false := dfalse (by omega)
  rw [if_neg h2] at hC3
  have hd7 : _ = some _ := D7.c0
  go_upto_region 9 with fail
  rw [← hw7]
  clear hw7 G6 D6 B6 r6 M6 d2 f2 d7 hstore
  have r8 := r7
  have B8 := B7
  have G8 := G7
  have M8 := M7
  clear r7 B7 G7 M7
  have dd : _ = some _ := Blk.cell G8 2
  have hby := fun (wx : World) (v : Value) (h : Rd wx b S v s4) => bytes_any h (by omega)
  obtain ⟨vb, s5, hvb⟩ : ∃ vb s5, takeB s4 = (vb, s5) := ⟨_, _, rfl⟩
  rw [hvb] at hby hC3
  dsimp only at hby hC3
  have hC2 := Lib.hid hC3
  clear hvb hC3
  go_wp2_with fail
  clear dd hd7 D7
  refine (hby _ _ r8).mono ?_
  rintro e w9 ⟨v9, y, rfl, r9, o9, f9, m9⟩
  have B9 := B8.mod m9 (fun h => by omega)
  have G9 := G8.mod m9 (fun h => by omega)
  have M9 := M8.then_ m9 (fun _ _ h => h)
  have kc := run_conv (P := Try.prog) Try.underlying30 Try.underlying5 Try.underlying9 o9.sl
  have dg : _ = some _ := Blk.cell G9 1
  have fg := Blk.frozen G9 1
  clear r8 B8 G8 M8 m9 hby
  have G10 := G9.set_ 1 (sv vb)
  have S10 : Mod (fun k => k = g) w9 (w9.setCell ⟨g, 1, none⟩ (sv vb)) := (Mod.refl (fun k => k = g) w9).setCell (p := ⟨g, 1, none⟩) (fun _ => rfl) _
  have B10 := B9.mod S10 (fun h => by omega)
  have r10 := r9.mod S10 (fun h => by omega) (fun k _ hk h => by have := hS k hk; omega)
  have M10 := M9.then_ S10 (fun k hk h => by omega)
  obtain ⟨w10, hw10⟩ : ∃ w10, w10 = w9.setCell ⟨g, 1, none⟩ (sv vb) := ⟨_, rfl⟩
  rw [← hw10] at G10 S10 B10 r10 M10
  go_upto_region 13 with fail
  rw [← hw10]
  clear hw10 S10 G9 B9 r9 M9 dg fg kc o9 f9
  have d0 : _ = some _ := Blk.cell G10 0
  have d1 : _ = some _ := Blk.cell G10 1
  have d2 : _ = some _ := Blk.cell G10 2
  have d3 : _ = some _ := Blk.cell G10 3
  have f0 := Blk.frozen B10 0
  have f1 := Blk.frozen B10 1
  have f2 := Blk.frozen B10 2
  have f3 := Blk.frozen B10 3
  have e0 : _ = some _ := Blk.cell B10 0
  have e1 : _ = some _ := Blk.cell B10 1
  have e2 : _ = some _ := Blk.cell B10 2
  have e3 : _ = some _ := Blk.cell B10 3
  go_wp2_with fail
  have R5 := fun p q r s => (((B10.set_ 0 p).set_ 1 q).set_ 2 r).set_ 3 s
  have m9 := fun p q r s => (set4_mod w10 w.heap.size p q r s)
  refine bodyPost_ret (results_cell_row Try.results68 _ _ _ _ _ _ _ rfl (R5 _ _ _ _) Try.underlying23 rfl (by kernel_rfl)) rfl ?_
  exact ⟨_, by rw [hC2.out]; rfl, by rw [hC2.out]; exact r10.mod (m9 _ _ _ _) (fun h => by omega) (fun k _ hk h => by have := hS k hk; omega), M10.then_ (m9 _ _ _ _) (fun k hk h => by omega)⟩
end Go.Proofs.Ytlfooppmdgddkaa
