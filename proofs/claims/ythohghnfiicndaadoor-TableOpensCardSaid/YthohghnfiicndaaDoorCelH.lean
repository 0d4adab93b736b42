/- block: two numbers taken at once; bytes.Equal. -/
import Derived.Test.YthohghnfiicndaaDoorCelD
import Derived.Test.YthohghnfiicndaaDoorOctU
import Derived.Test.YthohghnfiicndaaDoorRegA
import Derived.Deep.DeepCutAuto
namespace Go.Proofs.YthohghnfiicndaaDoor
open Go.RowKit
set_option maxRecDepth 100000

set_option maxHeartbeats 4000000 in
theorem equal_any {w : World} {S T : Nat → Prop} {u v : Value} {l m : List UInt8} (h : Bs w S u l) (h' : Bs w T v m) :
    Calls Tryd.prog 45 #[u, v] w fun e w' => e = .returned (.bool (decide (l = m))) ∧ w' = w := by
  have c1 := run_conv (P := Tryd.prog) Tryd.underlying24 Tryd.underlying5 Tryd.underlying9 h
  have c2 := run_conv (P := Tryd.prog) Tryd.underlying24 Tryd.underlying5 Tryd.underlying9 h'
  have hb : (l == m) = decide (l = m) := by rw [Bool.eq_iff_iff, beq_iff_eq, decide_eq_true_eq]
  clear h h'
  go_enter Tryd.func45, Tryd.ntmps45
  go_wp2_with fail
  go_ret
  exact ⟨by rw [← hb]; rfl, rfl⟩

theorem add_one' (ad : Addr) : ad.add 1 = ⟨ad.block, ad.off + 1, none⟩ := by simp [Addr.add]
set_option maxHeartbeats 8000000 in
theorem rdnums_two {w : World} {b gc pd : Nat} {S T : Nat → Prop} {v y : Value} {st : Option (List UInt8)} (hrd : Rd w b S v st) {a0 a1 a2 a3 vd : Value} (hc : Blk w gc 37 #[a0, a1, a2, a3]) (hd : Blk w pd 3 #[vd])
    (hy : Sl w T y [.pointer (some ⟨gc, 3, none⟩), .pointer (some ⟨pd, 0, none⟩)]) (hT : ∀ k, k < w.heap.size → T k → ¬ (k = b ∨ k = gc ∨ k = pd)) (hS : ∀ k, S k → k ≠ gc ∧ k ≠ pd) (hab : gc ≠ b) (hcb : pd ≠ b) (hac : gc ≠ pd) :
    Calls Tryd.prog 90 #[.pointer (some ⟨b, 0, none⟩), y] w fun e w' => e = .returned (.tuple #[]) ∧ ∃ v', Rd w' b S v' (takeN (takeN st).2).2 ∧
      Blk w' gc 37 #[a0, a1, a2, .int .i64 (takeN st).1] ∧ Blk w' pd 3 #[.int .i64 (takeN (takeN st).2).1] ∧ Mod (fun k => k = b ∨ k = gc ∨ k = pd) w w' := by
  obtain ⟨A, c, rfl, h1, h2, h3, h4⟩ := hy
  simp only [List.length_cons, List.length_nil, Nat.zero_add, Nat.reduceAdd]
  go_enter Tryd.func90, Tryd.ntmps90
  go_wp2
  go_loopw [9] (fun i wr => ∃ (k : Nat) (v' ua uc : Value) (s : Option (List UInt8)), k ≤ 2 ∧ i = .int .i64 k ∧ Rd wr b S v' s ∧ Blk wr gc 37 #[a0, a1, a2, ua] ∧ Blk wr pd 3 #[uc] ∧ Mod (fun k => k = b ∨ k = gc ∨ k = pd) w wr ∧
      Hid ((k = 0 → s = st) ∧ (k = 1 → s = (takeN st).2) ∧ (k = 2 → s = (takeN (takeN st).2).2) ∧ (0 < k → ua = .int .i64 (takeN st).1) ∧ (k = 2 → uc = .int .i64 (takeN (takeN st).2).1))) (fun i _ => 2 - (intOf i).toNat)
  case atStart => exact ⟨0, v, a3, vd, st, by omega, rfl, hrd, hc, hd, Mod.refl _ _, ⟨fun _ => rfl, fun h => by omega, fun h => by omega, fun h => by omega, fun h => by omega⟩⟩
  case round =>
    obtain ⟨k, v', ua, uc, s, hk, rfl, hr, hba, hbc, hm, hf⟩ := hrel
    by_cases hlt : k < 2
    · have hone : ∀ {w2 : World} {v2 : Value}, Rd w2 b S v2 (takeN s).2 → Mod (fun k => k = b) wr w2 → Blk w2 gc 37 #[a0, a1, a2, ua] ∧ Blk w2 pd 3 #[uc] ∧ Mod (fun k => k = b ∨ k = gc ∨ k = pd) w w2 := fun _ g2 =>
        ⟨hba.mod g2 hab, hbc.mod g2 hcb, hm.then_ g2 (fun _ _ h => .inl h)⟩
      rcases (show k = 0 ∨ k = 1 by omega) with rfl | rfl
      · obtain ⟨ad, rfl, hs, hcell⟩ := (h4.mod hm hT) 0 _ rfl
        have hc0 : wr.cell? ad = some (.pointer (some ⟨gc, 3, none⟩)) := hcell
        have hs0 := hf.out.1 rfl
        subst hs0
        clear hcell
        go_wp2_with fail
        refine (num_any hr).mono ?_; rintro e w2 ⟨v2, rfl, g1, g2, g3⟩
        obtain ⟨q1, q2, q3⟩ := hone g1 g2
        have hca : _ = some _ := Blk.cell q1 3
        have hfa := q1.frozen 3
        go_wp2_with fail
        have hset : ∀ u, Mod (fun k => k = gc) w2 (w2.setCell ⟨gc, 3, none⟩ u) := fun u => (Mod.refl (fun k => k = gc) w2).setCell (fun _ => rfl) u
        exact ⟨⟨1, v2, _, uc, (takeN s).2, by omega, rfl, g1.mod (hset _) (fun h => hab h.symm) (fun k _ hk e => (hS k hk).1 e), q1.set_ 3 _, q2.far (p := ⟨gc, 3, none⟩) (fun e => hac e.symm) _, q3.then_ (hset _) (fun _ _ h => .inr (.inl h)),
          ⟨fun h => by omega, fun _ => rfl, fun h => by omega, fun _ => rfl, fun h => by omega⟩⟩, by simp [intOf]⟩
      · obtain ⟨ad, rfl, hs, hcell⟩ := (h4.mod hm hT) 1 _ rfl
        rw [add_one' ad] at hcell
        have hs0 := hf.out.2.1 rfl
        have ha0 := hf.out.2.2.2.1 (by omega)
        subst hs0
        subst ha0
        go_wp2_with fail
        refine (num_any hr).mono ?_; rintro e w2 ⟨v2, rfl, g1, g2, g3⟩
        obtain ⟨q1, q2, q3⟩ := hone g1 g2
        have hcc := q2.c0
        have hfc := q2.frozen 0
        go_wp2_with fail
        have hset : ∀ u, Mod (fun k => k = pd) w2 (w2.setCell ⟨pd, 0, none⟩ u) := fun u => (Mod.refl (fun k => k = pd) w2).setCell (fun _ => rfl) u
        exact ⟨⟨2, v2, _, _, _, by omega, rfl, g1.mod (hset _) (fun h => hcb h.symm) (fun k _ hk e => (hS k hk).2 e), q1.far (p := ⟨pd, 0, none⟩) hac _, q2.set_ 0 _, q3.then_ (hset _) (fun _ _ h => .inr (.inr h)),
          ⟨fun h => by omega, fun h => by omega, fun _ => rfl, fun _ => rfl, fun _ => rfl⟩⟩, by simp [intOf]⟩
    · obtain rfl : k = 2 := by omega
      have hs0 := hf.out.2.2.1 rfl
      have ha0 := hf.out.2.2.2.1 (by omega)
      have hc0 := hf.out.2.2.2.2 rfl
      subst hs0
      subst ha0
      subst hc0
      go_wp2_with fail
      go_end0
      exact ⟨rfl, ⟨v', hr⟩, hba, hbc, hm⟩
end Go.Proofs.YthohghnfiicndaaDoor
namespace Go.Proofs.YthohghnfiicndaaDoor
open Go.RowKit
set_option maxRecDepth 100000

/-- The next cell, the key ahead being known, and what is left. -/
def takeC (ahead : List UInt8) (st : Option (List UInt8)) : Ce × Option (List UInt8) :=
  if ahead.length < (takeN st).1 then (⟨[], [], false, 0⟩, none)
  else if (takeN (takeN (takeB (takeN st).2).2).2).1 = 1 then (⟨ahead.take (takeN st).1 ++ (takeB (takeN st).2).1, [], true, ((takeN (takeB (takeN st).2).2).1 : Nat)⟩, (takeN (takeN (takeB (takeN st).2).2).2).2)
  else if 1 < (takeN (takeN (takeB (takeN st).2).2).2).1 then (⟨ahead.take (takeN st).1 ++ (takeB (takeN st).2).1, [], false, ((takeN (takeB (takeN st).2).2).1 : Nat)⟩, none)
  else (⟨ahead.take (takeN st).1 ++ (takeB (takeN st).2).1, (takeB (takeN (takeN (takeB (takeN st).2).2).2).2).1, false, ((takeN (takeB (takeN st).2).2).1 : Nat)⟩, (takeB (takeN (takeN (takeB (takeN st).2).2).2).2).2)
theorem ext_head (l : List UInt8) (n : Nat) : Value.string ((⟨l.toArray⟩ : ByteArray).extract 0 n) = sv (l.take n) := by
  congr 1
  apply ByteArray.ext
  simp [ByteArray.data_extract]
theorem cat_data (a b : List UInt8) : ((⟨a.toArray⟩ : ByteArray) ++ ⟨b.toArray⟩) = ⟨(a ++ b).toArray⟩ := by
  apply ByteArray.ext
  rw [ByteArray.data_append]
  simp
theorem ext_mod {F : Nat → Prop} {a b : World} (h : Ext a b) : Mod F a b := h.mono (fun _ _ h => h.elim)
theorem set4_mod (w : World) (g : Nat) (a b c d : Value) : Mod (fun k => k = g) w ((((w.setCell ⟨g, 0, none⟩ a).setCell ⟨g, 1, none⟩ b).setCell ⟨g, 2, none⟩ c).setCell ⟨g, 3, none⟩ d) :=
  ((((Mod.refl (fun k => k = g) w).setCell (p := ⟨g, 0, none⟩) (fun _ => rfl) a).setCell (p := ⟨g, 1, none⟩) (fun _ => rfl) b).setCell (p := ⟨g, 2, none⟩) (fun _ => rfl) c).setCell (p := ⟨g, 3, none⟩) (fun _ => rfl) d
theorem takeB_none : takeB none = ([], none) := by decide

set_option maxHeartbeats 16000000 in
theorem take_any {w : World} {b : Nat} {S : Nat → Prop} {v : Value} {st : Option (List UInt8)} {ahead : List UInt8} (hrd : Rd w b S v st) (hS : ∀ k, S k → k < w.heap.size) (hl : (st.getD []).length ≤ 1000000) (ha : ahead.length ≤ 1000000) :
    Calls Tryd.prog 88 #[.pointer (some ⟨b, 0, none⟩), sv ahead] w fun e w' => ∃ v', e = .returned (.agg (car (takeC ahead st).1)) ∧ Rd w' b S v' (takeC ahead st).2 ∧ Mod (fun k => k = b) w w' := by
  have hza := sv_size ahead
  have hbw : b < w.heap.size := hrd.blk.lt
  obtain ⟨C, hC⟩ : ∃ C, C = takeC ahead st := ⟨_, rfl⟩
  rw [← hC]
  unfold takeC at hC
  have hl1 := takeN_len st
  obtain ⟨n, s1, hn⟩ : ∃ n s1, takeN st = (n, s1) := ⟨_, _, rfl⟩
  rw [hn] at hC hl1
  dsimp only at hC hl1
  replace hC := Lib.hid hC
  have hnum := fun (wx : World) (v : Value) (h : Rd wx b S v st) => num_any h
  rw [hn] at hnum
  dsimp only at hnum
  clear hn
  have B0 : Blk (w.alloc (.cells #[sv [], sv [], .bool false, .int .i64 0] 37)) w.heap.size 37 #[sv [], sv [], .bool false, .int .i64 0] := Blk.new w _ _
  have x0 : Ext w (w.alloc (.cells #[sv [], sv [], .bool false, .int .i64 0] 37)) := (Mod.refl _ w).alloc _
  have r0 := hrd.mod x0 (fun h => h) (fun _ _ _ h => h)
  go_enter Tryd.func88, Tryd.ntmps88
  go_wp2_with fail
  refine (hnum _ _ r0).mono ?_
  rintro e w1 ⟨v1, rfl, r1, m1, -⟩
  have B1 := B0.mod m1 (fun h => by omega)
  have M1 : Mod (fun k => k = b) w w1 := (ext_mod x0).then_ m1 (fun _ _ h => h)
  clear r0 B0 x0 m1 hnum
  by_cases hgt : ahead.length < n
  · have hb : decide ((ahead.length : Int) < (n : Int)) = true := dtrue (by omega)
    have hC2 := Lib.hid (hC.out.trans (if_pos hgt))
    go_wp2_with fail
    refine (bad_any r1).mono ?_
    rintro e w2 ⟨rfl, r2, m2, -⟩
    have B2 := B1.mod m2 (fun h => by omega)
    have M2 := M1.then_ m2 (fun _ _ h => h)
    have f0 := Blk.frozen B2 0
    have f1 := Blk.frozen B2 1
    have f2 := Blk.frozen B2 2
    have f3 := Blk.frozen B2 3
    have d0 : _ = some _ := Blk.cell B2 0
    have d1 : _ = some _ := Blk.cell B2 1
    have d2 : _ = some _ := Blk.cell B2 2
    have d3 : _ = some _ := Blk.cell B2 3
    go_wp2_with fail
    have R5 := fun p q r s => (((B2.set_ 0 p).set_ 1 q).set_ 2 r).set_ 3 s
    have m9 := fun p q r s => (set4_mod w2 w.heap.size p q r s)
    refine bodyPost_ret (results_cell_row Tryd.results88 _ _ _ _ _ _ _ rfl (R5 _ _ _ _) Tryd.underlying37 rfl (by kernel_rfl)) rfl ?_
    exact ⟨_, by rw [hC2.out]; rfl, by rw [hC2.out]; exact r2.mod (m9 _ _ _ _) (fun h => by omega) (fun k _ hk h => by have := hS k hk; omega), M2.then_ (m9 _ _ _ _) (fun k hk h => by omega)⟩
  have hb : decide ((ahead.length : Int) < (n : Int)) = false := dfalse (by omega)
  have hC2 := hC.out
  rw [if_neg hgt] at hC2
  have hn1 : (n : Int) ≤ (ahead.length : Int) := by omega
  clear hC hgt
  have hl2 := takeB_len s1
  obtain ⟨kb, s2, hkb⟩ : ∃ kb s2, takeB s1 = (kb, s2) := ⟨_, _, rfl⟩
  have hbytes := fun (wx : World) (v : Value) (h : Rd wx b S v s1) => bytes_any h (by omega)
  rw [hkb] at hC2 hl2 hbytes
  dsimp only at hC2 hl2 hbytes
  clear hkb
  replace hC := Lib.hid hC2
  clear hC2
  have hxt := ext_head ahead n
  have htl : (ahead.take n).length ≤ 1000000 := by rw [List.length_take]; omega
  have hn0 : (0 : Int) ≤ (n : Int) := by omega
  generalize ahead.take n = hd at *
  have hzh := sv_size hd
  have hzk := sv_size kb
  have hcc : ¬ 9223372036854775807 < hd.length + kb.length := by omega
  have hcat := cat_data hd kb
  go_upto_region 5 with fail
  go_cut [6] (fun s6 wx => ∃ (g : Nat) (vv : Value), s6 = .pointer (some ⟨g, 0, none⟩) ∧ Rd wx b S vv s2 ∧ Blk wx g 37 #[sv (hd ++ kb), sv [], .bool false, .int .i64 0] ∧ Blk wx w.heap.size 37 #[sv [], sv [], .bool false, .int .i64 0] ∧ Mod (fun k => k = b) w wx ∧ w.heap.size < g ∧ g ≠ b)
  case first =>
    refine wp_region_held_drew (S := fun _ => True) (by kernel_rfl) trivial (fun hH => ?_)
    clear hH
    have hT : (fun _ : World => True) w1.drew := trivial
    (refine wpAnyH_take (i := 0) (v := ?tv1) rfl (by kernel_rfl) (by kernel_rfl) (by kernel_rfl) (fun _ _ _ h => h) (Or.inl ⟨by rfl, ?hy1⟩) (by assumption) ?rs1; case hy1 => (intro wx hSw; (try dsimp only at hSw); go_simp; try with_reducible rfl); try simp only [Act.put, List.setIfInBounds_toArray, List.set_cons_zero, List.set_cons_succ])
    (refine wpAnyH_take (i := 1) (v := ?tv2) rfl (by kernel_rfl) (by kernel_rfl) (by kernel_rfl) (fun _ _ _ h => h) (Or.inl ⟨by rfl, ?hy2⟩) (by assumption) ?rs2; case hy2 => (intro wx hSw; (try dsimp only at hSw); go_simp; try with_reducible rfl); try simp only [Act.put, List.setIfInBounds_toArray, List.set_cons_zero, List.set_cons_succ])
    (refine wpAnyH_take (i := 2) (v := ?tv3) rfl (by kernel_rfl) (by kernel_rfl) (by kernel_rfl) (fun _ _ _ h => h) (Or.inl ⟨by rfl, ?hy3⟩) (by assumption) ?rs3; case hy3 => (intro wx hSw; (try dsimp only at hSw); go_simp; try with_reducible rfl); try simp only [Act.put, List.setIfInBounds_toArray, List.set_cons_zero, List.set_cons_succ])
    (refine wpAnyH_take (i := 3) (v := ?tv4) rfl (by kernel_rfl) (by kernel_rfl) (by kernel_rfl) (fun _ _ _ h => h) (Or.inl ⟨by rfl, ?hy4⟩) (by assumption) ?rs4; case hy4 => (intro wx hSw; (try dsimp only at hSw); go_simp; try with_reducible rfl); try simp only [Act.put, List.setIfInBounds_toArray, List.set_cons_zero, List.set_cons_succ])
    (refine wpAnyH_ready (rs := [4, 8]) (by kernel_rfl) (by simp) ?_; refine AllReadyH.cons rfl (fun K hK => ?_) (AllReadyH.cons rfl (fun K hK => ?_) AllReadyH.nil))
    all_goals go_simp
    rotate_left
    -- the room first
    have x1 : Ext w1 (w1.alloc (.cells #[sv [], sv [], .bool false, .int .i64 0] 37)).drew := ((Mod.refl _ w1).alloc _).drew
    obtain ⟨g, hg⟩ : ∃ g, g = w1.heap.size := ⟨_, rfl⟩
    have G1 : Blk (w1.alloc (.cells #[sv [], sv [], .bool false, .int .i64 0] 37)).drew g 37 #[sv [], sv [], .bool false, .int .i64 0] := by rw [hg]; exact Blk.new w1 _ _
    have r1a := r1.mod x1 (fun h => h) (fun _ _ _ h => h)
    have B1a := B1.mod x1 (fun h => h)
    have M1a := M1.then_ x1 (fun _ _ h => h.elim)
    have hb2 : b < g := by rw [hg]; exact r1.blk.lt
    have hg2 : w.heap.size < g := by rw [hg]; exact B1.lt
    refine hK.out _ _ trivial (fun hH => ?_)
    clear hK K hH
    try simp only [Act.put, List.setIfInBounds_toArray, List.set_cons_zero, List.set_cons_succ]
    rw [← hg]
    clear hg
    generalize (w1.alloc (.cells #[sv [], sv [], .bool false, .int .i64 0] 37)).drew = w1a at *
    have hlt1 := Lib.hid (Blk.lt G1)
    (refine wpAnyH_ready (rs := [4]) (by kernel_rfl) (by simp) ?_; refine AllReadyH.cons rfl (fun K hK => ?_) AllReadyH.nil; go_simp)
    refine (hbytes _ _ r1a).mono ?_
    rintro e w3 ⟨v2, y, rfl, r3, o3, f2, m2⟩
    have B3 := B1a.mod m2 (fun h => by omega)
    have G3 := G1.mod m2 (fun h => by omega)
    have M3 := M1a.then_ m2 (fun _ _ h => h)
    have hoy : ¬ own y g := fun hh => by have := f2 g hh; have := hlt1.out; omega
    have ka := run_conv (P := Tryd.prog) Tryd.underlying24 Tryd.underlying5 Tryd.underlying9 o3.sl
    clear r1 B1 M1 m2 hbytes r1a B1a M1a G1 x1 f2 hlt1
    go_wp2_with fail
    refine hK.out _ _ trivial (fun hH => ?_)
    clear hK K hH
    try simp only [Act.put, List.setIfInBounds_toArray, List.set_cons_zero, List.set_cons_succ]
    refine wpAnyH_mono (S' := fun wz => (convert 24 9 y).run Tryd.prog wz = .ok (sv kb) wz) (fun _ _ => trivial) _ _ _ _ ?_
    (refine wpAnyH_take (i := 5) (v := ?tv5) rfl (by kernel_rfl) (by kernel_rfl) (by kernel_rfl) (fun _ _ _ h => h) (Or.inl ⟨by rfl, ?hy5⟩) (by assumption) ?rs5; case hy5 => (intro wx hSw; (try dsimp only at hSw); go_simp; try with_reducible rfl); try simp only [Act.put, List.setIfInBounds_toArray, List.set_cons_zero, List.set_cons_succ])
    (refine wpAnyH_take (i := 6) (v := ?tv6) rfl (by kernel_rfl) (by kernel_rfl) (by kernel_rfl) (fun _ _ _ h => h) (Or.inl ⟨by rfl, ?hy6⟩) (by assumption) ?rs6; case hy6 => (intro wx hSw; (try dsimp only at hSw); go_simp; try with_reducible rfl); try simp only [Act.put, List.setIfInBounds_toArray, List.set_cons_zero, List.set_cons_succ])
    (refine wpAnyH_take (i := 7) (v := ?tv7) rfl (by kernel_rfl) (by kernel_rfl) (by kernel_rfl) (fun _ _ _ h => h) (Or.inl ⟨by rfl, ?hy7⟩) (by assumption) ?rs7; case hy7 => (intro wx hSw; (try dsimp only at hSw); go_simp; try with_reducible rfl); try simp only [Act.put, List.setIfInBounds_toArray, List.set_cons_zero, List.set_cons_succ])
    have d0 : _ = some _ := Blk.cell G3 0
    have d1 : _ = some _ := Blk.cell G3 1
    have d2 : _ = some _ := Blk.cell G3 2
    have d3 : _ = some _ := Blk.cell G3 3
    have f0 := Blk.frozen G3 0
    have f1 := Blk.frozen G3 1
    have f2' := Blk.frozen G3 2
    have f3 := Blk.frozen G3 3
    (refine wpAnyH_ready (rs := [9]) (by kernel_rfl) (by simp) ?_; refine AllReadyH.cons rfl (fun K hK => ?_) AllReadyH.nil; go_simp)
    have G4 := ((((G3.set_ 0 (sv (hd ++ kb))).set_ 1 (sv [])).set_ 2 (.bool false)).set_ 3 (.int .i64 0))
    have S4 := set4_mod w3 g (sv (hd ++ kb)) (sv []) (.bool false) (.int .i64 0)
    have o4 := o3.mod S4 (fun k hk h => hoy (h ▸ hk))
    have ka4 := run_conv (P := Tryd.prog) Tryd.underlying24 Tryd.underlying5 Tryd.underlying9 o4.sl
    (try rw [hcat])
    obtain ⟨w4, hw4⟩ : ∃ w4, w4 = (((w3.setCell ⟨g, 0, none⟩ (sv (hd ++ kb))).setCell ⟨g, 1, none⟩ (sv [])).setCell ⟨g, 2, none⟩ (.bool false)).setCell ⟨g, 3, none⟩ (.int .i64 0) := ⟨_, rfl⟩
    rw [← hw4] at G4 S4 ka4
    have r4 := r3.mod S4 (fun h => by omega) (fun k hk hk2 h => by have := hS k hk2; omega)
    have B4 := B3.mod S4 (fun h => by omega)
    have M4 := M3.then_ S4 (fun k hk h => by omega)
    refine hK.out _ _ (by first | exact ka4 | (rw [← hw4]; exact ka4)) (fun hH => ?_)
    clear hK K hH
    try simp only [Act.put, List.setIfInBounds_toArray, List.set_cons_zero, List.set_cons_succ]
    rw [← hw4]
    refine wpAnyH_done (by kernel_rfl) ?_ _
    go_wp2_with fail
    go_meet
    exact ⟨g, _, rfl, r4, G4, B4, M4, hg2, by omega⟩
    -- the bytes first
    have r1d := r1.mod ((Mod.refl (fun _ => False) w1).drew) (fun h => h) (fun _ _ _ h => h)
    refine (hbytes _ _ r1d).mono ?_
    rintro e w2 ⟨v2, y, rfl, r2, o2, f2, m2⟩
    have B2 := (B1.mod ((Mod.refl (fun _ => False) w1).drew) (fun h => h)).mod m2 (fun h => by omega)
    have M2 := (M1.drew).then_ m2 (fun _ _ h => h)
    have ka := run_conv (P := Tryd.prog) Tryd.underlying24 Tryd.underlying5 Tryd.underlying9 o2.sl
    clear r1 r1d B1 M1 m2 hbytes
    go_wp2_with fail
    refine hK.out _ _ trivial (fun hH => ?_)
    clear hK K hH
    try simp only [Act.put, List.setIfInBounds_toArray, List.set_cons_zero, List.set_cons_succ]
    refine wpAnyH_mono (S' := fun wz => (convert 24 9 y).run Tryd.prog wz = .ok (sv kb) wz) (fun _ _ => trivial) _ _ _ _ ?_
    (refine wpAnyH_take (i := 5) (v := ?tv8) rfl (by kernel_rfl) (by kernel_rfl) (by kernel_rfl) (fun _ _ _ h => h) (Or.inl ⟨by rfl, ?hy8⟩) (by assumption) ?rs8; case hy8 => (intro wx hSw; (try dsimp only at hSw); go_simp; try with_reducible rfl); try simp only [Act.put, List.setIfInBounds_toArray, List.set_cons_zero, List.set_cons_succ])
    (refine wpAnyH_take (i := 6) (v := ?tv9) rfl (by kernel_rfl) (by kernel_rfl) (by kernel_rfl) (fun _ _ _ h => h) (Or.inl ⟨by rfl, ?hy9⟩) (by assumption) ?rs9; case hy9 => (intro wx hSw; (try dsimp only at hSw); go_simp; try with_reducible rfl); try simp only [Act.put, List.setIfInBounds_toArray, List.set_cons_zero, List.set_cons_succ])
    (refine wpAnyH_take (i := 7) (v := ?tv10) rfl (by kernel_rfl) (by kernel_rfl) (by kernel_rfl) (fun _ _ _ h => h) (Or.inl ⟨by rfl, ?hy10⟩) (by assumption) ?rs10; case hy10 => (intro wx hSw; (try dsimp only at hSw); go_simp; try with_reducible rfl); try simp only [Act.put, List.setIfInBounds_toArray, List.set_cons_zero, List.set_cons_succ])
    (refine wpAnyH_ready (rs := [8]) (by kernel_rfl) (by simp) ?_; refine AllReadyH.cons rfl (fun K hK => ?_) AllReadyH.nil; go_simp)
    have A3 : Ext w2 (w2.alloc (.cells #[sv [], sv [], .bool false, .int .i64 0] 37)) := (Mod.refl _ w2).alloc _
    have G3 : Blk (w2.alloc (.cells #[sv [], sv [], .bool false, .int .i64 0] 37)) w2.heap.size 37 #[sv [], sv [], .bool false, .int .i64 0] := Blk.new w2 _ _
    have ka3 := run_conv (P := Tryd.prog) Tryd.underlying24 Tryd.underlying5 Tryd.underlying9 (o2.alloc (.cells #[sv [], sv [], .bool false, .int .i64 0] 37)).sl
    refine hK.out _ _ ka3 (fun hH => ?_)
    clear hK K hH
    try simp only [Act.put, List.setIfInBounds_toArray, List.set_cons_zero, List.set_cons_succ]
    obtain ⟨w3, hw3⟩ : ∃ w3, w3 = w2.alloc (.cells #[sv [], sv [], .bool false, .int .i64 0] 37) := ⟨_, rfl⟩
    have o3 : Own w3 5 y (kb.map bv) := by rw [hw3]; exact o2.alloc _
    have hoy : ¬ own y w2.heap.size := fun hh => absurd (o2.lt hh) (Nat.lt_irrefl _)
    rw [← hw3] at A3 G3 ka3 ⊢
    clear hw3
    have r3 := r2.mod A3 (fun h => h) (fun _ _ _ h => h)
    have B3 := B2.mod A3 (fun h => h)
    have M3 := M2.then_ A3 (fun _ _ h => h.elim)
    have hb2 : b < w2.heap.size := r2.blk.lt
    have hg2 : w.heap.size < w2.heap.size := B2.lt
    clear r2 B2 M2 A3 ka o2 f2
    generalize w2.heap.size = g at *
    have d0 : _ = some _ := Blk.cell G3 0
    have d1 : _ = some _ := Blk.cell G3 1
    have d2 : _ = some _ := Blk.cell G3 2
    have d3 : _ = some _ := Blk.cell G3 3
    have f0 := Blk.frozen G3 0
    have f1 := Blk.frozen G3 1
    have f2' := Blk.frozen G3 2
    have f3 := Blk.frozen G3 3
    (refine wpAnyH_ready (rs := [9]) (by kernel_rfl) (by simp) ?_; refine AllReadyH.cons rfl (fun K hK => ?_) AllReadyH.nil; go_simp)
    have G4 := ((((G3.set_ 0 (sv (hd ++ kb))).set_ 1 (sv [])).set_ 2 (.bool false)).set_ 3 (.int .i64 0))
    have S4 := set4_mod w3 g (sv (hd ++ kb)) (sv []) (.bool false) (.int .i64 0)
    have o4 := o3.mod S4 (fun k hk h => hoy (h ▸ hk))
    have ka4 := run_conv (P := Tryd.prog) Tryd.underlying24 Tryd.underlying5 Tryd.underlying9 o4.sl
    (try rw [hcat])
    obtain ⟨w4, hw4⟩ : ∃ w4, w4 = (((w3.setCell ⟨g, 0, none⟩ (sv (hd ++ kb))).setCell ⟨g, 1, none⟩ (sv [])).setCell ⟨g, 2, none⟩ (.bool false)).setCell ⟨g, 3, none⟩ (.int .i64 0) := ⟨_, rfl⟩
    rw [← hw4] at G4 S4 ka4
    have r4 := r3.mod S4 (fun h => by omega) (fun k hk hk2 h => by have := hS k hk2; omega)
    have B4 := B3.mod S4 (fun h => by omega)
    have M4 := M3.then_ S4 (fun k hk h => by omega)
    refine hK.out _ _ (by first | exact ka4 | (rw [← hw4]; exact ka4)) (fun hH => ?_)
    clear hK K hH
    try simp only [Act.put, List.setIfInBounds_toArray, List.set_cons_zero, List.set_cons_succ]
    rw [← hw4]
    refine wpAnyH_done (by kernel_rfl) ?_ _
    go_wp2_with fail
    go_meet
    exact ⟨g, _, rfl, r4, G4, B4, M4, hg2, by omega⟩
  case rest =>
  obtain ⟨g, v4, rfl, r4, G4, B4, M4, hg2, hgb⟩ := hcut
  clear r1 B1 M1 hbytes
  have hl3 := takeN_len s2
  obtain ⟨qn, s3, hq⟩ : ∃ qn s3, takeN s2 = (qn, s3) := ⟨_, _, rfl⟩
  have hl4 := takeN_len s3
  obtain ⟨dl, s4, hdl⟩ : ∃ dl s4, takeN s3 = (dl, s4) := ⟨_, _, rfl⟩
  have hC3 := hC.out
  have hnums := fun (wx : World) (p : Nat) (T : Nat → Prop) (yy vv : Value) (h : Rd wx b S vv s2) (G : Blk wx g 37 #[sv (hd ++ kb), sv [], .bool false, .int .i64 0]) (D : Blk wx p 3 #[.int .i64 0]) (hy : Sl wx T yy [.pointer (some ⟨g, 3, none⟩), .pointer (some ⟨p, 0, none⟩)]) (h1 : ∀ k, k < wx.heap.size → T k → ¬ (k = b ∨ k = g ∨ k = p)) (h2 : g ≠ b) (h3 : p ≠ b) (h4 : g ≠ p) (h5 : w.heap.size < p) => rdnums_two h G D hy h1 (fun k hk => by have := hS k hk; omega) h2 h3 h4
  rw [hq] at hC3 hl3
  simp only [hq, hdl] at hnums
  dsimp only at hC3 hl3 hnums
  rw [hdl] at hC3 hl4
  dsimp only at hC3 hl4
  clear hq hdl hC
  replace hC := Lib.hid hC3
  clear hC3
  have hg4 : g < wc.heap.size := Blk.lt G4
  go_wp2_with fail
  obtain ⟨p, hp⟩ : ∃ p, p = wc.heap.size := ⟨_, rfl⟩
  obtain ⟨w5, hw5⟩ : ∃ w5, w5 = (wc.alloc (.cells #[.int .i64 0] 3)).alloc (.cells #[.pointer (some ⟨g, 3, none⟩), .pointer (some ⟨p, 0, none⟩)] 119) := ⟨_, rfl⟩
  have x5 : Ext wc w5 := by rw [hw5]; exact ((Mod.refl _ wc).alloc _).alloc _
  have D5 : Blk w5 p 3 #[.int .i64 0] := by rw [hw5, hp]; exact (Blk.new wc _ _).alloc _
  have y5 : Sl w5 (fun k => k = p + 1) (.slice (some ⟨p + 1, 0, none⟩) 2 2) [.pointer (some ⟨g, 3, none⟩), .pointer (some ⟨p, 0, none⟩)] := by
    have := Sl.lit (wc.alloc (.cells #[.int .i64 0] 3)) 119 [.pointer (some ⟨g, 3, none⟩), .pointer (some ⟨p, 0, none⟩)] (by simp [maxLen])
    rw [show (wc.alloc (.cells #[.int .i64 0] 3)).heap.size = p + 1 by rw [hp]; simp] at this
    rw [hw5]; exact this
  have r5 := r4.mod x5 (fun h => h) (fun _ _ _ h => h)
  have B5 := B4.mod x5 (fun h => h)
  have G5 := G4.mod x5 (fun h => h)
  have M5 := M4.then_ x5 (fun _ _ h => h.elim)
  have hgp : g < p := by rw [hp]; exact hg4
  rw [← hp, ← hw5]
  clear hw5 hp r4 B4 G4 M4 x5 hg4
  refine (hnums _ _ _ _ _ r5 G5 D5 y5 (fun k _ hk => by omega) (by omega) (by omega) (by omega) (by omega)).mono ?_
  rintro e w6 ⟨rfl, v6, r6, G6, D6, m6⟩
  have B6 := B5.mod m6 (fun h => by omega)
  have M6 := M5.then_ m6 (fun k hk h => by rcases h with h | h | h; exact h; omega; omega)
  clear hnums r5 B5 G5 M5 m6 D5 y5
  have d7 := D6.c0
  have d2 : _ = some _ := Blk.cell G6 2
  have f2 := Blk.frozen G6 2
  have hstore : ∀ u, Mod (fun k => k = g) w6 (w6.setCell ⟨g, 2, none⟩ (.bool u)) := fun u => (Mod.refl (fun k => k = g) w6).setCell (p := ⟨g, 2, none⟩) (fun _ => rfl) _
  have hw7 : ∀ u, ∃ w7, w7 = w6.setCell ⟨g, 2, none⟩ (.bool u) ∧ Blk w7 g 37 #[sv (hd ++ kb), sv [], .bool u, .int .i64 qn] ∧ Blk w7 p 3 #[.int .i64 dl] ∧ Blk w7 w.heap.size 37 #[sv [], sv [], .bool false, .int .i64 0] ∧ Rd w7 b S v6 s4 ∧ Mod (fun k => k = b) w w7 := fun u =>
    ⟨_, rfl, G6.set_ 2 _, D6.mod (hstore u) (fun h => by omega), B6.mod (hstore u) (fun h => by omega), r6.mod (hstore u) (fun h => by omega) (fun k _ hk h => by have := hS k hk; omega), M6.then_ (hstore u) (fun k hk h => by omega)⟩
  by_cases h1 : dl = 1
  · have hb1 : ((dl : Int) == 1) = true := by rw [h1]; rfl
    have hb2 : decide ((1 : Int) < (dl : Int)) = false := dfalse (by omega)
    have hC2 := Lib.hid (hC.out.trans (if_pos h1))
    obtain ⟨w7, hw7, G7, D7, B7, r7, M7⟩ := hw7 true
    clear hC h1
    have hd7 : _ = some _ := D7.c0
    go_upto_region 9 with fail
    rw [← hw7]
    clear hw7 G6 D6 B6 r6 M6 d2 f2 d7 hstore
    have d0 : _ = some _ := Blk.cell G7 0
    have d1 : _ = some _ := Blk.cell G7 1
    have d2 : _ = some _ := Blk.cell G7 2
    have d3 : _ = some _ := Blk.cell G7 3
    have f0 := Blk.frozen B7 0
    have f1 := Blk.frozen B7 1
    have f2 := Blk.frozen B7 2
    have f3 := Blk.frozen B7 3
    have e0 : _ = some _ := Blk.cell B7 0
    have e1 : _ = some _ := Blk.cell B7 1
    have e2 : _ = some _ := Blk.cell B7 2
    have e3 : _ = some _ := Blk.cell B7 3
    go_wp2_with fail
    have R5 := fun p q r s => (((B7.set_ 0 p).set_ 1 q).set_ 2 r).set_ 3 s
    have m9 := fun p q r s => (set4_mod w7 w.heap.size p q r s)
    refine bodyPost_ret (results_cell_row Tryd.results88 _ _ _ _ _ _ _ rfl (R5 _ _ _ _) Tryd.underlying37 rfl (by kernel_rfl)) rfl ?_
    exact ⟨_, by rw [hC2.out]; rfl, by rw [hC2.out]; exact r7.mod (m9 _ _ _ _) (fun h => by omega) (fun k _ hk h => by have := hS k hk; omega), M7.then_ (m9 _ _ _ _) (fun k hk h => by omega)⟩
  have hb1 : ((dl : Int) == 1) = false := by rw [beq_eq_false_iff_ne]; omega
  obtain ⟨w7, hw7, G7, D7, B7, r7, M7⟩ := hw7 false
  have hC3 := hC.out
  rw [if_neg h1] at hC3
  clear hC
  by_cases h2 : 1 < dl
  · have hb2 : decide ((1 : Int) < (dl : Int)) = true := dtrue (by omega)
    rw [if_pos h2] at hC3
    have hC2 := Lib.hid hC3
    clear hC3
    have hd7 : _ = some _ := D7.c0
    go_upto_region 9 with fail
    rw [← hw7]
    clear hw7 G6 D6 B6 r6 M6 d2 f2 d7 hstore
    go_wp2_with fail
    refine (bad_any r7).mono ?_
    rintro e w8 ⟨rfl, r8, m8, -⟩
    have B8 := B7.mod m8 (fun h => by omega)
    have G8 := G7.mod m8 (fun h => by omega)
    have M8 := M7.then_ m8 (fun _ _ h => h)
    clear r7 B7 G7 M7 m8 D7 hd7
    have dd : _ = some _ := Blk.cell G8 2
    have hby := fun (wx : World) (v : Value) (h : Rd wx b S v none) => bytes_any h (by simp)
    rw [takeB_none] at hby
    dsimp only at hby
    obtain ⟨vb, hvb⟩ : ∃ vb : List UInt8, vb = [] := ⟨_, rfl⟩
    rw [← hvb] at hby hC2
    clear hvb
    go_wp2_with fail
    clear dd
    refine (hby _ _ r8).mono ?_
    rintro e w9 ⟨v9, y, rfl, r9, o9, f9, m9⟩
    have B9 := B8.mod m9 (fun h => by omega)
    have G9 := G8.mod m9 (fun h => by omega)
    have M9 := M8.then_ m9 (fun _ _ h => h)
    have kc := run_conv (P := Tryd.prog) Tryd.underlying24 Tryd.underlying5 Tryd.underlying9 o9.sl
    have dg : _ = some _ := Blk.cell G9 1
    have fg := Blk.frozen G9 1
    clear r8 B8 G8 M8 m9 hby
    have G10 := G9.set_ 1 (sv vb)
    have S10 : Mod (fun k => k = g) w9 (w9.setCell ⟨g, 1, none⟩ (sv vb)) := (Mod.refl (fun k => k = g) w9).setCell (p := ⟨g, 1, none⟩) (fun _ => rfl) _
    have B10 := B9.mod S10 (fun h => by omega)
    have r10 := r9.mod S10 (fun h => by omega) (fun k _ hk h => by have := hS k hk; omega)
    have M10 := M9.then_ S10 (fun k hk h => by omega)
    obtain ⟨w10, hw10⟩ : ∃ w10, w10 = w9.setCell ⟨g, 1, none⟩ (sv vb) := ⟨_, rfl⟩
    rw [← hw10] at G10 S10 B10 r10 M10
    go_upto_region 13 with fail
    rw [← hw10]
    clear hw10 S10 G9 B9 r9 M9 dg fg kc o9 f9
    have d0 : _ = some _ := Blk.cell G10 0
    have d1 : _ = some _ := Blk.cell G10 1
    have d2 : _ = some _ := Blk.cell G10 2
    have d3 : _ = some _ := Blk.cell G10 3
    have f0 := Blk.frozen B10 0
    have f1 := Blk.frozen B10 1
    have f2 := Blk.frozen B10 2
    have f3 := Blk.frozen B10 3
    have e0 : _ = some _ := Blk.cell B10 0
    have e1 : _ = some _ := Blk.cell B10 1
    have e2 : _ = some _ := Blk.cell B10 2
    have e3 : _ = some _ := Blk.cell B10 3
    go_wp2_with fail
    have R5 := fun p q r s => (((B10.set_ 0 p).set_ 1 q).set_ 2 r).set_ 3 s
    have m9 := fun p q r s => (set4_mod w10 w.heap.size p q r s)
    refine bodyPost_ret (results_cell_row Tryd.results88 _ _ _ _ _ _ _ rfl (R5 _ _ _ _) Tryd.underlying37 rfl (by kernel_rfl)) rfl ?_
    exact ⟨_, by rw [hC2.out]; rfl, by rw [hC2.out]; exact r10.mod (m9 _ _ _ _) (fun h => by omega) (fun k _ hk h => by have := hS k hk; omega), M10.then_ (m9 _ _ _ _) (fun k hk h => by omega)⟩
  have hb2 : decide ((1 : Int) < (dl : Int)) = false := dfalse (by omega)
  rw [if_neg h2] at hC3
  have hd7 : _ = some _ := D7.c0
  go_upto_region 9 with fail
  rw [← hw7]
  clear hw7 G6 D6 B6 r6 M6 d2 f2 d7 hstore
  have r8 := r7
  have B8 := B7
  have G8 := G7
  have M8 := M7
  clear r7 B7 G7 M7
  have dd : _ = some _ := Blk.cell G8 2
  have hby := fun (wx : World) (v : Value) (h : Rd wx b S v s4) => bytes_any h (by omega)
  obtain ⟨vb, s5, hvb⟩ : ∃ vb s5, takeB s4 = (vb, s5) := ⟨_, _, rfl⟩
  rw [hvb] at hby hC3
  dsimp only at hby hC3
  have hC2 := Lib.hid hC3
  clear hvb hC3
  go_wp2_with fail
  clear dd hd7 D7
  refine (hby _ _ r8).mono ?_
  rintro e w9 ⟨v9, y, rfl, r9, o9, f9, m9⟩
  have B9 := B8.mod m9 (fun h => by omega)
  have G9 := G8.mod m9 (fun h => by omega)
  have M9 := M8.then_ m9 (fun _ _ h => h)
  have kc := run_conv (P := Tryd.prog) Tryd.underlying24 Tryd.underlying5 Tryd.underlying9 o9.sl
  have dg : _ = some _ := Blk.cell G9 1
  have fg := Blk.frozen G9 1
  clear r8 B8 G8 M8 m9 hby
  have G10 := G9.set_ 1 (sv vb)
  have S10 : Mod (fun k => k = g) w9 (w9.setCell ⟨g, 1, none⟩ (sv vb)) := (Mod.refl (fun k => k = g) w9).setCell (p := ⟨g, 1, none⟩) (fun _ => rfl) _
  have B10 := B9.mod S10 (fun h => by omega)
  have r10 := r9.mod S10 (fun h => by omega) (fun k _ hk h => by have := hS k hk; omega)
  have M10 := M9.then_ S10 (fun k hk h => by omega)
  obtain ⟨w10, hw10⟩ : ∃ w10, w10 = w9.setCell ⟨g, 1, none⟩ (sv vb) := ⟨_, rfl⟩
  rw [← hw10] at G10 S10 B10 r10 M10
  go_upto_region 13 with fail
  rw [← hw10]
  clear hw10 S10 G9 B9 r9 M9 dg fg kc o9 f9
  have d0 : _ = some _ := Blk.cell G10 0
  have d1 : _ = some _ := Blk.cell G10 1
  have d2 : _ = some _ := Blk.cell G10 2
  have d3 : _ = some _ := Blk.cell G10 3
  have f0 := Blk.frozen B10 0
  have f1 := Blk.frozen B10 1
  have f2 := Blk.frozen B10 2
  have f3 := Blk.frozen B10 3
  have e0 : _ = some _ := Blk.cell B10 0
  have e1 : _ = some _ := Blk.cell B10 1
  have e2 : _ = some _ := Blk.cell B10 2
  have e3 : _ = some _ := Blk.cell B10 3
  go_wp2_with fail
  have R5 := fun p q r s => (((B10.set_ 0 p).set_ 1 q).set_ 2 r).set_ 3 s
  have m9 := fun p q r s => (set4_mod w10 w.heap.size p q r s)
  refine bodyPost_ret (results_cell_row Tryd.results88 _ _ _ _ _ _ _ rfl (R5 _ _ _ _) Tryd.underlying37 rfl (by kernel_rfl)) rfl ?_
  exact ⟨_, by rw [hC2.out]; rfl, by rw [hC2.out]; exact r10.mod (m9 _ _ _ _) (fun h => by omega) (fun k _ hk h => by have := hS k hk; omega), M10.then_ (m9 _ _ _ _) (fun k hk h => by omega)⟩
end Go.Proofs.YthohghnfiicndaaDoor
namespace Go.Proofs.YthohghnfiicndaaDoor
open Go.RowKit
set_option maxRecDepth 100000

def decF : Nat → List UInt8 → List UInt8 → List Ce → Option (List Ce)
  | 0, _, _, _ => none
  | f + 1, ahead, l, acc => if l = [] then some acc else match takeC ahead (some l) with
    | (c, some l') => if isC c then decF f c.key l' (acc ++ [c]) else none
    | (_, none) => none
def outD (b : List UInt8) : Option (List Ce) → List Ce × Nat
  | none => ([], 3)
  | some L => if riseN L = 0 ∧ encB L = b then (L, 0) else ([], 3)
/-- Bytes as cells, or the error. -/
def decB (b : List UInt8) : List Ce × Nat := outD b (decF (b.length + 1) [] b [])

theorem takeN_lt {l t : List UInt8} {n : Nat} (h : takeN (some l) = (n, some t)) : t.length < l.length := by
  unfold takeN takeNum at h
  dsimp only at h
  cases hx : numF 9 0 0 l with
  | none => rw [hx] at h; cases h
  | some p =>
    obtain ⟨m, t'⟩ := p
    rw [hx] at h
    cases h
    exact (numF_lt 9 0 0 l t n hx).1
theorem takeN_no : takeN none = (0, none) := rfl
theorem takeC_lt {a l l' : List UInt8} {c : Ce} (h : takeC a (some l) = (c, some l')) : l'.length < l.length := by
  have key : ∀ s : Option (List UInt8), (takeN (some l)).2 = s → (∃ l1, s = some l1 ∧ l1.length < l.length) ∨ s = none := by
    intro s hs
    cases s with
    | none => exact .inr rfl
    | some l1 => exact .inl ⟨l1, rfl, takeN_lt (n := (takeN (some l)).1) (by rw [← hs])⟩
  unfold takeC at h
  have k1 := key _ rfl
  generalize (takeN (some l)).2 = s1 at *
  have e1 := (takeB_len s1).1
  have e2 := takeN_len (takeB s1).2
  have e3 := takeN_len (takeN (takeB s1).2).2
  have e4 := (takeB_len (takeN (takeN (takeB s1).2).2).2).1
  rcases k1 with ⟨l1, rfl, hl⟩ | rfl
  · have e0 : ((some l1).getD []).length = l1.length := rfl
    split at h
    · cases h
    · split at h
      · injection h with _ h
        rw [h] at e3
        have : ((some l').getD []).length = l'.length := rfl
        omega
      · split at h
        · cases h
        · injection h with _ h
          rw [h] at e4
          have : ((some l').getD []).length = l'.length := rfl
          omega
  · exfalso
    rw [takeB_none] at h
    simp only [takeN_no, takeB_none] at h
    split at h
    · cases h
    · split at h
      · cases h
      · split at h
        · cases h
        · cases h
theorem wC_le {L : List Ce} (h : ∀ c ∈ L, isC c) : wC L ≤ 20481 * L.length := by
  induction L with
  | nil => simp [wC]
  | cons a L ih =>
    have := ih (fun c hc => h c (List.mem_cons_of_mem _ hc))
    have ha := h a (List.mem_cons_self ..)
    have := ha.2.1
    have := ha.2.2.1
    rw [wC_cons, List.length_cons]; omega

def rlen (w : World) (b : Nat) : Nat := match w.cell? ⟨b, 0, none⟩ with
  | some (.slice _ n _) => n
  | _ => 0
theorem Rd.rlen {w : World} {b : Nat} {S : Nat → Prop} {v : Value} {st : Option (List UInt8)} (h : Rd w b S v st) : rlen w b = (st.getD []).length := by
  obtain ⟨A, c, hv, _⟩ := h.row.open_
  unfold Proofs.YthohghnfiicndaaDoor.rlen
  rw [h.blk.c1.1, hv]

set_option maxHeartbeats 16000000 in
theorem decode_any {w : World} {T : Nat → Prop} {y : Value} {bs : List UInt8} (hy : Bs w T y bs) (hlen : bs.length ≤ 40000) :
    Calls Tryd.prog 76 #[y] w fun e w' => ∃ v', e = .returned (.tuple #[v', .int .i64 (decB bs).2]) ∧ OwnC w' v' (decB bs).1 ∧ Fresh w.heap.size v' ∧ Ext w w' := by
  obtain ⟨V, hV⟩ : ∃ V, V = decF (bs.length + 1) [] bs [] := ⟨_, rfl⟩
  obtain ⟨R, hR⟩ : ∃ R, R = decB bs := ⟨_, rfl⟩
  rw [← hR]
  have hRV : R = outD bs V := by rw [hR, hV]; rfl
  clear hR
  replace hRV := Lib.hid hRV
  replace hV := Lib.hid hV
  go_enter Tryd.func76, Tryd.ntmps76
  go_wp2_with fail
  refine (newreader_any hy (by omega)).mono ?_
  rintro e w1 ⟨b, vr, rfl, r1, hb1, hb2, x1⟩
  go_wp2_with fail
  go_loopw [5, 6] (fun v t wr => ∃ (l ahead : List UInt8) (acc : List Ce) (f : Nat) (vr : Value), t = sv ahead ∧ ahead.length ≤ 4096 ∧ acc.length + l.length ≤ bs.length ∧ Rd wr b (fun k => k = w.heap.size) vr (some l) ∧ Hid (l.length < f ∧ decF f ahead l acc = V ∧ ∀ c ∈ acc, isC c) ∧ OwnC wr v acc ∧ Fresh (b + 1) v ∧ b < wr.heap.size ∧ Ext w wr) (fun _ _ wr => rlen wr b)
  case atStart => exact ⟨bs, [], [], bs.length + 1, vr, rfl, by simp, by simp, r1, Lib.hid ⟨by omega, hV.out.symm, fun c hc => by cases hc⟩, OwnR.nil _ _ _ _, fresh_nil _ _ _, hb2, x1⟩
  case round =>
    clear r1 x1 hb2 hV
    obtain ⟨l, ahead, acc, f, vr2, rfl, hah, hal, r2, hf, p2, q2, hbw, x2⟩ := hrel
    have hat := r2.rlen
    obtain ⟨f, rfl⟩ : ∃ f', f = f' + 1 := ⟨f - 1, by have := hf.out.1; omega⟩
    have hsl : ((some l).getD []).length = l.length := rfl
    replace hsl := Lib.hid hsl
    by_cases hl0 : l = []
    case neg =>
      have hlp : 0 < l.length := List.length_pos_iff.2 hl0
      have hb0 : decide (0 < l.length) = true := dtrue hlp
      have hstep := hf.out.2.1
      rw [decF, if_neg hl0] at hstep
      have hok := hf.out.2.2
      have hfl := hf.out.1
      clear hf hl0
      go_wp2_with fail
      refine (left_any r2).mono ?_
      rintro e w3 ⟨rfl, hw3⟩
      rw [hw3, hsl.out]
      clear hw3 w3
      go_wp2_with fail
      refine (take_any r2 (fun k hk => by omega) (by rw [hsl.out]; omega) (by omega)).mono ?_
      rintro e w3 ⟨v3, rfl, r3, m3⟩
      have p3 := p2.mod m3 (fun k hk h => by have := q2 k hk; omega)
      have x3 : Ext w w3 := x2.trans m3 (fun _ _ h => h) (fun k hk h => by omega)
      have hb3 : b < w3.heap.size := r3.blk.lt
      clear r2 p2 m3 x2 hbw
      have hlt := fun c l' => takeC_lt (a := ahead) (l := l) (c := c) (l' := l')
      obtain ⟨c, s, hcs⟩ : ∃ c s, takeC ahead (some l) = (c, s) := ⟨_, _, rfl⟩
      rw [hcs] at hstep r3 hlt ⊢
      dsimp only at r3 hstep
      clear hcs
      have A4 : Ext w3 (w3.alloc (.cells (car c) 37)) := (Mod.refl _ w3).alloc _
      have G4 : Blk (w3.alloc (.cells (car c) 37)) w3.heap.size 37 (car c) := Blk.new w3 _ _
      have r4 := r3.mod A4 (fun h => h) (fun _ _ _ h => h)
      have p4 := p3.ext A4
      have x4 := ext_trans x3 A4
      have hg4 : b < w3.heap.size := hb3
      obtain ⟨w4, hw4⟩ : ∃ w4, w4 = w3.alloc (.cells (car c) 37) := ⟨_, rfl⟩
      rw [← hw4] at G4 r4 p4 x4
      have hg3 : w3.heap.size < w4.heap.size := Blk.lt G4
      have hgo1 : ¬ own u5 w3.heap.size := fun hh => absurd (p3.lt hh) (Nat.lt_irrefl _)
      clear A4 r3 p3 x3 hb3
      replace hw4 := Lib.hid hw4
      dsimp only
      go_upto_region 6 with fail
      rw [← hw4.out]
      have hgo0 : Hid (¬ own u5 w3.heap.size) := Lib.hid hgo1
      clear hgo1
      generalize w3.heap.size = g at *
      have d0 : _ = some _ := Blk.cell G4 0
      have d1 : _ = some _ := Blk.cell G4 1
      have d2 : _ = some _ := Blk.cell G4 2
      have d3 : _ = some _ := Blk.cell G4 3
      cases s with
      | none =>
        have hV0 : Hid (V = none) := Lib.hid hstep.symm
        have hR0 : Hid (R = ([], 3)) := Lib.hid (by rw [hRV.out, hV0.out]; rfl)
        clear hstep hlt
        go_wp2_with fail
        refine (good_any r4).mono ?_
        rintro e w5 ⟨rfl, hw5⟩
        rw [hw5]
        clear hw5 w5
        dsimp only [Option.isSome]
        go_wp2_with fail
        go_ret2
        exact ⟨_, by rw [hR0.out]; rfl, by rw [hR0.out]; exact OwnR.nil _ _ _ _, fresh_nil _ _ _, x4⟩
      | some l' =>
        have hll := Lib.hid (hlt c l' rfl)
        dsimp only at hstep
        clear hlt
        replace hok := Lib.hid hok
        go_wp2_with fail
        refine (good_any r4).mono ?_
        rintro e w5 ⟨rfl, hw5⟩
        rw [hw5]
        clear hw5 w5
        dsimp only [Option.isSome]
        by_cases hc : isC c
        case neg =>
          rw [if_neg hc] at hstep
          have hR0 : Hid (R = ([], 3)) := Lib.hid (by rw [hRV.out, ← hstep]; rfl)
          clear hstep
          go_wp2_with fail
          refine (is_any c).mono ?_
          rintro e w5 ⟨rfl, x5⟩
          rw [dfalse hc]
          go_wp2_with fail
          go_ret2
          exact ⟨_, by rw [hR0.out]; rfl, by rw [hR0.out]; exact OwnR.nil _ _ _ _, fresh_nil _ _ _, ext_trans x4 x5⟩
        rw [if_pos hc] at hstep
        replace hstep := Lib.hid hstep
        have hkl : c.key.length ≤ 4096 := hc.2.1
        go_wp2_with fail
        refine (is_any c).mono ?_
        rintro e w5 ⟨rfl, x5⟩
        rw [dtrue hc]
        have hok2 : Hid (∀ x ∈ acc ++ [c], isC x) := Lib.hid (fun x hx => by
          rcases List.mem_append.1 hx with hx | hx
          · exact hok.out x hx
          · rw [List.mem_singleton.1 hx]; exact hc)
        have r5 := r4.mod x5 (fun h => h) (fun _ _ _ h => h)
        have p5 := p4.ext x5
        have G5 := G4.mod x5 (fun h => h)
        have x5' := ext_trans x4 x5
        have hz5 := x5.size
        clear r4 p4 G4 x4 x5 d0 d1 d2 d3 hok hc
        have d0 : _ = some _ := Blk.cell G5 0
        have d1 : _ = some _ := Blk.cell G5 1
        have d2 : _ = some _ := Blk.cell G5 2
        have d3 : _ = some _ := Blk.cell G5 3
        have hn1 := Lib.hid (show (acc.length + 1) * 48 ≤ 140737488355328 by omega)
        have hz5' := Lib.hid hz5
        clear hz5
        have hgo := hgo0.out
        clear hgo0
        obtain ⟨A, cc, rfl⟩ := p5.shape
        go_wp2_with ((with_reducible show wpList _ _ _ (⟨some 29, _, _, _, _, _⟩ :: _) _ _); refine wp_appR tyC cel_len p5 rfl (cel_ok c) hn1.out rfl (.tmp 26) (.tmp 28) rfl rfl rfl ?_; intro v6 w6 k1 k2 k3; have G6 := G5.mod k2 (fun h => hgo h); have e0 : w6.cell? ⟨g, 0, none⟩ = some (sv c.key) := Blk.cell G6 0)
        have q6 : Fresh (b + 1) v6 := k3.fresh q2 (by have := x5'.size; have := hz5'.out; omega)
        have hnb : ∀ k, k ≤ b → ¬ own (.slice A acc.length cc) k := fun k hk hh => by have := q2 k hh; omega
        have r6 := r5.mod k2 (hnb b (Nat.le_refl _)) (fun k _ hk => hnb k (by omega))
        have x6 : Ext w w6 := x5'.trans k2 (fun _ _ h => h) (fun k hk hh => hnb k (by omega) hh)
        have hb6 : b < w6.heap.size := r6.blk.lt
        refine ⟨⟨l', c.key, acc ++ [c], f, v3, rfl, hkl, by have := hll.out; rw [List.length_append, List.length_singleton]; omega, r6, Lib.hid ⟨by have := hll.out; omega, hstep.out, hok2.out⟩, k1, q6, hb6, x6⟩, ?_⟩
        rw [r6.rlen, hat]
        exact hll.out
    subst hl0
    have hb0 : decide (0 < ([] : List UInt8).length) = false := dfalse (by simp)
    have hV0 : V = some acc := by
      rw [← hf.out.2.1, decF, if_pos rfl]
    have hok := hf.out.2.2
    have hwc : wC acc ≤ 1000000000 := by
      have := wC_le hok
      simp only [List.length_nil] at hal
      omega
    have hR0 := hRV.out
    rw [hV0] at hR0
    replace hR0 := Lib.hid (show R = if riseN acc = 0 ∧ encB acc = bs then (acc, 0) else ([], 3) from hR0)
    clear hRV hV0 hf hok hat
    go_wp2_with fail
    refine (left_any r2).mono ?_
    rintro e w3 ⟨rfl, hw3⟩
    rw [hw3, hsl.out]
    clear hw3 w3
    go_wp2_with fail
    refine (encode_any p2.rc hwc).mono ?_
    rintro e w3 ⟨v3, rfl, o3, f3, x3⟩
    have p3 := p2.ext x3
    have r3 := r2.mod x3 (fun h => h) (fun _ _ _ h => h)
    replace x3 := ext_trans x2 x3
    have hy3 := hy.ext x3
    clear p2 r2 x2
    have hen : encR acc = if riseN acc = 0 then encB acc else [] := rfl
    obtain ⟨n, hn⟩ : ∃ n, n = riseN acc := ⟨_, rfl⟩
    rw [hen, ← hn] at o3
    rw [← hn] at hR0 ⊢
    clear hen
    replace hn := Lib.hid hn
    by_cases h0 : n = 0
    case neg =>
      have hb1 : ((n : Int) != 0) = true := by rw [bne_iff_ne]; omega
      have hR1 := Lib.hid (hR0.out.trans (if_neg (fun h => h0 h.1)))
      clear h0
      go_wp2_with fail
      refine (good_any r3).mono ?_
      rintro e w4 ⟨rfl, hw4⟩
      rw [hw4]
      clear hw4 w4
      dsimp only [Option.isSome]
      go_wp2_with fail
      go_ret2
      exact ⟨_, by rw [hR1.out]; rfl, by rw [hR1.out]; exact OwnR.nil _ _ _ _, fresh_nil _ _ _, x3⟩
    have hb1 : ((n : Int) != 0) = false := by rw [h0]; rfl
    rw [if_pos h0] at o3
    have heq := equal_any o3.sl hy3
    go_wp2_with fail
    refine (good_any r3).mono ?_
    rintro e w4 ⟨rfl, hw4⟩
    rw [hw4]
    clear hw4 w4
    dsimp only [Option.isSome]
    by_cases hbe : encB acc = bs
    · have hR1 := Lib.hid (hR0.out.trans (if_pos ⟨h0, hbe⟩))
      rw [dtrue hbe] at heq
      clear h0 hbe hR0
      go_wp2_with fail
      refine heq.mono ?_
      rintro e w4 ⟨rfl, hw4⟩
      rw [hw4]
      clear hw4 w4
      go_wp2_with fail
      go_ret2
      exact ⟨_, by rw [hR1.out]; rfl, by rw [hR1.out]; exact p3, q2.mono (by omega), x3⟩
    · have hR1 := Lib.hid (hR0.out.trans (if_neg (fun h => hbe h.2)))
      rw [dfalse hbe] at heq
      clear h0 hbe hR0
      go_wp2_with fail
      refine heq.mono ?_
      rintro e w4 ⟨rfl, hw4⟩
      rw [hw4]
      clear hw4 w4
      go_wp2_with fail
      go_ret2
      exact ⟨_, by rw [hR1.out]; rfl, by rw [hR1.out]; exact OwnR.nil _ _ _ _, fresh_nil _ _ _, x3⟩
end Go.Proofs.YthohghnfiicndaaDoor
namespace Go.Proofs.YthohghnfiicndaaDoor
open Go.RowKit
set_option maxRecDepth 100000

theorem results_cell_row3 {P : Program} {fn : Func} {p u v : Tmp} {ty : TypeId} (h : fn.results = #[.cell p ty, .tmp u, .tmp v]) (tmps : Array Value) (w : World) (g : Nat) (t : TypeId) (cs : Array Value) (fr : Nat × Nat) (d : TypeDesc)
    (hp : tmps.getD p undef = .pointer (some ⟨g, 0, none⟩)) (hg : w.heap[g]? = some (.cells cs t fr))
    (hu : P.underlying ty = some d) (hd : (match d with | .struct _ | .array _ _ => true | _ => false) = true) (hi : (P.info? ty).map (·.size) = some cs.size) :
    (results fn tmps).run P w = .ok (.tuple #[.agg cs, tmps.getD u undef, tmps.getD v undef]) w := by
  have hp' : tmps[p]?.getD undef = .pointer (some ⟨g, 0, none⟩) := by simpa using hp
  simp [results, h, hp', asAddr, Sem.run_bind, Result.andThen, run_loadVar_row w g t ty cs fr d hg hu hd hi]

abbrev cz : Ce := ⟨[], [], false, 0⟩
/-- The first cell with a key, whose number is not above another one. -/
def firstC (L : List Ce) (key : List UInt8) (seq : Int) : Option Ce := L.find? fun c => c.key == key && decide (c.seq ≤ seq)
theorem firstC_take {L : List Ce} {n : Nat} {key : List UInt8} {seq : Int} {c : Ce} (h : firstC (L.take n) key seq = some c) : firstC L key seq = some c := by
  have : firstC (L.take n ++ L.drop n) key seq = some c := by
    unfold firstC at h ⊢
    rw [List.find?_append, h]
    rfl
  rwa [List.take_append_drop] at this
def outS : Option Ce → Ce × Bool
  | some c => (c, true)
  | none => (cz, false)
/-- A key's newest cell, as bytes have it. -/
def seekB (bs key : List UInt8) (seq : Int) : (Ce × Bool) × Nat := if (decB bs).2 = 0 then (outS (firstC (decB bs).1 key seq), 0) else ((cz, false), (decB bs).2)

def kCells : List Ce := [⟨[97, 98], [120], false, 1⟩, ⟨[97, 99], [], true, 2⟩]
theorem known_rise : riseN kCells = 0 := by decide +kernel
theorem known_bytes : encR kCells = [0, 2, 97, 98, 1, 0, 1, 120, 1, 1, 99, 2, 1] := by decide +kernel
theorem known_seek : seekB [0, 2, 97, 98, 1, 0, 1, 120, 1, 1, 99, 2, 1] [97, 99] 5 = ((⟨[97, 99], [], true, 2⟩, true), 0) := by decide +kernel

end Go.Proofs.YthohghnfiicndaaDoor
